/-
  The document's own Put in memory.
-/
import Derived.Test.YtmbaedldikobcaaKPutR
import Derived.Test.YtmbaedldikobcaaKNumP
import Derived.Maps.AppendAt
namespace Go.Proofs.Ytmbaedldikobcaa
open Go.RowKit
set_option linter.unusedVariables false

theorem news2 (w : World) (u1 u2 : Value) (t : TypeId) : ∀ j u, [u1, u2][j]? = some u → (w.alloc (.cells #[u1, u2] t)).cell? ((⟨w.heap.size, 0, none⟩ : Addr).add j) = some u := by
  intro j u hj
  have hc : (w.alloc (.cells #[u1, u2] t)).heap[w.heap.size]? = some (Obj.cells #[u1, u2] t) := heap_alloc_new w _
  rw [addr_add, Nat.zero_add]
  exact cellB hc (by simpa using hj)
theorem Row.at2 {w : World} {size n : Nat} {v : Value} {cs : List Value} (h : Row w size v n cs) : ∃ a c, v = .slice a n c ∧ (0 < n → ∃ b off, a = some ⟨b, off, none⟩ ∧ ∀ j u, cs[j]? = some u → w.cell? ⟨b, off + j, none⟩ = some u) := by
  rcases h.2 with ⟨rfl, rfl⟩ | ⟨b, off, cap, rfl, _, _, _, h6⟩
  · exact ⟨_, _, rfl, fun h => by omega⟩
  · exact ⟨_, _, rfl, fun _ => ⟨b, off, rfl, h6⟩⟩

set_option maxRecDepth 100000 in
set_option maxHeartbeats 6400000 in
theorem rput_any {w : World} {v : Value} {l : List Ent} (k : ByteArray) (x : Int) (h : Row w 2 v l.length (ents l)) (hl : l.length ≤ 1000) :
    Calls Try.prog 19 #[v, .string k, .int .i64 x] w fun e w' => ∃ u, e = .returned u ∧ w'.ownsRow w.heap.size 48 2 u (rput l k x).length (ents (rput l k x)) ∧ Below w.heap.size w w' := by
  obtain ⟨i0, hi0, hz0, hz1, hz2⟩ := info_parts rowE
  obtain ⟨aa, ca, rfl, xa⟩ := h.at2
  have XA := Lib.hid xa
  clear h xa
  go_enter Try.func19, Try.ntmps19
  go_wp2_with fail
  go_loopw [9, 7, 8] (fun i o d wr => ∃ n : Nat, i = .int .i64 (n : Int) ∧ n ≤ l.length ∧ wr.ownsRow w.heap.size 48 2 o (pst (l.take n) k x).1.length (ents (pst (l.take n) k x).1) ∧ d = .bool (pst (l.take n) k x).2 ∧ Below w.heap.size w wr) (fun i _ _ _ => l.length - (intOf i).toNat)
  case atStart => exact ⟨0, rfl, Nat.zero_le _, World.ownsRow_nil _ _ _ 2, rfl, Below.refl _ _⟩
  case round =>
    obtain ⟨n, rfl, hn, ho, rfl, hb⟩ := hrel
    obtain ⟨au, cu, rfl⟩ := (row_of_own ho).shape
    have hlen := pst_len l k x n
    by_cases hlt : n < l.length
    · obtain ⟨b1, o1, rfl, q1⟩ := XA.out (by omega)
      have q2 := ents_at l n hlt
      have d1 := q1 _ _ q2.1
      have d2 := q1 _ _ q2.2
      rw [show o1 + (n * 2 + 1) = o1 + n * 2 + 1 by omega] at d2
      have c1 := bcellAt hb d1
      have c2 := bcellAt hb d2
      have HST := Lib.hid (pst_snoc l k x n hlt)
      clear q1 q2 XA
      generalize hy : l[n] = y at *
      obtain ⟨yk, yv⟩ := y
      simp only at c1 c2 d1 d2
      have D1 := Lib.hid d1
      have D2 := Lib.hid d2
      clear hy d1 d2
      generalize hst : pst (l.take n) k x = st at *
      obtain ⟨oo, dd⟩ := st
      simp only at ho hlen
      clear hst
      have HO := Lib.hid ho
      have HBB := Lib.hid hb
      have hn0 : (0 : Int) ≤ (n : Int) := by omega
      have hn1 : (n : Int) < (l.length : Int) := by omega
      clear ho hb
      cases dd
      · cases hA : KOrd.lt yk k
        · cases hC : KOrd.lt k yk
          · have HA := Lib.hid hA
            have HC := Lib.hid hC
            have he : yk = k := KOrd.tri hA hC
            have h1 : Op.bytesLess yk.toList k.toList = false := hA
            clear hA hC
            have h2 : (yk.toList == k.toList) = true := by rw [he]; simp
            clear he
            go_wp2_with (first
              | (at_builtin; refine wpList_append_own _ rfl _ _ 33 rfl w.heap.size 48 i0 (.agg #[.string ⟨#[]⟩, .int .i64 0]) 2 24 Try.underlying33 hi0 hz0 hz1 hz2 rfl (by decide) _ _ _ rfl (HO.out.alloc _) ⟨wr.heap.size, 0, none⟩ 1 1 [.string k, .int .i64 x] rfl rfl (news2 _ _ _ _) (by simp [Value.oneCell']) (by unfold maxLen; omega) (by omega) (by have := HBB.out.size; simp; omega) ?_
                 intro uX wX hownX hgX _
                 obtain ⟨saX, scX, rfl⟩ := (row_of_own hownX).shape
                 have hX9 : Below w.heap.size w wX := (HBB.out.trans (((Below.refl wr.heap.size wr).alloc (Nat.le_refl _) (.cells #[.string k, .int .i64 x] 48)).mono HBB.out.size)).trans (grown_below hgX (by have := HBB.out.size; simp; omega) (fun k e => (own_type HO.out e).1))
                 have OX := Lib.hid hownX
                 have BX := Lib.hid hX9
                 have c1X := bcellAt hX9 D1.out
                 have c2X := bcellAt hX9 D2.out
                 clear hownX hgX hX9))
            go_roundw
            case rel => exact ⟨n + 1, by go_num, by omega, by rw [HST.out]; simpa [pst1, HA.out, HC.out, ents_append, ents] using OX.out, by rw [HST.out]; simp [pst1, HA.out, HC.out], BX.out⟩
            case measure => simp [intOf]; omega
          · have HA := Lib.hid hA
            have HC := Lib.hid hC
            have hne : yk ≠ k := fun e => by rw [e, KOrd.irr] at hC; cases hC
            have h1 : Op.bytesLess yk.toList k.toList = false := hA
            have h2 := ne_bytes hne
            clear hA hC hne
            go_wp2_with (first
              | (at_builtin; refine wpList_append_own _ rfl _ _ 33 rfl w.heap.size 48 i0 (.agg #[.string ⟨#[]⟩, .int .i64 0]) 2 24 Try.underlying33 hi0 hz0 hz1 hz2 rfl (by decide) _ _ _ rfl (HO.out.alloc _) ⟨wr.heap.size, 0, none⟩ 1 1 [.string k, .int .i64 x] rfl rfl (news2 _ _ _ _) (by simp [Value.oneCell']) (by unfold maxLen; omega) (by omega) (by have := HBB.out.size; simp; omega) ?_
                 intro uX wX hownX hgX _
                 obtain ⟨saX, scX, rfl⟩ := (row_of_own hownX).shape
                 have hX9 : Below w.heap.size w wX := (HBB.out.trans (((Below.refl wr.heap.size wr).alloc (Nat.le_refl _) (.cells #[.string k, .int .i64 x] 48)).mono HBB.out.size)).trans (grown_below hgX (by have := HBB.out.size; simp; omega) (fun k e => (own_type HO.out e).1))
                 have OX := Lib.hid hownX
                 have BX := Lib.hid hX9
                 have c1X := bcellAt hX9 D1.out
                 have c2X := bcellAt hX9 D2.out
                 clear hownX hgX hX9)
              | (at_builtin; refine wpList_append_own _ rfl _ _ 33 rfl w.heap.size 48 i0 (.agg #[.string ⟨#[]⟩, .int .i64 0]) 2 24 Try.underlying33 hi0 hz0 hz1 hz2 rfl (by decide) _ _ _ rfl (OX.out.alloc _) ⟨wX.heap.size, 0, none⟩ 1 1 [.string yk, .int .i64 yv] rfl rfl (news2 _ _ _ _) (by simp [Value.oneCell']) (by unfold maxLen; omega) (by omega) (by have := BX.out.size; simp; omega) ?_
                 intro uY wY hownY hgY _
                 obtain ⟨saY, scY, rfl⟩ := (row_of_own hownY).shape
                 have hY9 : Below w.heap.size w wY := (BX.out.trans (((Below.refl wX.heap.size wX).alloc (Nat.le_refl _) (.cells #[.string yk, .int .i64 yv] 48)).mono BX.out.size)).trans (grown_below hgY (by have := BX.out.size; simp; omega) (fun k e => (own_type OX.out e).1))
                 have OY := Lib.hid hownY
                 have BY := Lib.hid hY9
                 have c1Y := bcellAt hY9 D1.out
                 have c2Y := bcellAt hY9 D2.out
                 clear hownY hgY hY9))
            go_roundw
            case rel => exact ⟨n + 1, by go_num, by omega, by rw [HST.out]; simpa [pst1, HA.out, HC.out, ents_append, ents] using OY.out, by rw [HST.out]; simp [pst1, HA.out, HC.out], BY.out⟩
            case measure => simp [intOf]; omega
        · have hC := KOrd.asym hA
          have HA := Lib.hid hA
          have HC := Lib.hid hC
          have hne : yk ≠ k := fun e => by rw [e, KOrd.irr] at hA; cases hA
          have h1 : Op.bytesLess yk.toList k.toList = true := hA
          have h2 := ne_bytes hne
          clear hA hC hne
          go_wp2_with (first
            | (at_builtin; refine wpList_append_own _ rfl _ _ 33 rfl w.heap.size 48 i0 (.agg #[.string ⟨#[]⟩, .int .i64 0]) 2 24 Try.underlying33 hi0 hz0 hz1 hz2 rfl (by decide) _ _ _ rfl (HO.out.alloc _) ⟨wr.heap.size, 0, none⟩ 1 1 [.string yk, .int .i64 yv] rfl rfl (news2 _ _ _ _) (by simp [Value.oneCell']) (by unfold maxLen; omega) (by omega) (by have := HBB.out.size; simp; omega) ?_
               intro uX wX hownX hgX _
               obtain ⟨saX, scX, rfl⟩ := (row_of_own hownX).shape
               have hX9 : Below w.heap.size w wX := (HBB.out.trans (((Below.refl wr.heap.size wr).alloc (Nat.le_refl _) (.cells #[.string yk, .int .i64 yv] 48)).mono HBB.out.size)).trans (grown_below hgX (by have := HBB.out.size; simp; omega) (fun k e => (own_type HO.out e).1))
               have OX := Lib.hid hownX
               have BX := Lib.hid hX9
               have c1X := bcellAt hX9 D1.out
               have c2X := bcellAt hX9 D2.out
               clear hownX hgX hX9))
          go_roundw
          case rel => exact ⟨n + 1, by go_num, by omega, by rw [HST.out]; simpa [pst1, HA.out, HC.out, ents_append, ents] using OX.out, by rw [HST.out]; simp [pst1, HA.out, HC.out], BX.out⟩
          case measure => simp [intOf]; omega
      · cases hA : KOrd.lt yk k
        · cases hC : KOrd.lt k yk
          · have HA := Lib.hid hA
            have HC := Lib.hid hC
            have he : yk = k := KOrd.tri hA hC
            have h1 : Op.bytesLess yk.toList k.toList = false := hA
            clear hA hC
            have h2 : (yk.toList == k.toList) = true := by rw [he]; simp
            clear he
            go_wp2_with fail
            go_roundw
            case rel => exact ⟨n + 1, by go_num, by omega, by rw [HST.out]; simpa [pst1, HA.out, HC.out, ents_append, ents] using HO.out, by rw [HST.out]; simp [pst1, HA.out, HC.out], HBB.out⟩
            case measure => simp [intOf]; omega
          · have HA := Lib.hid hA
            have HC := Lib.hid hC
            have hne : yk ≠ k := fun e => by rw [e, KOrd.irr] at hC; cases hC
            have h1 : Op.bytesLess yk.toList k.toList = false := hA
            have h2 := ne_bytes hne
            clear hA hC hne
            go_wp2_with (first
              | (at_builtin; refine wpList_append_own _ rfl _ _ 33 rfl w.heap.size 48 i0 (.agg #[.string ⟨#[]⟩, .int .i64 0]) 2 24 Try.underlying33 hi0 hz0 hz1 hz2 rfl (by decide) _ _ _ rfl (HO.out.alloc _) ⟨wr.heap.size, 0, none⟩ 1 1 [.string yk, .int .i64 yv] rfl rfl (news2 _ _ _ _) (by simp [Value.oneCell']) (by unfold maxLen; omega) (by omega) (by have := HBB.out.size; simp; omega) ?_
                 intro uX wX hownX hgX _
                 obtain ⟨saX, scX, rfl⟩ := (row_of_own hownX).shape
                 have hX9 : Below w.heap.size w wX := (HBB.out.trans (((Below.refl wr.heap.size wr).alloc (Nat.le_refl _) (.cells #[.string yk, .int .i64 yv] 48)).mono HBB.out.size)).trans (grown_below hgX (by have := HBB.out.size; simp; omega) (fun k e => (own_type HO.out e).1))
                 have OX := Lib.hid hownX
                 have BX := Lib.hid hX9
                 have c1X := bcellAt hX9 D1.out
                 have c2X := bcellAt hX9 D2.out
                 clear hownX hgX hX9))
            go_roundw
            case rel => exact ⟨n + 1, by go_num, by omega, by rw [HST.out]; simpa [pst1, HA.out, HC.out, ents_append, ents] using OX.out, by rw [HST.out]; simp [pst1, HA.out, HC.out], BX.out⟩
            case measure => simp [intOf]; omega
        · have hC := KOrd.asym hA
          have HA := Lib.hid hA
          have HC := Lib.hid hC
          have hne : yk ≠ k := fun e => by rw [e, KOrd.irr] at hA; cases hA
          have h1 : Op.bytesLess yk.toList k.toList = true := hA
          have h2 := ne_bytes hne
          clear hA hC hne
          go_wp2_with (first
            | (at_builtin; refine wpList_append_own _ rfl _ _ 33 rfl w.heap.size 48 i0 (.agg #[.string ⟨#[]⟩, .int .i64 0]) 2 24 Try.underlying33 hi0 hz0 hz1 hz2 rfl (by decide) _ _ _ rfl (HO.out.alloc _) ⟨wr.heap.size, 0, none⟩ 1 1 [.string yk, .int .i64 yv] rfl rfl (news2 _ _ _ _) (by simp [Value.oneCell']) (by unfold maxLen; omega) (by omega) (by have := HBB.out.size; simp; omega) ?_
               intro uX wX hownX hgX _
               obtain ⟨saX, scX, rfl⟩ := (row_of_own hownX).shape
               have hX9 : Below w.heap.size w wX := (HBB.out.trans (((Below.refl wr.heap.size wr).alloc (Nat.le_refl _) (.cells #[.string yk, .int .i64 yv] 48)).mono HBB.out.size)).trans (grown_below hgX (by have := HBB.out.size; simp; omega) (fun k e => (own_type HO.out e).1))
               have OX := Lib.hid hownX
               have BX := Lib.hid hX9
               have c1X := bcellAt hX9 D1.out
               have c2X := bcellAt hX9 D2.out
               clear hownX hgX hX9))
          go_roundw
          case rel => exact ⟨n + 1, by go_num, by omega, by rw [HST.out]; simpa [pst1, HA.out, HC.out, ents_append, ents] using OX.out, by rw [HST.out]; simp [pst1, HA.out, HC.out], BX.out⟩
          case measure => simp [intOf]; omega
    · obtain rfl : n = l.length := by omega
      have HBB := Lib.hid hb
      have HR : Hid (rput l k x = if (pst (l.take l.length) k x).2 then (pst (l.take l.length) k x).1 else (pst (l.take l.length) k x).1 ++ [(k, x)]) := Lib.hid (by rw [List.take_length]; rfl)
      clear hlt XA hb
      generalize pst (l.take l.length) k x = st at *
      obtain ⟨oo, dd⟩ := st
      simp only at hlen ho
      have HO := Lib.hid ho
      clear ho
      cases dd
      · go_wp2_with (first
          | (at_builtin; refine wpList_append_own _ rfl _ _ 33 rfl w.heap.size 48 i0 (.agg #[.string ⟨#[]⟩, .int .i64 0]) 2 24 Try.underlying33 hi0 hz0 hz1 hz2 rfl (by decide) _ _ _ rfl (HO.out.alloc _) ⟨wr.heap.size, 0, none⟩ 1 1 [.string k, .int .i64 x] rfl rfl (news2 _ _ _ _) (by simp [Value.oneCell']) (by unfold maxLen; omega) (by omega) (by have := HBB.out.size; simp; omega) ?_
             intro uX wX hownX hgX _
             obtain ⟨saX, scX, rfl⟩ := (row_of_own hownX).shape
             have hX9 : Below w.heap.size w wX := (HBB.out.trans (((Below.refl wr.heap.size wr).alloc (Nat.le_refl _) (.cells #[.string k, .int .i64 x] 48)).mono HBB.out.size)).trans (grown_below hgX (by have := HBB.out.size; simp; omega) (fun k e => (own_type HO.out e).1))
             have OX := Lib.hid hownX
             have BX := Lib.hid hX9
             clear hownX hgX hX9))
        go_returns
        exact ⟨_, rfl, by rw [HR.out]; simpa [ents_append, ents] using OX.out, BX.out⟩
      · go_wp2_with fail
        go_returns
        exact ⟨_, rfl, by rw [HR.out]; simpa using HO.out, HBB.out⟩

end Go.Proofs.Ytmbaedldikobcaa
