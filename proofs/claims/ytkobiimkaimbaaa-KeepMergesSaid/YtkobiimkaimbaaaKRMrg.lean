/-
  The document's own Merge in memory.
-/
import Derived.Test.YtkobiimkaimbaaaKMrgP
import Derived.Test.YtkobiimkaimbaaaKHowS
import Derived.Test.YtkobiimkaimbaaaKBoth
import Derived.Laws.AppendOwnNone
import Derived.Laws.OwnMore
namespace Go.Proofs.Ytkobiimkaimbaaa
open Go.RowKit
set_option linter.unusedVariables false

theorem ents_oneCell (l : List Ent) : ∀ u ∈ ents l, u.oneCell' = true := by
  intro u hu
  simp only [ents, List.mem_flatMap] at hu
  obtain ⟨b, _, hb⟩ := hu
  simp at hb
  rcases hb with rfl | rfl <;> rfl
theorem gv_lget (l : List Ent) (k : ByteArray) : gv l k = match lget l k with | some x => (x, true) | none => (0, false) := by
  unfold gv lget
  cases atKey l k <;> rfl

/-- append of entries to entries of the call's own, among the operations of a statement. -/
theorem wpList_append_re {w : World} {ops : Array Oper} {rest : List Oper} {o : Oper} {a : Act} {Q : Exit → Act → World → Prop} (hw : Region.wanted o (yielded ops a.tmps) = true) (s x : Operand)
    (ho : o.op = .call { callee := .builtin .append, args := #[s, x], argTypes := #[33, 33] })
    (base : Nat) (v : Value) (xs : List Ent) (hs : a.eval s = v) (hown : w.ownsRow base 48 2 v xs.length (ents xs)) (vx : Value) (l : List Ent) (hx : a.eval x = vx) (hrd : Row w 2 vx l.length (ents l))
    (hlen : xs.length + l.length ≤ 1000000) (hbase : base ≤ w.heap.size)
    (h : ∀ v' w', w'.ownsRow base 48 2 v' (xs ++ l).length (ents (xs ++ l)) → w.grownBy w' v.ownBlock → wpList Try.prog ops Q rest (a.put o.dst v') w') : wpList Try.prog ops Q (o :: rest) a w :=
  wpList_step fun K hK => by
    rw [if_pos hw]
    obtain ⟨i0, hi, hz0, hz1, hz2⟩ := info_parts rowE
    rcases hrd with ⟨hl, ⟨rfl, h0⟩ | ⟨b, off, cap, rfl, h1, h2, h3, h4⟩⟩
    · obtain rfl : l = [] := List.eq_nil_of_length_eq_zero h0
      have hrun := run_append_owned_none (P := Try.prog) (w := w) base 33 o.type 48 i0 2 Try.underlying33 hi v _ _ hown
      unfold Oper.wp
      simp [execOp, ho, resolve, invoke, builtin, hs, hx, hrun, Result.andThen]
      exact hK _ _ (h v w (by rw [List.append_nil]; exact hown) ⟨rfl, rfl, rfl, Nat.le_refl _, fun _ _ _ => rfl⟩)
    · refine wp_append_own w s x 33 ho base 48 i0 (.agg #[.string ⟨#[]⟩, .int .i64 0]) 2 24 Try.underlying33 hi hz0 hz1 hz2 rfl (by decide) v _ _ hs hown ⟨b, off, none⟩ l.length cap (ents l) hx (by simp [ents_length]) (fun j u hj => by have := h4 j u hj; by_cases h0 : j = 0 <;> simp_all [Addr.add]) (ents_oneCell l) (by unfold maxLen; omega) (by omega) hbase ?_
      intro v' w' h6 h7 _
      exact hK _ _ (h v' w' (by rw [List.length_append, ents_append]; exact h6) h7)

set_option maxRecDepth 100000 in
set_option maxHeartbeats 6400000 in
theorem rmerge_any {w : World} {va vb : Value} {l m : List Ent} (ha : Row w 2 va l.length (ents l)) (hb : Row w 2 vb m.length (ents m)) (hl : l.length ≤ 200) (hm : m.length ≤ 200) (so : Srt l) :
    Calls Try.prog 30 #[va, vb] w fun e w' => ∃ u, e = .returned u ∧ w'.ownsRow w.heap.size 48 2 u (rmerge hw l m).length (ents (rmerge hw l m)) ∧ Below w.heap.size w w' := by
  have HA := Lib.hid ha
  obtain ⟨aa, ca, rfl⟩ := ha.shape
  obtain ⟨ab, cb, rfl, xb⟩ := hb.at2
  have XB := Lib.hid xb
  have SO := Lib.hid so
  clear ha hb xb so
  go_enter Try.func30, Try.ntmps30
  go_wp2_with (first | (at_builtin; refine wpList_append_re (by rfl) _ _ rfl w.heap.size _ [] rfl (World.ownsRow_made w #[] 0 (Nat.le_refl _) (by unfold maxLen; omega) rfl) _ l rfl (HA.out.below ((Below.refl _ _).alloc (Nat.le_refl _) _)) (by simp; omega) (by simp) ?_; intro v1 w1 o1 g1; have u1 := ((Below.refl _ _).alloc (Nat.le_refl _) _ : Below w.heap.size w (w.alloc (.cells #[] 48))).trans (grown_below g1 (by simp) (fun k e => by cases e; exact Nat.le_refl _)); rw [List.nil_append] at o1; have O1 := Lib.hid o1; have U1 := Lib.hid u1; clear o1 g1 u1))
  go_loopw [6, 5] (fun i o wr => ∃ n : Nat, i = .int .i64 (n : Int) ∧ n ≤ m.length ∧ wr.ownsRow w.heap.size 48 2 o (rmerge hw l (m.take n)).length (ents (rmerge hw l (m.take n))) ∧ Below w.heap.size w wr) (fun i _ _ => m.length - (intOf i).toNat)
  case atStart => exact ⟨0, rfl, Nat.zero_le _, O1.out, U1.out⟩
  case round =>
    obtain ⟨n, rfl, hn, ho, hb⟩ := hrel
    have hlen := rmerge_len hw l m n
    obtain ⟨au, cu, rfl⟩ := (row_of_own ho).shape
    clear O1 U1
    by_cases hlt : n < m.length
    · obtain ⟨b1, o1, rfl, q1⟩ := XB.out (by omega)
      have q2 := ents_at m n hlt
      have d1 := q1 _ _ q2.1
      have d2 := q1 _ _ q2.2
      rw [show o1 + (n * 2 + 1) = o1 + n * 2 + 1 by omega] at d2
      have c1 := bcellAt hb d1
      have c2 := bcellAt hb d2
      have HST := Lib.hid (rmerge_snoc hw l m n hlt)
      have HSR := Lib.hid (rmerge_srt (how := hw) SO.out (m.take n))
      clear q1 q2 XB
      generalize hy : m[n] = y at *
      obtain ⟨yk, yv⟩ := y
      simp only at c1 c2 d1 d2
      clear hy d1 d2
      generalize rmerge hw l (m.take n) = oo at *
      have HO := Lib.hid (row_of_own ho)
      have HBB := Lib.hid hb
      have HAR := Lib.hid (HA.out.below hb)
      have hn0 : (0 : Int) ≤ (n : Int) := by omega
      have hn1 : (n : Int) < (m.length : Int) := by omega
      clear ho hb
      have HG := Lib.hid (gv_lget l yk)
      go_wp2_with fail
      refine (rget_any yk HAR.out (by omega) SO.out).mono ?_
      rintro e w1 ⟨rfl, u1⟩
      replace c1 := bcellAt u1 c1
      replace c2 := bcellAt u1 c2
      replace HO := Lib.hid (HO.out.below u1)
      replace HBB := Lib.hid (HBB.out.trans (u1.mono HBB.out.size))
      clear u1
      have HK := Lib.hid (fun (w' : World) (hb : Below w1.heap.size w1 w') => (⟨bcellAt hb c1, bcellAt hb c2, hb⟩ : w'.cell? ⟨b1, o1 + n * 2, none⟩ = some (.string yk) ∧ w'.cell? ⟨b1, o1 + n * 2 + 1, none⟩ = some (.int .i64 yv) ∧ Below w1.heap.size w1 w'))
      rw [HG.out]
      cases hlg : lget l yk with
      | none =>
        have HE := Lib.hid (show rm1 hw l oo (yk, yv) = rput oo yk yv by unfold rm1; simp only [hlg]; exact (rput_lput oo yk yv HSR.out).symm)
        clear hlg
        go_wp2_with fail
        go_region_held3 (fun w' => w'.cell? ⟨b1, o1 + n * 2, none⟩ = some (.string yk) ∧ w'.cell? ⟨b1, o1 + n * 2 + 1, none⟩ = some (.int .i64 yv) ∧ Below w1.heap.size w1 w') ((refine HK.out _ ?_; first | exact bdd _ _ | exact bd _ | exact (bmore (by first | assumption | exact bdn _ _ | exact bd _ | exact Below.refl _ _) u2)))
          ((first
            | ((with_reducible refine (rput_any yk yv (HO.out.below (by first | assumption | exact bdn _ _ | exact bd _ | exact Below.refl _ _)) (by omega)).mono ?_); rintro e w2 ⟨v2, rfl, o2, u2⟩; obtain ⟨sa2, sc2, rfl⟩ := (row_of_own o2).shape)))
        go_wp2_with fail
        go_roundw
        case rel => exact ⟨n + 1, by go_num, by omega, by rw [HST.out, HE.out]; exact own_base o2 (Nat.le_trans HBB.out.size (Below.size ((by first | assumption | exact bdn _ _ | exact bd _ | exact Below.refl _ _) : Below w1.heap.size w1 _))), HBB.out.trans ((bmore (by first | assumption | exact bdn _ _ | exact bd _ | exact Below.refl _ _) u2).mono HBB.out.size)⟩
        case measure => simp [intOf]; omega
      | some x =>
        have HE := Lib.hid (show rm1 hw l oo (yk, yv) = rput oo yk (IntKind.i64.wrap (IntKind.i64.wrap (3 * x) + yv)) by unfold rm1; simp only [hlg, Go.IntWalk.i64_left]; exact (rput_lput oo yk (hw x yv) HSR.out).symm)
        clear hlg
        go_wp2_with fail
        go_region_held3 (fun w' => w'.cell? ⟨b1, o1 + n * 2, none⟩ = some (.string yk) ∧ w'.cell? ⟨b1, o1 + n * 2 + 1, none⟩ = some (.int .i64 yv) ∧ Below w1.heap.size w1 w') ((refine HK.out _ ?_; first | exact bdd _ _ | exact bd _ | exact (bmore (by first | assumption | exact bdn _ _ | exact bd _ | exact Below.refl _ _) u2)))
          ((first
            | ((with_reducible refine (rput_any yk (IntKind.i64.wrap (IntKind.i64.wrap (3 * x) + yv)) (HO.out.below (by first | assumption | exact bdn _ _ | exact bd _ | exact Below.refl _ _)) (by omega)).mono ?_); rintro e w2 ⟨v2, rfl, o2, u2⟩; obtain ⟨sa2, sc2, rfl⟩ := (row_of_own o2).shape)))
        go_wp2_with fail
        go_roundw
        case rel => exact ⟨n + 1, by go_num, by omega, by rw [HST.out, HE.out]; exact own_base o2 (Nat.le_trans HBB.out.size (Below.size ((by first | assumption | exact bdn _ _ | exact bd _ | exact Below.refl _ _) : Below w1.heap.size w1 _))), HBB.out.trans ((bmore (by first | assumption | exact bdn _ _ | exact bd _ | exact Below.refl _ _) u2).mono HBB.out.size)⟩
        case measure => simp [intOf]; omega
    · obtain rfl : n = m.length := by omega
      rw [List.take_length] at ho ⊢
      have HO := Lib.hid ho
      have HBB := Lib.hid hb
      clear ho hb
      go_wp2_with fail
      go_ret
      exact ⟨_, rfl, HO.out, HBB.out⟩

end Go.Proofs.Ytkobiimkaimbaaa
