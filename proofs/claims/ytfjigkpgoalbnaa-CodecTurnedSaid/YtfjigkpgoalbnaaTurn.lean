/-
  The statement CodecTurned: bits of a frame's load and sum that are turned within 32 neighbouring ones are told. No condition.
-/
import Derived.Test.YtfjigkpgoalbnaaFlip
import Derived.Test.YtfjigkpgoalbnaaLive
import Derived.Test.YtfjigkpgoalbnaaAppend
import Derived.Test.YtfjigkpgoalbnaaArgs
import Derived.SizedLaws
namespace Go.Proofs.Ytfjigkpgoalbnaa
open Go.ChangeShapes Go.WideShapes Go.ChangeAt Go.RowKit
set_option linter.unusedVariables false

set_option maxRecDepth 20000 in
set_option maxHeartbeats 1600000 in
theorem turned_long {w : World} (v : Value) (l : List UInt8) (a m : Int) (hp : Rd 0 w v l) (hl : 4096 < l.length) (hr : l.length ≤ 140737488351232) :
    Calls Try.prog 6 #[v, .int .i64 a, .int .u32 m] w fun e w' => e = .returned (.bool true) ∧ Below w.heap.size w w' := by
  have hA := (Below.refl w.heap.size w).alloc (Nat.le_refl _) (.cells #[] 5)
  have HA := Lib.hid (And.intro hA (And.intro (own_made w (Nat.le_refl _)) (hp.keep hA)))
  clear hA
  obtain ⟨sa, sc, rfl⟩ := hp.shape
  go_enter Try.func6, Try.ntmps6
  go_wp2_with (at_builtin; refine wpList_append_rd rfl _ _ rfl w.heap.size _ _ rfl HA.out.2.1 _ _ rfl HA.out.2.2 (by simp; omega) (by simp) ?_)
  intro v1 w1 hown1 hg1
  have hb1 := below_append HA.out.1 HA.out.2.1 hg1 (by simp)
  clear HA hg1
  go_wp2_with fail
  have hd : decide ((l.length : Int) ≤ 4096) = false := by simp; omega
  refine (seal_long hown1.rd.zero hl (by omega)).mono ?_
  rintro e w2 ⟨rfl, rfl⟩
  go_wp2_with fail
  refine (lawnum_any 1 _).mono ?_
  rintro e w2 ⟨rfl, rfl⟩
  go_wp2_with fail
  refine (lawnum_any 1 _).mono ?_
  rintro e w2 ⟨rfl, rfl⟩
  go_wp2_with fail
  refine (live_any _).mono ?_
  rintro e w3 ⟨rfl, hb⟩
  have hb3 := bthen hb1 hb
  go_wp2_with fail
  go_ret
  exact ⟨rfl, hb3⟩

set_option maxRecDepth 20000 in
set_option maxHeartbeats 1600000 in
theorem turned_none {w : World} (v : Value) (l : List UInt8) (a : Int) (hp : Rd 0 w v l) (hl : l.length ≤ 4096) :
    Calls Try.prog 6 #[v, .int .i64 a, .int .u32 0] w fun e w' => e = .returned (.bool true) ∧ Below w.heap.size w w' := by
  have hA := (Below.refl w.heap.size w).alloc (Nat.le_refl _) (.cells #[] 5)
  have HA := Lib.hid (And.intro hA (And.intro (own_made w (Nat.le_refl _)) (hp.keep hA)))
  clear hA
  obtain ⟨sa, sc, rfl⟩ := hp.shape
  go_enter Try.func6, Try.ntmps6
  go_wp2_with (at_builtin; refine wpList_append_rd rfl _ _ rfl w.heap.size _ _ rfl HA.out.2.1 _ _ rfl HA.out.2.2 (by simp; omega) (by simp) ?_)
  intro v1 w1 hown1 hg1
  have hb1 := below_append HA.out.1 HA.out.2.1 hg1 (by simp)
  clear HA hg1
  go_wp2_with fail
  refine (seal_any hown1.rd.zero (by simpa using hl)).mono ?_
  rintro e w2 ⟨v2, rfl, hown2, hb⟩
  have hb2 := bthen hb1 hb
  clear hb1 hb hown1
  have hfl : l.length + 5 ≤ (frameOf l).length := by have := frameOf_length l; have := enc_pos l.length; omega
  obtain ⟨fa, fc, rfl⟩ := hown2.rd.shape
  generalize (frameOf l).length = fl at *
  have hd : decide ((l.length : Int) ≤ 4096) = true := by simp; omega
  go_wp2_with fail
  refine (lawnum_any 0 _).mono ?_
  rintro e w3 ⟨rfl, rfl⟩
  go_wp2_with fail
  refine (lawnum_any 0 _).mono ?_
  rintro e w3 ⟨rfl, rfl⟩
  go_wp2_with fail
  refine (lawnum_any 0 _).mono ?_
  rintro e w3 ⟨rfl, rfl⟩
  go_wp2_with fail
  refine (live_any _).mono ?_
  rintro e w3 ⟨rfl, hb⟩
  have hb3 := bthen hb2 hb
  go_wp2_with fail
  go_ret
  exact ⟨rfl, hb3⟩

end Go.Proofs.Ytfjigkpgoalbnaa
