/-
  The law's does: an act on both. (Written by gen_ndo.py.)
-/
import Derived.Test.YtgnmieobgdbafaaNRv
import Derived.Test.YtgnmieobgdbafaaNArg
namespace Go.Proofs.Ytgnmieobgdbafaa
open Go.RowKit
set_option linter.unusedVariables false
/-- Both nets, apart in memory, are the one plain net. -/
structure Duo (w : World) (B a r : Nat) (F H L E : Value) (x : Nt) : Prop where
  n : IsN w B a F H x
  m : IsM w B r L E x
  ap : ∀ j, OwnN a F H j → ¬ OwnN r L E j
theorem Duo.below {w w' : World} {B a r : Nat} {F H L E : Value} {x : Nt} (h : Duo w B a r F H L E x) (hb : Below w.heap.size w w') : Duo w' B a r F H L E x := ⟨h.n.below hb, h.m.below hb, h.ap⟩
theorem duo_left {w w1 : World} {B a r : Nat} {F H L E : Value} {x y : Nt} (h : Duo w B a r F H L E x) (hB : B ≤ w.heap.size) (g : WentN B a F H y w w1) :
    ∃ F' H', IsN w1 B a F' H' y ∧ IsM w1 B r L E x ∧ (∀ j, OwnN a F' H' j → ¬ OwnN r L E j) ∧ Below B w w1 ∧ ∀ (k : Nat) (cs : Array Value), w.heap[k]? = some (Obj.cells cs 31) → w1.heap[k]? = some (Obj.cells cs 31) := by
  obtain ⟨F', H', i, t, o⟩ := g
  refine ⟨F', H', i, h.m.keep t (fun k hk e => h.ap k e hk), fun j hj e => ?_, t.below hB (fun k hk => (h.n.own_lt hk).1), fun k cs hk => (t.block k (Array.getElem?_eq_some_iff.1 hk).1 (fun e => ?_)).trans hk⟩
  · rcases o j hj with h1 | h1
    · exact h.ap j h1 e
    · have := (h.m.own_lt e).2; omega
  · rcases e with e | e | e
    · obtain ⟨cur, hc, _⟩ := h.n.lay
      rw [← e, hk] at hc
      have := (Obj.cells.inj (Option.some.inj hc)).2.1
      revert this; decide
    · obtain ⟨_, cs', hc⟩ := own_type h.n.rowF e
      rw [hk] at hc
      have := (Obj.cells.inj (Option.some.inj hc)).2.1
      revert this; decide
    · obtain ⟨_, cs', hc⟩ := own_type h.n.rowH e
      rw [hk] at hc
      have := (Obj.cells.inj (Option.some.inj hc)).2.1
      revert this; decide
theorem duo_right {w w1 : World} {B a r : Nat} {F H L E : Value} {x y : Nt} (h1 : IsN w B a F H y) (h2 : IsM w B r L E x) (h3 : ∀ j, OwnN a F H j → ¬ OwnN r L E j) (hB : B ≤ w.heap.size) (g : WentM B r L E y w w1) :
    ∃ L' E', Duo w1 B a r F H L' E' y ∧ Below B w w1 := by
  obtain ⟨L', E', i, t, o⟩ := g
  refine ⟨L', E', ⟨h1.keep t (fun k hk e => h3 k hk e), i, fun j hj e => ?_⟩, t.below hB (fun k hk => (h2.own_lt hk).1)⟩
  rcases o j e with h4 | h4
  · exact h3 j hj h4
  · have := (h1.own_lt hj).2; omega
def stepP (x : Nt) (c : Ac) : Nt :=
  if c.kd = 0 then (sendP x c.a c.b c.v).1 else if c.kd = 1 then (delP x c.a).1 else if c.kd = 2 then (dropP x c.a).1 else if c.kd = 3 then (dblP x c.a).1
  else if c.kd = 4 then (movP x c.a c.b).1 else if c.kd = 5 then (holdP x c.a c.b).1 else if c.kd = 6 then tickP x else if c.kd = 7 then (cutP x c.a c.b c.on).1 else x
theorem Bd.step {k : Nat} {x : Nt} (h : Bd k x) (c : Ac) : Bd (k + 1) (stepP x c) := by
  unfold stepP
  repeat' split
  · exact h.send _ _ _
  · exact h.del _
  · exact (h.drop _).more (Nat.le_succ _)
  · exact h.dbl _
  · exact (h.mov _ _).more (Nat.le_succ _)
  · exact (h.hold _ _).more (Nat.le_succ _)
  · exact h.tick.more (Nat.le_succ _)
  · exact (h.cut _ _ _).more (Nat.le_succ _)
  · exact h.more (Nat.le_succ _)
/-- Both did it, and answered alike. -/
def DoesP (B a r : Nat) (y : Nt) (w : World) (e : Ending) (w' : World) : Prop := e = .returned (.bool true) ∧ ∃ F H L E, Duo w' B a r F H L E y ∧ Below B w w'
abbrev ActT2 : TypeId := 31
theorem bmore' {B : Nat} {w w1 w2 : World} (h : Below B w w1) (h2 : Below w1.heap.size w1 w2) (hBw : B ≤ w.heap.size) : Below B w w2 := h.trans (h2.mono (Nat.le_trans hBw h.size))
set_option maxRecDepth 100000 in
set_option maxHeartbeats 3200000 in
theorem does_send {w : World} {B a r : Nat} {F H L E : Value} {x : Nt} (h : Duo w B a r F H L E x) (hB : B ≤ w.heap.size) {k : Nat} (hbd : Bd k x) (hk : k ≤ 2000) (za zb : Int) (zv : ByteArray) (zo : Bool) :
    Calls Try.prog 12 #[.pointer (some ⟨a, 0, none⟩), .pointer (some ⟨r, 0, none⟩), .agg #[.int .i64 0, .int .i64 za, .int .i64 zb, .string zv, .bool zo]] w (DoesP B a r (sendP x za zb zv).1 w) := by
  have b1 : Below w.heap.size w (w.alloc (.cells #[.int .i64 0, .int .i64 za, .int .i64 zb, .string zv, .bool zo] ActT2)) := (Below.refl _ _).alloc (Nat.le_refl _) _
  have Z1 := Lib.hid (heap_alloc_new w (.cells #[.int .i64 0, .int .i64 za, .int .i64 zb, .string zv, .bool zo] ActT2))
  have D1 := Lib.hid (h.below b1)
  have B1 := Lib.hid (b1.mono hB)
  have HB1 := Lib.hid (Nat.le_trans hB b1.size)
  have HB0 := Lib.hid hB
  have c1 := cellB (j := 1) Z1.out rfl
  have c2 := cellB (j := 2) Z1.out rfl
  have c3 := cellB (j := 3) Z1.out rfl
  have c4 := cellB (j := 4) Z1.out rfl
  have ex0 : ∀ (v u : Value) (W : World), (Instr.extract (.tuple #[v, u]) 0).run Try.prog W = .ok v W := fun v u W => by kernel_rfl
  have ex1 : ∀ (v u : Value) (W : World), (Instr.extract (.tuple #[v, u]) 1).run Try.prog W = .ok u W := fun v u W => by kernel_rfl
  have HBD := Lib.hid hbd
  have HK := Lib.hid hk
  have hp := send_any D1.out.n HB1.out (by have := hbd.ids; omega) za zb zv (hbd.st9 (by omega))
  generalize hans : sendP x za zb zv = ans at *
  obtain ⟨y, v1, v2⟩ := ans
  clear h b1 hB hbd hk
  go_enter Try.func12, Try.ntmps12
  go_upto_region 3 with fail
  generalize (w.alloc (.cells #[.int .i64 0, .int .i64 za, .int .i64 zb, .string zv, .bool zo] ActT2)) = W1 at *
  go_wp2_with fail
  refine hp.mono ?_
  rintro e w2 ⟨rfl, g2⟩
  obtain ⟨F2, H2, i2, m2, p2, b2, k2⟩ := duo_left D1.out HB1.out g2
  have Z2 := Lib.hid (k2 _ _ Z1.out)
  have I2 := Lib.hid i2
  have P2 := Lib.hid p2
  have M2 := Lib.hid m2
  have B2 := Lib.hid (B1.out.trans b2)
  have HB2 := Lib.hid (Nat.le_trans HB1.out b2.size)
  clear hp g2 i2 p2 b2 k2 c1 c2 c3 c4
  have hr := rsend_any M2.out HB2.out (by have := HBD.out.ids; have := HK.out; omega) za zb zv (HBD.out.st9 (by have := HK.out; omega))
  rw [hans] at hr
  have c1 := cellB (j := 1) Z2.out rfl
  have c2 := cellB (j := 2) Z2.out rfl
  have c3 := cellB (j := 3) Z2.out rfl
  clear m2
  go_wp2_with fail
  refine hr.mono ?_
  rintro e w4 ⟨rfl, g4⟩
  obtain ⟨L4, E4, D4, b4⟩ := duo_right I2.out M2.out P2.out HB2.out g4
  have D5 := Lib.hid D4
  have B5 := Lib.hid (B2.out.trans b4)
  clear hr g4 D4 b4 c1 c2 c3
  go_wp2_with fail
  refine (num15 _ _).mono ?_
  rintro e w6 ⟨rfl, rfl⟩
  go_wp2_with fail
  go_returns
  exact ⟨by simp, _, _, _, _, D5.out, B5.out⟩
set_option maxRecDepth 100000 in
set_option maxHeartbeats 3200000 in
theorem does_del {w : World} {B a r : Nat} {F H L E : Value} {x : Nt} (h : Duo w B a r F H L E x) (hB : B ≤ w.heap.size) {k : Nat} (hbd : Bd k x) (hk : k ≤ 2000) (za zb : Int) (zv : ByteArray) (zo : Bool) :
    Calls Try.prog 12 #[.pointer (some ⟨a, 0, none⟩), .pointer (some ⟨r, 0, none⟩), .agg #[.int .i64 1, .int .i64 za, .int .i64 zb, .string zv, .bool zo]] w (DoesP B a r (delP x za).1 w) := by
  have b1 : Below w.heap.size w (w.alloc (.cells #[.int .i64 1, .int .i64 za, .int .i64 zb, .string zv, .bool zo] ActT2)) := (Below.refl _ _).alloc (Nat.le_refl _) _
  have Z1 := Lib.hid (heap_alloc_new w (.cells #[.int .i64 1, .int .i64 za, .int .i64 zb, .string zv, .bool zo] ActT2))
  have D1 := Lib.hid (h.below b1)
  have B1 := Lib.hid (b1.mono hB)
  have HB1 := Lib.hid (Nat.le_trans hB b1.size)
  have HB0 := Lib.hid hB
  have c1 := cellB (j := 1) Z1.out rfl
  have c2 := cellB (j := 2) Z1.out rfl
  have c3 := cellB (j := 3) Z1.out rfl
  have c4 := cellB (j := 4) Z1.out rfl
  have ex0 : ∀ (v u : Value) (W : World), (Instr.extract (.tuple #[v, u]) 0).run Try.prog W = .ok v W := fun v u W => by kernel_rfl
  have ex1 : ∀ (v u : Value) (W : World), (Instr.extract (.tuple #[v, u]) 1).run Try.prog W = .ok u W := fun v u W => by kernel_rfl
  have HBD := Lib.hid hbd
  have HK := Lib.hid hk
  have hp := deliver_any D1.out.n (by have := hbd.fl; omega) za (fun p hp => ⟨(hbd.pk p hp).1, (hbd.pk p hp).2.1⟩) (hbd.cm9 (by omega))
  generalize hans : delP x za = ans at *
  obtain ⟨y, v1, v2⟩ := ans
  clear h b1 hB hbd hk
  go_enter Try.func12, Try.ntmps12
  go_upto_region 7 with fail
  generalize (w.alloc (.cells #[.int .i64 1, .int .i64 za, .int .i64 zb, .string zv, .bool zo] ActT2)) = W1 at *
  go_wp2_with fail
  refine hp.mono ?_
  rintro e w2 ⟨rfl, g2⟩
  obtain ⟨F2, H2, i2, m2, p2, b2, k2⟩ := duo_left D1.out HB1.out g2
  have Z2 := Lib.hid (k2 _ _ Z1.out)
  have I2 := Lib.hid i2
  have P2 := Lib.hid p2
  have M2 := Lib.hid m2
  have B2 := Lib.hid (B1.out.trans b2)
  have HB2 := Lib.hid (Nat.le_trans HB1.out b2.size)
  clear hp g2 i2 p2 b2 k2 c1 c2 c3 c4
  have b3 : Below w2.heap.size w2 (w2.alloc (.cells (pkCells v1) PkT)) := (Below.refl _ _).alloc (Nat.le_refl _) _
  have Q3 := Lib.hid (show (w2.alloc (.cells (pkCells v1) PkT)).heap[w2.heap.size]? = some (.cells (pkCells v1) PkT) from heap_alloc_new _ _)
  have Z3 := Lib.hid ((b3.block _ (Array.getElem?_eq_some_iff.1 Z2.out).1).trans Z2.out)
  have I3 := Lib.hid (I2.out.below b3)
  have M3 := Lib.hid (M2.out.below b3)
  have B3 := Lib.hid (bmore' B2.out b3 HB0.out)
  have HB3 := Lib.hid (Nat.le_trans HB2.out b3.size)
  clear b3
  go_upto_region 8 with fail
  generalize (w2.alloc (.cells (pkCells v1) PkT)) = W3 at *
  have hr := rdeliver_any M3.out HB3.out (by have := HBD.out.fl; have := HK.out; omega) za (fun p hp => ⟨(HBD.out.pk p hp).1, (HBD.out.pk p hp).2.1⟩) (HBD.out.cm9 (by have := HK.out; omega))
  rw [hans] at hr
  have c1 := cellB (j := 1) Z3.out rfl
  have c2 := cellB (j := 2) Z3.out rfl
  have c3 := cellB (j := 3) Z3.out rfl
  go_wp2_with fail
  refine hr.mono ?_
  rintro e w4 ⟨rfl, g4⟩
  obtain ⟨L4, E4, j4, t4, o4⟩ := g4
  have Q4 := Lib.hid ((t4.block w2.heap.size (Array.getElem?_eq_some_iff.1 Q3.out).1 (fun e => by
    rcases e with e | e | e
    · have := M2.out.lt; omega
    · have := (M2.out.own_lt (.inr (.inl e))).2; omega
    · have := (M2.out.own_lt (.inr (.inr e))).2; omega)).trans Q3.out)
  obtain ⟨L4, E4, D4, b4⟩ := duo_right I3.out M3.out P2.out HB3.out ⟨L4, E4, j4, t4, o4⟩
  have b5 : Below w4.heap.size w4 (w4.alloc (.cells (pkCells v1) PkT)) := (Below.refl _ _).alloc (Nat.le_refl _) _
  have Q5 := Lib.hid ((b5.block _ (Array.getElem?_eq_some_iff.1 Q4.out).1).trans Q4.out)
  have R5 := Lib.hid (show (w4.alloc (.cells (pkCells v1) PkT)).heap[w4.heap.size]? = some (.cells (pkCells v1) PkT) from heap_alloc_new _ _)
  have D5 := Lib.hid (D4.below b5)
  have B5 := Lib.hid (bmore' (B3.out.trans b4) b5 HB0.out)
  clear hr j4 t4 o4 D4 b4 b5 c1 c2 c3
  go_upto_region 9 with fail
  generalize (w4.alloc (.cells (pkCells v1) PkT)) = W5 at *
  obtain ⟨q0, q1, q2, q3, q4⟩ := pk5 Q5.out
  obtain ⟨s0, s1, s2, s3, s4⟩ := pk5 R5.out
  have heq := fun W => eq_pk v1 W
  go_wp2_with fail
  refine (num15 _ _).mono ?_
  rintro e w6 ⟨rfl, rfl⟩
  clear q0 q1 q2 q3 q4 s0 s1 s2 s3 s4 heq
  go_wp2_with fail
  go_returns
  exact ⟨by simp, _, _, _, _, D5.out, B5.out⟩
set_option maxRecDepth 100000 in
set_option maxHeartbeats 3200000 in
theorem does_dbl {w : World} {B a r : Nat} {F H L E : Value} {x : Nt} (h : Duo w B a r F H L E x) (hB : B ≤ w.heap.size) {k : Nat} (hbd : Bd k x) (hk : k ≤ 2000) (za zb : Int) (zv : ByteArray) (zo : Bool) :
    Calls Try.prog 12 #[.pointer (some ⟨a, 0, none⟩), .pointer (some ⟨r, 0, none⟩), .agg #[.int .i64 3, .int .i64 za, .int .i64 zb, .string zv, .bool zo]] w (DoesP B a r (dblP x za).1 w) := by
  have b1 : Below w.heap.size w (w.alloc (.cells #[.int .i64 3, .int .i64 za, .int .i64 zb, .string zv, .bool zo] ActT2)) := (Below.refl _ _).alloc (Nat.le_refl _) _
  have Z1 := Lib.hid (heap_alloc_new w (.cells #[.int .i64 3, .int .i64 za, .int .i64 zb, .string zv, .bool zo] ActT2))
  have D1 := Lib.hid (h.below b1)
  have B1 := Lib.hid (b1.mono hB)
  have HB1 := Lib.hid (Nat.le_trans hB b1.size)
  have HB0 := Lib.hid hB
  have c1 := cellB (j := 1) Z1.out rfl
  have c2 := cellB (j := 2) Z1.out rfl
  have c3 := cellB (j := 3) Z1.out rfl
  have c4 := cellB (j := 4) Z1.out rfl
  have ex0 : ∀ (v u : Value) (W : World), (Instr.extract (.tuple #[v, u]) 0).run Try.prog W = .ok v W := fun v u W => by kernel_rfl
  have ex1 : ∀ (v u : Value) (W : World), (Instr.extract (.tuple #[v, u]) 1).run Try.prog W = .ok u W := fun v u W => by kernel_rfl
  have HBD := Lib.hid hbd
  have HK := Lib.hid hk
  have hp := double_any D1.out.n HB1.out (by have := hbd.ids; omega) za
  generalize hans : dblP x za = ans at *
  obtain ⟨y, v1, v2⟩ := ans
  clear h b1 hB hbd hk
  go_enter Try.func12, Try.ntmps12
  go_upto_region 13 with fail
  generalize (w.alloc (.cells #[.int .i64 3, .int .i64 za, .int .i64 zb, .string zv, .bool zo] ActT2)) = W1 at *
  go_wp2_with fail
  refine hp.mono ?_
  rintro e w2 ⟨rfl, g2⟩
  obtain ⟨F2, H2, i2, m2, p2, b2, k2⟩ := duo_left D1.out HB1.out g2
  have Z2 := Lib.hid (k2 _ _ Z1.out)
  have I2 := Lib.hid i2
  have P2 := Lib.hid p2
  have M2 := Lib.hid m2
  have B2 := Lib.hid (B1.out.trans b2)
  have HB2 := Lib.hid (Nat.le_trans HB1.out b2.size)
  clear hp g2 i2 p2 b2 k2 c1 c2 c3 c4
  have hr := rdouble_any M2.out HB2.out (by have := HBD.out.ids; have := HK.out; omega) za
  rw [hans] at hr
  have c1 := cellB (j := 1) Z2.out rfl
  have c2 := cellB (j := 2) Z2.out rfl
  have c3 := cellB (j := 3) Z2.out rfl
  clear m2
  go_wp2_with fail
  refine hr.mono ?_
  rintro e w4 ⟨rfl, g4⟩
  obtain ⟨L4, E4, D4, b4⟩ := duo_right I2.out M2.out P2.out HB2.out g4
  have D5 := Lib.hid D4
  have B5 := Lib.hid (B2.out.trans b4)
  clear hr g4 D4 b4 c1 c2 c3
  go_wp2_with fail
  refine (num15 _ _).mono ?_
  rintro e w6 ⟨rfl, rfl⟩
  go_wp2_with fail
  go_returns
  exact ⟨by simp, _, _, _, _, D5.out, B5.out⟩
set_option maxRecDepth 100000 in
set_option maxHeartbeats 3200000 in
theorem does_drop {w : World} {B a r : Nat} {F H L E : Value} {x : Nt} (h : Duo w B a r F H L E x) (hB : B ≤ w.heap.size) {k : Nat} (hbd : Bd k x) (hk : k ≤ 2000) (za zb : Int) (zv : ByteArray) (zo : Bool) :
    Calls Try.prog 12 #[.pointer (some ⟨a, 0, none⟩), .pointer (some ⟨r, 0, none⟩), .agg #[.int .i64 2, .int .i64 za, .int .i64 zb, .string zv, .bool zo]] w (DoesP B a r (dropP x za).1 w) := by
  have b1 : Below w.heap.size w (w.alloc (.cells #[.int .i64 2, .int .i64 za, .int .i64 zb, .string zv, .bool zo] ActT2)) := (Below.refl _ _).alloc (Nat.le_refl _) _
  have Z1 := Lib.hid (heap_alloc_new w (.cells #[.int .i64 2, .int .i64 za, .int .i64 zb, .string zv, .bool zo] ActT2))
  have D1 := Lib.hid (h.below b1)
  have B1 := Lib.hid (b1.mono hB)
  have HB1 := Lib.hid (Nat.le_trans hB b1.size)
  have HB0 := Lib.hid hB
  have c1 := cellB (j := 1) Z1.out rfl
  have c2 := cellB (j := 2) Z1.out rfl
  have c3 := cellB (j := 3) Z1.out rfl
  have c4 := cellB (j := 4) Z1.out rfl
  have ex0 : ∀ (v u : Value) (W : World), (Instr.extract (.tuple #[v, u]) 0).run Try.prog W = .ok v W := fun v u W => by kernel_rfl
  have ex1 : ∀ (v u : Value) (W : World), (Instr.extract (.tuple #[v, u]) 1).run Try.prog W = .ok u W := fun v u W => by kernel_rfl
  have HBD := Lib.hid hbd
  have HK := Lib.hid hk
  have hp := fun (W : World) (hW : Duo W B a r F H L E x) (hBW : B ≤ W.heap.size) => drop_any hW.n (by have := hbd.fl; omega) za
  generalize hans : dropP x za = ans at *
  obtain ⟨y, v2⟩ := ans
  clear h b1 hB hbd hk
  go_enter Try.func12, Try.ntmps12
  go_upto_region 11 with fail
  generalize (w.alloc (.cells #[.int .i64 2, .int .i64 za, .int .i64 zb, .string zv, .bool zo] ActT2)) = W1 at *
  clear c1 c2 c3 c4
  refine li_start [0, 1, 2, 5, 6, 7, 3, 4, 8, 9, 10] (S := fun V => V.heap[w.heap.size]? = some (.cells #[.int .i64 2, .int .i64 za, .int .i64 zb, .string zv, .bool zo] ActT2)) (by kernel_rfl) Z1.out ?_
  simp only [inOrder, List.filterMap, List.getElem?_cons_succ, List.getElem?_cons_zero]
  have HD2 := Lib.hid (D1.out.below (bd W1))
  have B2 := Lib.hid (show Below B w W1.drew from bmore' B1.out (bd W1) HB0.out)
  have HB2 := Lib.hid (show B ≤ W1.drew.heap.size from HB1.out)
  have Z2 := Lib.hid (show W1.drew.heap[w.heap.size]? = _ from Z1.out)
  generalize W1.drew = W2 at *
  iterate 6 (refine li_take rfl (by kernel_rfl) (by rfl) Z2.out (by (intro V s0; have c1 := cellB (j := 1) s0 rfl; have c2 := cellB (j := 2) s0 rfl; have c4 := cellB (j := 4) s0 rfl; go_simp) <;> with_reducible rfl) ?_); simp only [Act.put, List.setIfInBounds_toArray, List.set_cons_zero, List.set_cons_succ]
  refine li_do rfl (by kernel_rfl) (by rfl) (fun K hK => ?_)
  go_simp
  refine (hp _ HD2.out HB2.out).mono ?_
  rintro e w3 ⟨rfl, g3⟩
  obtain ⟨F3, H3, i3, m3, p3, b3, k3⟩ := duo_left HD2.out HB2.out g3
  have Z3 := Lib.hid (k3 _ _ Z2.out)
  have B3 := Lib.hid (B2.out.trans b3)
  have HB3 := Lib.hid (Nat.le_trans HB2.out b3.size)
  have hr := rdrop_any m3 HB3.out (by have := HBD.out.fl; have := HK.out; omega) za
  rw [hans] at hr
  refine hK _ _ ⟨Z3.out, ?_⟩
  clear hK K hp g3 b3 k3
  try dsimp only
  refine li_do rfl (by kernel_rfl) (by rfl) (fun K hK => ?_)
  go_simp
  refine (num15 _ _).mono ?_
  rintro e w4 ⟨rfl, rfl⟩
  refine hK _ _ ⟨Z3.out, ?_⟩
  clear hK K
  try simp only [Act.put, List.setIfInBounds_toArray, List.set_cons_zero, List.set_cons_succ]
  refine li_do rfl (by kernel_rfl) (by rfl) (fun K hK => ?_)
  go_simp
  refine hr.mono ?_
  rintro e w4 ⟨rfl, L4, E4, j4, t4, o4⟩
  have Z4 := Lib.hid ((t4.block w.heap.size (Array.getElem?_eq_some_iff.1 Z3.out).1 (fun e => by
    rcases e with e | e | e
    · obtain ⟨cur, hc, _⟩ := m3.lay
      rw [← e, Z3.out] at hc
      have := (Obj.cells.inj (Option.some.inj hc)).2.1
      revert this; decide
    · obtain ⟨_, cs', hc⟩ := own_type m3.rowF e
      rw [Z3.out] at hc
      have := (Obj.cells.inj (Option.some.inj hc)).2.1
      revert this; decide
    · obtain ⟨_, cs', hc⟩ := own_type m3.rowH e
      rw [Z3.out] at hc
      have := (Obj.cells.inj (Option.some.inj hc)).2.1
      revert this; decide)).trans Z3.out)
  obtain ⟨L4, E4, D4, b4⟩ := duo_right i3 m3 p3 HB3.out ⟨L4, E4, j4, t4, o4⟩
  have D5 := Lib.hid D4
  have B5 := Lib.hid (B3.out.trans b4)
  refine hK _ _ ⟨Z4.out, ?_⟩
  clear hK K hr j4 t4 o4 D4 b4 i3 m3 p3
  try dsimp only
  iterate 2 (refine li_take rfl (by kernel_rfl) (by rfl) Z4.out (by (intro V s0; go_simp) <;> with_reducible rfl) ?_); simp only [Act.put, List.setIfInBounds_toArray, List.set_cons_zero, List.set_cons_succ]
  refine li_done (by kernel_rfl) ?_
  go_wp2_with fail
  go_returns
  exact ⟨by simp, _, _, _, _, D5.out, B5.out⟩
set_option maxRecDepth 100000 in
set_option maxHeartbeats 3200000 in
theorem does_mov {w : World} {B a r : Nat} {F H L E : Value} {x : Nt} (h : Duo w B a r F H L E x) (hB : B ≤ w.heap.size) {k : Nat} (hbd : Bd k x) (hk : k ≤ 2000) (za zb : Int) (zv : ByteArray) (zo : Bool) :
    Calls Try.prog 12 #[.pointer (some ⟨a, 0, none⟩), .pointer (some ⟨r, 0, none⟩), .agg #[.int .i64 4, .int .i64 za, .int .i64 zb, .string zv, .bool zo]] w (DoesP B a r (movP x za zb).1 w) := by
  have b1 : Below w.heap.size w (w.alloc (.cells #[.int .i64 4, .int .i64 za, .int .i64 zb, .string zv, .bool zo] ActT2)) := (Below.refl _ _).alloc (Nat.le_refl _) _
  have Z1 := Lib.hid (heap_alloc_new w (.cells #[.int .i64 4, .int .i64 za, .int .i64 zb, .string zv, .bool zo] ActT2))
  have D1 := Lib.hid (h.below b1)
  have B1 := Lib.hid (b1.mono hB)
  have HB1 := Lib.hid (Nat.le_trans hB b1.size)
  have HB0 := Lib.hid hB
  have c1 := cellB (j := 1) Z1.out rfl
  have c2 := cellB (j := 2) Z1.out rfl
  have c3 := cellB (j := 3) Z1.out rfl
  have c4 := cellB (j := 4) Z1.out rfl
  have ex0 : ∀ (v u : Value) (W : World), (Instr.extract (.tuple #[v, u]) 0).run Try.prog W = .ok v W := fun v u W => by kernel_rfl
  have ex1 : ∀ (v u : Value) (W : World), (Instr.extract (.tuple #[v, u]) 1).run Try.prog W = .ok u W := fun v u W => by kernel_rfl
  have HBD := Lib.hid hbd
  have HK := Lib.hid hk
  have hp := fun (W : World) (hW : Duo W B a r F H L E x) (hBW : B ≤ W.heap.size) => move_any hW.n hBW (by have := hbd.fl; omega) za zb
  generalize hans : movP x za zb = ans at *
  obtain ⟨y, v2⟩ := ans
  clear h b1 hB hbd hk
  go_enter Try.func12, Try.ntmps12
  go_upto_region 17 with fail
  generalize (w.alloc (.cells #[.int .i64 4, .int .i64 za, .int .i64 zb, .string zv, .bool zo] ActT2)) = W1 at *
  clear c1 c2 c3 c4
  refine li_start [0, 1, 2, 3, 4, 7, 8, 9, 10, 11, 5, 6, 12, 13, 14] (S := fun V => V.heap[w.heap.size]? = some (.cells #[.int .i64 4, .int .i64 za, .int .i64 zb, .string zv, .bool zo] ActT2)) (by kernel_rfl) Z1.out ?_
  simp only [inOrder, List.filterMap, List.getElem?_cons_succ, List.getElem?_cons_zero]
  have HD2 := Lib.hid (D1.out.below (bd W1))
  have B2 := Lib.hid (show Below B w W1.drew from bmore' B1.out (bd W1) HB0.out)
  have HB2 := Lib.hid (show B ≤ W1.drew.heap.size from HB1.out)
  have Z2 := Lib.hid (show W1.drew.heap[w.heap.size]? = _ from Z1.out)
  generalize W1.drew = W2 at *
  iterate 10 (refine li_take rfl (by kernel_rfl) (by rfl) Z2.out (by (intro V s0; have c1 := cellB (j := 1) s0 rfl; have c2 := cellB (j := 2) s0 rfl; have c4 := cellB (j := 4) s0 rfl; go_simp) <;> with_reducible rfl) ?_); simp only [Act.put, List.setIfInBounds_toArray, List.set_cons_zero, List.set_cons_succ]
  refine li_do rfl (by kernel_rfl) (by rfl) (fun K hK => ?_)
  go_simp
  refine (hp _ HD2.out HB2.out).mono ?_
  rintro e w3 ⟨rfl, g3⟩
  obtain ⟨F3, H3, i3, m3, p3, b3, k3⟩ := duo_left HD2.out HB2.out g3
  have Z3 := Lib.hid (k3 _ _ Z2.out)
  have B3 := Lib.hid (B2.out.trans b3)
  have HB3 := Lib.hid (Nat.le_trans HB2.out b3.size)
  have hr := rmove_any m3 HB3.out (by have := HBD.out.fl; have := HK.out; omega) za zb
  rw [hans] at hr
  refine hK _ _ ⟨Z3.out, ?_⟩
  clear hK K hp g3 b3 k3
  try dsimp only
  refine li_do rfl (by kernel_rfl) (by rfl) (fun K hK => ?_)
  go_simp
  refine (num15 _ _).mono ?_
  rintro e w4 ⟨rfl, rfl⟩
  refine hK _ _ ⟨Z3.out, ?_⟩
  clear hK K
  try simp only [Act.put, List.setIfInBounds_toArray, List.set_cons_zero, List.set_cons_succ]
  refine li_do rfl (by kernel_rfl) (by rfl) (fun K hK => ?_)
  go_simp
  refine hr.mono ?_
  rintro e w4 ⟨rfl, L4, E4, j4, t4, o4⟩
  have Z4 := Lib.hid ((t4.block w.heap.size (Array.getElem?_eq_some_iff.1 Z3.out).1 (fun e => by
    rcases e with e | e | e
    · obtain ⟨cur, hc, _⟩ := m3.lay
      rw [← e, Z3.out] at hc
      have := (Obj.cells.inj (Option.some.inj hc)).2.1
      revert this; decide
    · obtain ⟨_, cs', hc⟩ := own_type m3.rowF e
      rw [Z3.out] at hc
      have := (Obj.cells.inj (Option.some.inj hc)).2.1
      revert this; decide
    · obtain ⟨_, cs', hc⟩ := own_type m3.rowH e
      rw [Z3.out] at hc
      have := (Obj.cells.inj (Option.some.inj hc)).2.1
      revert this; decide)).trans Z3.out)
  obtain ⟨L4, E4, D4, b4⟩ := duo_right i3 m3 p3 HB3.out ⟨L4, E4, j4, t4, o4⟩
  have D5 := Lib.hid D4
  have B5 := Lib.hid (B3.out.trans b4)
  refine hK _ _ ⟨Z4.out, ?_⟩
  clear hK K hr j4 t4 o4 D4 b4 i3 m3 p3
  try dsimp only
  iterate 2 (refine li_take rfl (by kernel_rfl) (by rfl) Z4.out (by (intro V s0; go_simp) <;> with_reducible rfl) ?_); simp only [Act.put, List.setIfInBounds_toArray, List.set_cons_zero, List.set_cons_succ]
  refine li_done (by kernel_rfl) ?_
  go_wp2_with fail
  go_returns
  exact ⟨by simp, _, _, _, _, D5.out, B5.out⟩
set_option maxRecDepth 100000 in
set_option maxHeartbeats 3200000 in
theorem does_hold {w : World} {B a r : Nat} {F H L E : Value} {x : Nt} (h : Duo w B a r F H L E x) (hB : B ≤ w.heap.size) {k : Nat} (hbd : Bd k x) (hk : k ≤ 2000) (za zb : Int) (zv : ByteArray) (zo : Bool) :
    Calls Try.prog 12 #[.pointer (some ⟨a, 0, none⟩), .pointer (some ⟨r, 0, none⟩), .agg #[.int .i64 5, .int .i64 za, .int .i64 zb, .string zv, .bool zo]] w (DoesP B a r (holdP x za zb).1 w) := by
  have b1 : Below w.heap.size w (w.alloc (.cells #[.int .i64 5, .int .i64 za, .int .i64 zb, .string zv, .bool zo] ActT2)) := (Below.refl _ _).alloc (Nat.le_refl _) _
  have Z1 := Lib.hid (heap_alloc_new w (.cells #[.int .i64 5, .int .i64 za, .int .i64 zb, .string zv, .bool zo] ActT2))
  have D1 := Lib.hid (h.below b1)
  have B1 := Lib.hid (b1.mono hB)
  have HB1 := Lib.hid (Nat.le_trans hB b1.size)
  have HB0 := Lib.hid hB
  have c1 := cellB (j := 1) Z1.out rfl
  have c2 := cellB (j := 2) Z1.out rfl
  have c3 := cellB (j := 3) Z1.out rfl
  have c4 := cellB (j := 4) Z1.out rfl
  have ex0 : ∀ (v u : Value) (W : World), (Instr.extract (.tuple #[v, u]) 0).run Try.prog W = .ok v W := fun v u W => by kernel_rfl
  have ex1 : ∀ (v u : Value) (W : World), (Instr.extract (.tuple #[v, u]) 1).run Try.prog W = .ok u W := fun v u W => by kernel_rfl
  have HBD := Lib.hid hbd
  have HK := Lib.hid hk
  have hp := fun (W : World) (hW : Duo W B a r F H L E x) (hBW : B ≤ W.heap.size) => hold_any hW.n za zb
  generalize hans : holdP x za zb = ans at *
  obtain ⟨y, v2⟩ := ans
  clear h b1 hB hbd hk
  go_enter Try.func12, Try.ntmps12
  go_upto_region 19 with fail
  generalize (w.alloc (.cells #[.int .i64 5, .int .i64 za, .int .i64 zb, .string zv, .bool zo] ActT2)) = W1 at *
  clear c1 c2 c3 c4
  refine li_start [0, 1, 2, 3, 4, 7, 8, 9, 10, 11, 5, 6, 12, 13, 14] (S := fun V => V.heap[w.heap.size]? = some (.cells #[.int .i64 5, .int .i64 za, .int .i64 zb, .string zv, .bool zo] ActT2)) (by kernel_rfl) Z1.out ?_
  simp only [inOrder, List.filterMap, List.getElem?_cons_succ, List.getElem?_cons_zero]
  have HD2 := Lib.hid (D1.out.below (bd W1))
  have B2 := Lib.hid (show Below B w W1.drew from bmore' B1.out (bd W1) HB0.out)
  have HB2 := Lib.hid (show B ≤ W1.drew.heap.size from HB1.out)
  have Z2 := Lib.hid (show W1.drew.heap[w.heap.size]? = _ from Z1.out)
  generalize W1.drew = W2 at *
  iterate 10 (refine li_take rfl (by kernel_rfl) (by rfl) Z2.out (by (intro V s0; have c1 := cellB (j := 1) s0 rfl; have c2 := cellB (j := 2) s0 rfl; have c4 := cellB (j := 4) s0 rfl; go_simp) <;> with_reducible rfl) ?_); simp only [Act.put, List.setIfInBounds_toArray, List.set_cons_zero, List.set_cons_succ]
  refine li_do rfl (by kernel_rfl) (by rfl) (fun K hK => ?_)
  go_simp
  refine (hp _ HD2.out HB2.out).mono ?_
  rintro e w3 ⟨rfl, g3⟩
  obtain ⟨F3, H3, i3, m3, p3, b3, k3⟩ := duo_left HD2.out HB2.out g3
  have Z3 := Lib.hid (k3 _ _ Z2.out)
  have B3 := Lib.hid (B2.out.trans b3)
  have HB3 := Lib.hid (Nat.le_trans HB2.out b3.size)
  have hr := rhold_any m3 za zb
  rw [hans] at hr
  refine hK _ _ ⟨Z3.out, ?_⟩
  clear hK K hp g3 b3 k3
  try dsimp only
  refine li_do rfl (by kernel_rfl) (by rfl) (fun K hK => ?_)
  go_simp
  refine (num15 _ _).mono ?_
  rintro e w4 ⟨rfl, rfl⟩
  refine hK _ _ ⟨Z3.out, ?_⟩
  clear hK K
  try simp only [Act.put, List.setIfInBounds_toArray, List.set_cons_zero, List.set_cons_succ]
  refine li_do rfl (by kernel_rfl) (by rfl) (fun K hK => ?_)
  go_simp
  refine hr.mono ?_
  rintro e w4 ⟨rfl, L4, E4, j4, t4, o4⟩
  have Z4 := Lib.hid ((t4.block w.heap.size (Array.getElem?_eq_some_iff.1 Z3.out).1 (fun e => by
    rcases e with e | e | e
    · obtain ⟨cur, hc, _⟩ := m3.lay
      rw [← e, Z3.out] at hc
      have := (Obj.cells.inj (Option.some.inj hc)).2.1
      revert this; decide
    · obtain ⟨_, cs', hc⟩ := own_type m3.rowF e
      rw [Z3.out] at hc
      have := (Obj.cells.inj (Option.some.inj hc)).2.1
      revert this; decide
    · obtain ⟨_, cs', hc⟩ := own_type m3.rowH e
      rw [Z3.out] at hc
      have := (Obj.cells.inj (Option.some.inj hc)).2.1
      revert this; decide)).trans Z3.out)
  obtain ⟨L4, E4, D4, b4⟩ := duo_right i3 m3 p3 HB3.out ⟨L4, E4, j4, t4, o4⟩
  have D5 := Lib.hid D4
  have B5 := Lib.hid (B3.out.trans b4)
  refine hK _ _ ⟨Z4.out, ?_⟩
  clear hK K hr j4 t4 o4 D4 b4 i3 m3 p3
  try dsimp only
  iterate 2 (refine li_take rfl (by kernel_rfl) (by rfl) Z4.out (by (intro V s0; go_simp) <;> with_reducible rfl) ?_); simp only [Act.put, List.setIfInBounds_toArray, List.set_cons_zero, List.set_cons_succ]
  refine li_done (by kernel_rfl) ?_
  go_wp2_with fail
  go_returns
  exact ⟨by simp, _, _, _, _, D5.out, B5.out⟩
set_option maxRecDepth 100000 in
set_option maxHeartbeats 3200000 in
theorem does_cut {w : World} {B a r : Nat} {F H L E : Value} {x : Nt} (h : Duo w B a r F H L E x) (hB : B ≤ w.heap.size) {k : Nat} (hbd : Bd k x) (hk : k ≤ 2000) (za zb : Int) (zv : ByteArray) (zo : Bool) :
    Calls Try.prog 12 #[.pointer (some ⟨a, 0, none⟩), .pointer (some ⟨r, 0, none⟩), .agg #[.int .i64 7, .int .i64 za, .int .i64 zb, .string zv, .bool zo]] w (DoesP B a r (cutP x za zb zo).1 w) := by
  have b1 : Below w.heap.size w (w.alloc (.cells #[.int .i64 7, .int .i64 za, .int .i64 zb, .string zv, .bool zo] ActT2)) := (Below.refl _ _).alloc (Nat.le_refl _) _
  have Z1 := Lib.hid (heap_alloc_new w (.cells #[.int .i64 7, .int .i64 za, .int .i64 zb, .string zv, .bool zo] ActT2))
  have D1 := Lib.hid (h.below b1)
  have B1 := Lib.hid (b1.mono hB)
  have HB1 := Lib.hid (Nat.le_trans hB b1.size)
  have HB0 := Lib.hid hB
  have c1 := cellB (j := 1) Z1.out rfl
  have c2 := cellB (j := 2) Z1.out rfl
  have c3 := cellB (j := 3) Z1.out rfl
  have c4 := cellB (j := 4) Z1.out rfl
  have ex0 : ∀ (v u : Value) (W : World), (Instr.extract (.tuple #[v, u]) 0).run Try.prog W = .ok v W := fun v u W => by kernel_rfl
  have ex1 : ∀ (v u : Value) (W : World), (Instr.extract (.tuple #[v, u]) 1).run Try.prog W = .ok u W := fun v u W => by kernel_rfl
  have HBD := Lib.hid hbd
  have HK := Lib.hid hk
  have hp := fun (W : World) (hW : Duo W B a r F H L E x) (hBW : B ≤ W.heap.size) => cut_any hW.n za zb zo
  generalize hans : cutP x za zb zo = ans at *
  obtain ⟨y, v2⟩ := ans
  clear h b1 hB hbd hk
  go_enter Try.func12, Try.ntmps12
  go_upto_region 24 with fail
  generalize (w.alloc (.cells #[.int .i64 7, .int .i64 za, .int .i64 zb, .string zv, .bool zo] ActT2)) = W1 at *
  clear c1 c2 c3 c4
  refine li_start [0, 1, 2, 3, 4, 5, 6, 9, 10, 11, 12, 13, 14, 15, 7, 8, 16, 17, 18] (S := fun V => V.heap[w.heap.size]? = some (.cells #[.int .i64 7, .int .i64 za, .int .i64 zb, .string zv, .bool zo] ActT2)) (by kernel_rfl) Z1.out ?_
  simp only [inOrder, List.filterMap, List.getElem?_cons_succ, List.getElem?_cons_zero]
  have HD2 := Lib.hid (D1.out.below (bd W1))
  have B2 := Lib.hid (show Below B w W1.drew from bmore' B1.out (bd W1) HB0.out)
  have HB2 := Lib.hid (show B ≤ W1.drew.heap.size from HB1.out)
  have Z2 := Lib.hid (show W1.drew.heap[w.heap.size]? = _ from Z1.out)
  generalize W1.drew = W2 at *
  iterate 14 (refine li_take rfl (by kernel_rfl) (by rfl) Z2.out (by (intro V s0; have c1 := cellB (j := 1) s0 rfl; have c2 := cellB (j := 2) s0 rfl; have c4 := cellB (j := 4) s0 rfl; go_simp) <;> with_reducible rfl) ?_); simp only [Act.put, List.setIfInBounds_toArray, List.set_cons_zero, List.set_cons_succ]
  refine li_do rfl (by kernel_rfl) (by rfl) (fun K hK => ?_)
  go_simp
  refine (hp _ HD2.out HB2.out).mono ?_
  rintro e w3 ⟨rfl, g3⟩
  obtain ⟨F3, H3, i3, m3, p3, b3, k3⟩ := duo_left HD2.out HB2.out g3
  have Z3 := Lib.hid (k3 _ _ Z2.out)
  have B3 := Lib.hid (B2.out.trans b3)
  have HB3 := Lib.hid (Nat.le_trans HB2.out b3.size)
  have hr := rcut_any m3 za zb zo
  rw [hans] at hr
  refine hK _ _ ⟨Z3.out, ?_⟩
  clear hK K hp g3 b3 k3
  try dsimp only
  refine li_do rfl (by kernel_rfl) (by rfl) (fun K hK => ?_)
  go_simp
  refine (num15 _ _).mono ?_
  rintro e w4 ⟨rfl, rfl⟩
  refine hK _ _ ⟨Z3.out, ?_⟩
  clear hK K
  try simp only [Act.put, List.setIfInBounds_toArray, List.set_cons_zero, List.set_cons_succ]
  refine li_do rfl (by kernel_rfl) (by rfl) (fun K hK => ?_)
  go_simp
  refine hr.mono ?_
  rintro e w4 ⟨rfl, L4, E4, j4, t4, o4⟩
  have Z4 := Lib.hid ((t4.block w.heap.size (Array.getElem?_eq_some_iff.1 Z3.out).1 (fun e => by
    rcases e with e | e | e
    · obtain ⟨cur, hc, _⟩ := m3.lay
      rw [← e, Z3.out] at hc
      have := (Obj.cells.inj (Option.some.inj hc)).2.1
      revert this; decide
    · obtain ⟨_, cs', hc⟩ := own_type m3.rowF e
      rw [Z3.out] at hc
      have := (Obj.cells.inj (Option.some.inj hc)).2.1
      revert this; decide
    · obtain ⟨_, cs', hc⟩ := own_type m3.rowH e
      rw [Z3.out] at hc
      have := (Obj.cells.inj (Option.some.inj hc)).2.1
      revert this; decide)).trans Z3.out)
  obtain ⟨L4, E4, D4, b4⟩ := duo_right i3 m3 p3 HB3.out ⟨L4, E4, j4, t4, o4⟩
  have D5 := Lib.hid D4
  have B5 := Lib.hid (B3.out.trans b4)
  refine hK _ _ ⟨Z4.out, ?_⟩
  clear hK K hr j4 t4 o4 D4 b4 i3 m3 p3
  try dsimp only
  iterate 2 (refine li_take rfl (by kernel_rfl) (by rfl) Z4.out (by (intro V s0; go_simp) <;> with_reducible rfl) ?_); simp only [Act.put, List.setIfInBounds_toArray, List.set_cons_zero, List.set_cons_succ]
  refine li_done (by kernel_rfl) ?_
  go_wp2_with fail
  go_returns
  exact ⟨by simp, _, _, _, _, D5.out, B5.out⟩
set_option maxRecDepth 100000 in
set_option maxHeartbeats 3200000 in
theorem does_tick {w : World} {B a r : Nat} {F H L E : Value} {x : Nt} (h : Duo w B a r F H L E x) (hB : B ≤ w.heap.size) {k : Nat} (hbd : Bd k x) (hk : k ≤ 2000) (za zb : Int) (zv : ByteArray) (zo : Bool) :
    Calls Try.prog 12 #[.pointer (some ⟨a, 0, none⟩), .pointer (some ⟨r, 0, none⟩), .agg #[.int .i64 6, .int .i64 za, .int .i64 zb, .string zv, .bool zo]] w (DoesP B a r (tickP x) w) := by
  have b1 : Below w.heap.size w (w.alloc (.cells #[.int .i64 6, .int .i64 za, .int .i64 zb, .string zv, .bool zo] ActT2)) := (Below.refl _ _).alloc (Nat.le_refl _) _
  have Z1 := Lib.hid (heap_alloc_new w (.cells #[.int .i64 6, .int .i64 za, .int .i64 zb, .string zv, .bool zo] ActT2))
  have D1 := Lib.hid (h.below b1)
  have B1 := Lib.hid (b1.mono hB)
  have HB1 := Lib.hid (Nat.le_trans hB b1.size)
  have HB0 := Lib.hid hB
  have c1 := cellB (j := 1) Z1.out rfl
  have c2 := cellB (j := 2) Z1.out rfl
  have c3 := cellB (j := 3) Z1.out rfl
  have c4 := cellB (j := 4) Z1.out rfl
  have ex0 : ∀ (v u : Value) (W : World), (Instr.extract (.tuple #[v, u]) 0).run Try.prog W = .ok v W := fun v u W => by kernel_rfl
  have ex1 : ∀ (v u : Value) (W : World), (Instr.extract (.tuple #[v, u]) 1).run Try.prog W = .ok u W := fun v u W => by kernel_rfl
  have HBD := Lib.hid hbd
  have HK := Lib.hid hk
  have hp := tick_any D1.out.n (by have := hbd.fl; omega) (fun p hp => ⟨(hbd.pk p hp).2.2.1, (hbd.pk p hp).2.2.2⟩)
  clear h b1 hB hbd hk
  go_enter Try.func12, Try.ntmps12
  go_upto_region 21 with fail
  generalize (w.alloc (.cells #[.int .i64 6, .int .i64 za, .int .i64 zb, .string zv, .bool zo] ActT2)) = W1 at *
  go_wp2_with fail
  refine hp.mono ?_
  rintro e w2 ⟨rfl, g2⟩
  obtain ⟨F2, H2, i2, m2, p2, b2, k2⟩ := duo_left D1.out HB1.out g2
  have I2 := Lib.hid i2
  have P2 := Lib.hid p2
  have M2 := Lib.hid m2
  have B2 := Lib.hid (B1.out.trans b2)
  have HB2 := Lib.hid (Nat.le_trans HB1.out b2.size)
  have hr := rtick_any m2 (by have := HBD.out.fl; have := HK.out; omega) (fun p hp => ⟨(HBD.out.pk p hp).2.2.1, (HBD.out.pk p hp).2.2.2⟩)
  clear hp g2 i2 p2 b2 k2 c1 c2 c3 c4 m2
  go_wp2_with fail
  refine hr.mono ?_
  rintro e w4 ⟨rfl, g4⟩
  obtain ⟨L4, E4, D4, b4⟩ := duo_right I2.out M2.out P2.out HB2.out g4
  have D5 := Lib.hid D4
  have B5 := Lib.hid (B2.out.trans b4)
  clear hr g4 D4 b4
  go_wp2_with fail
  go_returns
  exact ⟨rfl, _, _, _, _, D5.out, B5.out⟩
set_option maxRecDepth 100000 in
set_option maxHeartbeats 3200000 in
theorem does_other {w : World} {B a r : Nat} {F H L E : Value} {x : Nt} (h : Duo w B a r F H L E x) (hB : B ≤ w.heap.size) {k : Nat} (hbd : Bd k x) (hk : k ≤ 2000) (kd : Int) (za zb : Int) (zv : ByteArray) (zo : Bool) (h0 : kd ≠ 0) (h1 : kd ≠ 1) (h2 : kd ≠ 2) (h3 : kd ≠ 3) (h4 : kd ≠ 4) (h5 : kd ≠ 5) (h6 : kd ≠ 6) (h7 : kd ≠ 7) :
    Calls Try.prog 12 #[.pointer (some ⟨a, 0, none⟩), .pointer (some ⟨r, 0, none⟩), .agg #[.int .i64 kd, .int .i64 za, .int .i64 zb, .string zv, .bool zo]] w (DoesP B a r x w) := by
  have b1 : Below w.heap.size w (w.alloc (.cells #[.int .i64 kd, .int .i64 za, .int .i64 zb, .string zv, .bool zo] ActT2)) := (Below.refl _ _).alloc (Nat.le_refl _) _
  have Z1 := Lib.hid (heap_alloc_new w (.cells #[.int .i64 kd, .int .i64 za, .int .i64 zb, .string zv, .bool zo] ActT2))
  have D1 := Lib.hid (h.below b1)
  have B1 := Lib.hid (b1.mono hB)
  have HB1 := Lib.hid (Nat.le_trans hB b1.size)
  have HB0 := Lib.hid hB
  have c1 := cellB (j := 1) Z1.out rfl
  have c2 := cellB (j := 2) Z1.out rfl
  have c3 := cellB (j := 3) Z1.out rfl
  have c4 := cellB (j := 4) Z1.out rfl
  have ex0 : ∀ (v u : Value) (W : World), (Instr.extract (.tuple #[v, u]) 0).run Try.prog W = .ok v W := fun v u W => by kernel_rfl
  have ex1 : ∀ (v u : Value) (W : World), (Instr.extract (.tuple #[v, u]) 1).run Try.prog W = .ok u W := fun v u W => by kernel_rfl
  have HBD := Lib.hid hbd
  have HK := Lib.hid hk
  have hn0 : decide (kd = 0) = false := by simpa using h0
  have hn1 : decide (kd = 1) = false := by simpa using h1
  have hn2 : decide (kd = 2) = false := by simpa using h2
  have hn3 : decide (kd = 3) = false := by simpa using h3
  have hn4 : decide (kd = 4) = false := by simpa using h4
  have hn5 : decide (kd = 5) = false := by simpa using h5
  have hn6 : decide (kd = 6) = false := by simpa using h6
  have hn7 : decide (kd = 7) = false := by simpa using h7
  clear h b1 hB hbd hk
  go_enter Try.func12, Try.ntmps12
  go_wp2_with fail
  go_returns
  exact ⟨rfl, _, _, _, _, D1.out, B1.out⟩
theorem does_any {w : World} {B a r : Nat} {F H L E : Value} {x : Nt} (h : Duo w B a r F H L E x) (hB : B ≤ w.heap.size) {k : Nat} (hbd : Bd k x) (hk : k ≤ 2000) (c : Ac) :
    Calls Try.prog 12 #[.pointer (some ⟨a, 0, none⟩), .pointer (some ⟨r, 0, none⟩), .agg #[.int .i64 c.kd, .int .i64 c.a, .int .i64 c.b, .string c.v, .bool c.on]] w (DoesP B a r (stepP x c) w) := by
  obtain ⟨kd, za, zb, zv, zo⟩ := c
  unfold stepP
  by_cases h0 : kd = 0
  · subst h0; rw [if_pos rfl]; exact does_send h hB hbd hk za zb zv zo
  by_cases h1 : kd = 1
  · subst h1; rw [if_neg (by simp), if_pos rfl]; exact does_del h hB hbd hk za zb zv zo
  by_cases h2 : kd = 2
  · subst h2; rw [if_neg (by simp), if_neg (by simp), if_pos rfl]; exact does_drop h hB hbd hk za zb zv zo
  by_cases h3 : kd = 3
  · subst h3; rw [if_neg (by simp), if_neg (by simp), if_neg (by simp), if_pos rfl]; exact does_dbl h hB hbd hk za zb zv zo
  by_cases h4 : kd = 4
  · subst h4; rw [if_neg (by simp), if_neg (by simp), if_neg (by simp), if_neg (by simp), if_pos rfl]; exact does_mov h hB hbd hk za zb zv zo
  by_cases h5 : kd = 5
  · subst h5; rw [if_neg (by simp), if_neg (by simp), if_neg (by simp), if_neg (by simp), if_neg (by simp), if_pos rfl]; exact does_hold h hB hbd hk za zb zv zo
  by_cases h6 : kd = 6
  · subst h6; rw [if_neg (by simp), if_neg (by simp), if_neg (by simp), if_neg (by simp), if_neg (by simp), if_neg (by simp), if_pos rfl]; exact does_tick h hB hbd hk za zb zv zo
  by_cases h7 : kd = 7
  · subst h7; rw [if_neg (by simp), if_neg (by simp), if_neg (by simp), if_neg (by simp), if_neg (by simp), if_neg (by simp), if_neg (by simp), if_pos rfl]; exact does_cut h hB hbd hk za zb zv zo
  rw [if_neg h0, if_neg h1, if_neg h2, if_neg h3, if_neg h4, if_neg h5, if_neg h6, if_neg h7]
  exact does_other h hB hbd hk kd za zb zv zo h0 h1 h2 h3 h4 h5 h6 h7
end Go.Proofs.Ytgnmieobgdbafaa
