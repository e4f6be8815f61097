/-
  NetOrder: what nobody moves comes in order. The walk.
-/
import Derived.Test.YtgnmieobgdbafaaNBd
import Derived.LoopN
namespace Go.Proofs.Ytgnmieobgdbafaa
open Go.RowKit
set_option linter.unusedVariables false
/-- The net and the list of what was sent, of which n came. -/
structure OrdI (N : Nat) (wr : World) (k : Nat) (u : Value) (x : Nt) (sent : List Pk) (n : Nat) (F H : Value) : Prop where
  net : IsN wr N N F H x
  bd : Bd k x
  row : wr.ownsRow N PkT 5 u sent.length (pks sent)
  apart : ∀ j, u.ownBlock = some j → ¬ OwnN N F H j
  fl : x.fl = sent.drop n
  le : n ≤ sent.length
  len : sent.length ≤ k
  hl : ∀ p ∈ x.fl, p.hl = 0
  cut : ∀ j, x.cut j = false
theorem OrdI.below {N : Nat} {w w' : World} {k : Nat} {u : Value} {x : Nt} {sent : List Pk} {n : Nat} {F H : Value} (h : OrdI N w k u x sent n F H) (hb : Below w.heap.size w w') : OrdI N w' k u x sent n F H :=
  ⟨h.net.below hb, h.bd, own_keep h.row (touch_of_below hb (fun _ => False)) (fun _ _ h => h), h.apart, h.fl, h.le, h.len, h.hl, h.cut⟩
theorem OrdI.more {N : Nat} {w : World} {k : Nat} {u : Value} {x : Nt} {sent : List Pk} {n : Nat} {F H : Value} (h : OrdI N w k u x sent n F H) : OrdI N w (k + 1) u x sent n F H :=
  ⟨h.net, h.bd.more (Nat.le_succ _), h.row, h.apart, h.fl, h.le, Nat.le_succ_of_le h.len, h.hl, h.cut⟩
/-- The list stays where the net alone was turned. -/
theorem OrdI.rowed {N : Nat} {w w' : World} {k : Nat} {u : Value} {x : Nt} {sent : List Pk} {n : Nat} {F H F' H' : Value} (h : OrdI N w k u x sent n F H) (ht : Touch (OwnN N F H) w w') (ho : ∀ j, OwnN N F' H' j → OwnN N F H j ∨ w.heap.size ≤ j) :
    w'.ownsRow N PkT 5 u sent.length (pks sent) ∧ ∀ j, u.ownBlock = some j → ¬ OwnN N F' H' j :=
  ⟨own_keep h.row ht h.apart, fun j hj e => by
    rcases ho j e with e | e
    · exact h.apart j hj e
    · have := (own_from h.row hj).2; omega⟩
theorem OrdI.front {N : Nat} {w : World} {k : Nat} {u : Value} {x : Nt} {sent : List Pk} {n : Nat} {F H : Value} (h : OrdI N w k u x sent n F H) : (n = sent.length ∧ delP x 0 = (x, zeroP, 7)) ∨
    ∃ p, sent[n]? = some p ∧ n < sent.length ∧ delP x 0 = ({ x with fl := sent.drop (n + 1), cm := upd x.cm (lk p.fr p.tt) (x.cm (lk p.fr p.tt) + 1) }, p, 0) := by
  by_cases hn : n < sent.length
  · obtain ⟨p, hp⟩ : ∃ p, sent[n]? = some p := ⟨_, List.getElem?_eq_getElem hn⟩
    have e : x.fl = p :: sent.drop (n + 1) := by
      rw [h.fl, ← List.getElem_cons_drop hn, (List.getElem?_eq_some_iff.1 hp).2]
    have hg : getP x.fl ((0 : Nat) : Int) = some p := getP_at (by rw [e]; rfl)
    have hs : stopP x p = 0 := by
      unfold stopP
      rw [h.hl p (by rw [e]; simp), if_neg (by omega), h.cut, if_neg (by simp)]
    refine .inr ⟨p, hp, hn, (delP_ok (k := 0) hg hs).trans ?_⟩
    have : outP x.fl 0 = sent.drop (n + 1) := by rw [e]; rfl
    rw [this]
  · have e : x.fl = [] := by rw [h.fl]; exact List.drop_eq_nil_of_le (by omega)
    exact .inl ⟨by have := h.le; omega, delP_no (getP_none.2 (.inr (by rw [e]; simp)))⟩
abbrev ActT : TypeId := 31
set_option maxRecDepth 20000 in
set_option maxHeartbeats 3200000 in
theorem order_long {w : World} {v : Value} {l : List Ac} (h : Row w 5 v l.length (acs l)) (hl : 200 < l.length) :
    Calls Try.prog 5 #[v] w fun e w' => e = .returned (.bool true) ∧ Below w.heap.size w w' := by
  have HA := Lib.hid h
  clear h
  go_enter Try.func5, Try.ntmps5
  go_wp2_with fail
  refine (huge_long HA.out HA.out.small hl).mono ?_
  rintro e w1 ⟨rfl, rfl⟩
  go_wp2_with fail
  refine (live15 w).mono ?_
  rintro e w2 ⟨rfl, b2⟩
  have B2 := Lib.hid b2
  clear b2
  go_wp2_with fail
  go_returns
  exact ⟨rfl, B2.out⟩
set_option maxRecDepth 100000 in
set_option maxHeartbeats 3200000 in
theorem order_walk {w : World} {v : Value} {l : List Ac} (h : Row w 5 v l.length (acs l)) (hok : ∀ c ∈ l, AcOk c) (hl : l.length ≤ 200) :
    Calls Try.prog 5 #[v] w fun e w' => e = .returned (.bool true) ∧ Below w.heap.size w w' := by
  have ex0 : ∀ (v u : Value) (W : World), (Instr.extract (.tuple #[v, u]) 0).run Try.prog W = .ok v W := fun v u W => by kernel_rfl
  have ex1 : ∀ (v u : Value) (W : World), (Instr.extract (.tuple #[v, u]) 1).run Try.prog W = .ok u W := fun v u W => by kernel_rfl
  have HL := Lib.hid hl
  have hlong := huge_any h hl
  obtain ⟨aa, ca, rfl, xa⟩ := h.at2
  have XA := Lib.hid xa
  clear h hok hl xa
  go_enter Try.func5, Try.ntmps5
  go_wp2_with fail
  refine hlong.mono ?_
  clear hlong
  rintro e w1 ⟨rfl | rfl, rfl⟩
  · go_wp2_with fail
    refine (live15 w).mono ?_
    rintro e w2 ⟨rfl, b2⟩
    have B2 := Lib.hid b2
    clear b2
    go_wp2_with fail
    go_returns
    exact ⟨rfl, B2.out⟩
  · go_wp2_with fail
    refine (new_any w).mono ?_
    rintro e w1 ⟨rfl, h1, b1⟩
    have O1 := Lib.hid (show OrdI w.heap.size w1 0 (.slice none 0 0) newNt [] 0 (.slice none 0 0) (.slice none 0 0) from
      ⟨h1, Bd.new, World.ownsRow_nil _ _ _ 5, fun j hj => (by cases hj), rfl, Nat.le_refl _, Nat.le_refl _, fun p hp => (by cases hp), fun j => rfl⟩)
    have B1 := Lib.hid b1
    clear h1 b1
    go_wp2_with fail
    go_loopw [6, 4, 5] (fun v u t wr => ∃ (k n : Nat) (x : Nt) (sent : List Pk) (F H : Value), v = .int .i64 (k : Int) ∧ t = .int .i64 (n : Int) ∧ k ≤ l.length ∧ OrdI w.heap.size wr k u x sent n F H ∧ Below w.heap.size w wr) (fun v _ _ _ => 202 - (intOf v).toNat)
    case atStart => exact ⟨0, 0, newNt, [], _, _, rfl, rfl, Nat.zero_le _, O1.out, B1.out⟩
    case round =>
      obtain ⟨k, n, x, sent, F, H, rfl, rfl, hk, hO, hb⟩ := hrel
      have HO := Lib.hid hO
      have HB := Lib.hid hb
      clear hO hb
      by_cases hlt : k < l.length
      · obtain ⟨b, o, rfl, q1⟩ := XA.out (by omega)
        have q2 := acs_at l k hlt
        have d0 := bcellAt HB.out (q1 _ _ q2.1)
        have d1 := bcellAt HB.out (q1 _ _ q2.2.1)
        have d2 := bcellAt HB.out (q1 _ _ q2.2.2.1)
        have d3 := bcellAt HB.out (q1 _ _ q2.2.2.2.1)
        have d4 := bcellAt HB.out (q1 _ _ q2.2.2.2.2)
        rw [← Nat.add_assoc] at d1 d2 d3 d4
        clear q1 q2 XA
        generalize l[k] = c at *
        obtain ⟨kd, za, zb, zv, zo⟩ := c
        simp only at d0 d1 d2 d3 d4
        have b2 : Below wr.heap.size wr (wr.alloc (.cells #[.int .i64 kd, .int .i64 za, .int .i64 zb, .string zv, .bool zo] ActT)) := (Below.refl _ _).alloc (Nat.le_refl _) _
        have Z2 := Lib.hid (heap_alloc_new wr (.cells #[.int .i64 kd, .int .i64 za, .int .i64 zb, .string zv, .bool zo] ActT))
        have O2 := Lib.hid (HO.out.below b2)
        have B2 := Lib.hid (bmore HB.out b2)
        have L2 : Hid (wr.heap.size < (wr.alloc (.cells #[.int .i64 kd, .int .i64 za, .int .i64 zb, .string zv, .bool zo] ActT)).heap.size) := Lib.hid (by simp)
        have N2 : Hid (w.heap.size ≤ wr.heap.size) := Lib.hid HB.out.size
        have hlt1 : decide ((k : Int) < (l.length : Int)) = true := by simpa using hlt
        have hk0 : (0 : Int) ≤ (k : Int) := by omega
        have hk1 : (k : Int) < (l.length : Int) := by omega
        have hwk : IntKind.i64.wrap ((k : Int) + 1) = (k : Int) + 1 := IntWalk.i64_in _ (by have := HL.out; omega)
        have HLT := Lib.hid hlt
        clear hk hlt b2
        by_cases hkd : kd = 0
        · subst hkd
          go_upto_region 13 with fail
          generalize (wr.alloc (.cells #[.int .i64 0, .int .i64 za, .int .i64 zb, .string zv, .bool zo] ActT)) = W2 at *
          have c1 := cellB (j := 1) Z2.out rfl
          have c2 := cellB (j := 2) Z2.out rfl
          have c3 := cellB (j := 3) Z2.out rfl
          have hsd := send_any O2.out.net B2.out.size (by have := O2.out.bd.ids; have := HLT.out; have := HL.out; omega) za zb zv (O2.out.bd.st9 (by have := HLT.out; have := HL.out; omega))
          clear d0 d1 d2 d3 d4
          rcases sendP_cases x za zb zv with ⟨ee, hne, hse⟩ | ⟨fi, ti, rfl, rfl, hfi, hti, _, hse⟩
          · rw [hse] at hsd
            have hne2 : (ee == 0) = false := by simpa using hne
            have hne3 : decide (ee = 0) = false := by simpa using hne
            go_wp2_with fail
            refine hsd.mono ?_
            rintro e w3 ⟨rfl, F3, H3, i3, t3, o3⟩
            have O3 := Lib.hid (show OrdI w.heap.size w3 (k + 1) _ x sent n F3 H3 from
              ⟨i3, O2.out.bd.more (Nat.le_succ _), (O2.out.rowed t3 o3).1, (O2.out.rowed t3 o3).2, O2.out.fl, O2.out.le, Nat.le_succ_of_le O2.out.len, O2.out.hl, O2.out.cut⟩)
            have B3 := Lib.hid (B2.out.trans (t3.below B2.out.size (fun j hj => (O2.out.net.own_lt hj).1)))
            clear i3 t3 o3 hsd c1 c2 c3
            go_wp2_with fail
            refine (num15 _ _).mono ?_
            rintro e w4 ⟨rfl, rfl⟩
            go_wp2_with fail
            go_roundw
            case rel => exact ⟨k + 1, n, x, sent, F3, H3, by simp, rfl, HLT.out, O3.out, B3.out⟩
            case measure => have := HLT.out; have := HL.out; simp [intOf]; omega
          · rw [hse] at hsd
            have hbd := O2.out.bd.send (fi : Int) (ti : Int) zv
            rw [hse] at hbd
            have HBD := Lib.hid hbd
            clear hbd
            go_wp2_with fail
            refine hsd.mono ?_
            rintro e w3 ⟨rfl, F3, H3, i3, t3, o3⟩
            have R3 := Lib.hid (O2.out.rowed t3 o3)
            have I3 := Lib.hid i3
            have Z3 := Lib.hid ((t3.block wr.heap.size L2.out (fun e => by have := (HO.out.net.own_lt e).2; omega)).trans Z2.out)
            have B3 := Lib.hid (B2.out.trans (t3.below B2.out.size (fun j hj => (O2.out.net.own_lt hj).1)))
            clear i3 t3 o3 hsd c1 c2 c3
            have c1 := cellB (j := 1) Z3.out rfl
            have c2 := cellB (j := 2) Z3.out rfl
            have c3 := cellB (j := 3) Z3.out rfl
            go_wp2_with fail
            refine (num15 _ _).mono ?_
            rintro e w4 ⟨rfl, rfl⟩
            have b5 : Below w3.heap.size w3 (w3.alloc (.cells (pkCells ⟨x.ids + 1, fi, ti, zv, 0⟩) PkT)) := (Below.refl _ _).alloc (Nat.le_refl _) _
            have B5 := Lib.hid (bmore B3.out b5)
            have Y5 := Lib.hid (heap_alloc_new w3 (.cells (pkCells ⟨x.ids + 1, fi, ti, zv, 0⟩) PkT))
            have I5 := Lib.hid (I3.out.below b5)
            have R5 := Lib.hid (own_keep R3.out.1 (touch_of_below b5 (fun _ => False)) (fun _ _ h => h))
            have HSL := Lib.hid (show sent.length ≤ 1000000 by have := O2.out.len; have := HLT.out; have := HL.out; omega)
            have HS5 : Hid ((w3.alloc (.cells (pkCells ⟨x.ids + 1, fi, ti, zv, 0⟩) PkT)).heap.size = w3.heap.size + 1) := Lib.hid (by simp)
            go_wp2_with (at_builtin; refine wpList_app1 rfl _ _ rfl w.heap.size _ sent rfl R5.out w3.heap.size ⟨x.ids + 1, fi, ti, zv, 0⟩ rfl Y5.out HSL.out B5.out.size ?_)
            intro v6 w6 o6 g6 at6
            have t6 := touch_of_grown g6 (fun j => (u4).ownBlock = some j) (fun j hj => hj)
            have hO6 : OrdI w.heap.size w6 (k + 1) v6 { x with ids := x.ids + 1, fl := x.fl ++ [⟨x.ids + 1, fi, ti, zv, 0⟩], hd := x.hd ++ [⟨x.ids + 1, fi, ti, zv, 0⟩], st := upd x.st (lk fi ti) (x.st (lk fi ti) + 1) } (sent ++ [⟨x.ids + 1, fi, ti, zv, 0⟩]) n F3 H3 := by
              refine ⟨I5.out.keep t6 (fun j hj e => R3.out.2 j e hj), HBD.out, by rw [List.length_append]; exact o6, fun j hj e => ?_, ?_, by have := O2.out.le; simp; omega, by have := O2.out.len; simp; omega, fun p hp => ?_, O2.out.cut⟩
              · rcases at6 with e6 | e6
                · exact R3.out.2 j (e6 ▸ hj) e
                · have e7 : w3.heap.size + 1 = j := by rw [e6] at hj; exact Option.some.inj hj
                  have := (I3.out.own_lt e).2; omega
              · show x.fl ++ [_] = _
                rw [O2.out.fl, List.drop_append_of_le_length O2.out.le]
              · rcases List.mem_append.1 (show p ∈ x.fl ++ [_] from hp) with hp | hp
                · exact O2.out.hl p hp
                · rw [List.mem_singleton.1 hp]
            have O6 := Lib.hid hO6
            have B6 := Lib.hid (B5.out.grown g6 B5.out.size (fun j hj => (own_from R5.out hj).1))
            clear hO6 o6 g6 at6 t6 c1 c2 c3
            go_wp2_with fail
            go_roundw
            case rel => exact ⟨k + 1, n, _, _, F3, H3, by simp, rfl, HLT.out, O6.out, B6.out⟩
            case measure => have := HLT.out; have := HL.out; simp [intOf]; omega
        · have hkd2 : decide (kd = 0) = false := by simpa using hkd
          have hkd3 : (kd == 0) = false := by simpa using hkd
          go_upto_region 16 with fail
          generalize (wr.alloc (.cells #[.int .i64 kd, .int .i64 za, .int .i64 zb, .string zv, .bool zo] ActT)) = W2 at *
          have hdl := deliver_any O2.out.net (by have := O2.out.bd.fl; have := HLT.out; have := HL.out; omega) 0 (fun p hp => ⟨(O2.out.bd.pk p hp).1, (O2.out.bd.pk p hp).2.1⟩) (O2.out.bd.cm9 (by have := HLT.out; have := HL.out; omega))
          obtain ⟨ua, uc, rfl⟩ := slice_of O2.out.row
          clear d0 d1 d2 d3 d4 hkd hkd2 hkd3
          have HBD := Lib.hid (O2.out.bd.del 0)
          rcases O2.out.front with ⟨hn, hde⟩ | ⟨p, hp, hn, hde⟩
          · rw [hde] at hdl
            subst hn
            go_wp2_with fail
            refine hdl.mono ?_
            rintro e w3 ⟨rfl, F3, H3, i3, t3, o3⟩
            have hO3 : OrdI w.heap.size w3 (k + 1) _ x sent sent.length F3 H3 :=
              ⟨i3, O2.out.bd.more (Nat.le_succ _), (O2.out.rowed t3 o3).1, (O2.out.rowed t3 o3).2, O2.out.fl, O2.out.le, Nat.le_succ_of_le O2.out.len, O2.out.hl, O2.out.cut⟩
            have b4 : Below w3.heap.size w3 (w3.alloc (.cells (pkCells zeroP) PkT)) := (Below.refl _ _).alloc (Nat.le_refl _) _
            have O4 := Lib.hid (hO3.below b4)
            have B4 := Lib.hid (bmore (B2.out.trans (t3.below B2.out.size (fun j hj => (O2.out.net.own_lt hj).1))) b4)
            have e0 : decide ((sent.length : Int) < (sent.length : Int)) = false := by simp
            clear i3 t3 o3 hdl hO3 b4
            go_wp2_with fail
            rw [show (w3.alloc (.cells #[.int .i64 zeroP.id, .int .i64 (zeroP.fr : Int), .int .i64 (zeroP.tt : Int), .string zeroP.bd, .int .i64 zeroP.hl] PkT)) = (w3.alloc (.cells (pkCells zeroP) PkT)) from rfl]
            generalize (w3.alloc (.cells (pkCells zeroP) PkT)) = W4 at *
            refine (num15 _ _).mono ?_
            rintro e w5 ⟨rfl, rfl⟩
            go_wp2_with fail
            refine (num15 _ _).mono ?_
            rintro e w5 ⟨rfl, rfl⟩
            go_wp2_with fail
            go_roundw
            case rel => exact ⟨k + 1, _, x, sent, F3, H3, by simp, rfl, HLT.out, O4.out, B4.out⟩
            case measure => have := HLT.out; have := HL.out; simp [intOf]; omega
          · rw [hde] at hdl
            have hbd := HBD.out
            rw [hde] at hbd
            have HBD2 := Lib.hid hbd
            clear hbd HBD
            go_wp2_with fail
            refine hdl.mono ?_
            rintro e w3 ⟨rfl, F3, H3, i3, t3, o3⟩
            have hO3 : OrdI w.heap.size w3 (k + 1) _ _ sent (n + 1) F3 H3 :=
              ⟨i3, HBD2.out, (O2.out.rowed t3 o3).1, (O2.out.rowed t3 o3).2, rfl, hn, Nat.le_succ_of_le O2.out.len, fun q hq => O2.out.hl q (by rw [O2.out.fl]; exact List.mem_of_mem_drop (i := 1) (by rw [List.drop_drop]; exact hq)), O2.out.cut⟩
            have b4 : Below w3.heap.size w3 (w3.alloc (.cells (pkCells p) PkT)) := (Below.refl _ _).alloc (Nat.le_refl _) _
            have O4 := Lib.hid (hO3.below b4)
            have B4 := Lib.hid (bmore (B2.out.trans (t3.below B2.out.size (fun j hj => (O2.out.net.own_lt hj).1))) b4)
            have P4 := Lib.hid (heap_alloc_new w3 (.cells (pkCells p) PkT))
            have HN := Lib.hid hn
            have HP := Lib.hid hp
            have e0 : decide ((n : Int) < (sent.length : Int)) = true := by simpa using hn
            have e1 : (n : Int) < (sent.length : Int) := by omega
            have e2 : (0 : Int) ≤ (n : Int) := by omega
            have e3 : IntKind.i64.wrap ((n : Int) + 1) = (n : Int) + 1 := IntWalk.i64_in _ (by have := O2.out.len; have := HLT.out; have := HL.out; omega)
            clear i3 t3 o3 hdl hO3 b4 hn hp hde
            go_wp2_with fail
            generalize (w3.alloc (.cells (pkCells p) PkT)) = W4 at *
            refine (num15 _ _).mono ?_
            rintro e w5 ⟨rfl, rfl⟩
            go_wp2_with fail
            refine (num15 _ _).mono ?_
            rintro e w5 ⟨rfl, rfl⟩
            obtain ⟨r0, r1, r2, r3, r4⟩ := pk5 P4.out
            obtain ⟨gg, gc, hg⟩ := own_slice O4.out.row (by have := HN.out; omega)
            have hg2 : ua = some ⟨gg, 0, none⟩ := by
              have := hg; simp only [Value.slice.injEq] at this; exact this.1
            subst hg2
            have hla := (laid_of_own (O4.out.row)).1
            obtain ⟨t0, t1, t2, t3, t4⟩ := hla.at5 HP.out
            have hneq := fun W => neq_pk p W
            clear hla hg
            go_wp2_with fail
            go_quiet (fail)
            have D5 := Lib.hid (bdn W4 nq)
            clear r0 r1 r2 r3 r4 t0 t1 t2 t3 t4 hneq
            go_wp2_with fail
            go_roundw
            case rel => exact ⟨k + 1, n + 1, _, sent, F3, H3, by simp, by simp, HLT.out, O4.out.below D5.out, bmore B4.out D5.out⟩
            case measure => have := HLT.out; have := HL.out; simp [intOf]; omega
      · obtain rfl : k = l.length := by omega
        have hlt1 : decide ((l.length : Int) < (l.length : Int)) = false := by simp
        clear hk hlt XA
        go_wp2_with fail
        refine (live15 wr).mono ?_
        rintro e w5 ⟨rfl, b5⟩
        have B5 := Lib.hid (bmore HB.out b5)
        clear b5
        go_wp2_with fail
        go_returns
        exact ⟨rfl, B5.out⟩
theorem order_all {w : World} {v : Value} {l : List Ac} (h : Row w 5 v l.length (acs l)) (hok : ∀ c ∈ l, AcOk c) :
    Calls Try.prog 5 #[v] w fun e w' => e = .returned (.bool true) ∧ Below w.heap.size w w' := by
  by_cases hl : l.length ≤ 200
  · exact order_walk h hok hl
  · exact order_long h (by omega)
end Go.Proofs.Ytgnmieobgdbafaa
