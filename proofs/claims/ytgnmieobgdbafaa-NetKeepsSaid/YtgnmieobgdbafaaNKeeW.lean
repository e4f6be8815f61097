/-
  NetKeeps: nothing comes of nothing, nothing twice; all is counted. The walk.
-/
import Derived.Test.YtgnmieobgdbafaaNKeeP
import Derived.LoopN
namespace Go.Proofs.Ytgnmieobgdbafaa
open Go.RowKit
set_option linter.unusedVariables false
/-- The net and the numbers that came; how many were born, how many are gone. -/
structure KeeI (N : Nat) (wr : World) (k : Nat) (u : Value) (x : Nt) (seen : List Int) (bn gn : Int) (F H : Value) : Prop where
  net : IsN wr N N F H x
  bd : Bd k x
  row : wr.ownsRow N ElI 1 u seen.length (ints seen)
  apart : ∀ j, u.ownBlock = some j → ¬ OwnN N F H j
  kp : KeeP x seen
  cnt : bn - gn = ((x.fl.length : Nat) : Int)
  bg : 0 ≤ bn ∧ 0 ≤ gn ∧ bn ≤ (k : Int) ∧ gn ≤ (k : Int)
  len : seen.length ≤ k
theorem KeeI.below {N : Nat} {w w' : World} {k : Nat} {u : Value} {x : Nt} {seen : List Int} {bn gn : Int} {F H : Value} (h : KeeI N w k u x seen bn gn F H) (hb : Below w.heap.size w w') : KeeI N w' k u x seen bn gn F H :=
  ⟨h.net.below hb, h.bd, own_hold h.row (Hold.below hb), h.apart, h.kp, h.cnt, h.bg, h.len⟩
theorem KeeI.more {N : Nat} {w : World} {k : Nat} {u : Value} {x : Nt} {seen : List Int} {bn gn : Int} {F H : Value} (h : KeeI N w k u x seen bn gn F H) : KeeI N w (k + 1) u x seen bn gn F H :=
  ⟨h.net, h.bd.more (Nat.le_succ _), h.row, h.apart, h.kp, h.cnt, by have := h.bg; omega, Nat.le_succ_of_le h.len⟩
theorem KeeI.rowed {N : Nat} {w w' : World} {k : Nat} {u : Value} {x : Nt} {seen : List Int} {bn gn : Int} {F H F' H' : Value} (h : KeeI N w k u x seen bn gn F H) (ht : Touch (OwnN N F H) w w') (ho : ∀ j, OwnN N F' H' j → OwnN N F H j ∨ w.heap.size ≤ j) :
    w'.ownsRow N ElI 1 u seen.length (ints seen) ∧ ∀ j, u.ownBlock = some j → ¬ OwnN N F' H' j :=
  ⟨own_keep h.row ht h.apart, fun j hj e => by
    rcases ho j e with e | e
    · exact h.apart j hj e
    · have := (own_from h.row hj).2; omega⟩
theorem KeeI.step {N : Nat} {w w' : World} {k : Nat} {u : Value} {x y : Nt} {seen : List Int} {bn0 gn0 bn gn : Int} {F H F' H' : Value} (h : KeeI N w k u x seen bn0 gn0 F H) (i : IsN w' N N F' H' y) (ht : Touch (OwnN N F H) w w') (ho : ∀ j, OwnN N F' H' j → OwnN N F H j ∨ w.heap.size ≤ j)
    (hb : Bd (k + 1) y) (hk : KeeP y seen) (hc : bn - gn = ((y.fl.length : Nat) : Int)) (hg : 0 ≤ bn ∧ 0 ≤ gn ∧ bn ≤ ((k + 1 : Nat) : Int) ∧ gn ≤ ((k + 1 : Nat) : Int)) : KeeI N w' (k + 1) u y seen bn gn F' H' :=
  ⟨i, hb, (h.rowed ht ho).1, (h.rowed ht ho).2, hk, hc, hg, Nat.le_succ_of_le h.len⟩
theorem beq_text (x y : ByteArray) : (x.toList == y.toList) = decide (x = y) := by
  rw [ByteArray.toList_eq, ByteArray.toList_eq, Bool.eq_iff_iff]
  simp only [beq_iff_eq, decide_eq_true_eq]
  constructor
  · intro h; cases x; cases y; simp_all [Array.ext_iff]
  · rintro rfl; rfl
abbrev ActT : TypeId := 31
set_option maxRecDepth 20000 in
set_option maxHeartbeats 3200000 in
theorem keeps_long {w : World} {v : Value} {l : List Ac} (h : Row w 5 v l.length (acs l)) (hl : 200 < l.length) :
    Calls Try.prog 4 #[v] w fun e w' => e = .returned (.bool true) ∧ Below w.heap.size w w' := by
  have HA := Lib.hid h
  clear h
  go_enter Try.func4, Try.ntmps4
  go_wp2_with fail
  refine (huge_long HA.out HA.out.small hl).mono ?_
  rintro e w1 ⟨rfl, rfl⟩
  go_wp2_with fail
  refine (live15 w).mono ?_
  rintro e w2 ⟨rfl, b2⟩
  have B2 := Lib.hid b2
  clear b2
  go_wp2_with fail
  go_returns
  exact ⟨rfl, B2.out⟩
set_option maxRecDepth 100000 in
set_option maxHeartbeats 3200000 in
theorem keeps_walk {w : World} {v : Value} {l : List Ac} (h : Row w 5 v l.length (acs l)) (hok : ∀ c ∈ l, AcOk c) (hl : l.length ≤ 200) :
    Calls Try.prog 4 #[v] w fun e w' => e = .returned (.bool true) ∧ Below w.heap.size w w' := by
  have ex0 : ∀ (v u : Value) (W : World), (Instr.extract (.tuple #[v, u]) 0).run Try.prog W = .ok v W := fun v u W => by kernel_rfl
  have ex1 : ∀ (v u : Value) (W : World), (Instr.extract (.tuple #[v, u]) 1).run Try.prog W = .ok u W := fun v u W => by kernel_rfl
  have HL := Lib.hid hl
  have hlong := huge_any h hl
  obtain ⟨aa, ca, rfl, xa⟩ := h.at2
  have XA := Lib.hid xa
  clear h hok hl xa
  go_enter Try.func4, Try.ntmps4
  go_wp2_with fail
  refine hlong.mono ?_
  clear hlong
  rintro e w1 ⟨rfl | rfl, rfl⟩
  · go_wp2_with fail
    refine (live15 w).mono ?_
    rintro e w2 ⟨rfl, b2⟩
    have B2 := Lib.hid b2
    clear b2
    go_wp2_with fail
    go_returns
    exact ⟨rfl, B2.out⟩
  · go_wp2_with fail
    refine (new_any w).mono ?_
    rintro e w1 ⟨rfl, h1, b1⟩
    have b2 : Below w1.heap.size w1 (w1.alloc (.cells #[] ElI)) := (Below.refl _ _).alloc (Nat.le_refl _) _
    have K1 := Lib.hid (show KeeI w.heap.size (w1.alloc (.cells #[] ElI)) 0 (.slice (some ⟨w1.heap.size, 0, none⟩) 0 0) newNt [] 0 0 (.slice none 0 0) (.slice none 0 0) from
      ⟨h1.below b2, Bd.new, ⟨rfl, .inr ⟨w1.heap.size, 0, #[], rfl, b1.size, heap_alloc_new _ _, Nat.le_refl _, by unfold maxLen; omega, rfl, rfl⟩⟩, fun j hj e => by
        have e2 : w1.heap.size = j := by simpa [Value.ownBlock] using hj
        have := (h1.own_lt e).2
        omega, KeeP.new, rfl, by omega, Nat.le_refl _⟩)
    have B1 := Lib.hid (bmore b1 b2)
    clear h1 b1 b2
    go_wp2_with fail
    generalize (w1.alloc (.cells #[] ElI)) = w2 at *
    go_loopw [7, 4, 5, 6] (fun v b g u wr => ∃ (k : Nat) (x : Nt) (seen : List Int) (bn gn : Int) (F H : Value), v = .int .i64 (k : Int) ∧ b = .int .i64 bn ∧ g = .int .i64 gn ∧ k ≤ l.length ∧ KeeI w.heap.size wr k u x seen bn gn F H ∧ Below w.heap.size w wr) (fun v _ _ _ _ => 202 - (intOf v).toNat)
    case atStart => exact ⟨0, newNt, [], 0, 0, _, _, rfl, rfl, rfl, Nat.zero_le _, K1.out, B1.out⟩
    case round =>
      obtain ⟨k, x, seen, bn, gn, F, H, rfl, rfl, rfl, hk, hK, hb⟩ := hrel
      have HK := Lib.hid hK
      have HB := Lib.hid hb
      clear hK hb
      by_cases hlt : k < l.length
      · obtain ⟨b, o, rfl, q1⟩ := XA.out (by omega)
        have q2 := acs_at l k hlt
        have d0 := bcellAt HB.out (q1 _ _ q2.1)
        have d1 := bcellAt HB.out (q1 _ _ q2.2.1)
        have d2 := bcellAt HB.out (q1 _ _ q2.2.2.1)
        have d3 := bcellAt HB.out (q1 _ _ q2.2.2.2.1)
        have d4 := bcellAt HB.out (q1 _ _ q2.2.2.2.2)
        rw [← Nat.add_assoc] at d1 d2 d3 d4
        clear q1 q2 XA
        generalize l[k] = c at *
        obtain ⟨kd, za, zb, zv, zo⟩ := c
        simp only at d0 d1 d2 d3 d4
        have b2 : Below wr.heap.size wr (wr.alloc (.cells #[.int .i64 kd, .int .i64 za, .int .i64 zb, .string zv, .bool zo] ActT)) := (Below.refl _ _).alloc (Nat.le_refl _) _
        have Z2 := Lib.hid (heap_alloc_new wr (.cells #[.int .i64 kd, .int .i64 za, .int .i64 zb, .string zv, .bool zo] ActT))
        have K2 := Lib.hid (HK.out.below b2)
        have B2 := Lib.hid (bmore HB.out b2)
        have L2 : Hid (wr.heap.size < (wr.alloc (.cells #[.int .i64 kd, .int .i64 za, .int .i64 zb, .string zv, .bool zo] ActT)).heap.size) := Lib.hid (by simp)
        have hlt1 : decide ((k : Int) < (l.length : Int)) = true := by simpa using hlt
        have hk0 : (0 : Int) ≤ (k : Int) := by omega
        have hk1 : (k : Int) < (l.length : Int) := by omega
        have hwk : IntKind.i64.wrap ((k : Int) + 1) = (k : Int) + 1 := IntWalk.i64_in _ (by have := HL.out; omega)
        have HLT := Lib.hid hlt
        clear hk hlt b2
        by_cases h0 : kd = 0
        · subst h0
          as_aux_lemma =>
            go_upto_region 14 with fail
            generalize (wr.alloc (.cells #[.int .i64 0, .int .i64 za, .int .i64 zb, .string zv, .bool zo] ActT)) = W2 at *
            have c1 := cellB (j := 1) Z2.out rfl
            have c2 := cellB (j := 2) Z2.out rfl
            have c3 := cellB (j := 3) Z2.out rfl
            have c4 := cellB (j := 4) Z2.out rfl
            clear d0 d1 d2 d3 d4
            have hc := send_any K2.out.net B2.out.size (by have := K2.out.bd.ids; have := HLT.out; have := HL.out; omega) za zb zv (K2.out.bd.st9 (by have := HLT.out; have := HL.out; omega))
            have hbd := K2.out.bd.send za zb zv
            have hkp := K2.out.kp.send za zb zv
            rcases sendP_cases x za zb zv with ⟨ee, hne, hse⟩ | ⟨fi, ti, rfl, rfl, hfi, hti, hp2, hse⟩
            · rw [hse] at hc
              clear hse hbd hkp
              have hne2 : (ee == 0) = false := by simpa using hne
              have hne3 : decide (ee = 0) = false := by simpa using hne
              go_wp2_with fail
              refine hc.mono ?_
              rintro e w3 ⟨rfl, F3, H3, i3, t3, o3⟩
              have HK3 := Lib.hid (K2.out.step i3 t3 o3 (K2.out.bd.more (Nat.le_succ _)) K2.out.kp (bn := bn) (gn := gn) K2.out.cnt (by have := K2.out.bg; omega))
              have B3 := Lib.hid (B2.out.trans (t3.below B2.out.size (fun j hj => (K2.out.net.own_lt hj).1)))
              clear i3 t3 o3 hc c1 c2 c3 c4
              go_wp2_with fail
              refine (num15 _ _).mono ?_
              rintro e w4 ⟨rfl, rfl⟩
              have hfl := flying_any HK3.out.net (by have := HK3.out.bd.fl; have := HLT.out; have := HL.out; omega)
              have hcn := HK3.out.cnt
              have hbg := HK3.out.bg
              have hw9 : IntKind.i64.wrap (bn - gn) = bn - gn := IntWalk.i64_in _ (by have := HLT.out; have := HL.out; omega)
              have HCN := Lib.hid hcn
              clear hcn hbg
              generalize hm9 : bn - gn = m9 at hw9 HCN
              have HM9 := Lib.hid hm9
              clear hm9
              go_upto_region 49 with fail
              go_wp2_with fail
              refine hfl.mono ?_
              rintro e w9 ⟨⟨v9, rfl, h9⟩, b9⟩
              have HK9 := Lib.hid (HK3.out.below b9)
              have B9 := Lib.hid (bmore B3.out b9)
              obtain ⟨va9, vc9, rfl⟩ := slice_of h9
              have hx9 : IntKind.i64.wrap (bn - gn) = (((x.fl).length : Nat) : Int) := by rw [HM9.out, hw9]; first | exact HCN.out | (rw [HCN.out]; simp)
              clear h9 b9 hfl hw9
              go_wp2_with fail
              go_roundw
              case rel => exact ⟨k + 1, _, seen, bn, gn, F3, H3, by simp, rfl, rfl, HLT.out, HK9.out, B9.out⟩
              case measure => have := HLT.out; have := HL.out; simp [intOf]; omega

            · rw [hse] at hc hbd hkp
              have HBD := Lib.hid hbd
              have HKP := Lib.hid hkp
              have HP2 := Lib.hid hp2
              have hwb : IntKind.i64.wrap (bn + 1) = bn + 1 := IntWalk.i64_in _ (by have := K2.out.bg; have := HLT.out; have := HL.out; omega)
              have hwg : IntKind.i64.wrap (gn + 1) = gn + 1 := IntWalk.i64_in _ (by have := K2.out.bg; have := HLT.out; have := HL.out; omega)
              clear hbd hkp hp2 hse
              go_wp2_with fail
              refine hc.mono ?_
              rintro e w3 ⟨rfl, F3, H3, i3, t3, o3⟩
              have HK3 := Lib.hid (K2.out.step i3 t3 o3 HBD.out HKP.out (bn := (bn + 1)) (gn := gn) (by show bn + 1 - gn = (((x.fl ++ [_]).length : Nat) : Int); rw [List.length_append]; have := K2.out.cnt; push_cast; simp only [List.length_singleton]; omega) (by have := K2.out.bg; omega))
              have B3 := Lib.hid (B2.out.trans (t3.below B2.out.size (fun j hj => (K2.out.net.own_lt hj).1)))
              clear i3 t3 o3 hc c1 c2 c3 c4
              go_wp2_with fail
              refine (num15 _ _).mono ?_
              rintro e w4 ⟨rfl, rfl⟩
              have hfl := flying_any HK3.out.net (by have := HK3.out.bd.fl; have := HLT.out; have := HL.out; omega)
              have hcn := HK3.out.cnt
              have hbg := HK3.out.bg
              have hw9 : IntKind.i64.wrap ((bn + 1) - gn) = (bn + 1) - gn := IntWalk.i64_in _ (by have := HLT.out; have := HL.out; omega)
              have HCN := Lib.hid hcn
              clear hcn hbg
              generalize hm9 : (bn + 1) - gn = m9 at hw9 HCN
              have HM9 := Lib.hid hm9
              clear hm9
              go_upto_region 49 with fail
              go_wp2_with fail
              refine hfl.mono ?_
              rintro e w9 ⟨⟨v9, rfl, h9⟩, b9⟩
              have HK9 := Lib.hid (HK3.out.below b9)
              have B9 := Lib.hid (bmore B3.out b9)
              obtain ⟨va9, vc9, rfl⟩ := slice_of h9
              have hx9 : IntKind.i64.wrap ((bn + 1) - gn) = (((x.fl ++ [zeroP]).length : Nat) : Int) := by rw [HM9.out, hw9]; first | exact HCN.out | (rw [HCN.out]; simp)
              clear h9 b9 hfl hw9
              go_wp2_with fail
              go_roundw
              case rel => exact ⟨k + 1, _, seen, (bn + 1), gn, F3, H3, by simp, rfl, rfl, HLT.out, HK9.out, B9.out⟩
              case measure => have := HLT.out; have := HL.out; simp [intOf]; omega
        by_cases h1 : kd = 1
        · subst h1
          as_aux_lemma =>
            go_upto_region 18 with fail
            generalize (wr.alloc (.cells #[.int .i64 1, .int .i64 za, .int .i64 zb, .string zv, .bool zo] ActT)) = W2 at *
            have c1 := cellB (j := 1) Z2.out rfl
            have c2 := cellB (j := 2) Z2.out rfl
            have c3 := cellB (j := 3) Z2.out rfl
            have c4 := cellB (j := 4) Z2.out rfl
            clear d0 d1 d2 d3 d4
            have hbd := K2.out.bd.del za
            have hc := deliver_any K2.out.net (by have := K2.out.bd.fl; have := HLT.out; have := HL.out; omega) za (fun p hp => ⟨(K2.out.bd.pk p hp).1, (K2.out.bd.pk p hp).2.1⟩) (K2.out.bd.cm9 (by have := HLT.out; have := HL.out; omega))
            rcases delP_cases x za with ⟨ee, hne, hse⟩ | ⟨m2, p, rfl, hp2, hst, hse⟩
            · rw [hse] at hc
              clear hse hbd
              have hne2 : (ee == 0) = false := by simpa using hne
              have hne3 : decide (ee = 0) = false := by simpa using hne
              go_wp2_with fail
              refine hc.mono ?_
              rintro e w3 ⟨rfl, F3, H3, i3, t3, o3⟩
              have b4 : Below w3.heap.size w3 (w3.alloc (.cells (pkCells zeroP) PkT)) := (Below.refl _ _).alloc (Nat.le_refl _) _
              have HK3 := Lib.hid ((K2.out.step i3 t3 o3 (K2.out.bd.more (Nat.le_succ _)) K2.out.kp (bn := bn) (gn := gn) K2.out.cnt (by have := K2.out.bg; omega)).below b4)
              have B3 := Lib.hid (bmore (B2.out.trans (t3.below B2.out.size (fun j hj => (K2.out.net.own_lt hj).1))) b4)
              clear i3 t3 o3 hc c1 c2 c3 c4 b4
              go_wp2_with fail
              rw [show (w3.alloc (.cells #[.int .i64 zeroP.id, .int .i64 (zeroP.fr : Int), .int .i64 (zeroP.tt : Int), .string zeroP.bd, .int .i64 zeroP.hl] PkT)) = (w3.alloc (.cells (pkCells zeroP) PkT)) from rfl]
              generalize (w3.alloc (.cells (pkCells zeroP) PkT)) = W4 at *
              refine (num15 _ _).mono ?_
              rintro e w4 ⟨rfl, rfl⟩
              go_wp2_with fail
              go_roundw
              case rel => exact ⟨k + 1, x, seen, bn, gn, F3, H3, by simp, rfl, rfl, HLT.out, HK3.out, B3.out⟩
              case measure => have := HLT.out; have := HL.out; simp [intOf]; omega
            · rw [hse] at hc hbd
              have HBD := Lib.hid hbd
              have hwg : IntKind.i64.wrap (gn + 1) = gn + 1 := IntWalk.i64_in _ (by have := K2.out.bg; have := HLT.out; have := HL.out; omega)
              clear hbd
              go_wp2_with fail
              refine hc.mono ?_
              rintro e w3 ⟨rfl, F3, H3, i3, t3, o3⟩
              have b4 : Below w3.heap.size w3 (w3.alloc (.cells (pkCells p) PkT)) := (Below.refl _ _).alloc (Nat.le_refl _) _
              have I4 := Lib.hid (i3.below b4)
              have R4 := Lib.hid (K2.out.rowed t3 o3)
              have RW4 := Lib.hid (own_hold R4.out.1 (Hold.below b4))
              have B4 := Lib.hid (bmore (B2.out.trans (t3.below B2.out.size (fun j hj => (K2.out.net.own_lt hj).1))) b4)
              have P4 := Lib.hid (heap_alloc_new w3 (.cells (pkCells p) PkT))
              have HP := Lib.hid hp2
              obtain ⟨q, hq, hq1, hq2, hq3⟩ := K2.out.kp.src p (List.mem_of_getElem? hp2)
              have HQ := Lib.hid (show ∃ q ∈ x.hd, q.fr = p.fr ∧ q.tt = p.tt ∧ q.bd = p.bd from ⟨q, hq, hq1, hq2, hq3⟩)
              have HNS := Lib.hid (K2.out.kp.ap p (List.mem_of_getElem? hp2))
              have HHL := Lib.hid K2.out.bd.hd
              clear i3 t3 o3 hc c1 c2 c3 c4 b4 hq hq1 hq2 hq3 hp2 hst hse
              go_wp2_with fail
              generalize (w3.alloc (.cells (pkCells p) PkT)) = W4 at *
              refine (num15 _ _).mono ?_
              rintro e w4 ⟨rfl, rfl⟩
              have hhd := heard_any I4.out (by show x.hd.length ≤ _; have := HHL.out; have := HLT.out; have := HL.out; omega)
              go_wp2_with fail
              refine hhd.mono ?_
              rintro e w5 ⟨⟨v5, rfl, h5⟩, b5⟩
              have I5 := Lib.hid (I4.out.below b5)
              have RW5 := Lib.hid (own_hold RW4.out (Hold.below b5))
              have B5 := Lib.hid (bmore B4.out b5)
              have P5 := Lib.hid ((b5.block w3.heap.size (Array.getElem?_eq_some_iff.1 P4.out).1).trans P4.out)
              have R5 := Lib.hid (show w5.ownsRow _ PkT 5 _ x.hd.length (pks x.hd) from h5)
              obtain ⟨va5, vc5, rfl⟩ := slice_of (show w5.ownsRow _ PkT 5 v5 x.hd.length (pks x.hd) from h5)
              have HIDS := Lib.hid (K2.out.kp.came HP.out (upd x.cm (lk p.fr p.tt) (x.cm (lk p.fr p.tt) + 1)))
              have HC5 : Hid (bn - (gn + 1) = (((outP x.fl m2).length : Nat) : Int)) := Lib.hid (by rw [out_len _ _ (List.getElem?_eq_some_iff.1 HP.out).1]; have := K2.out.cnt; have := (List.getElem?_eq_some_iff.1 HP.out).1; omega)
              have HBG := Lib.hid K2.out.bg
              have HSL := Lib.hid K2.out.len
              clear h5 b5 hhd
              go_wp2_with fail
              go_loopw [13, 15] (fun bv v wq => ∃ (j m : Nat) (bb : Bool), v = .int .i64 (j : Int) ∧ bv = .bool bb ∧ j ≤ x.hd.length ∧ wq = w5.drewN m ∧ ((∃ q ∈ x.hd.take j, q.fr = p.fr ∧ q.tt = p.tt ∧ q.bd = p.bd) → bb = true)) (fun _ v _ => x.hd.length - (intOf v).toNat)
              case atStart => exact ⟨0, 0, false, rfl, rfl, Nat.zero_le _, rfl, fun ⟨q, hq, _⟩ => by simp at hq⟩
              case round =>
                obtain ⟨j, m, bb, rfl, rfl, hj, rfl, hbb⟩ := hrel
                have HBBX := Lib.hid hbb
                clear hbb
                by_cases hjl : j < x.hd.length
                · obtain ⟨q, hq⟩ : ∃ q, x.hd[j]? = some q := ⟨_, List.getElem?_eq_getElem hjl⟩
                  obtain ⟨gg, gc, hg⟩ := own_slice R5.out (by omega)
                  have hg2 : va5 = some ⟨gg, 0, none⟩ := by
                    have := hg; simp only [Value.slice.injEq] at this; exact this.1
                  subst hg2
                  have hla := (laid_of_own (R5.out)).1
                  obtain ⟨_, t1, t2, t3, _⟩ := hla.at5 hq
                  obtain ⟨r0, r1, r2, r3, r4⟩ := pk5 P5.out
                  have hj0 : (0 : Int) ≤ (j : Int) := by omega
                  have hj1 : (j : Int) < (x.hd.length : Int) := by omega
                  have hjd : decide ((j : Int) < (x.hd.length : Int)) = true := by simpa using hjl
                  have hjw : IntKind.i64.wrap ((j : Int) + 1) = (j : Int) + 1 := IntWalk.i64_in _ (by have := HHL.out; have := HLT.out; have := HL.out; omega)
                  have HJL := Lib.hid hjl
                  have HTK : Hid (x.hd.take (j + 1) = x.hd.take j ++ [q]) := Lib.hid (by
                    obtain ⟨h1, h2⟩ := List.getElem?_eq_some_iff.1 hq
                    rw [← List.take_append_getElem h1, h2])
                  clear hla hg hq hjl hj
                  cases bb
                  · by_cases e1 : q.fr = p.fr
                    · by_cases e2 : q.tt = p.tt
                      · by_cases e3 : q.bd = p.bd
                        · rw [e1] at t1
                          rw [e2] at t2
                          rw [e3] at t3
                          clear e1 e2 e3
                          go_wp2_with fail
                          go_quiet (fail)
                          clear t1 t2 t3 r0 r1 r2 r3 r4
                          go_wp2_with fail
                          go_roundw
                          case rel => exact ⟨j + 1, m + nq, true, by simp, rfl, HJL.out, rfl, fun _ => rfl⟩
                          case measure => have := HJL.out; simp [intOf]; omega
                        · rw [e1] at t1
                          rw [e2] at t2
                          have g3 : decide (q.bd = p.bd) = false := by simpa using e3
                          have g3b : (q.bd.toList == p.bd.toList) = false := by rw [beq_text]; exact decide_eq_false e3
                          have HE := Lib.hid e3
                          clear e1 e2 e3
                          go_wp2_with fail
                          go_quiet (fail)
                          clear t1 t2 t3 r0 r1 r2 r3 r4
                          go_wp2_with fail
                          go_roundw
                          case rel =>
                            refine ⟨j + 1, m + nq, false, by simp, rfl, HJL.out, rfl, fun ⟨r, hr, h1⟩ => ?_⟩
                            rw [HTK.out] at hr
                            rcases List.mem_append.1 hr with hr | hr
                            · exact HBBX.out ⟨r, hr, h1⟩
                            · rw [List.mem_singleton.1 hr] at h1
                              exact absurd h1 (fun hr => HE.out hr.2.2)
                          case measure => have := HJL.out; simp [intOf]; omega
                      · rw [e1] at t1
                        have g2 : decide ((q.tt : Int) = (p.tt : Int)) = false := decide_eq_false (by omega)
                        have g2b : ((q.tt : Int) == (p.tt : Int)) = false := beq_eq_false_iff_ne.2 (by omega)
                        have HE := Lib.hid e2
                        clear e1 e2
                        go_wp2_with fail
                        go_quiet (fail)
                        clear t1 t2 t3 r0 r1 r2 r3 r4
                        go_wp2_with fail
                        go_roundw
                        case rel =>
                          refine ⟨j + 1, m + nq, false, by simp, rfl, HJL.out, rfl, fun ⟨r, hr, h1⟩ => ?_⟩
                          rw [HTK.out] at hr
                          rcases List.mem_append.1 hr with hr | hr
                          · exact HBBX.out ⟨r, hr, h1⟩
                          · rw [List.mem_singleton.1 hr] at h1
                            exact absurd h1 (fun hr => HE.out hr.2.1)
                        case measure => have := HJL.out; simp [intOf]; omega
                    · have g1 : decide ((q.fr : Int) = (p.fr : Int)) = false := decide_eq_false (by omega)
                      have g1b : ((q.fr : Int) == (p.fr : Int)) = false := beq_eq_false_iff_ne.2 (by omega)
                      have HE := Lib.hid e1
                      clear e1
                      go_wp2_with fail
                      go_quiet (fail)
                      clear t1 t2 t3 r0 r1 r2 r3 r4
                      go_wp2_with fail
                      go_roundw
                      case rel =>
                        refine ⟨j + 1, m + nq, false, by simp, rfl, HJL.out, rfl, fun ⟨r, hr, h1⟩ => ?_⟩
                        rw [HTK.out] at hr
                        rcases List.mem_append.1 hr with hr | hr
                        · exact HBBX.out ⟨r, hr, h1⟩
                        · rw [List.mem_singleton.1 hr] at h1
                          exact absurd h1 (fun hr => HE.out hr.1)
                      case measure => have := HJL.out; simp [intOf]; omega
                  · clear t1 t2 t3 r0 r1 r2 r3 r4
                    go_wp2_with fail
                    go_quiet (fail)
                    go_wp2_with fail
                    go_roundw
                    case rel => exact ⟨j + 1, m + nq, true, by simp, rfl, HJL.out, rfl, fun _ => rfl⟩
                    case measure => have := HJL.out; simp [intOf]; omega
                · obtain rfl : j = x.hd.length := by omega
                  have hbt : bb = true := HBBX.out (by rw [List.take_length]; exact HQ.out)
                  subst hbt
                  have hjd : decide ((x.hd.length : Int) < (x.hd.length : Int)) = false := by simp
                  clear hjl hj
                  obtain ⟨ua, uc, hus⟩ := slice_of RW5.out
                  subst hus
                  go_wp2_with fail
                  clear hjd
                  go_loopw [13, 16] (fun bv v wq => ∃ (j n : Nat), v = .int .i64 (j : Int) ∧ bv = .bool true ∧ j ≤ seen.length ∧ wq = w5.drewN n) (fun _ v _ => seen.length - (intOf v).toNat)
                  case atStart => exact ⟨0, m, rfl, rfl, Nat.zero_le _, rfl⟩
                  case round =>
                    obtain ⟨j, n, rfl, rfl, hj, rfl⟩ := hrel
                    by_cases hjl : j < seen.length
                    · obtain ⟨a', c', hv, hq⟩ := (row_of_own RW5.out).at2
                      obtain ⟨b1, o1, hb1, q1⟩ := hq (by omega)
                      have hv2 : ua = some ⟨b1, o1, none⟩ := by
                        have e2 := hv; simp only [Value.slice.injEq] at e2; exact e2.1.trans hb1
                      have s1 := q1 _ _ (ints_at seen j hjl)
                      have hns : ¬ seen[j] = p.id := fun e => HNS.out (e ▸ List.getElem_mem hjl)
                      obtain ⟨r0, _, _, _, _⟩ := pk5 P5.out
                      generalize seen[j] = si at *
                      have hns2 : decide (si = p.id) = false := by simpa using hns
                      have hns3 : (si == p.id) = false := by simpa using hns
                      have HNS4 : Hid ((si != p.id) = true) := Lib.hid (by simpa using hns)
                      have hj0 : (0 : Int) ≤ (j : Int) := by omega
                      have hj1 : (j : Int) < (seen.length : Int) := by omega
                      have hjd : decide ((j : Int) < (seen.length : Int)) = true := by simpa using hjl
                      have hjw : IntKind.i64.wrap ((j : Int) + 1) = (j : Int) + 1 := IntWalk.i64_in _ (by have := HSL.out; have := HLT.out; have := HL.out; omega)
                      have HJL := Lib.hid hjl
                      clear hv hq q1 hb1 hns hjl hj
                      subst hv2
                      go_wp2_with fail
                      go_quiet (fail)
                      clear s1 r0
                      go_wp2_with fail
                      go_roundw
                      case rel => exact ⟨j + 1, n + nq, by simp, by rw [HNS4.out], HJL.out, rfl⟩
                      case measure => have := HJL.out; simp [intOf]; omega
                    · obtain rfl : j = seen.length := by omega
                      have hjd : decide ((seen.length : Int) < (seen.length : Int)) = false := by simp
                      have bn5 : Below w5.heap.size w5 (w5.drewN n) := bdn _ _
                      have b6 : Below w5.heap.size w5 ((w5.drewN n).alloc (.cells #[.int .i64 p.id] ElI)) := bn5.alloc (Nat.le_refl _) _
                      have Q6 := Lib.hid (cellB (j := 0) (heap_alloc_new (w5.drewN n) (.cells #[.int .i64 p.id] ElI)) rfl)
                      have RW6 := Lib.hid (own_hold RW5.out (Hold.below b6))
                      have I6 := Lib.hid (I5.out.below b6)
                      have B6 := Lib.hid (bmore B5.out b6)
                      have HSL6 := Lib.hid (show seen.length ≤ 1000000 by have := HSL.out; have := HLT.out; have := HL.out; omega)
                      obtain ⟨r0, _, _, _, _⟩ := pk5 P5.out
                      clear hjl hj bn5 b6
                      go_wp2_with (at_builtin; refine wpList_appI rfl _ _ rfl w.heap.size _ seen rfl RW6.out _ p.id rfl Q6.out HSL6.out B6.out.size ?_)
                      intro v7 w7 o7 g7 at7
                      have t7 := touch_of_grown g7 (fun i => (Value.slice ua seen.length uc).ownBlock = some i) (fun i hi => hi)
                      have HK3 := Lib.hid (show KeeI w.heap.size w7 (k + 1) v7 { x with fl := outP x.fl m2, cm := upd x.cm (lk p.fr p.tt) (x.cm (lk p.fr p.tt) + 1) } (seen ++ [p.id]) bn (gn + 1) F3 H3 from
                        ⟨I6.out.keep t7 (fun i hi e => R4.out.2 i e hi), HBD.out, by rw [List.length_append]; exact o7, fun i hi e => by
                          rcases at7 with e7 | e7
                          · exact R4.out.2 i (e7 ▸ hi) e
                          · have e8 : w5.heap.size + 1 = i := by rw [e7] at hi; exact Option.some.inj hi
                            have := (I5.out.own_lt e).2; omega, HIDS.out, HC5.out, by have := HBG.out; omega, by have := HSL.out; simp; omega⟩)
                      have B3 := Lib.hid (B6.out.grown g7 B6.out.size (fun i hi => (own_from RW6.out hi).1))
                      clear o7 g7 at7 t7 r0 hjd
                      have hfl := flying_any HK3.out.net (by have := HK3.out.bd.fl; have := HLT.out; have := HL.out; omega)
                      have hcn := HK3.out.cnt
                      have hbg := HK3.out.bg
                      have hw9 : IntKind.i64.wrap (bn - (gn + 1)) = bn - (gn + 1) := IntWalk.i64_in _ (by have := HLT.out; have := HL.out; omega)
                      have HCN := Lib.hid hcn
                      clear hcn hbg
                      generalize hm9 : bn - (gn + 1) = m9 at hw9 HCN
                      have HM9 := Lib.hid hm9
                      clear hm9
                      go_upto_region 49 with fail
                      go_wp2_with fail
                      refine hfl.mono ?_
                      rintro e w9 ⟨⟨v9, rfl, h9⟩, b9⟩
                      have HK9 := Lib.hid (HK3.out.below b9)
                      have B9 := Lib.hid (bmore B3.out b9)
                      obtain ⟨va9, vc9, rfl⟩ := slice_of h9
                      have hx9 : IntKind.i64.wrap (bn - (gn + 1)) = (((outP x.fl m2).length : Nat) : Int) := by rw [HM9.out, hw9]; first | exact HCN.out | (rw [HCN.out]; simp)
                      clear h9 b9 hfl hw9
                      go_wp2_with fail
                      go_roundw
                      case rel => exact ⟨k + 1, _, (seen ++ [p.id]), bn, (gn + 1), F3, H3, by simp, rfl, rfl, HLT.out, HK9.out, B9.out⟩
                      case measure => have := HLT.out; have := HL.out; simp [intOf]; omega
        by_cases h2 : kd = 2
        · subst h2
          as_aux_lemma =>
            go_upto_region 35 with fail
            generalize (wr.alloc (.cells #[.int .i64 2, .int .i64 za, .int .i64 zb, .string zv, .bool zo] ActT)) = W2 at *
            have c1 := cellB (j := 1) Z2.out rfl
            have c2 := cellB (j := 2) Z2.out rfl
            have c3 := cellB (j := 3) Z2.out rfl
            have c4 := cellB (j := 4) Z2.out rfl
            clear d0 d1 d2 d3 d4
            have hc := drop_any K2.out.net (by have := K2.out.bd.fl; have := HLT.out; have := HL.out; omega) za
            have hbd := (K2.out.bd.drop za).more (Nat.le_succ _)
            have hkp := K2.out.kp.drop za
            rcases dropP_cases x za with ⟨ee, hne, hse⟩ | ⟨m2, p2, rfl, hp2, hse⟩
            · rw [hse] at hc
              clear hse hbd hkp
              have hne2 : (ee == 0) = false := by simpa using hne
              have hne3 : decide (ee = 0) = false := by simpa using hne
              go_wp2_with fail
              refine hc.mono ?_
              rintro e w3 ⟨rfl, F3, H3, i3, t3, o3⟩
              have HK3 := Lib.hid (K2.out.step i3 t3 o3 (K2.out.bd.more (Nat.le_succ _)) K2.out.kp (bn := bn) (gn := gn) K2.out.cnt (by have := K2.out.bg; omega))
              have B3 := Lib.hid (B2.out.trans (t3.below B2.out.size (fun j hj => (K2.out.net.own_lt hj).1)))
              clear i3 t3 o3 hc c1 c2 c3 c4
              go_wp2_with fail
              refine (num15 _ _).mono ?_
              rintro e w4 ⟨rfl, rfl⟩
              have hfl := flying_any HK3.out.net (by have := HK3.out.bd.fl; have := HLT.out; have := HL.out; omega)
              have hcn := HK3.out.cnt
              have hbg := HK3.out.bg
              have hw9 : IntKind.i64.wrap (bn - gn) = bn - gn := IntWalk.i64_in _ (by have := HLT.out; have := HL.out; omega)
              have HCN := Lib.hid hcn
              clear hcn hbg
              generalize hm9 : bn - gn = m9 at hw9 HCN
              have HM9 := Lib.hid hm9
              clear hm9
              go_upto_region 49 with fail
              go_wp2_with fail
              refine hfl.mono ?_
              rintro e w9 ⟨⟨v9, rfl, h9⟩, b9⟩
              have HK9 := Lib.hid (HK3.out.below b9)
              have B9 := Lib.hid (bmore B3.out b9)
              obtain ⟨va9, vc9, rfl⟩ := slice_of h9
              have hx9 : IntKind.i64.wrap (bn - gn) = (((x.fl).length : Nat) : Int) := by rw [HM9.out, hw9]; first | exact HCN.out | (rw [HCN.out]; simp)
              clear h9 b9 hfl hw9
              go_wp2_with fail
              go_roundw
              case rel => exact ⟨k + 1, _, seen, bn, gn, F3, H3, by simp, rfl, rfl, HLT.out, HK9.out, B9.out⟩
              case measure => have := HLT.out; have := HL.out; simp [intOf]; omega

            · rw [hse] at hc hbd hkp
              have HBD := Lib.hid hbd
              have HKP := Lib.hid hkp
              have HP2 := Lib.hid hp2
              have hwb : IntKind.i64.wrap (bn + 1) = bn + 1 := IntWalk.i64_in _ (by have := K2.out.bg; have := HLT.out; have := HL.out; omega)
              have hwg : IntKind.i64.wrap (gn + 1) = gn + 1 := IntWalk.i64_in _ (by have := K2.out.bg; have := HLT.out; have := HL.out; omega)
              clear hbd hkp hp2 hse
              go_wp2_with fail
              refine hc.mono ?_
              rintro e w3 ⟨rfl, F3, H3, i3, t3, o3⟩
              have HK3 := Lib.hid (K2.out.step i3 t3 o3 HBD.out HKP.out (bn := bn) (gn := (gn + 1)) (by show bn - (gn + 1) = (((outP x.fl m2).length : Nat) : Int); rw [out_len _ _ (List.getElem?_eq_some_iff.1 HP2.out).1]; have := K2.out.cnt; have := (List.getElem?_eq_some_iff.1 HP2.out).1; omega) (by have := K2.out.bg; omega))
              have B3 := Lib.hid (B2.out.trans (t3.below B2.out.size (fun j hj => (K2.out.net.own_lt hj).1)))
              clear i3 t3 o3 hc c1 c2 c3 c4
              go_wp2_with fail
              refine (num15 _ _).mono ?_
              rintro e w4 ⟨rfl, rfl⟩
              have hfl := flying_any HK3.out.net (by have := HK3.out.bd.fl; have := HLT.out; have := HL.out; omega)
              have hcn := HK3.out.cnt
              have hbg := HK3.out.bg
              have hw9 : IntKind.i64.wrap (bn - (gn + 1)) = bn - (gn + 1) := IntWalk.i64_in _ (by have := HLT.out; have := HL.out; omega)
              have HCN := Lib.hid hcn
              clear hcn hbg
              generalize hm9 : bn - (gn + 1) = m9 at hw9 HCN
              have HM9 := Lib.hid hm9
              clear hm9
              go_upto_region 49 with fail
              go_wp2_with fail
              refine hfl.mono ?_
              rintro e w9 ⟨⟨v9, rfl, h9⟩, b9⟩
              have HK9 := Lib.hid (HK3.out.below b9)
              have B9 := Lib.hid (bmore B3.out b9)
              obtain ⟨va9, vc9, rfl⟩ := slice_of h9
              have hx9 : IntKind.i64.wrap (bn - (gn + 1)) = (((outP x.fl m2).length : Nat) : Int) := by rw [HM9.out, hw9]; first | exact HCN.out | (rw [HCN.out]; simp)
              clear h9 b9 hfl hw9
              go_wp2_with fail
              go_roundw
              case rel => exact ⟨k + 1, _, seen, bn, (gn + 1), F3, H3, by simp, rfl, rfl, HLT.out, HK9.out, B9.out⟩
              case measure => have := HLT.out; have := HL.out; simp [intOf]; omega
        by_cases h3 : kd = 3
        · subst h3
          as_aux_lemma =>
            go_upto_region 38 with fail
            generalize (wr.alloc (.cells #[.int .i64 3, .int .i64 za, .int .i64 zb, .string zv, .bool zo] ActT)) = W2 at *
            have c1 := cellB (j := 1) Z2.out rfl
            have c2 := cellB (j := 2) Z2.out rfl
            have c3 := cellB (j := 3) Z2.out rfl
            have c4 := cellB (j := 4) Z2.out rfl
            clear d0 d1 d2 d3 d4
            have hc := double_any K2.out.net B2.out.size (by have := K2.out.bd.ids; have := HLT.out; have := HL.out; omega) za
            have hbd := K2.out.bd.dbl za
            have hkp := K2.out.kp.dbl za
            rcases dblP_cases x za with ⟨ee, hne, hse⟩ | ⟨m2, p2, rfl, hp2, hse⟩
            · rw [hse] at hc
              clear hse hbd hkp
              have hne2 : (ee == 0) = false := by simpa using hne
              have hne3 : decide (ee = 0) = false := by simpa using hne
              go_wp2_with fail
              refine hc.mono ?_
              rintro e w3 ⟨rfl, F3, H3, i3, t3, o3⟩
              have HK3 := Lib.hid (K2.out.step i3 t3 o3 (K2.out.bd.more (Nat.le_succ _)) K2.out.kp (bn := bn) (gn := gn) K2.out.cnt (by have := K2.out.bg; omega))
              have B3 := Lib.hid (B2.out.trans (t3.below B2.out.size (fun j hj => (K2.out.net.own_lt hj).1)))
              clear i3 t3 o3 hc c1 c2 c3 c4
              go_wp2_with fail
              refine (num15 _ _).mono ?_
              rintro e w4 ⟨rfl, rfl⟩
              have hfl := flying_any HK3.out.net (by have := HK3.out.bd.fl; have := HLT.out; have := HL.out; omega)
              have hcn := HK3.out.cnt
              have hbg := HK3.out.bg
              have hw9 : IntKind.i64.wrap (bn - gn) = bn - gn := IntWalk.i64_in _ (by have := HLT.out; have := HL.out; omega)
              have HCN := Lib.hid hcn
              clear hcn hbg
              generalize hm9 : bn - gn = m9 at hw9 HCN
              have HM9 := Lib.hid hm9
              clear hm9
              go_upto_region 49 with fail
              go_wp2_with fail
              refine hfl.mono ?_
              rintro e w9 ⟨⟨v9, rfl, h9⟩, b9⟩
              have HK9 := Lib.hid (HK3.out.below b9)
              have B9 := Lib.hid (bmore B3.out b9)
              obtain ⟨va9, vc9, rfl⟩ := slice_of h9
              have hx9 : IntKind.i64.wrap (bn - gn) = (((x.fl).length : Nat) : Int) := by rw [HM9.out, hw9]; first | exact HCN.out | (rw [HCN.out]; simp)
              clear h9 b9 hfl hw9
              go_wp2_with fail
              go_roundw
              case rel => exact ⟨k + 1, _, seen, bn, gn, F3, H3, by simp, rfl, rfl, HLT.out, HK9.out, B9.out⟩
              case measure => have := HLT.out; have := HL.out; simp [intOf]; omega

            · rw [hse] at hc hbd hkp
              have HBD := Lib.hid hbd
              have HKP := Lib.hid hkp
              have HP2 := Lib.hid hp2
              have hwb : IntKind.i64.wrap (bn + 1) = bn + 1 := IntWalk.i64_in _ (by have := K2.out.bg; have := HLT.out; have := HL.out; omega)
              have hwg : IntKind.i64.wrap (gn + 1) = gn + 1 := IntWalk.i64_in _ (by have := K2.out.bg; have := HLT.out; have := HL.out; omega)
              clear hbd hkp hp2 hse
              go_wp2_with fail
              refine hc.mono ?_
              rintro e w3 ⟨rfl, F3, H3, i3, t3, o3⟩
              have HK3 := Lib.hid (K2.out.step i3 t3 o3 HBD.out HKP.out (bn := (bn + 1)) (gn := gn) (by show bn + 1 - gn = (((x.fl ++ [_]).length : Nat) : Int); rw [List.length_append]; have := K2.out.cnt; push_cast; simp only [List.length_singleton]; omega) (by have := K2.out.bg; omega))
              have B3 := Lib.hid (B2.out.trans (t3.below B2.out.size (fun j hj => (K2.out.net.own_lt hj).1)))
              clear i3 t3 o3 hc c1 c2 c3 c4
              go_wp2_with fail
              refine (num15 _ _).mono ?_
              rintro e w4 ⟨rfl, rfl⟩
              have hfl := flying_any HK3.out.net (by have := HK3.out.bd.fl; have := HLT.out; have := HL.out; omega)
              have hcn := HK3.out.cnt
              have hbg := HK3.out.bg
              have hw9 : IntKind.i64.wrap ((bn + 1) - gn) = (bn + 1) - gn := IntWalk.i64_in _ (by have := HLT.out; have := HL.out; omega)
              have HCN := Lib.hid hcn
              clear hcn hbg
              generalize hm9 : (bn + 1) - gn = m9 at hw9 HCN
              have HM9 := Lib.hid hm9
              clear hm9
              go_upto_region 49 with fail
              go_wp2_with fail
              refine hfl.mono ?_
              rintro e w9 ⟨⟨v9, rfl, h9⟩, b9⟩
              have HK9 := Lib.hid (HK3.out.below b9)
              have B9 := Lib.hid (bmore B3.out b9)
              obtain ⟨va9, vc9, rfl⟩ := slice_of h9
              have hx9 : IntKind.i64.wrap ((bn + 1) - gn) = (((x.fl ++ [zeroP]).length : Nat) : Int) := by rw [HM9.out, hw9]; first | exact HCN.out | (rw [HCN.out]; simp)
              clear h9 b9 hfl hw9
              go_wp2_with fail
              go_roundw
              case rel => exact ⟨k + 1, _, seen, (bn + 1), gn, F3, H3, by simp, rfl, rfl, HLT.out, HK9.out, B9.out⟩
              case measure => have := HLT.out; have := HL.out; simp [intOf]; omega
        by_cases h4 : kd = 4
        · subst h4
          as_aux_lemma =>
            go_upto_region 42 with fail
            generalize (wr.alloc (.cells #[.int .i64 4, .int .i64 za, .int .i64 zb, .string zv, .bool zo] ActT)) = W2 at *
            have c1 := cellB (j := 1) Z2.out rfl
            have c2 := cellB (j := 2) Z2.out rfl
            have c3 := cellB (j := 3) Z2.out rfl
            have c4 := cellB (j := 4) Z2.out rfl
            clear d0 d1 d2 d3 d4
            have hc := move_any K2.out.net B2.out.size (by have := K2.out.bd.fl; have := HLT.out; have := HL.out; omega) za zb
            have HBD := Lib.hid (K2.out.bd.mov za zb)
            have HKP := Lib.hid (K2.out.kp.mov za zb)
            have HLN := Lib.hid (mov_len x za zb)
            go_wp2_with fail
            refine hc.mono ?_
            rintro e w3 ⟨rfl, F3, H3, i3, t3, o3⟩
            have HK3 := Lib.hid (K2.out.step i3 t3 o3 (HBD.out.more (Nat.le_succ _)) HKP.out (bn := bn) (gn := gn) (by rw [HLN.out]; exact K2.out.cnt) (by have := K2.out.bg; omega))
            have B3 := Lib.hid (B2.out.trans (t3.below B2.out.size (fun j hj => (K2.out.net.own_lt hj).1)))
            clear i3 t3 o3 hc c1 c2 c3 c4

            have hfl := flying_any HK3.out.net (by have := HK3.out.bd.fl; have := HLT.out; have := HL.out; omega)
            have hcn := HK3.out.cnt
            have hbg := HK3.out.bg
            have hw9 : IntKind.i64.wrap (bn - gn) = bn - gn := IntWalk.i64_in _ (by have := HLT.out; have := HL.out; omega)
            have HCN := Lib.hid hcn
            clear hcn hbg
            generalize hm9 : bn - gn = m9 at hw9 HCN
            have HM9 := Lib.hid hm9
            clear hm9
            go_upto_region 49 with fail
            go_wp2_with fail
            refine hfl.mono ?_
            rintro e w9 ⟨⟨v9, rfl, h9⟩, b9⟩
            have HK9 := Lib.hid (HK3.out.below b9)
            have B9 := Lib.hid (bmore B3.out b9)
            obtain ⟨va9, vc9, rfl⟩ := slice_of h9
            have hx9 : IntKind.i64.wrap (bn - gn) = ((((movP x za zb).1.fl).length : Nat) : Int) := by rw [HM9.out, hw9]; first | exact HCN.out | (rw [HCN.out]; simp)
            clear h9 b9 hfl hw9
            go_wp2_with fail
            go_roundw
            case rel => exact ⟨k + 1, _, seen, bn, gn, F3, H3, by simp, rfl, rfl, HLT.out, HK9.out, B9.out⟩
            case measure => have := HLT.out; have := HL.out; simp [intOf]; omega
        by_cases h5 : kd = 5
        · subst h5
          as_aux_lemma =>
            go_upto_region 44 with fail
            generalize (wr.alloc (.cells #[.int .i64 5, .int .i64 za, .int .i64 zb, .string zv, .bool zo] ActT)) = W2 at *
            have c1 := cellB (j := 1) Z2.out rfl
            have c2 := cellB (j := 2) Z2.out rfl
            have c3 := cellB (j := 3) Z2.out rfl
            have c4 := cellB (j := 4) Z2.out rfl
            clear d0 d1 d2 d3 d4
            have hc := hold_any K2.out.net za zb
            have HBD := Lib.hid (K2.out.bd.hold za zb)
            have HKP := Lib.hid (K2.out.kp.hold za zb)
            have HLN := Lib.hid (hold_len x za zb)
            go_wp2_with fail
            refine hc.mono ?_
            rintro e w3 ⟨rfl, F3, H3, i3, t3, o3⟩
            have HK3 := Lib.hid (K2.out.step i3 t3 o3 (HBD.out.more (Nat.le_succ _)) HKP.out (bn := bn) (gn := gn) (by rw [HLN.out]; exact K2.out.cnt) (by have := K2.out.bg; omega))
            have B3 := Lib.hid (B2.out.trans (t3.below B2.out.size (fun j hj => (K2.out.net.own_lt hj).1)))
            clear i3 t3 o3 hc c1 c2 c3 c4

            have hfl := flying_any HK3.out.net (by have := HK3.out.bd.fl; have := HLT.out; have := HL.out; omega)
            have hcn := HK3.out.cnt
            have hbg := HK3.out.bg
            have hw9 : IntKind.i64.wrap (bn - gn) = bn - gn := IntWalk.i64_in _ (by have := HLT.out; have := HL.out; omega)
            have HCN := Lib.hid hcn
            clear hcn hbg
            generalize hm9 : bn - gn = m9 at hw9 HCN
            have HM9 := Lib.hid hm9
            clear hm9
            go_upto_region 49 with fail
            go_wp2_with fail
            refine hfl.mono ?_
            rintro e w9 ⟨⟨v9, rfl, h9⟩, b9⟩
            have HK9 := Lib.hid (HK3.out.below b9)
            have B9 := Lib.hid (bmore B3.out b9)
            obtain ⟨va9, vc9, rfl⟩ := slice_of h9
            have hx9 : IntKind.i64.wrap (bn - gn) = ((((holdP x za zb).1.fl).length : Nat) : Int) := by rw [HM9.out, hw9]; first | exact HCN.out | (rw [HCN.out]; simp)
            clear h9 b9 hfl hw9
            go_wp2_with fail
            go_roundw
            case rel => exact ⟨k + 1, _, seen, bn, gn, F3, H3, by simp, rfl, rfl, HLT.out, HK9.out, B9.out⟩
            case measure => have := HLT.out; have := HL.out; simp [intOf]; omega
        by_cases h6 : kd = 6
        · subst h6
          as_aux_lemma =>
            go_upto_region 46 with fail
            generalize (wr.alloc (.cells #[.int .i64 6, .int .i64 za, .int .i64 zb, .string zv, .bool zo] ActT)) = W2 at *
            have c1 := cellB (j := 1) Z2.out rfl
            have c2 := cellB (j := 2) Z2.out rfl
            have c3 := cellB (j := 3) Z2.out rfl
            have c4 := cellB (j := 4) Z2.out rfl
            clear d0 d1 d2 d3 d4
            have hc := tick_any K2.out.net (by have := K2.out.bd.fl; have := HLT.out; have := HL.out; omega) (fun p hp => ⟨(K2.out.bd.pk p hp).2.2.1, (K2.out.bd.pk p hp).2.2.2⟩)
            have HBD := Lib.hid (K2.out.bd.tick)
            have HKP := Lib.hid (K2.out.kp.tick)
            have HLN := Lib.hid (tick_len2 x)
            go_wp2_with fail
            refine hc.mono ?_
            rintro e w3 ⟨rfl, F3, H3, i3, t3, o3⟩
            have HK3 := Lib.hid (K2.out.step i3 t3 o3 (HBD.out.more (Nat.le_succ _)) HKP.out (bn := bn) (gn := gn) (by rw [HLN.out]; exact K2.out.cnt) (by have := K2.out.bg; omega))
            have B3 := Lib.hid (B2.out.trans (t3.below B2.out.size (fun j hj => (K2.out.net.own_lt hj).1)))
            clear i3 t3 o3 hc c1 c2 c3 c4

            have hfl := flying_any HK3.out.net (by have := HK3.out.bd.fl; have := HLT.out; have := HL.out; omega)
            have hcn := HK3.out.cnt
            have hbg := HK3.out.bg
            have hw9 : IntKind.i64.wrap (bn - gn) = bn - gn := IntWalk.i64_in _ (by have := HLT.out; have := HL.out; omega)
            have HCN := Lib.hid hcn
            clear hcn hbg
            generalize hm9 : bn - gn = m9 at hw9 HCN
            have HM9 := Lib.hid hm9
            clear hm9
            go_upto_region 49 with fail
            go_wp2_with fail
            refine hfl.mono ?_
            rintro e w9 ⟨⟨v9, rfl, h9⟩, b9⟩
            have HK9 := Lib.hid (HK3.out.below b9)
            have B9 := Lib.hid (bmore B3.out b9)
            obtain ⟨va9, vc9, rfl⟩ := slice_of h9
            have hx9 : IntKind.i64.wrap (bn - gn) = ((((tickP x).fl).length : Nat) : Int) := by rw [HM9.out, hw9]; first | exact HCN.out | (rw [HCN.out]; simp)
            clear h9 b9 hfl hw9
            go_wp2_with fail
            go_roundw
            case rel => exact ⟨k + 1, _, seen, bn, gn, F3, H3, by simp, rfl, rfl, HLT.out, HK9.out, B9.out⟩
            case measure => have := HLT.out; have := HL.out; simp [intOf]; omega
        by_cases h7 : kd = 7
        · subst h7
          as_aux_lemma =>
            go_upto_region 48 with fail
            generalize (wr.alloc (.cells #[.int .i64 7, .int .i64 za, .int .i64 zb, .string zv, .bool zo] ActT)) = W2 at *
            have c1 := cellB (j := 1) Z2.out rfl
            have c2 := cellB (j := 2) Z2.out rfl
            have c3 := cellB (j := 3) Z2.out rfl
            have c4 := cellB (j := 4) Z2.out rfl
            clear d0 d1 d2 d3 d4
            have hc := cut_any K2.out.net za zb zo
            have HBD := Lib.hid (K2.out.bd.cut za zb zo)
            have HKP := Lib.hid (K2.out.kp.cut za zb zo)
            have HLN := Lib.hid (cut_len x za zb zo)
            go_wp2_with fail
            refine hc.mono ?_
            rintro e w3 ⟨rfl, F3, H3, i3, t3, o3⟩
            have HK3 := Lib.hid (K2.out.step i3 t3 o3 (HBD.out.more (Nat.le_succ _)) HKP.out (bn := bn) (gn := gn) (by rw [HLN.out]; exact K2.out.cnt) (by have := K2.out.bg; omega))
            have B3 := Lib.hid (B2.out.trans (t3.below B2.out.size (fun j hj => (K2.out.net.own_lt hj).1)))
            clear i3 t3 o3 hc c1 c2 c3 c4

            have hfl := flying_any HK3.out.net (by have := HK3.out.bd.fl; have := HLT.out; have := HL.out; omega)
            have hcn := HK3.out.cnt
            have hbg := HK3.out.bg
            have hw9 : IntKind.i64.wrap (bn - gn) = bn - gn := IntWalk.i64_in _ (by have := HLT.out; have := HL.out; omega)
            have HCN := Lib.hid hcn
            clear hcn hbg
            generalize hm9 : bn - gn = m9 at hw9 HCN
            have HM9 := Lib.hid hm9
            clear hm9
            go_upto_region 49 with fail
            go_wp2_with fail
            refine hfl.mono ?_
            rintro e w9 ⟨⟨v9, rfl, h9⟩, b9⟩
            have HK9 := Lib.hid (HK3.out.below b9)
            have B9 := Lib.hid (bmore B3.out b9)
            obtain ⟨va9, vc9, rfl⟩ := slice_of h9
            have hx9 : IntKind.i64.wrap (bn - gn) = ((((cutP x za zb zo).1.fl).length : Nat) : Int) := by rw [HM9.out, hw9]; first | exact HCN.out | (rw [HCN.out]; simp)
            clear h9 b9 hfl hw9
            go_wp2_with fail
            go_roundw
            case rel => exact ⟨k + 1, _, seen, bn, gn, F3, H3, by simp, rfl, rfl, HLT.out, HK9.out, B9.out⟩
            case measure => have := HLT.out; have := HL.out; simp [intOf]; omega
        have hn0 : decide (kd = 0) = false := by simpa using h0
        have hn1 : decide (kd = 1) = false := by simpa using h1
        have hn2 : decide (kd = 2) = false := by simpa using h2
        have hn3 : decide (kd = 3) = false := by simpa using h3
        have hn4 : decide (kd = 4) = false := by simpa using h4
        have hn5 : decide (kd = 5) = false := by simpa using h5
        have hn6 : decide (kd = 6) = false := by simpa using h6
        have hn7 : decide (kd = 7) = false := by simpa using h7
        go_upto_region 49 with fail
        generalize (wr.alloc (.cells #[.int .i64 kd, .int .i64 za, .int .i64 zb, .string zv, .bool zo] ActT)) = W2 at *
        have c1 := cellB (j := 1) Z2.out rfl
        have c2 := cellB (j := 2) Z2.out rfl
        have c3 := cellB (j := 3) Z2.out rfl
        have c4 := cellB (j := 4) Z2.out rfl
        clear d0 d1 d2 d3 d4
        have HK3 := Lib.hid (K2.out.more)
        have B3 := Lib.hid B2.out
        clear hn0 hn1 hn2 hn3 hn4 hn5 hn6 hn7 c1 c2 c3 c4

        have hfl := flying_any HK3.out.net (by have := HK3.out.bd.fl; have := HLT.out; have := HL.out; omega)
        have hcn := HK3.out.cnt
        have hbg := HK3.out.bg
        have hw9 : IntKind.i64.wrap (bn - gn) = bn - gn := IntWalk.i64_in _ (by have := HLT.out; have := HL.out; omega)
        have HCN := Lib.hid hcn
        clear hcn hbg
        generalize hm9 : bn - gn = m9 at hw9 HCN
        have HM9 := Lib.hid hm9
        clear hm9
        go_wp2_with fail
        refine hfl.mono ?_
        rintro e w9 ⟨⟨v9, rfl, h9⟩, b9⟩
        have HK9 := Lib.hid (HK3.out.below b9)
        have B9 := Lib.hid (bmore B3.out b9)
        obtain ⟨va9, vc9, rfl⟩ := slice_of h9
        have hx9 : IntKind.i64.wrap (bn - gn) = (((x.fl).length : Nat) : Int) := by rw [HM9.out, hw9]; first | exact HCN.out | (rw [HCN.out]; simp)
        clear h9 b9 hfl hw9
        go_wp2_with fail
        go_roundw
        case rel => exact ⟨k + 1, _, seen, bn, gn, F, H, by simp, rfl, rfl, HLT.out, HK9.out, B9.out⟩
        case measure => have := HLT.out; have := HL.out; simp [intOf]; omega
      · obtain rfl : k = l.length := by omega
        have hlt1 : decide ((l.length : Int) < (l.length : Int)) = false := by simp
        clear hk hlt XA
        go_wp2_with fail
        refine (live15 wr).mono ?_
        rintro e w5 ⟨rfl, b5⟩
        have B5 := Lib.hid (bmore HB.out b5)
        clear b5
        go_wp2_with fail
        go_returns
        exact ⟨rfl, B5.out⟩
theorem keeps_all {w : World} {v : Value} {l : List Ac} (h : Row w 5 v l.length (acs l)) (hok : ∀ c ∈ l, AcOk c) :
    Calls Try.prog 4 #[v] w fun e w' => e = .returned (.bool true) ∧ Below w.heap.size w w' := by
  by_cases hl : l.length ≤ 200
  · exact keeps_walk h hok hl
  · exact keeps_long h (by omega)
end Go.Proofs.Ytgnmieobgdbafaa
