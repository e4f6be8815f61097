/-
  The statement DiskArmed: armed with n, just the first n writes that are not refused are done. No condition.
-/
import Derived.Test.YthamjlhkiabcnaaDAgain
namespace Go.Proofs.Ythamjlhkiabcnaa
open Go.ChangeShapes Go.WideShapes Go.ChangeAt Go.RowKit
set_option linter.unusedVariables false

/-- d is armed with n from the beginning on; c has had the first n writes alone. -/
structure Pair (n : Int) (d c : Dk) : Prop where
  now : d.now = c.now
  log : d.log = c.log
  left : d.left = n - c.log.length
  le : (c.log.length : Int) ≤ n
  dead : d.dead = true → (c.log.length : Int) = n
  cdead : c.dead = false
  cleft : c.left = -1

section
variable {n : Int} {d c : Dk} {p : Int} {s : ByteArray}
theorem write_far (h : d.has p = false) : d.writeE p s = 2 ∧ d.write p s = d := by simp [Dk.writeE, Dk.write, h]
theorem write_big (h : d.has p = true) (hs : 1024 < s.size) : d.writeE p s = 1 ∧ d.write p s = d := by simp [Dk.writeE, Dk.write, h, hs]
theorem Pair.room (h : Pair n d c) (hp : c.has p = true) (hs : ¬ 1024 < s.size) (hr : (c.log.length : Int) < n) :
    d.writeE p s = 0 ∧ Pair n (d.write p s) (c.write p s) := by
  have hd : d.has p = true := by unfold Dk.has at *; rw [h.now]; exact hp
  have hl : d.left ≠ 0 := by have := h.left; omega
  have hl1 : d.left ≠ -1 := by have := h.left; omega
  have hdd : d.dead = false := by
    cases hq : d.dead
    · rfl
    · have := h.dead hq; omega
  have hsp : d.spent = false := by simp [Dk.spent, hdd, hl]
  have hcs : c.spent = false := by simp [Dk.spent, h.cdead, h.cleft]
  have e1 : d.write p s = d.spend.lay (p, s) := by simp [Dk.write, hd, hs, hsp]
  have e2 : c.write p s = c.spend.lay (p, s) := by simp [Dk.write, hp, hs, hcs]
  have f1 : d.spend = { d with left := d.left - 1 } := by simp [Dk.spend, hl, hdd, hl1]
  have f2 : c.spend = c := by simp [Dk.spend, h.cdead, h.cleft]
  refine ⟨by simp [Dk.writeE, hd, hs, hsp], ?_⟩
  rw [e1, e2, f1, f2]
  refine ⟨?_, ?_, ?_, ?_, ?_, h.cdead, h.cleft⟩
  · show d.now.set _ _ = c.now.set _ _; rw [h.now]
  · show d.log ++ _ = c.log ++ _; rw [h.log]
  · show d.left - 1 = n - ((c.log ++ [(p, s)]).length : Nat); have := h.left; simp; omega
  · show ((c.log ++ [(p, s)]).length : Int) ≤ n; simp; omega
  · intro hq; rw [show ({ d with left := d.left - 1 } : Dk).lay (p, s) = { d.lay (p, s) with left := d.left - 1 } from rfl] at hq
    have : d.dead = true := hq
    rw [hdd] at this; cases this
theorem Pair.none (h : Pair n d c) (hp : c.has p = true) (hs : ¬ 1024 < s.size) (hr : (c.log.length : Int) = n) :
    d.writeE p s = 20 ∧ Pair n (d.write p s) c := by
  have hd : d.has p = true := by unfold Dk.has at *; rw [h.now]; exact hp
  have hl : d.left = 0 := by have := h.left; omega
  have hsp : d.spent = true := by simp [Dk.spent, hl]
  have e1 : d.write p s = d.spend := by simp [Dk.write, hd, hs, hsp]
  have f1 : d.spend = { d with dead := true } := by simp [Dk.spend, hl]
  refine ⟨by simp [Dk.writeE, hd, hs, hsp], ?_⟩
  rw [e1, f1]
  exact ⟨h.now, h.log, h.left, h.le, fun _ => hr, h.cdead, h.cleft⟩
end

/-- Two disks lie apart: one of them is turned, the other stays. -/
theorem apart_step {w w' : World} {B a b : Nat} {S T : Nat → Prop} {d' c : Dk} (hc : IsDisk w B b T c) (ha : ∀ k, S k → ¬ T k) (ht : Turned w B a S d' w') :
    ∃ S', IsDisk w' B a S' d' ∧ IsDisk w' B b T c ∧ (∀ k, S' k → ¬ T k) ∧ (∀ k, S' k → S k ∨ w.heap.size ≤ k) ∧ Touch S w w' := by
  obtain ⟨S', h1, h2, h3⟩ := ht
  refine ⟨S', h1, hc.keep h3 fun k hk hs => ha k hs hk, fun k hk hT => ?_, h2, h3⟩
  rcases h2 k hk with e | e
  · exact ha k e hT
  · have := (hc.lt k hT).2; omega

set_option maxRecDepth 20000 in
set_option maxHeartbeats 12800000 in
theorem armed_walk {w : World} {v1 v2 : Value} {image : List ByteArray} {l : List Act3} (n : Int) (hn2 : n ≤ 9223372036854775807) (h1 : Row w 1 v1 image.length (strs image)) (h2 : Row w 3 v2 l.length (acs l)) (hi : image.length ≤ maxLen) (hl : l.length ≤ maxLen)
    (hs1 : ∀ s ∈ image, s.size ≤ maxLen) (hs2 : ∀ y ∈ l, ActOk y) :
    Calls Try.prog 7 #[v1, v2, .int .i64 n] w fun e w' => e = .returned (.bool true) ∧ Below w.heap.size w w' := by
  have HL := Lib.hid (long_any h1 h2 hi hl hs1 hs2)
  have HS2 := Lib.hid hs2
  have HS1 := Lib.hid hs1
  have R1 := Lib.hid h1
  obtain ⟨a1, c1, rfl⟩ := h1.shape
  obtain ⟨a2, c2, rfl, _, r2⟩ := h2.room
  have R2 := Lib.hid r2
  clear h1 h2 hs1 hs2 r2
  go_enter Try.func7, Try.ntmps7
  go_wp2_with fail
  refine HL.out.mono ?_
  rintro e w1 ⟨⟨b, rfl, hb⟩, rfl⟩
  cases b
  case true =>
    clear hb
    go_wp2_with fail
    refine (live_any _).mono ?_
    rintro e w9 ⟨rfl, hb⟩
    go_wp2_with fail
    go_ret
    exact ⟨rfl, hb⟩
  case false =>
    obtain ⟨hi40, hl60⟩ := hb rfl
    clear hb HL
    by_cases hn : n < 0
    · skip
      go_wp2_with fail
      refine (live_any _).mono ?_
      rintro e w9 ⟨rfl, hb⟩
      go_wp2_with fail
      go_ret
      exact ⟨rfl, hb⟩
    · have hn0 : 0 ≤ n := by omega
      clear hn
      by_cases hpos : 1 ≤ image.length
      · by_cases hlong : anyLong image = true
        · have HL1 := Lib.hid fun (W : World) (r : Row W 1 (.slice a1 image.length c1) image.length (strs image)) => load_long r hpos (by omega) HS1.out hlong
          clear hlong
          go_wp2_with fail
          refine (HL1.out _ R1.out).mono ?_
          rintro e w1 ⟨rfl, rfl⟩
          go_wp2_with fail
          refine (HL1.out _ R1.out).mono ?_
          rintro e w1 ⟨rfl, rfl⟩
          go_wp2_with fail
          refine (num_any _ _).mono ?_
          rintro e w1 ⟨rfl, rfl⟩
          go_wp2_with fail
          refine (live_any _).mono ?_
          rintro e w9 ⟨rfl, hb⟩
          go_wp2_with fail
          go_ret
          exact ⟨rfl, hb⟩
        · have hlong' : anyLong image = false := by simpa using hlong
          have HL1 := Lib.hid fun (W : World) (r : Row W 1 (.slice a1 image.length c1) image.length (strs image)) (hB : w.heap.size ≤ W.heap.size) => load_ok r hpos (by omega) HS1.out hlong' hB
          clear hlong hlong'
          go_wp2_with fail
          refine (HL1.out _ R1.out (Nat.le_refl _)).mono ?_
          rintro e w1 ⟨ad, S, rfl, hd, _, b1⟩
          have D1 := Lib.hid hd
          have R1' := Lib.hid (R1.out.below b1)
          clear hd R1
          go_wp2_with fail
          refine (HL1.out _ R1'.out b1.size).mono ?_
          rintro e w2 ⟨ac, T, rfl, hc, hT, hbx⟩
          have b2 := bthen b1 hbx
          have D2 := Lib.hid (D1.out.below hbx)
          have C2 := Lib.hid hc
          have HA2 : Hid (∀ q, S q → ¬ T q) := Lib.hid fun q hS' hT' => by have := (D1.out.lt q hS').2; have := hT q hT'; omega
          clear hc hT hbx b1 D1 HL1 R1'
          go_wp2_with fail
          refine (num_any _ _).mono ?_
          rintro e w3 ⟨rfl, rfl⟩
          go_wp2_with fail
          refine (num_any _ _).mono ?_
          rintro e w3 ⟨rfl, rfl⟩
          go_wp2_with fail
          refine (arm_ok D2.out n (by omega) hn2).mono ?_
          rintro e w3 ⟨rfl, ht⟩
          obtain ⟨S', k1, k2, k3, k4, k5⟩ := apart_step C2.out HA2.out ht
          have K1 := Lib.hid k1
          have K2 := Lib.hid k2
          have K3 := Lib.hid k3
          have b3 := b2.trans (k5.below b2.size fun q hq => (D2.out.lt q hq).1)
          have KB := Lib.hid fun q hq => (k1.lt q hq).1
          have TB := Lib.hid fun q hq => (k2.lt q hq).1
          clear k1 k2 k3 k4 k5 ht b2 D2 C2 HA2
          go_wp2_with fail
          go_loopw [11] (fun i wr => ∃ k : Nat, k ≤ l.length ∧ i = .int .i64 (k : Int) ∧ ∃ (d c : Dk) (S T : Nat → Prop), IsDisk wr w.heap.size ad S d ∧ IsDisk wr w.heap.size ac T c ∧ (∀ q, S q → ¬ T q) ∧ (∀ q, S q → w.heap.size ≤ q) ∧ (∀ q, T q → w.heap.size ≤ q) ∧ Pair n d c ∧ c.now.length = image.length ∧ c.log.length ≤ k ∧ Below w.heap.size w wr) (fun i _ => l.length - (intOf i).toNat)
          case atStart =>
            exact ⟨0, Nat.zero_le _, rfl, _, _, S', T, K1.out, K2.out, K3.out, KB.out, TB.out, ⟨rfl, rfl, by simp, by simpa using hn0, (by intro h; cases h), rfl, rfl⟩, rfl, Nat.le_refl _, b3⟩
          case round =>
            obtain ⟨k, hk, rfl, d, c, S, T, hd, hc, ha, hSB, hTB, hp, hcl, hck, hb2⟩ := hrel
            have HDd := Lib.hid hd
            have HCc := Lib.hid hc
            have HA := Lib.hid ha
            have HSB := Lib.hid hSB
            have HTB := Lib.hid hTB
            have HP := Lib.hid hp
            have HCL := Lib.hid hcl
            have hdl : Hid (d.log.length < 4294967296) := by rw [hp.log]; exact Lib.hid (by omega)
            have HLg := hdl
            have hdn : Hid (d.now.length = image.length) := Lib.hid (by rw [hp.now]; exact hcl)
            clear hd hc ha hSB hTB hp hcl K1 K2 K3 KB TB b3
            by_cases hlt : k < l.length
            · obtain ⟨b2, o2, rfl, _, q2⟩ := R2.out (by omega)
              obtain ⟨_, g1, g2⟩ := acs_at l k hlt
              have x1 := cell_later hb2 (q2 _ _ g1)
              have x2 := cell_later hb2 (q2 _ _ g2)
              rw [← Nat.add_assoc] at x1 x2
              obtain ⟨_, ⟨y2, y3⟩, y4⟩ := HS2.out _ (List.getElem_mem hlt)
              have y4' := y4
              unfold maxLen at y4'
              clear q2 g1 g2
              generalize l[k] = x at *
              obtain ⟨xk, xa, xs⟩ := x
              simp only at x1 x2 y2 y3 y4 y4'
              by_cases hA : 0 ≤ xa ∧ xa < image.length
              · have hhas : d.has xa = true := by unfold Dk.has; rw [hdn.out]; exact decide_eq_true hA
                have hhc : c.has xa = true := by unfold Dk.has; rw [HCL.out]; exact decide_eq_true hA
                obtain ⟨hA0, hA1⟩ := hA
                by_cases hS : 1024 < xs.size
                · have HW := Lib.hid (write_big hhas hS)
                  clear hhas hhc
                  go_wp2_with fail
                  go_still_tail 11, (by kernel_rfl)
                  go_wp2_with fail
                  refine (write_any (HDd.out.keep (touch_drew wr fun _ => False) fun _ _ h => h) xa xs y4 HLg.out).mono ?_
                  rintro e u1 ⟨rfl, ht0⟩
                  have ht := turned_drew ht0
                  rw [HW.out.1]
                  clear ht0
                  obtain ⟨S', k1, k2, k3, k4, k5⟩ := apart_step HCc.out HA.out ht
                  have K1 := Lib.hid k1
                  have K2 := Lib.hid k2
                  have K3 := Lib.hid k3
                  have hb3 := hb2.trans (k5.below hb2.size HSB.out)
                  have KB := Lib.hid fun q hq => (k4 q hq).elim (HSB.out q) (fun e => Nat.le_trans hb2.size e)
                  clear k1 k2 k3 k4 k5 ht
                  go_wp2_with fail
                  refine (num_any _ _).mono ?_
                  rintro e u2 ⟨rfl, rfl⟩
                  go_wp2_with fail
                  go_roundw
                  case rel => exact ⟨k + 1, by omega, by go_num, _, c, S', T, K1.out, K2.out, K3.out, KB.out, HTB.out, (by rw [HW.out.2]; exact HP.out), HCL.out, by omega, hb3⟩
                  case measure => simp [intOf]; omega
                · have hS' : xs.size ≤ 1024 := by omega
                  by_cases hr : (c.log.length : Int) < n
                  · have HW := Lib.hid (HP.out.room hhc hS hr)
                    clear hhas hhc hS
                    go_wp2_with fail
                    go_still_tail 11, (by kernel_rfl)
                    go_wp2_with fail
                    refine (write_any (HDd.out.keep (touch_drew wr fun _ => False) fun _ _ h => h) xa xs y4 HLg.out).mono ?_
                    rintro e u1 ⟨rfl, ht0⟩
                    have ht := turned_drew ht0
                    rw [HW.out.1]
                    clear ht0
                    obtain ⟨S', k1, k2, k3, k4, k5⟩ := apart_step HCc.out HA.out ht
                    have K1 := Lib.hid k1
                    have K2 := Lib.hid k2
                    have K3 := Lib.hid k3
                    have hb3 := hb2.trans (k5.below hb2.size HSB.out)
                    have KB := Lib.hid fun q hq => (k4 q hq).elim (HSB.out q) (fun e => Nat.le_trans hb2.size e)
                    clear k1 k2 k3 k4 k5 ht
                    go_wp2_with fail
                    refine (num_any _ _).mono ?_
                    rintro e u2 ⟨rfl, rfl⟩
                    go_wp2_with fail
                    refine (writes_any K2.out).mono ?_
                    rintro e u3 ⟨rfl, rfl⟩
                    go_wp2_with fail
                    refine (writes_any K2.out).mono ?_
                    rintro e u3 ⟨rfl, rfl⟩
                    have x1' : u1.cell? ⟨b2, o2 + k * 3 + 1, none⟩ = some (.int .i64 xa) := (hb3.cell (p := ⟨b2, o2 + k * 3 + 1, none⟩) (by assumption)).trans ((hb2.cell (p := ⟨b2, o2 + k * 3 + 1, none⟩) (by assumption)).symm.trans x1)
                    have x2' : u1.cell? ⟨b2, o2 + k * 3 + 2, none⟩ = some (.string xs) := (hb3.cell (p := ⟨b2, o2 + k * 3 + 2, none⟩) (by assumption)).trans ((hb2.cell (p := ⟨b2, o2 + k * 3 + 2, none⟩) (by assumption)).symm.trans x2)
                    clear x1 x2
                    go_wp2_with fail
                    go_still_tail 11, (by kernel_rfl)
                    go_wp2_with fail
                    refine (write_any (K2.out.keep (touch_drew u1 fun _ => False) fun _ _ h => h) xa xs y4 (by omega)).mono ?_
                    rintro e u4 ⟨rfl, ht0⟩
                    have ht := turned_drew ht0
                    clear ht0
                    obtain ⟨T', k1, k2, k3, k4, k5⟩ := apart_step K1.out (fun q hT hS => K3.out q hS hT) ht
                    have M1 := Lib.hid k1
                    have M2 := Lib.hid k2
                    have M3 := Lib.hid fun q hS hT => k3 q hT hS
                    have hb4 := hb3.trans (k5.below hb3.size HTB.out)
                    have MB := Lib.hid fun q hq => (k4 q hq).elim (HTB.out q) (fun e => Nat.le_trans hb3.size e)
                    have hwl := Lib.hid (write_log c xa xs)
                    clear k1 k2 k3 k4 k5 ht
                    go_wp2_with fail
                    go_roundw
                    case rel => exact ⟨k + 1, by omega, by go_num, _, _, S', T', M2.out, M1.out, M3.out, KB.out, MB.out, HW.out.2, by rw [write_len]; exact HCL.out, Nat.le_trans hwl.out (by omega), hb4⟩
                    case measure => simp [intOf]; omega
                  · have hr' : n ≤ (c.log.length : Int) := by omega
                    have HW := Lib.hid (HP.out.none hhc hS (by have := HP.out.le; omega))
                    clear hhas hhc hS hr
                    go_wp2_with fail
                    go_still_tail 11, (by kernel_rfl)
                    go_wp2_with fail
                    refine (write_any (HDd.out.keep (touch_drew wr fun _ => False) fun _ _ h => h) xa xs y4 HLg.out).mono ?_
                    rintro e u1 ⟨rfl, ht0⟩
                    have ht := turned_drew ht0
                    rw [HW.out.1]
                    clear ht0
                    obtain ⟨S', k1, k2, k3, k4, k5⟩ := apart_step HCc.out HA.out ht
                    have K1 := Lib.hid k1
                    have K2 := Lib.hid k2
                    have K3 := Lib.hid k3
                    have hb3 := hb2.trans (k5.below hb2.size HSB.out)
                    have KB := Lib.hid fun q hq => (k4 q hq).elim (HSB.out q) (fun e => Nat.le_trans hb2.size e)
                    clear k1 k2 k3 k4 k5 ht
                    go_wp2_with fail
                    refine (num_any _ _).mono ?_
                    rintro e u2 ⟨rfl, rfl⟩
                    go_wp2_with fail
                    refine (writes_any K2.out).mono ?_
                    rintro e u3 ⟨rfl, rfl⟩
                    go_wp2_with fail
                    refine (writes_any K2.out).mono ?_
                    rintro e u3 ⟨rfl, rfl⟩
                    go_wp2_with fail
                    go_roundw
                    case rel => exact ⟨k + 1, by omega, by go_num, _, c, S', T, K1.out, K2.out, K3.out, KB.out, HTB.out, HW.out.2, HCL.out, by omega, hb3⟩
                    case measure => simp [intOf]; omega
              · have hhas : d.has xa = false := by unfold Dk.has; rw [hdn.out]; exact decide_eq_false hA
                have HW := Lib.hid (write_far (s := xs) hhas)
                clear hhas
                by_cases hA0 : xa < 0
                · clear hA
                  go_wp2_with fail
                  go_still_tail 11, (by kernel_rfl)
                  go_wp2_with fail
                  refine (write_any (HDd.out.keep (touch_drew wr fun _ => False) fun _ _ h => h) xa xs y4 HLg.out).mono ?_
                  rintro e u1 ⟨rfl, ht0⟩
                  have ht := turned_drew ht0
                  rw [HW.out.1]
                  clear ht0
                  obtain ⟨S', k1, k2, k3, k4, k5⟩ := apart_step HCc.out HA.out ht
                  have K1 := Lib.hid k1
                  have K2 := Lib.hid k2
                  have K3 := Lib.hid k3
                  have hb3 := hb2.trans (k5.below hb2.size HSB.out)
                  have KB := Lib.hid fun q hq => (k4 q hq).elim (HSB.out q) (fun e => Nat.le_trans hb2.size e)
                  clear k1 k2 k3 k4 k5 ht
                  go_wp2_with fail
                  refine (num_any _ _).mono ?_
                  rintro e u2 ⟨rfl, rfl⟩
                  go_wp2_with fail
                  go_roundw
                  case rel => exact ⟨k + 1, by omega, by go_num, _, c, S', T, K1.out, K2.out, K3.out, KB.out, HTB.out, (by rw [HW.out.2]; exact HP.out), HCL.out, by omega, hb3⟩
                  case measure => simp [intOf]; omega
                · have hA1 : (image.length : Int) ≤ xa := by omega
                  have hA0' : 0 ≤ xa := by omega
                  clear hA hA0
                  go_wp2_with fail
                  go_still_tail 11, (by kernel_rfl)
                  go_wp2_with fail
                  refine (write_any (HDd.out.keep (touch_drew wr fun _ => False) fun _ _ h => h) xa xs y4 HLg.out).mono ?_
                  rintro e u1 ⟨rfl, ht0⟩
                  have ht := turned_drew ht0
                  rw [HW.out.1]
                  clear ht0
                  obtain ⟨S', k1, k2, k3, k4, k5⟩ := apart_step HCc.out HA.out ht
                  have K1 := Lib.hid k1
                  have K2 := Lib.hid k2
                  have K3 := Lib.hid k3
                  have hb3 := hb2.trans (k5.below hb2.size HSB.out)
                  have KB := Lib.hid fun q hq => (k4 q hq).elim (HSB.out q) (fun e => Nat.le_trans hb2.size e)
                  clear k1 k2 k3 k4 k5 ht
                  go_wp2_with fail
                  refine (num_any _ _).mono ?_
                  rintro e u2 ⟨rfl, rfl⟩
                  go_wp2_with fail
                  go_roundw
                  case rel => exact ⟨k + 1, by omega, by go_num, _, c, S', T, K1.out, K2.out, K3.out, KB.out, HTB.out, (by rw [HW.out.2]; exact HP.out), HCL.out, by omega, hb3⟩
                  case measure => simp [intOf]; omega
            · obtain rfl : k = l.length := by omega
              have hs := same_any HDd.out HCc.out
              rw [show decide (d.now = c.now) = true from decide_eq_true HP.out.now] at hs
              have HSm := Lib.hid hs
              clear hs
              go_wp2_with fail
              refine HSm.out.mono ?_
              rintro e u1 ⟨rfl, q, rfl⟩
              have hb3 := below_drewN' hb2 q
              clear HSm HDd HCc
              go_wp2_with fail
              refine (live_any _).mono ?_
              rintro e w9 ⟨rfl, hb⟩
              go_wp2_with fail
              go_ret
              exact ⟨rfl, bthen hb3 hb⟩
      · have HL1 := Lib.hid (load_arg R1.out (by omega) (by omega))
        go_wp2_with fail
        refine HL1.out.mono ?_
        rintro e w1 ⟨rfl, rfl⟩
        go_wp2_with fail
        refine HL1.out.mono ?_
        rintro e w1 ⟨rfl, rfl⟩
        go_wp2_with fail
        refine (num_any _ _).mono ?_
        rintro e w1 ⟨rfl, rfl⟩
        go_wp2_with fail
        refine (live_any _).mono ?_
        rintro e w9 ⟨rfl, hb⟩
        go_wp2_with fail
        go_ret
        exact ⟨rfl, hb⟩

set_option maxRecDepth 100000 in
/-- What the walk gives, for every argument. -/
theorem armed_contract (H : Type) (enc : TypeId × Value → H) (W : World) (base : Nat) (args : Array Value) (ds gs : List (DataW H)) (before : List MemPlace)
    (hval0 : ∀ (j : Nat) t v, Try.f7.params[j]? = some t → args[j]? = some v → Value.okWide Try.prog W .any base t v)
    (hW : DataW.Whole enc Try.prog Try.f7.params.toList Rows.diskArmedSpec.vars false W args.toList ds gs before) :
    Calls Try.prog 7 args W fun e W' => ∃ v, e = .returned v ∧ Rows.diskArmedSpec.post enc Try.prog Try.f7 false true false false W args v W' := by
  have hval : ∀ (j : Nat) t v, Try.f7.params[j]? = some t → args[j]? = some v → Value.okWide Try.prog W .any base t v := hval0
  have hW' := hW
  obtain ⟨p, q, hA0, hV, rfl, hfz, hnd⟩ := hW
  have hA : DataW.TrodAll enc Try.prog W 0 (fun _ => true) true Try.f7.params.toList args.toList ds p := hA0
  rw [Try.params7] at hA hval
  obtain ⟨v0, vs0, d0, ds0, p0, q0, hargs0, rfl, rfl, h0, r0⟩ := trodAll_cons hA
  obtain ⟨v1, vs1, d1, ds1, p1, q1, hargs1, rfl, rfl, h1, r1⟩ := trodAll_cons r0
  obtain ⟨v2, vs2, d2, ds2, p2, q2, hargs2, rfl, rfl, h2, r2⟩ := trodAll_cons r1
  obtain ⟨rfl, rfl, rfl⟩ := trodAll_nil r2
  subst hargs1
  subst hargs2
  obtain rfl : args = #[v0, v1, v2] := by cases args; simp_all
  obtain ⟨rfl, rfl⟩ := trodVars_none hV
  have hv0 := hval 0 22 v0 rfl rfl
  have hc0 : Cell.okWide Try.prog W .any base 22 v0 := by simpa only [Value.okWide, Try.underlying22] using hv0
  obtain ⟨a0, c0, n0, e0⟩ := okWide_slice Try.underlying22 hv0
  obtain ⟨fuel0, hf0⟩ := id h0
  rw [show v0.cells.toList = [v0] by rw [e0]; rfl] at hf0
  obtain ⟨l0, rl0, hs0⟩ := open_strs hc0 hf0
  have hv1 := hval 1 23 v1 rfl rfl
  have hc1 : Cell.okWide Try.prog W .any base 23 v1 := by simpa only [Value.okWide, Try.underlying23] using hv1
  obtain ⟨a1, c1, n1, e1⟩ := okWide_slice Try.underlying23 hv1
  obtain ⟨fuel1, hf1⟩ := id h1
  rw [show v1.cells.toList = [v1] by rw [e1]; rfl] at hf1
  obtain ⟨l1, rl1, hs1⟩ := open_acts hc1 hf1
  obtain ⟨a2, rfl, rfl, rfl, w2⟩ := open_int Try.underlying3 (hval 2 3 v2 rfl rfl) h2
  clear hA0 hval0
  simp only [List.append_nil] at hW'
  refine (armed_walk a2 (bounds_i64 w2).2 rl0 rl1 rl0.small rl1.small hs0 hs1).mono fun e W' ⟨he, bel⟩ => ?_
  subst he
  exact ⟨_, rfl, _, _, _, [], _, [], hW', trodAll_mk1 (shut_bool Try.underlying4 _), (trodAll_cons_mk (Below.trod laidOut (by kernel_rfl) (of_decide_eq_true (by kernel_rfl)) h0 bel (places_lt h0)) (trodAll_cons_mk (Below.trod laidOut (by kernel_rfl) (of_decide_eq_true (by kernel_rfl)) h1 bel (places_lt h1)) (trodAll_cons_mk (shut_int Try.underlying3 w2) trodAll_mk0))), rfl, bel.frame _, fun h => by cases h⟩

set_option maxRecDepth 100000 in
theorem armed_lifted (os : Os) (started : os.Started) (H : Type) (enc : TypeId × Value → H) :
    ReturnsInHanded {} Try.checked os 7 .any (Rows.diskArmedSpec.pre6 enc Try.prog Try.f7 Rows.diskArmedRow.domain false) (Rows.diskArmedSpec.post enc Try.prog Try.f7 false true false false) := by
  refine returnsInHanded_of_change (C := Try.checked) own started (by kernel_rfl) Try.func7
    (ChangeSpec.witness6 (enc := enc) (C := Try.checked) false ⟨#[], #[.slice none 0 0, .slice none 0 0, .int .i64 0], []⟩ 8 (by kernel_rfl) (by kernel_rfl) (by kernel_rfl) (by kernel_rfl)) ?_
  intro W base args ds gs before hval hW _ _
  exact armed_contract H enc W base args ds gs before hval hW

/-- The statement. -/
theorem armed_holds : Rows.DiskArmedSaid :=
  OpenClaim.holds_of_wide 7 Try.f7 rfl rfl rfl rfl rfl rfl rfl ⟨rfl, rfl, rfl, rfl, rfl⟩ rfl rfl rfl rfl rfl (by kernel_rfl) Try.func7 (by kernel_rfl)
    (of_decide_eq_true (by kernel_rfl)) (by unfold Func.isWrapper; first | (rw [if_pos (by decide +kernel)]; kernel_rfl) | (rw [if_neg (by decide +kernel)]; exact ⟨rfl, rfl⟩))
    (fun os started H enc _ => armed_lifted os started H enc)

set_option maxRecDepth 100000 in
theorem armed_upto_lifted (os : Os) (started : os.Started) (H : Type) (enc : TypeId × Value → H) (F : Stop.Interp) :
    ReturnsInHanded {} Try.checked os 7 .any ((Rows.OpenSpec.upto Rows.diskArmedSpec).pre6 enc Try.prog Try.f7 Rows.diskArmedUptoRow.domain false) (((Rows.OpenSpec.upto Rows.diskArmedSpec).at F).post enc Try.prog Try.f7 false true false false) := by
  refine returnsInHanded_of_cond (C := Try.checked) (s := Rows.OpenSpec.upto Rows.diskArmedSpec) (k := Rows.uptoSmall) rfl own started (by kernel_rfl) Try.func7
    (OpenSpec.witness (enc := enc) (C := Try.checked) (s := Rows.OpenSpec.upto Rows.diskArmedSpec) (k := Rows.uptoSmall) rfl false ⟨#[], #[.slice none 0 0, .slice none 0 0, .int .i64 0], []⟩ 8 (by kernel_rfl) (by kernel_rfl) (by kernel_rfl)
      (x := ([.nil, .nil, .lit (.int .i64 0)], [], [])) (by kernel_rfl) rfl (by kernel_rfl)) ?_
  intro W base args ds gs before hval hW _ hk _
  exact armed_contract H enc W base args ds gs before hval hW

/-- The statement, second form. -/
theorem armed_upto_holds : Rows.DiskArmedUptoSaid :=
  OpenClaim.holds_of_cond 7 Try.f7 rfl rfl rfl rfl rfl rfl rfl ⟨rfl, rfl, rfl, rfl, rfl⟩ rfl rfl rfl rfl rfl (by kernel_rfl) Try.func7 (by kernel_rfl)
    (of_decide_eq_true (by kernel_rfl)) (by unfold Func.isWrapper; first | (rw [if_pos (by decide +kernel)]; kernel_rfl) | (rw [if_neg (by decide +kernel)]; exact ⟨rfl, rfl⟩))
    (fun os started H enc _ F => armed_upto_lifted os started H enc F)

#print axioms armed_holds
#print axioms armed_upto_holds
end Go.Proofs.Ythamjlhkiabcnaa
