/-
  The document's Parts, the law's large.
  Read in memory: what letter a term is; a pool, or none.
  Read in memory: promises, both promises of a wish.
-/
import Derived.BigQuiet
import Derived.Deep.QuietTactic
import Derived.Test.YtjmcaceegfdkkaaGreatDoorQcTFor
import Derived.Test.YtjmcaceegfdkkaaGreatDoorQcTKit
import Derived.Test.YtjmcaceegfdkkaaGreatDoorQcLPln
import Derived.Test.YtjmcaceegfdkkaaGreatDoorQcTPool
namespace Go.Proofs.YtjmcaceegfdkkaaGreatDoor
open Go.RowKit Go.Maps
set_option linter.unusedVariables false
theorem fo_nil {r : Fo} (h : r.len = 0) : r = .nil := by cases r with | nil => rfl | cons _ _ _ => simp [Fo.len] at h
theorem fo_pos {r : Fo} (h : 0 < r.len) : ∃ n k q, r = .cons n k q := by cases r with | nil => simp [Fo.len] at h | cons n k q => exact ⟨n, k, q, rfl⟩
theorem bZ (w : World) (o : Obj) : Below w.heap.size w (w.alloc o) := (Below.refl _ _).alloc (Nat.le_refl _) _
section
variable {G : Nat → Prop}
def PartsC (G : Nat → Prop) (n : Nd) (k : Fo) : Prop := ∀ (w : World) (v : Value) (m : Int), IsK w G v k → -6001 ≤ m → m ≤ 6000 → Calls Tryz.prog 60 #[.agg (treeA n v), .int .i64 m] w fun e w' => e = .returned (.int .i64 (partsL k 1 m)) ∧ Below w.heap.size w w'
set_option maxRecDepth 100000 in
set_option maxHeartbeats 3200000 in
theorem parts_step (n : Nd) (k : Fo) (ih : AllF (PartsC G) k) : PartsC G n k := by
 intro w v m hk h1 h2
 have bA : Below w.heap.size w (w.alloc (.cells (treeA n v) TrT)) := bZ _ _
 have hb : (w.alloc (.cells (treeA n v) TrT)).heap[w.heap.size]? = some (Obj.cells (treeA n v) TrT) := heap_alloc_new _ _
 obtain ⟨av, cv, rfl, hx⟩ := (hk.below bA).shape
 have hlen := hk.small
 unfold maxLen at hlen
 have HX := Lib.hid hx
 have HI := Lib.hid ih
 have HB := Lib.hid hb
 have HA := Lib.hid bA
 clear hk hx ih hb bA
 obtain ⟨kk, ff, tt, uu, ss, xa, xb⟩ := n
 simp only [treeA] at *
 go_enter Tryz.func60, Tryz.ntmps60
 go_wp2_with fail
 generalize (w.alloc (.cells #[.int .i64 kk, .int .i64 ff, .int .i64 tt, .int .u64 uu, .string ss, .slice av k.len cv] TrT)) = W at *
 go_loopw [5, 6] (fun vn vi wr => ∃ (i : Nat) (nn : Int) (r : Fo), vn = .int .i64 nn ∧ vi = .int .i64 (i : Int) ∧ i + r.len = k.len ∧ 1 ≤ nn ∧ nn ≤ max 1 (m + 1) ∧ partsL k 1 m = partsL r nn m ∧ AllF (PartsC G) r ∧ (0 < r.len → ∃ b o, av = some ⟨b, o, none⟩ ∧ AtF W G r b (o + i * 6)) ∧ Below W.heap.size W wr) (fun _ v _ => k.len - (intOf v).toNat)
 case atStart => exact ⟨0, 1, k, rfl, rfl, by omega, by omega, by omega, rfl, HI.out, fun hp => by obtain ⟨b, o, q1, _, q3⟩ := HX.out hp; exact ⟨b, o, q1, by simpa using q3⟩, Below.refl _ _⟩
 case round =>
  obtain ⟨i, nn, r, rfl, rfl, hi, hn1, hn2, hp, hall, hat, hbr⟩ := hrel
  have y5 := cellB (j := 5) (Hold.below hbr _ _ HB.out) rfl
  have HBR := Lib.hid hbr
  clear hbr
  by_cases hlt : 0 < r.len
  ·obtain ⟨n', k', q, rfl⟩ := fo_pos hlt
   simp only [Fo.len] at hi
   obtain ⟨b, o, rfl, hat'⟩ := hat hlt
   obtain ⟨c0, c1, c2, c3, c4, v', c5, hk', hat2⟩ := hat'.cons
   by_cases hm : nn ≤ m
   ·have e0 := bcellAt HBR.out c0
    have e1 := bcellAt HBR.out c1
    have e2 := bcellAt HBR.out c2
    have e3 := bcellAt HBR.out c3
    have e4 := bcellAt HBR.out c4
    have e5 := bcellAt HBR.out c5
    have HK := Lib.hid (hall.1 _ v' (m - nn) (hk'.below HBR.out) (by omega) (by omega))
    have bd := partsL_bd k' 1 (m - nn) (by omega)
    have hp2 : partsL (.cons n' k' q) nn m = partsL q (nn + partsL k' 1 (m - nn)) m := by simp only [partsL, if_pos hm]
    have HP := Lib.hid (hp.trans hp2)
    have HALL := Lib.hid hall.2
    have HAT := Lib.hid hat2
    clear hp hp2 hall hat2 hat hat' c0 c1 c2 c3 c4 c5 hk' HI HX
    obtain ⟨bd1, bd2⟩ := bd
    generalize partsL k' 1 (m - nn) = pp at *
    obtain ⟨k2, f2, t2, u2, s2, y2, z2⟩ := n'
    simp only [treeA] at *
    have hi1 : (i : Int) < (k.len : Int) := by omega
    go_wp2_with fail
    refine HK.out.mono ?_
    rintro e w1 ⟨rfl, u1⟩
    have HB1 := Lib.hid (bmore HBR.out u1)
    clear u1
    have hs1 : nn + pp ≤ 6001 := by omega
    go_wp2_with fail
    go_roundw
    case rel => exact ⟨i + 1, nn + pp, q, rfl, by go_num, by omega, by omega, by omega, HP.out, HALL.out, fun _ => ⟨b, o, rfl, by rw [show o + (i + 1) * 6 = o + i * 6 + 6 by omega]; exact HAT.out⟩, HB1.out⟩
    case measure => simp [intOf]; omega
   ·have hp2 : partsL (.cons n' k' q) nn m = nn := by simp only [partsL, if_neg hm]
    have HP := Lib.hid (hp.trans hp2)
    have hi1 : (i : Int) < (k.len : Int) := by omega
    clear hp hp2 hall hat2 hat hat' c0 c1 c2 c3 c4 c5 hk' HI HX
    go_wp2_with fail
    go_returns
    exact ⟨by rw [HP.out]; rfl, bmore HA.out HBR.out⟩
  ·obtain rfl := fo_nil (show r.len = 0 by omega)
   simp only [Fo.len, Nat.add_zero] at hi
   subst hi
   have HP := Lib.hid hp
   clear hp hall hat HI HX hlt
   go_wp2_with fail
   go_returns
   exact ⟨by rw [HP.out]; rfl, bmore HA.out HBR.out⟩
theorem parts_any (n : Nd) (k : Fo) : PartsC G n k := tree_all parts_step n k
end
end Go.Proofs.YtjmcaceegfdkkaaGreatDoor
namespace Go.Proofs.YtjmcaceegfdkkaaGreatDoor
open Go.RowKit Go.Maps
set_option linter.unusedVariables false
abbrev LtT : TypeId := 72
def ltA (l : Lt) : Array Value := #[.int .i64 l.kind, .int .i64 l.frm, .int .u64 l.c, .string l.text, .bool l.fake]
def Nodes (w : World) (pv : Value) (p : Pl) : Prop := ∀ W, Below w.heap.size w W → ∀ t : Int, Calls Tryz.prog 87 #[pv, .int .i64 t] W fun e w' => ∃ b, e = .returned (.tuple #[.agg (nodeA (atP p t).1), .bool b]) ∧ Below W.heap.size W w'
theorem Nodes.below {w w' : World} {pv : Value} {p : Pl} (h : Nodes w pv p) (hb : Below w.heap.size w w') : Nodes w' pv p := fun W h1 t => h W (bmore hb h1) t
theorem nodes_pool {w : World} {B a b : Nat} {v : Value} {p : Pl} (h : IsPool w B a b v p) : Nodes w (.pointer (some ⟨a, 0, none⟩)) p := fun W hb t => (pnode (h.below hb) t).mono fun e w' ⟨h1, h2⟩ => ⟨_, h1, h2⟩
theorem litL (a : Array UInt8) : (⟨a⟩ : ByteArray).toList = a.toList := by rw [Lib.toList_data]
theorem lit_no {s d : ByteArray} (h : s ≠ d) {l : List UInt8} (hl : d.toList = l) : (s.toList == l) = false := by rw [← hl]; exact ne_bytes h
theorem lit_yes {s d : ByteArray} (h : s = d) {l : List UInt8} (hl : d.toList = l) : (s.toList == l) = true := by rw [← hl, h]; exact beq_self_list _
section
variable {w : World} {pv : Value} {p : Pl}
set_option maxRecDepth 100000 in
set_option maxHeartbeats 1600000 in
theorem split_any (h : Nodes w pv p) (t : Int) : Calls Tryz.prog 94 #[pv, .int .i64 t] w fun e w' => e = .returned (.tuple #[.string (ahP p t), .int .i64 (bhP p t)]) ∧ Below w.heap.size w w' := by
 have F1 := Lib.hid (h w (Below.refl _ _) t)
 have F2 := Lib.hid (fun W hb => h W hb (atP p t).1.a)
 clear h
 unfold ahP bhP
 generalize (atP p t).1 = n at *
 obtain ⟨k1, f1, t1, n1, s1, x1, y1⟩ := n
 dsimp only at *
 generalize (atP p x1).1 = m at *
 obtain ⟨k2, f2, t2, n2, s2, x2, y2⟩ := m
 simp only [nodeA] at *
 go_enter Tryz.func94, Tryz.ntmps94
 go_wp2_with fail
 refine F1.out.mono ?_
 rintro e w1 ⟨b1, rfl, u1⟩
 have b2 := bmore u1 (bZ w1 (.cells #[.int .i64 k1, .int .i64 f1, .int .i64 t1, .int .u64 n1, .string s1, .int .i64 x1, .int .i64 y1] NodeT))
 have h2 := heap_alloc_new w1 (.cells #[.int .i64 k1, .int .i64 f1, .int .i64 t1, .int .u64 n1, .string s1, .int .i64 x1, .int .i64 y1] NodeT)
 have HB2 := Lib.hid b2
 have HH2 := Lib.hid h2
 have x5 := cellB (j := 5) h2 rfl
 clear u1 b2 h2 F1
 go_wp2_with fail
 generalize (w1.alloc (.cells #[.int .i64 k1, .int .i64 f1, .int .i64 t1, .int .u64 n1, .string s1, .int .i64 x1, .int .i64 y1] NodeT)) = w2 at *
 generalize w1.heap.size = nb at *
 refine (F2.out _ HB2.out).mono ?_
 rintro e w3 ⟨b3, rfl, u3⟩
 have b4 := bmore u3 (bZ w3 (.cells #[.int .i64 k2, .int .i64 f2, .int .i64 t2, .int .u64 n2, .string s2, .int .i64 x2, .int .i64 y2] NodeT))
 have h4 := heap_alloc_new w3 (.cells #[.int .i64 k2, .int .i64 f2, .int .i64 t2, .int .u64 n2, .string s2, .int .i64 x2, .int .i64 y2] NodeT)
 have h5 := Hold.below b4 _ _ HH2.out
 have z6 := cellB (j := 6) h5 rfl
 have z4 := cellB (j := 4) h4 rfl
 have HB4 := Lib.hid (bmore HB2.out b4)
 clear u3 b4 h4 h5 F2 HH2 x5
 go_wp2_with fail
 generalize (w3.alloc (.cells #[.int .i64 k2, .int .i64 f2, .int .i64 t2, .int .u64 n2, .string s2, .int .i64 x2, .int .i64 y2] NodeT)) = w4 at *
 go_quiet (fail)
 go_wp2_with fail
 go_returns
 exact ⟨rfl, bmore HB4.out (bdn _ _)⟩
set_option maxRecDepth 100000 in
set_option maxHeartbeats 1600000 in
theorem rnumber_any (h : Nodes w pv p) (t : Int) : Calls Tryz.prog 99 #[pv, .int .i64 t] w fun e w' => e = .returned (.tuple #[.int .u64 (atP p t).1.num, .bool ((atP p t).1.kind == 2)]) ∧ Below w.heap.size w w' := by
 have F1 := Lib.hid (h w (Below.refl _ _) t)
 clear h
 generalize (atP p t).1 = n at *
 obtain ⟨k1, f1, t1, n1, s1, x1, y1⟩ := n
 simp only [nodeA] at *
 go_enter Tryz.func99, Tryz.ntmps99
 go_wp2_with fail
 refine F1.out.mono ?_
 rintro e w1 ⟨b1, rfl, u1⟩
 have b2 := bmore u1 (bZ w1 (.cells #[.int .i64 k1, .int .i64 f1, .int .i64 t1, .int .u64 n1, .string s1, .int .i64 x1, .int .i64 y1] NodeT))
 have h2 := heap_alloc_new w1 (.cells #[.int .i64 k1, .int .i64 f1, .int .i64 t1, .int .u64 n1, .string s1, .int .i64 x1, .int .i64 y1] NodeT)
 have HB2 := Lib.hid b2
 have x0 := cellB (j := 0) h2 rfl
 have x3 := cellB (j := 3) h2 rfl
 clear u1 b2 h2 F1
 go_wp2_with fail
 generalize (w1.alloc (.cells #[.int .i64 k1, .int .i64 f1, .int .i64 t1, .int .u64 n1, .string s1, .int .i64 x1, .int .i64 y1] NodeT)) = w2 at *
 go_quiet (fail)
 go_wp2_with fail
 go_returns
 exact ⟨rfl, bmore HB2.out (bdn _ _)⟩
theorem isParty_any (n : Int) (w : World) : Calls Tryz.prog 96 #[.int .i64 n] w fun e w' => e = .returned (.bool (ptyB n)) ∧ w = w' := by
 unfold ptyB
 go_enter Tryz.func96, Tryz.ntmps96
 cases h0 : (n == 0) with
 | true =>
  go_wp2_with fail
  go_returns
  exact ⟨rfl, rfl⟩
 | false =>
  go_wp2_with fail
  go_returns
  exact ⟨rfl, rfl⟩
def dlV (o : Option (Int × ByteArray)) : Value := match o with | some (c, s) => .tuple #[.int .u64 c, .string s, .bool true] | none => .tuple #[.int .u64 0, .string emptyS, .bool false]
set_option maxRecDepth 100000 in
set_option maxHeartbeats 1600000 in
theorem readDeal_any (h : Nodes w pv p) (t : Int) : Calls Tryz.prog 97 #[pv, .int .i64 t] w fun e w' => e = .returned (dlV (dlP p t)) ∧ Below w.heap.size w w' := by
 have SP := Lib.hid (split_any h t)
 have F1 := Lib.hid (fun W hb => h W hb (bhP p t))
 have F2 := Lib.hid (fun W (hb : Below w.heap.size w W) => rnumber_any (h.below hb) (atP p (bhP p t)).1.a)
 have F3 := Lib.hid (fun W hb => h W hb (atP p (bhP p t)).1.b)
 clear h
 unfold dlP
 generalize ahP p t = ds at *
 generalize bhP p t = body at *
 generalize (atP p body).1 = n at *
 obtain ⟨k1, f1, t1, n1, s1, x1, y1⟩ := n
 dsimp only at *
 generalize (atP p x1).1 = nx at *
 obtain ⟨k2, f2, t2, n2, s2, x2, y2⟩ := nx
 generalize (atP p y1).1 = ny at *
 obtain ⟨k3, f3, t3, n3, s3, x3, y3⟩ := ny
 simp only [nodeA] at *
 obtain ⟨rr, hrr⟩ : ∃ rr, rr = dlV (if ds = dealS ∧ k2 = 2 ∧ k3 = 3 then some (n2, s3) else none) := ⟨_, rfl⟩
 rw [← hrr]
 have HR := Lib.hid hrr
 clear hrr
 go_enter Tryz.func97, Tryz.ntmps97
 go_wp2_with fail
 refine SP.out.mono ?_
 rintro e w1 ⟨rfl, u1⟩
 have HU1 := Lib.hid u1
 clear u1 SP
 go_wp2_with fail
 refine (F1.out _ HU1.out).mono ?_
 rintro e w2 ⟨b2, rfl, u2⟩
 have b3 := bmore HU1.out (bmore u2 (bZ w2 (.cells #[.int .i64 k1, .int .i64 f1, .int .i64 t1, .int .u64 n1, .string s1, .int .i64 x1, .int .i64 y1] NodeT)))
 have h3 := heap_alloc_new w2 (.cells #[.int .i64 k1, .int .i64 f1, .int .i64 t1, .int .u64 n1, .string s1, .int .i64 x1, .int .i64 y1] NodeT)
 have HB3 := Lib.hid b3
 have HH3 := Lib.hid h3
 have c5 := cellB (j := 5) h3 rfl
 clear u2 b3 h3 F1
 go_wp2_with fail
 generalize (w2.alloc (.cells #[.int .i64 k1, .int .i64 f1, .int .i64 t1, .int .u64 n1, .string s1, .int .i64 x1, .int .i64 y1] NodeT)) = w3 at *
 generalize w2.heap.size = nb at *
 refine (F2.out _ HB3.out).mono ?_
 rintro e w4 ⟨rfl, u4⟩
 have HB4 := Lib.hid (bmore HB3.out u4)
 have HH4 := Lib.hid (Hold.below u4 _ _ HH3.out)
 have d6 := cellB (j := 6) HH4.out rfl
 clear u4 F2 c5
 go_wp2_with fail
 refine (F3.out _ HB4.out).mono ?_
 rintro e w5 ⟨b5, rfl, u5⟩
 have b6 := bmore HB4.out (bmore u5 (bZ w5 (.cells #[.int .i64 k3, .int .i64 f3, .int .i64 t3, .int .u64 n3, .string s3, .int .i64 x3, .int .i64 y3] NodeT)))
 have h6 := heap_alloc_new w5 (.cells #[.int .i64 k3, .int .i64 f3, .int .i64 t3, .int .u64 n3, .string s3, .int .i64 x3, .int .i64 y3] NodeT)
 have HB6 := Lib.hid b6
 have g0 := cellB (j := 0) h6 rfl
 have g4 := cellB (j := 4) h6 rfl
 clear u5 b6 h6 F3 d6
 by_cases hd : ds = dealS
 case neg =>
  have hdb : (ds.toList == [100, 101, 97, 108]) = false := lit_no hd (litL _)
  go_wp2_with fail
  go_returns
  exact ⟨by rw [HR.out, if_neg (fun h => hd h.1)]; rfl, HB6.out⟩
 have hdb : (ds.toList == [100, 101, 97, 108]) = true := lit_yes hd (litL _)
 have HD := Lib.hid hd
 clear hd
 by_cases h2 : k2 = 2
 case neg =>
  have h2b : (k2 == 2) = false := by simpa using h2
  go_wp2_with fail
  go_returns
  exact ⟨by rw [HR.out, if_neg (fun h => h2 h.2.1)]; rfl, HB6.out⟩
 have h2b : (k2 == 2) = true := by simpa using h2
 by_cases h3 : k3 = 3
 case neg =>
  have h3b : (k3 != 3) = true := by simpa using h3
  go_wp2_with fail
  go_returns
  exact ⟨by rw [HR.out, if_neg (fun h => h3 h.2.2)]; rfl, HB6.out⟩
 have h3b : (k3 != 3) = false := by simpa using h3
 have H3 := Lib.hid h3
 clear h3
 go_wp2_with fail
 go_quiet (fail)
 go_wp2_with fail
 go_returns
 exact ⟨by rw [HR.out, if_pos ⟨HD.out, h2, H3.out⟩]; rfl, bmore HB6.out (bdn _ _)⟩
end
end Go.Proofs.YtjmcaceegfdkkaaGreatDoor
namespace Go.Proofs.YtjmcaceegfdkkaaGreatDoor
open Go.RowKit Go.Maps
set_option linter.unusedVariables false
def ltV (o : Option Lt) : Value := match o with | some l => .tuple #[.agg (ltA l), .bool true] | none => .tuple #[.agg (ltA zeroL), .bool false]
def set5 (w : World) (b : Nat) (v0 v1 v2 v3 v4 : Value) : World := ((((w.setCell ⟨b, 0, none⟩ v0).setCell ⟨b, 1, none⟩ v1).setCell ⟨b, 2, none⟩ v2).setCell ⟨b, 3, none⟩ v3).setCell ⟨b, 4, none⟩ v4
theorem set5_at {w : World} {b : Nat} {c0 c1 c2 c3 c4 : Value} (h : w.heap[b]? = some (Obj.cells #[c0, c1, c2, c3, c4] LtT)) (v0 v1 v2 v3 v4 : Value) : (set5 w b v0 v1 v2 v3 v4).heap[b]? = some (Obj.cells #[v0, v1, v2, v3, v4] LtT) := by
 unfold set5
 have h1 := setCellB (j := 0) (u := v0) h
 have h2 := setCellB (j := 1) (u := v1) h1
 have h3 := setCellB (j := 2) (u := v2) h2
 have h4 := setCellB (j := 3) (u := v3) h3
 have h5 := setCellB (j := 4) (u := v4) h4
 exact h5
theorem set5_below {n : Nat} {w w' : World} {b : Nat} (h : Below n w w') (hb : n ≤ b) (v0 v1 v2 v3 v4 : Value) : Below n w (set5 w' b v0 v1 v2 v3 v4) :=
 ((((h.setCell (p := ⟨b, 0, none⟩) hb v0).setCell (p := ⟨b, 1, none⟩) hb v1).setCell (p := ⟨b, 2, none⟩) hb v2).setCell (p := ⟨b, 3, none⟩) hb v3).setCell (p := ⟨b, 4, none⟩) hb v4
section
variable {w : World} {pv : Value} {p : Pl}
set_option maxRecDepth 100000 in
set_option maxHeartbeats 3200000 in
theorem rprom_any (h : Nodes w pv p) (t : Int) : Calls Tryz.prog 92 #[pv, .int .i64 t] w fun e w' => e = .returned (ltV (prP p t)) ∧ Below w.heap.size w w' := by
 have F1 := Lib.hid (fun W hb => h W hb t)
 have RD := Lib.hid (fun (W : World) (hb : Below w.heap.size w W) => readDeal_any (h.below hb) (atP p t).1.a)
 have IP := Lib.hid (fun n W => isParty_any n W)
 clear h
 obtain ⟨rr, hrr⟩ : ∃ rr, rr = ltV (prP p t) := ⟨_, rfl⟩
 rw [← hrr]
 unfold prP at hrr
 generalize (atP p t).1 = n at *
 obtain ⟨k1, f1, t1, n1, s1, x1, y1⟩ := n
 dsimp only at *
 generalize dlP p x1 = od at *
 have HR := Lib.hid hrr
 clear hrr
 simp only [nodeA] at *
 have b0 := bZ w (.cells #[.int .i64 0, .int .i64 0, .int .u64 0, .string ⟨#[]⟩, .bool false] LtT)
 have h0 := heap_alloc_new w (.cells #[.int .i64 0, .int .i64 0, .int .u64 0, .string ⟨#[]⟩, .bool false] LtT)
 have HB0 := Lib.hid b0
 have HH0 := Lib.hid h0
 clear b0 h0
 go_enter Tryz.func92, Tryz.ntmps92
 go_wp2_with fail
 generalize (w.alloc (.cells #[.int .i64 0, .int .i64 0, .int .u64 0, .string ⟨#[]⟩, .bool false] LtT)) = w0 at *
 refine (F1.out _ HB0.out).mono ?_
 rintro e w1 ⟨b1, rfl, u1⟩
 have b2 := bmore u1 (bZ w1 (.cells #[.int .i64 k1, .int .i64 f1, .int .i64 t1, .int .u64 n1, .string s1, .int .i64 x1, .int .i64 y1] NodeT))
 have h2 := heap_alloc_new w1 (.cells #[.int .i64 k1, .int .i64 f1, .int .i64 t1, .int .u64 n1, .string s1, .int .i64 x1, .int .i64 y1] NodeT)
 have HB2 := Lib.hid (bmore HB0.out b2)
 have HH2 := Lib.hid h2
 have HZ2 := Lib.hid (Hold.below b2 _ _ HH0.out)
 have HW2 := Lib.hid b2.size
 have c0 := cellB (j := 0) h2 rfl
 have c5 := cellB (j := 5) h2 rfl
 clear u1 b2 h2 F1 HH0
 go_wp2_with fail
 generalize (w1.alloc (.cells #[.int .i64 k1, .int .i64 f1, .int .i64 t1, .int .u64 n1, .string s1, .int .i64 x1, .int .i64 y1] NodeT)) = w2 at *
 generalize w1.heap.size = nb at *
 refine (RD.out _ HB2.out).mono ?_
 rintro e w3 ⟨rfl, u3⟩
 have HB3 := Lib.hid (bmore HB2.out u3)
 have HH3 := Lib.hid (Hold.below u3 _ _ HH2.out)
 have HZ3 := Lib.hid (Hold.below u3 _ _ HZ2.out)
 clear u3 RD c0 c5 HH2 HZ2
 obtain ⟨c0, c1, c2⟩ := cs3 HH3.out rfl rfl rfl
 have z0 := cellB (j := 0) HZ3.out rfl
 have y0 := frozenB (j := 0) HZ3.out
 have y1' := frozenB (j := 1) HZ3.out
 have y2 := frozenB (j := 2) HZ3.out
 have y3 := frozenB (j := 3) HZ3.out
 have y4 := frozenB (j := 4) HZ3.out
 have z1 := cellB (j := 1) HZ3.out rfl
 have z2 := cellB (j := 2) HZ3.out rfl
 have z3 := cellB (j := 3) HZ3.out rfl
 have z4 := cellB (j := 4) HZ3.out rfl
 cases od with
 | none =>
  simp only [dlV]
  go_wp2_with fail
  have hs5 := set5_at HZ3.out (.int .i64 0) (.int .i64 0) (.int .u64 0) (.string ⟨#[]⟩) (.bool false)
  have hw5 := set5_below HB3.out (Nat.le_refl _) (.int .i64 0) (.int .i64 0) (.int .u64 0) (.string ⟨#[]⟩) (.bool false)
  rw [show set5 w3 w.heap.size (.int .i64 0) (.int .i64 0) (.int .u64 0) (.string ⟨#[]⟩) (.bool false) = ((((w3.setCell ⟨w.heap.size, 0, none⟩ (.int .i64 0)).setCell ⟨w.heap.size, 1, none⟩ (.int .i64 0)).setCell ⟨w.heap.size, 2, none⟩ (.int .u64 0)).setCell ⟨w.heap.size, 3, none⟩ (.string ⟨#[]⟩)).setCell ⟨w.heap.size, 4, none⟩ (.bool false) from rfl] at hs5 hw5
  have HW5 := Lib.hid hw5
  clear hw5
  generalize (((((w3.setCell ⟨w.heap.size, 0, none⟩ (.int .i64 0)).setCell ⟨w.heap.size, 1, none⟩ (.int .i64 0)).setCell ⟨w.heap.size, 2, none⟩ (.int .u64 0)).setCell ⟨w.heap.size, 3, none⟩ (.string ⟨#[]⟩)).setCell ⟨w.heap.size, 4, none⟩ (.bool false)) = w9 at *
  obtain ⟨q0, q1, q2, q3, q4⟩ := cs5 hs5 rfl rfl rfl rfl rfl
  refine bodyPost_ret (v := .tuple #[.agg #[.int .i64 0, .int .i64 0, .int .u64 0, .string ⟨#[]⟩, .bool false], .bool false]) (by simp [results, Tryz.results92, go_sem, q0, q1, q2, q3, q4]) rfl ⟨by rw [HR.out]; rfl, HW5.out⟩
 | some od =>
  obtain ⟨cc, ss⟩ := od
  simp only [dlV]
  by_cases hk : k1 = 8 ∨ k1 = 9
  case neg =>
   have hk8 : (k1 != 8) = true := by simp; omega
   have hk9 : (k1 == 9) = false := by simp; omega
   have HK := Lib.hid hk
   clear hk
   go_wp2_with fail
   have hs5 := set5_at HZ3.out (.int .i64 0) (.int .i64 0) (.int .u64 0) (.string ⟨#[]⟩) (.bool false)
   have hw5 := set5_below HB3.out (Nat.le_refl _) (.int .i64 0) (.int .i64 0) (.int .u64 0) (.string ⟨#[]⟩) (.bool false)
   rw [show set5 w3 w.heap.size (.int .i64 0) (.int .i64 0) (.int .u64 0) (.string ⟨#[]⟩) (.bool false) = ((((w3.setCell ⟨w.heap.size, 0, none⟩ (.int .i64 0)).setCell ⟨w.heap.size, 1, none⟩ (.int .i64 0)).setCell ⟨w.heap.size, 2, none⟩ (.int .u64 0)).setCell ⟨w.heap.size, 3, none⟩ (.string ⟨#[]⟩)).setCell ⟨w.heap.size, 4, none⟩ (.bool false) from rfl] at hs5 hw5
   have HW5 := Lib.hid hw5
   clear hw5
   generalize (((((w3.setCell ⟨w.heap.size, 0, none⟩ (.int .i64 0)).setCell ⟨w.heap.size, 1, none⟩ (.int .i64 0)).setCell ⟨w.heap.size, 2, none⟩ (.int .u64 0)).setCell ⟨w.heap.size, 3, none⟩ (.string ⟨#[]⟩)).setCell ⟨w.heap.size, 4, none⟩ (.bool false)) = w9 at *
   obtain ⟨q0, q1, q2, q3, q4⟩ := cs5 hs5 rfl rfl rfl rfl rfl
   refine bodyPost_ret (v := .tuple #[.agg #[.int .i64 0, .int .i64 0, .int .u64 0, .string ⟨#[]⟩, .bool false], .bool false]) (by simp [results, Tryz.results92, go_sem, q0, q1, q2, q3, q4]) rfl ⟨by rw [HR.out]; (try simp only); rw [if_neg (fun h => HK.out h.1)]; rfl, HW5.out⟩
  have HK := Lib.hid hk
  have hkk : ((k1 != 8) = false ∧ (k1 == 9) = false) ∨ ((k1 != 8) = true ∧ (k1 == 9) = true) := by
   rcases hk with rfl | rfl
   ·exact .inl ⟨rfl, rfl⟩
   ·exact .inr ⟨rfl, rfl⟩
  clear hk
  by_cases hf : ptyB f1 = true
  case neg =>
   have hf0 : ptyB f1 = false := by simpa using hf
   rcases hkk with ⟨hk8, hk9⟩ | ⟨hk8, hk9⟩
   all_goals
    go_wp2_with ((refine (IP.out _ _).mono ?_); rintro e w4 ⟨rfl, rfl⟩)
    have hs5 := set5_at HZ3.out (.int .i64 0) (.int .i64 0) (.int .u64 0) (.string ⟨#[]⟩) (.bool false)
    have hw5 := set5_below HB3.out (Nat.le_refl _) (.int .i64 0) (.int .i64 0) (.int .u64 0) (.string ⟨#[]⟩) (.bool false)
    rw [show set5 w3 w.heap.size (.int .i64 0) (.int .i64 0) (.int .u64 0) (.string ⟨#[]⟩) (.bool false) = ((((w3.setCell ⟨w.heap.size, 0, none⟩ (.int .i64 0)).setCell ⟨w.heap.size, 1, none⟩ (.int .i64 0)).setCell ⟨w.heap.size, 2, none⟩ (.int .u64 0)).setCell ⟨w.heap.size, 3, none⟩ (.string ⟨#[]⟩)).setCell ⟨w.heap.size, 4, none⟩ (.bool false) from rfl] at hs5 hw5
    have HW5 := Lib.hid hw5
    clear hw5
    generalize (((((w3.setCell ⟨w.heap.size, 0, none⟩ (.int .i64 0)).setCell ⟨w.heap.size, 1, none⟩ (.int .i64 0)).setCell ⟨w.heap.size, 2, none⟩ (.int .u64 0)).setCell ⟨w.heap.size, 3, none⟩ (.string ⟨#[]⟩)).setCell ⟨w.heap.size, 4, none⟩ (.bool false)) = w9 at *
    obtain ⟨q0, q1, q2, q3, q4⟩ := cs5 hs5 rfl rfl rfl rfl rfl
    refine bodyPost_ret (v := .tuple #[.agg #[.int .i64 0, .int .i64 0, .int .u64 0, .string ⟨#[]⟩, .bool false], .bool false]) (by simp [results, Tryz.results92, go_sem, q0, q1, q2, q3, q4]) rfl ⟨by rw [HR.out]; (try simp only); rw [if_neg (fun h => hf h.2.1)]; rfl, HW5.out⟩
  by_cases ht : ptyB t1 = true
  case neg =>
   have ht0 : ptyB t1 = false := by simpa using ht
   rcases hkk with ⟨hk8, hk9⟩ | ⟨hk8, hk9⟩
   all_goals
    go_wp2_with ((refine (IP.out _ _).mono ?_); rintro e w4 ⟨rfl, rfl⟩)
    have hs5 := set5_at HZ3.out (.int .i64 0) (.int .i64 0) (.int .u64 0) (.string ⟨#[]⟩) (.bool false)
    have hw5 := set5_below HB3.out (Nat.le_refl _) (.int .i64 0) (.int .i64 0) (.int .u64 0) (.string ⟨#[]⟩) (.bool false)
    rw [show set5 w3 w.heap.size (.int .i64 0) (.int .i64 0) (.int .u64 0) (.string ⟨#[]⟩) (.bool false) = ((((w3.setCell ⟨w.heap.size, 0, none⟩ (.int .i64 0)).setCell ⟨w.heap.size, 1, none⟩ (.int .i64 0)).setCell ⟨w.heap.size, 2, none⟩ (.int .u64 0)).setCell ⟨w.heap.size, 3, none⟩ (.string ⟨#[]⟩)).setCell ⟨w.heap.size, 4, none⟩ (.bool false) from rfl] at hs5 hw5
    have HW5 := Lib.hid hw5
    clear hw5
    generalize (((((w3.setCell ⟨w.heap.size, 0, none⟩ (.int .i64 0)).setCell ⟨w.heap.size, 1, none⟩ (.int .i64 0)).setCell ⟨w.heap.size, 2, none⟩ (.int .u64 0)).setCell ⟨w.heap.size, 3, none⟩ (.string ⟨#[]⟩)).setCell ⟨w.heap.size, 4, none⟩ (.bool false)) = w9 at *
    obtain ⟨q0, q1, q2, q3, q4⟩ := cs5 hs5 rfl rfl rfl rfl rfl
    refine bodyPost_ret (v := .tuple #[.agg #[.int .i64 0, .int .i64 0, .int .u64 0, .string ⟨#[]⟩, .bool false], .bool false]) (by simp [results, Tryz.results92, go_sem, q0, q1, q2, q3, q4]) rfl ⟨by rw [HR.out]; (try simp only); rw [if_neg (fun h => ht h.2.2)]; rfl, HW5.out⟩
  rcases hkk with ⟨hk8, hk9⟩ | ⟨hk8, hk9⟩
  ·go_wp2_with ((refine (IP.out _ _).mono ?_); rintro e w4 ⟨rfl, rfl⟩)
   have hs5 := set5_at HZ3.out (.int .i64 1) (.int .i64 f1) (.int .u64 cc) (.string ss) (.bool false)
   have hw5 := set5_below HB3.out (Nat.le_refl _) (.int .i64 1) (.int .i64 f1) (.int .u64 cc) (.string ss) (.bool false)
   rw [show set5 w3 w.heap.size (.int .i64 1) (.int .i64 f1) (.int .u64 cc) (.string ss) (.bool false) = ((((w3.setCell ⟨w.heap.size, 0, none⟩ (.int .i64 1)).setCell ⟨w.heap.size, 1, none⟩ (.int .i64 f1)).setCell ⟨w.heap.size, 2, none⟩ (.int .u64 cc)).setCell ⟨w.heap.size, 3, none⟩ (.string ss)).setCell ⟨w.heap.size, 4, none⟩ (.bool false) from rfl] at hs5 hw5
   have HW5 := Lib.hid hw5
   clear hw5
   generalize (((((w3.setCell ⟨w.heap.size, 0, none⟩ (.int .i64 1)).setCell ⟨w.heap.size, 1, none⟩ (.int .i64 f1)).setCell ⟨w.heap.size, 2, none⟩ (.int .u64 cc)).setCell ⟨w.heap.size, 3, none⟩ (.string ss)).setCell ⟨w.heap.size, 4, none⟩ (.bool false)) = w9 at *
   obtain ⟨q0, q1, q2, q3, q4⟩ := cs5 hs5 rfl rfl rfl rfl rfl
   refine bodyPost_ret (v := .tuple #[.agg #[.int .i64 1, .int .i64 f1, .int .u64 cc, .string ss, .bool false], .bool true]) (by simp [results, Tryz.results92, go_sem, q0, q1, q2, q3, q4]) rfl ⟨by rw [HR.out]; (try simp only); rw [if_pos ⟨HK.out, hf, ht⟩, hk9]; rfl, HW5.out⟩
  ·go_wp2_with ((refine (IP.out _ _).mono ?_); rintro e w4 ⟨rfl, rfl⟩)
   have hs5 := set5_at HZ3.out (.int .i64 1) (.int .i64 f1) (.int .u64 cc) (.string ss) (.bool true)
   have hw5 := set5_below HB3.out (Nat.le_refl _) (.int .i64 1) (.int .i64 f1) (.int .u64 cc) (.string ss) (.bool true)
   rw [show set5 w3 w.heap.size (.int .i64 1) (.int .i64 f1) (.int .u64 cc) (.string ss) (.bool true) = ((((w3.setCell ⟨w.heap.size, 0, none⟩ (.int .i64 1)).setCell ⟨w.heap.size, 1, none⟩ (.int .i64 f1)).setCell ⟨w.heap.size, 2, none⟩ (.int .u64 cc)).setCell ⟨w.heap.size, 3, none⟩ (.string ss)).setCell ⟨w.heap.size, 4, none⟩ (.bool true) from rfl] at hs5 hw5
   have HW5 := Lib.hid hw5
   clear hw5
   generalize (((((w3.setCell ⟨w.heap.size, 0, none⟩ (.int .i64 1)).setCell ⟨w.heap.size, 1, none⟩ (.int .i64 f1)).setCell ⟨w.heap.size, 2, none⟩ (.int .u64 cc)).setCell ⟨w.heap.size, 3, none⟩ (.string ss)).setCell ⟨w.heap.size, 4, none⟩ (.bool true)) = w9 at *
   obtain ⟨q0, q1, q2, q3, q4⟩ := cs5 hs5 rfl rfl rfl rfl rfl
   refine bodyPost_ret (v := .tuple #[.agg #[.int .i64 1, .int .i64 f1, .int .u64 cc, .string ss, .bool true], .bool true]) (by simp [results, Tryz.results92, go_sem, q0, q1, q2, q3, q4]) rfl ⟨by rw [HR.out]; (try simp only); rw [if_pos ⟨HK.out, hf, ht⟩, hk9]; rfl, HW5.out⟩
end
end Go.Proofs.YtjmcaceegfdkkaaGreatDoor
