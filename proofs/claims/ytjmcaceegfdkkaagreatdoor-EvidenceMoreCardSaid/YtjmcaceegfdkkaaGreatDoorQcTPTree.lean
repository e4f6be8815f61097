/-
  The program's Tree: a term's tree in new memory.
-/
import Derived.Test.YtjmcaceegfdkkaaGreatDoorQcTLent
import Derived.Test.YtjmcaceegfdkkaaGreatDoorQcTMkT
namespace Go.Proofs.YtjmcaceegfdkkaaGreatDoor
open Go.RowKit Go.Maps
set_option linter.unusedVariables false
def bareN (n : Nd) : Nd := ⟨n.kind, n.frm, n.to, n.num, n.text, 0, 0⟩
def GK (kb : Nat) (w : World) (b : Nat) : Prop := kb < b ∧ ∃ cs, w.heap[b]? = some (Obj.cells cs TrT)
def kaOf : Nat → Nd → List Int
 | 0, _ => []
 | 1, n => [n.a]
 | _ + 2, n => [n.a, n.b]
theorem node_kids {p : Pl} (hp : Ok p) {t : Int} (hin : inP p t = true) {K : Nat} (h2 : kidsN (atP p t).1.kind = K) : (atP p t).1 = nodeOf (bareN (atP p t).1) (kaOf K (atP p t).1) := by
 obtain ⟨i, hi, rfl, e⟩ := atP_get hin
 have he := hp.mem _ (List.getElem_mem hi)
 rw [← e] at he
 have hs : shp (atP p ((i : Int) + 1)).1 = 0 := by
  unfold errP at he
  by_cases h : shp (atP p ((i : Int) + 1)).1 ≠ 0
  ·rw [if_pos h] at he; exact absurd he h
  ·simpa using h
 obtain ⟨ka, kb⟩ := kids_of_plain hs
 have hk2 := kidsN_le (atP p ((i : Int) + 1)).1.kind
 generalize (atP p ((i : Int) + 1)).1 = n at *
 rw [h2] at ka kb hk2
 obtain ⟨kk, ff, tt, uu, ss, xa, xb⟩ := n
 match K, hk2 with
 | 0, _ => simp only [kaOf, nodeOf, bareN, List.getD_nil, Nd.mk.injEq, true_and]; exact ⟨ka rfl, kb (by decide)⟩
 | 1, _ => simp only [kaOf, nodeOf, bareN, List.getD_cons_zero, List.getD_cons_succ, List.getD_nil, Nd.mk.injEq, true_and]; exact kb (by decide)
 | 2, _ => rfl
theorem kids_in {p : Pl} (hp : Ok p) {t : Int} (hin : inP p t = true) : (1 ≤ kidsN (atP p t).1.kind → inP p (atP p t).1.a = true) ∧ (kidsN (atP p t).1.kind = 2 → inP p (atP p t).1.b = true) := by
 obtain ⟨i, hi, rfl, e⟩ := atP_get hin
 have he := hp.mem _ (List.getElem_mem hi)
 rw [← e] at he
 generalize (atP p ((i : Int) + 1)).1 = n at *
 unfold errP at he
 by_cases h : shp n ≠ 0
 ·rw [if_pos h] at he; exact absurd he h
 ·rw [if_neg h] at he
  by_cases h2 : kidsBad p n = true
  ·rw [if_pos h2] at he; cases he
  ·have h2' : kidsBad p n = false := by simpa using h2
   unfold kidsBad at h2'
   simp only [Bool.or_eq_false_iff, Bool.and_eq_false_iff, decide_eq_false_iff_not, Bool.not_eq_false', beq_eq_false_iff_ne] at h2'
   exact ⟨fun h => h2'.1.resolve_left (fun g => g h), fun h => h2'.2.resolve_left (fun g => g h)⟩
theorem pool_turn6 {w : World} {B a b : Nat} {vv : Value} {p : Pl} {kb : Nat} {cs : Array Value} {T : TypeId} {o0 o1 o2 o3 o4 o5 : Nat} {u0 u1 u2 u3 u4 u5 : Value} {w6 : World} (h : IsPool w B a b vv p) (hk : w.heap[kb]? = some (Obj.cells cs T)) (h1 : T ≠ PoolT) (h2 : T ≠ MadeT)
  (e : w6 = (((((w.setCell ⟨kb, o0, none⟩ u0).setCell ⟨kb, o1, none⟩ u1).setCell ⟨kb, o2, none⟩ u2).setCell ⟨kb, o3, none⟩ u3).setCell ⟨kb, o4, none⟩ u4).setCell ⟨kb, o5, none⟩ u5) : IsPool w6 B a b vv p := by
 subst e
 have k1 := setCellB (j := o0) (u := u0) hk
 have k2 := setCellB (j := o1) (u := u1) k1
 have k3 := setCellB (j := o2) (u := u2) k2
 have k4 := setCellB (j := o3) (u := u3) k3
 have k5 := setCellB (j := o4) (u := u4) k4
 exact (((((h.turn u0 hk h1 h2).turn u1 k1 h1 h2).turn u2 k2 h1 h2).turn u3 k3 h1 h2).turn u4 k4 h1 h2).turn u5 k5 h1 h2
def TreePost (w : World) (p : Pl) (t : Int) (e : Ending) (w' : World) : Prop := ∃ n k v, e = .returned (.agg (treeA n v)) ∧ IsK w' (NewT w w') v k ∧ OkF (.cons n k .nil) ∧ Below w.heap.size w w' ∧ (inP p t = true → RepF p [t] (.cons n k .nil)) ∧ (inP p t = false → n = zeroN ∧ k = .nil)
section
variable {B a b : Nat} {vv : Value} {p : Pl}
def PTreeC (B a b : Nat) (vv : Value) (p : Pl) (t : Int) : Prop := ∀ w : World, Laid w → IsPool w B a b vv p → Calls Tryz.prog 33 #[.pointer (some ⟨a, 0, none⟩), .int .i64 t] w (TreePost w p t)
set_option maxRecDepth 100000 in
set_option maxHeartbeats 25600000 in
theorem ptree_one {t : Int} (hin : inP p t = true) (h2 : kidsN (atP p t).1.kind = 1) (ih0 : PTreeC B a b vv p (atP p t).1.a) (hin0 : inP p (atP p t).1.a = true) : PTreeC B a b vv p t := by
 intro w hl hp
 have bA := bZ w (.cells #[.int .i64 0, .int .i64 0, .int .i64 0, .int .u64 0, .string ⟨#[]⟩, .slice none 0 0] TrT)
 have hb : (w.alloc (.cells #[.int .i64 0, .int .i64 0, .int .i64 0, .int .u64 0, .string ⟨#[]⟩, .slice none 0 0] TrT)).heap[w.heap.size]? = some (Obj.cells #[.int .i64 0, .int .i64 0, .int .i64 0, .int .u64 0, .string ⟨#[]⟩, .slice none 0 0] TrT) := heap_alloc_new _ _
 have HNO := Lib.hid (pnode (hp.below bA) t)
 have HIN := Lib.hid hin
 have HI0 := Lib.hid ih0
 have HIN0 := Lib.hid hin0
 have HM := Lib.hid (atP_nok hp.nok t)
 have HLW := Lib.hid hl.lt
 have HL := Lib.hid (hl.below bA)
 have HP := Lib.hid (hp.below bA)
 have HB := Lib.hid hb
 have HA := Lib.hid bA
 have HREP : Hid (∀ f : Fo, RepF p [(atP p t).1.a] f → RepF p [t] (.cons (bareN (atP p t).1) f .nil)) := Lib.hid (fun f h => ⟨hin, ⟨_, h, by rw [show (bareN (atP p t).1).kind = (atP p t).1.kind from rfl, h2]; rfl, node_kids hp.ok hin h2⟩, trivial⟩)
 clear hl hp hin ih0 hin0 bA hb
 generalize (atP p t).1 = m at *
 have HSK := Lib.hid (fun (W : World) (hW : Laid W) => shape_kids hW m.kind 1 (by rw [h2]; rfl))
 have HOKB : Hid (∀ f : Fo, OkF f → OkF (.cons (bareN m) f .nil)) := Lib.hid (fun f h => ⟨⟨HM.out.kind, HM.out.frm, HM.out.to, HM.out.num, HM.out.text, by unfold i64R; simp [bareN], by unfold i64R; simp [bareN]⟩, rfl, rfl, h, trivial⟩)
 obtain ⟨kk, ff, tt, uu, ss, xa, xb⟩ := m
 generalize namedB kk = nb at *
 generalize twoB kk = tb at *
 simp only [nodeA, bareN] at *
 have hfk := field_kids
 go_enter Tryz.func33, Tryz.ntmps33
 go_wp2_with fail
 generalize (w.alloc (.cells #[.int .i64 0, .int .i64 0, .int .i64 0, .int .u64 0, .string ⟨#[]⟩, .slice none 0 0] TrT)) = W at *
 refine HNO.out.mono ?_
 rintro e w1 ⟨rfl, u1⟩
 have HL1 := Lib.hid (HL.out.below u1)
 have HP1 := Lib.hid (HP.out.below u1)
 have HA1 := Lib.hid (bmore HA.out u1)
 have HB1 := Lib.hid (Hold.below u1 _ _ HB.out)
 clear u1
 have b1 := bZ w1 (.cells #[.int .i64 kk, .int .i64 ff, .int .i64 tt, .int .u64 uu, .string ss, .int .i64 xa, .int .i64 xb] NodeT)
 have h1 : (w1.alloc (.cells #[.int .i64 kk, .int .i64 ff, .int .i64 tt, .int .u64 uu, .string ss, .int .i64 xa, .int .i64 xb] NodeT)).heap[w1.heap.size]? = some (Obj.cells #[.int .i64 kk, .int .i64 ff, .int .i64 tt, .int .u64 uu, .string ss, .int .i64 xa, .int .i64 xb] NodeT) := heap_alloc_new _ _
 have b2 := bZ (w1.alloc (.cells #[.int .i64 kk, .int .i64 ff, .int .i64 tt, .int .u64 uu, .string ss, .int .i64 xa, .int .i64 xb] NodeT)) (.cells #[.int .i64 kk, .int .i64 ff, .int .i64 tt, .int .u64 uu, .string ss, .slice none 0 0] TrT)
 have b12 := b1.trans (b2.mono b1.size)
 have h2' := Hold.below b2 _ _ h1
 have h3 : ((w1.alloc (.cells #[.int .i64 kk, .int .i64 ff, .int .i64 tt, .int .u64 uu, .string ss, .int .i64 xa, .int .i64 xb] NodeT)).alloc (.cells #[.int .i64 kk, .int .i64 ff, .int .i64 tt, .int .u64 uu, .string ss, .slice none 0 0] TrT)).heap[w1.heap.size + 1]? = some (Obj.cells #[.int .i64 kk, .int .i64 ff, .int .i64 tt, .int .u64 uu, .string ss, .slice none 0 0] TrT) := by
  have e : w1.heap.size + 1 = (w1.alloc (.cells #[.int .i64 kk, .int .i64 ff, .int .i64 tt, .int .u64 uu, .string ss, .int .i64 xa, .int .i64 xb] NodeT)).heap.size := by simp
  rw [e]; exact heap_alloc_new _ _
 have HL2 := Lib.hid (HL1.out.below b12)
 have HA2 := Lib.hid (bmore HA1.out b12)
 have HP2 := Lib.hid (HP1.out.below b12)
 have HN2 := Lib.hid h2'
 have HX2 := Lib.hid h3
 have HB2 := Lib.hid (Hold.below b12 _ _ HB1.out)
 have HS2 : Hid (((w1.alloc (.cells #[.int .i64 kk, .int .i64 ff, .int .i64 tt, .int .u64 uu, .string ss, .int .i64 xa, .int .i64 xb] NodeT)).alloc (.cells #[.int .i64 kk, .int .i64 ff, .int .i64 tt, .int .u64 uu, .string ss, .slice none 0 0] TrT)).heap.size = w1.heap.size + 2) := Lib.hid (by simp)
 obtain ⟨c0, c1, c2, c3, c4, c5, c6⟩ := cs7 (h2') rfl rfl rfl rfl rfl rfl rfl
 clear b1 h1 b2 b12 h2' h3
 go_wp2_with fail
 generalize ((w1.alloc (.cells #[.int .i64 kk, .int .i64 ff, .int .i64 tt, .int .u64 uu, .string ss, .int .i64 xa, .int .i64 xb] NodeT)).alloc (.cells #[.int .i64 kk, .int .i64 ff, .int .i64 tt, .int .u64 uu, .string ss, .slice none 0 0] TrT)) = W2 at *
 refine (HSK.out _ HL2.out).mono ?_
 rintro e w2 ⟨rfl, u2⟩
 have HL3 := Lib.hid (HL2.out.below u2)
 have HP3 := Lib.hid (HP2.out.below u2)
 have HA3 := Lib.hid (bmore HA2.out u2)
 have hn3 := Hold.below u2 _ _ HN2.out
 have hx3 := Hold.below u2 _ _ HX2.out
 have hb3 := Hold.below u2 _ _ HB2.out
 have hsz : w1.heap.size + 2 ≤ w2.heap.size := by have := u2.size; have := HS2.out; omega
 have hwN : w.heap.size < w1.heap.size := (Array.getElem?_eq_some_iff.1 HB1.out).1
 have bM := bZ w2 (.cells #[.int .i64 0, .int .i64 0, .int .i64 0, .int .u64 0, .string ⟨#[]⟩, .slice none 0 0] 67)
 have hn4 := Hold.below bM _ _ hn3
 have hx4 := Hold.below bM _ _ hx3
 have hb4 := Hold.below bM _ _ hb3
 have hk4 : (w2.alloc (.cells #[.int .i64 0, .int .i64 0, .int .i64 0, .int .u64 0, .string ⟨#[]⟩, .slice none 0 0] 67)).heap[w2.heap.size]? = some (Obj.cells #[.int .i64 0, .int .i64 0, .int .i64 0, .int .u64 0, .string ⟨#[]⟩, .slice none 0 0] 67) := heap_alloc_new _ _
 have hset : (w2.alloc (.cells #[.int .i64 0, .int .i64 0, .int .i64 0, .int .u64 0, .string ⟨#[]⟩, .slice none 0 0] 67)).grownBy ((w2.alloc (.cells #[.int .i64 0, .int .i64 0, .int .i64 0, .int .u64 0, .string ⟨#[]⟩, .slice none 0 0] 67)).setCell ⟨w1.heap.size + 1, 5, none⟩ (.slice (some ⟨w2.heap.size, 0, none⟩) 1 1)) (some (w1.heap.size + 1)) := grownBy_set _ _ _ _
 have hx5 : ((w2.alloc (.cells #[.int .i64 0, .int .i64 0, .int .i64 0, .int .u64 0, .string ⟨#[]⟩, .slice none 0 0] 67)).setCell ⟨w1.heap.size + 1, 5, none⟩ (.slice (some ⟨w2.heap.size, 0, none⟩) 1 1)).heap[w1.heap.size + 1]? = some (Obj.cells #[.int .i64 kk, .int .i64 ff, .int .i64 tt, .int .u64 uu, .string ss, .slice (some ⟨w2.heap.size, 0, none⟩) 1 1] TrT) := setCellB (j := 5) (u := .slice (some ⟨w2.heap.size, 0, none⟩) 1 1) hx4
 have hb5 : ((w2.alloc (.cells #[.int .i64 0, .int .i64 0, .int .i64 0, .int .u64 0, .string ⟨#[]⟩, .slice none 0 0] 67)).setCell ⟨w1.heap.size + 1, 5, none⟩ (.slice (some ⟨w2.heap.size, 0, none⟩) 1 1)).heap[w.heap.size]? = some (Obj.cells #[.int .i64 0, .int .i64 0, .int .i64 0, .int .u64 0, .string ⟨#[]⟩, .slice none 0 0] TrT) := by
  rw [hset.block _ (Array.getElem?_eq_some_iff.1 hb4).1 (fun e => by simp only [Option.some.injEq] at e; omega)]; exact hb4
 have hk5 : ((w2.alloc (.cells #[.int .i64 0, .int .i64 0, .int .i64 0, .int .u64 0, .string ⟨#[]⟩, .slice none 0 0] 67)).setCell ⟨w1.heap.size + 1, 5, none⟩ (.slice (some ⟨w2.heap.size, 0, none⟩) 1 1)).heap[w2.heap.size]? = some (Obj.cells #[.int .i64 0, .int .i64 0, .int .i64 0, .int .u64 0, .string ⟨#[]⟩, .slice none 0 0] 67) := by
  rw [hset.block _ (Array.getElem?_eq_some_iff.1 hk4).1 (fun e => by simp only [Option.some.injEq] at e; omega)]; exact hk4
 have bQ := bZ ((w2.alloc (.cells #[.int .i64 0, .int .i64 0, .int .i64 0, .int .u64 0, .string ⟨#[]⟩, .slice none 0 0] 67)).setCell ⟨w1.heap.size + 1, 5, none⟩ (.slice (some ⟨w2.heap.size, 0, none⟩) 1 1)) (.cells #[.int .i64 xa, .int .i64 xb] 23)
 have ha6 : (((w2.alloc (.cells #[.int .i64 0, .int .i64 0, .int .i64 0, .int .u64 0, .string ⟨#[]⟩, .slice none 0 0] 67)).setCell ⟨w1.heap.size + 1, 5, none⟩ (.slice (some ⟨w2.heap.size, 0, none⟩) 1 1)).alloc (.cells #[.int .i64 xa, .int .i64 xb] 23)).heap[w2.heap.size + 1]? = some (Obj.cells #[.int .i64 xa, .int .i64 xb] 23) := by
  have e : w2.heap.size + 1 = ((w2.alloc (.cells #[.int .i64 0, .int .i64 0, .int .i64 0, .int .u64 0, .string ⟨#[]⟩, .slice none 0 0] 67)).setCell ⟨w1.heap.size + 1, 5, none⟩ (.slice (some ⟨w2.heap.size, 0, none⟩) 1 1)).heap.size := by simp [World.setCell]
  rw [e]; exact heap_alloc_new _ _
 have hsh : Hold NodeT (w2.alloc (.cells #[.int .i64 0, .int .i64 0, .int .i64 0, .int .u64 0, .string ⟨#[]⟩, .slice none 0 0] 67)) ((w2.alloc (.cells #[.int .i64 0, .int .i64 0, .int .i64 0, .int .u64 0, .string ⟨#[]⟩, .slice none 0 0] 67)).setCell ⟨w1.heap.size + 1, 5, none⟩ (.slice (some ⟨w2.heap.size, 0, none⟩) 1 1)) := Hold.setCell hx4 (by decide)
 have hbl5 : Below w.heap.size w ((w2.alloc (.cells #[.int .i64 0, .int .i64 0, .int .i64 0, .int .u64 0, .string ⟨#[]⟩, .slice none 0 0] 67)).setCell ⟨w1.heap.size + 1, 5, none⟩ (.slice (some ⟨w2.heap.size, 0, none⟩) 1 1)) := (bmore HA3.out bM).setCell (p := ⟨w1.heap.size + 1, 5, none⟩) (by simp; omega) _
 have HLP : Hid (Laid ((w2.alloc (.cells #[.int .i64 0, .int .i64 0, .int .i64 0, .int .u64 0, .string ⟨#[]⟩, .slice none 0 0] 67)).setCell ⟨w1.heap.size + 1, 5, none⟩ (.slice (some ⟨w2.heap.size, 0, none⟩) 1 1)) ∧ IsPool ((w2.alloc (.cells #[.int .i64 0, .int .i64 0, .int .i64 0, .int .u64 0, .string ⟨#[]⟩, .slice none 0 0] 67)).setCell ⟨w1.heap.size + 1, 5, none⟩ (.slice (some ⟨w2.heap.size, 0, none⟩) 1 1)) B a b vv p) := Lib.hid (by
  have hlt := (HL3.out.below bM).lt
  have hlw := HL1.out.lt
  refine ⟨fun k hk => ?_, (HP3.out.below bM).turn _ hx4 (by decide) (by decide)⟩
  obtain ⟨l0, l1, l2, l3, l4⟩ := (HL3.out.below bM) k hk
  have e : ∀ o, ((w2.alloc (.cells #[.int .i64 0, .int .i64 0, .int .i64 0, .int .u64 0, .string ⟨#[]⟩, .slice none 0 0] 67)).setCell ⟨w1.heap.size + 1, 5, none⟩ (.slice (some ⟨w2.heap.size, 0, none⟩) 1 1)).cell? ⟨1, o, none⟩ = (w2.alloc (.cells #[.int .i64 0, .int .i64 0, .int .i64 0, .int .u64 0, .string ⟨#[]⟩, .slice none 0 0] 67)).cell? ⟨1, o, none⟩ := fun o => cell_of_heap (hset.block _ hlt (fun e => by first | (have e2 := Option.some.inj e; omega) | (cases e <;> omega))) o
  simp only [e]
  exact ⟨l0, l1, l2, l3, l4⟩)
 have HL6 := Lib.hid (HLP.out.1.below bQ)
 have HP6 := Lib.hid (HLP.out.2.below bQ)
 have HB6 := Lib.hid (Hold.below bQ _ _ hb5)
 have HX6 := Lib.hid (Hold.below bQ _ _ hx5)
 have HK6 := Lib.hid (Hold.below bQ _ _ hk5)
 have HQ6 := Lib.hid ha6
 have HA6 := Lib.hid (bmore hbl5 bQ)
 obtain ⟨d0, d1, d2, d3, d4, d5, d6⟩ := cs7 hn3 rfl rfl rfl rfl rfl rfl rfl
 obtain ⟨g0, g1, g2, g3, g4, g5, g6⟩ := cs7 hn4 rfl rfl rfl rfl rfl rfl rfl
 have x5 := cellB (j := 5) hx3 rfl
 have y5 := cellB (j := 5) hx4 rfl
 have f5 := frozenB (j := 5) hx4
 have f6 := frozenB (j := 5) hx3
 have hmk := mk_one
 clear u2 c0 c1 c2 c3 c4 c5 c6 hn3 hx3 hb3 bM hn4 hx4 hb4 hk4 hset hx5 hb5 hk5 bQ ha6 hsh hbl5 HLP
 go_wp2_with fail
 clear d0 d1 d2 d3 d4 d5 d6 g0 g1 g2 g3 g4 g5 g6 x5 y5 f5 f6 hmk
 generalize (((w2.alloc (.cells #[.int .i64 0, .int .i64 0, .int .i64 0, .int .u64 0, .string ⟨#[]⟩, .slice none 0 0] 67)).setCell ⟨w1.heap.size + 1, 5, none⟩ (.slice (some ⟨w2.heap.size, 0, none⟩) 1 1)).alloc (.cells #[.int .i64 xa, .int .i64 xb] 23)) = W6 at *
 have HAB : Hid (w.heap.size < w2.heap.size ∧ w1.heap.size + 1 < w2.heap.size ∧ w.heap.size ≠ w1.heap.size + 1) := Lib.hid (by omega)
 clear hsz hwN
 generalize w1.heap.size = nb1 at *
 generalize w2.heap.size = kb at *
 go_loopw [45] (fun vi wr => ((vi = .int .i64 0 ∧ wr.heap[kb]? = some (Obj.cells #[.int .i64 0, .int .i64 0, .int .i64 0, .int .u64 0, .string ⟨#[]⟩, .slice none 0 0] TrT)) ∨ (∃ (n0 : Nd) (k0 : Fo) (va0 : Option Addr) (vc0 : Nat), vi = .int .i64 1 ∧ wr.heap[kb]? = some (Obj.cells #[.int .i64 (n0).kind, .int .i64 (n0).frm, .int .i64 (n0).to, .int .u64 (n0).num, .string (n0).text, .slice va0 (k0).len vc0] TrT) ∧ IsK wr (GK kb wr) (.slice va0 (k0).len vc0) k0 ∧ OkF (.cons n0 k0 .nil) ∧ RepF p [xa] (.cons n0 k0 .nil))) ∧ wr.heap[w.heap.size]? = some (Obj.cells #[.int .i64 0, .int .i64 0, .int .i64 0, .int .u64 0, .string ⟨#[]⟩, .slice none 0 0] TrT) ∧ wr.heap[nb1 + 1]? = some (Obj.cells #[.int .i64 kk, .int .i64 ff, .int .i64 tt, .int .u64 uu, .string ss, .slice (some ⟨kb, 0, none⟩) 1 1] TrT) ∧ wr.heap[kb + 1]? = some (Obj.cells #[.int .i64 xa, .int .i64 xb] TermT) ∧ Laid wr ∧ IsPool wr B a b vv p ∧ Below w.heap.size w wr) (fun v _ => 1 - (intOf v).toNat)
 case atStart => exact ⟨.inl ⟨rfl, HK6.out⟩, HB6.out, HX6.out, HQ6.out, HL6.out, HP6.out, HA6.out⟩
 case round =>
  clear HB6 HX6 HK6 HQ6 HL6 HP6 HA6 HL HP HB HA HL1 HP1 HA1 HB1 HL2 HA2 HP2 HN2 HX2 HB2 HS2 HL3 HP3 HA3
  obtain ⟨hcase, hb, hx, hq, hlr, hpr, hbr⟩ := hrel
  have HBB := Lib.hid hb
  have HX := Lib.hid hx
  have HQ := Lib.hid hq
  have HLR := Lib.hid hlr
  have HPR := Lib.hid hpr
  have HBR := Lib.hid hbr
  have x5 := cellB (j := 5) hx rfl
  have a0 := cellB (j := 0) hq rfl
  have a1 := cellB (j := 1) hq rfl
  have hF0 : wr.drew.cell? ⟨nb1 + 1, 5, none⟩ = some (.slice (some ⟨kb, 0, none⟩) 1 1) := bcellAt (bd wr) x5
  clear hb hx hq hlr hpr hbr
  rcases hcase with hc | hc
  ·obtain ⟨rfl, hkb⟩ := hc
   have HKB := Lib.hid hkb
   clear hkb 
   have hkid := HI0.out wr.drew (HLR.out.below (bd wr)) (HPR.out.below (bd wr))
   have HKID := Lib.hid hkid
   clear hkid
   go_wp2_with fail
   refine lexg_start [0, 1, 2, 3, 4, 5, 6, 7] 7 (F := fun W => W.cell? ⟨nb1 + 1, 5, none⟩ = some (.slice (some ⟨kb, 0, none⟩) 1 1)) (by kernel_rfl) ?_
   simp only [inOrder, List.filterMap, List.getElem?_cons_succ, List.getElem?_cons_zero]
   refine lexg_take (i := 0) (v := ?_) rfl (by decide) (by kernel_rfl) (by kernel_rfl) (by kernel_rfl) (by kernel_rfl) (by rfl) hF0 ?_ ?_
   rotate_left
   ·((intro W hW; go_simp) <;> with_reducible rfl)
   simp only [Act.put, List.setIfInBounds_toArray, List.set_cons_zero, List.set_cons_succ]
   refine lexg_take (i := 1) (v := ?_) rfl (by decide) (by kernel_rfl) (by kernel_rfl) (by kernel_rfl) (by kernel_rfl) (by rfl) hF0 ?_ ?_
   rotate_left
   ·((intro W hW; go_simp) <;> with_reducible rfl)
   simp only [Act.put, List.setIfInBounds_toArray, List.set_cons_zero, List.set_cons_succ]
   refine lexg_take (i := 2) (v := ?_) rfl (by decide) (by kernel_rfl) (by kernel_rfl) (by kernel_rfl) (by kernel_rfl) (by rfl) hF0 ?_ ?_
   rotate_left
   ·((intro W hW; go_simp) <;> with_reducible rfl)
   simp only [Act.put, List.setIfInBounds_toArray, List.set_cons_zero, List.set_cons_succ]
   refine lexg_take (i := 3) (v := ?_) rfl (by decide) (by kernel_rfl) (by kernel_rfl) (by kernel_rfl) (by kernel_rfl) (by rfl) hF0 ?_ ?_
   rotate_left
   ·((intro W hW; go_simp) <;> with_reducible rfl)
   simp only [Act.put, List.setIfInBounds_toArray, List.set_cons_zero, List.set_cons_succ]
   refine lexg_take (i := 4) (v := ?_) rfl (by decide) (by kernel_rfl) (by kernel_rfl) (by kernel_rfl) (by kernel_rfl) (by rfl) hF0 ?_ ?_
   rotate_left
   ·((intro W hW; go_simp) <;> with_reducible rfl)
   simp only [Act.put, List.setIfInBounds_toArray, List.set_cons_zero, List.set_cons_succ]
   refine lexg_call (i := 5) rfl (by kernel_rfl) (by rfl) ?_ _ HKID.out ?_
   ·go_simp
   rintro e w3 ⟨n0, k0, v0, rfl, hk0, ho0, u3, hr0, _⟩
   obtain ⟨va0, vc0, rfl, _⟩ := hk0.shape
   have bA := bmore (bd wr) u3
   have hF3 : w3.cell? ⟨nb1 + 1, 5, none⟩ = some (.slice (some ⟨kb, 0, none⟩) 1 1) := bcellAt bA x5
   refine ⟨_, rfl, fun _ => hF3, ?_⟩
   simp only [treeA, Act.put, List.setIfInBounds_toArray, List.set_cons_zero, List.set_cons_succ]
   refine lexg_take (i := 6) (v := ?_) rfl (by decide) (by kernel_rfl) (by kernel_rfl) (by kernel_rfl) (by kernel_rfl) (by rfl) hF3 ?_ ?_
   rotate_left
   ·((intro W hW; go_simp) <;> with_reducible rfl)
   simp only [Act.put, List.setIfInBounds_toArray, List.set_cons_zero, List.set_cons_succ]
   have hk3 := Hold.below bA _ _ HKB.out
   have z0 := cellB (j := 0) hk3 rfl
   have q0 := frozenB (j := 0) hk3
   have z1 := cellB (j := 1) hk3 rfl
   have q1 := frozenB (j := 1) hk3
   have z2 := cellB (j := 2) hk3 rfl
   have q2 := frozenB (j := 2) hk3
   have z3 := cellB (j := 3) hk3 rfl
   have q3 := frozenB (j := 3) hk3
   have z4 := cellB (j := 4) hk3 rfl
   have q4 := frozenB (j := 4) hk3
   have z5 := cellB (j := 5) hk3 rfl
   have q5 := frozenB (j := 5) hk3
   have HK3 := Lib.hid hk3
   refine lexg_do (i := 7) rfl (by kernel_rfl) (by rfl) (fun K hK => ?_)
   go_simp
   have hk5 : ((((((w3.setCell ⟨kb, 0, none⟩ (.int .i64 (n0).kind)).setCell ⟨kb, 1, none⟩ (.int .i64 (n0).frm)).setCell ⟨kb, 2, none⟩ (.int .i64 (n0).to)).setCell ⟨kb, 3, none⟩ (.int .u64 (n0).num)).setCell ⟨kb, 4, none⟩ (.string (n0).text)).setCell ⟨kb, 5, none⟩ (.slice va0 (k0).len vc0)).heap[kb]? = some (Obj.cells #[.int .i64 (n0).kind, .int .i64 (n0).frm, .int .i64 (n0).to, .int .u64 (n0).num, .string (n0).text, .slice va0 (k0).len vc0] TrT) := (setCellB (j := 5) (u := .slice va0 (k0).len vc0) (setCellB (j := 4) (u := .string (n0).text) (setCellB (j := 3) (u := .int .u64 (n0).num) (setCellB (j := 2) (u := .int .i64 (n0).to) (setCellB (j := 1) (u := .int .i64 (n0).frm) (setCellB (j := 0) (u := .int .i64 (n0).kind) HK3.out))))))
   have hg5 : w3.grownBy ((((((w3.setCell ⟨kb, 0, none⟩ (.int .i64 (n0).kind)).setCell ⟨kb, 1, none⟩ (.int .i64 (n0).frm)).setCell ⟨kb, 2, none⟩ (.int .i64 (n0).to)).setCell ⟨kb, 3, none⟩ (.int .u64 (n0).num)).setCell ⟨kb, 4, none⟩ (.string (n0).text)).setCell ⟨kb, 5, none⟩ (.slice va0 (k0).len vc0)) (some kb) := ((((((grownBy_set _ _ _ _).trans (grownBy_set _ _ _ _)).trans (grownBy_set _ _ _ _)).trans (grownBy_set _ _ _ _)).trans (grownBy_set _ _ _ _)).trans (grownBy_set _ _ _ _))
   have hp5 : IsPool ((((((w3.setCell ⟨kb, 0, none⟩ (.int .i64 (n0).kind)).setCell ⟨kb, 1, none⟩ (.int .i64 (n0).frm)).setCell ⟨kb, 2, none⟩ (.int .i64 (n0).to)).setCell ⟨kb, 3, none⟩ (.int .u64 (n0).num)).setCell ⟨kb, 4, none⟩ (.string (n0).text)).setCell ⟨kb, 5, none⟩ (.slice va0 (k0).len vc0)) B a b vv p := pool_turn6 (HPR.out.below bA) hk3 (by decide) (by decide) rfl
   refine hK _ _ ⟨fun h => absurd rfl h, ?_⟩
   clear hK K z0 z1 z2 z3 z4 z5 q0 q1 q2 q3 q4 q5 hF3 hF0
   refine lexg_done (by kernel_rfl) ?_
   generalize ((((((w3.setCell ⟨kb, 0, none⟩ (.int .i64 (n0).kind)).setCell ⟨kb, 1, none⟩ (.int .i64 (n0).frm)).setCell ⟨kb, 2, none⟩ (.int .i64 (n0).to)).setCell ⟨kb, 3, none⟩ (.int .u64 (n0).num)).setCell ⟨kb, 4, none⟩ (.string (n0).text)).setCell ⟨kb, 5, none⟩ (.slice va0 (k0).len vc0)) = w5 at *
   go_wp2_with fail
   have hkk : ∀ (bb : Nat) (u : Obj), w3.heap[bb]? = some u → bb ≠ kb → w5.heap[bb]? = some u := fun bb u h hn => by
    rw [hg5.block bb (Array.getElem?_eq_some_iff.1 h).1 (fun e => hn (by cases e; rfl))]; exact h
   have hkr : ∀ (bb : Nat) (cs : Array Value) (T : TypeId), wr.heap[bb]? = some (Obj.cells cs T) → bb ≠ kb → w5.heap[bb]? = some (Obj.cells cs T) := fun bb cs T h hn => hkk bb _ (by rw [bA.block bb (Array.getElem?_eq_some_iff.1 h).1]; exact h) hn
   have hkbl : kb < wr.heap.size := (Array.getElem?_eq_some_iff.1 HKB.out).1
   have hab := HAB.out
   have hl5 : Laid w5 := fun k hk => by
    obtain ⟨l0, l1, l2, l3, l4⟩ := (HLR.out.below bA) k hk
    have hlk := HLW.out
    have e : ∀ o, w5.cell? ⟨1, o, none⟩ = w3.cell? ⟨1, o, none⟩ := fun o => cell_of_heap (hg5.block _ (HLR.out.below bA).lt (fun e => by first | (have e2 := Option.some.inj e; omega) | (cases e <;> omega))) o
    simp only [e]
    exact ⟨l0, l1, l2, l3, l4⟩
   have hb5 : Below w.heap.size w w5 := ((HBR.out.trans (bA.mono HBR.out.size)).grown hg5 (by have := HBR.out.size; have := bA.size; omega) (fun g e => by cases e; omega))
   have hkp0 : IsK w5 (GK kb w5) (.slice va0 (k0).len vc0) k0 := hk0.keep (fun bb hg hl => by
    obtain ⟨p1, cs, p2⟩ := hg
    have p1' : wr.heap.size ≤ bb := p1
    have p3 := hkk bb _ p2 (by omega)
    exact ⟨⟨by omega, cs, p3⟩, by rw [p3, p2]⟩)
   go_roundw
   case rel => exact ⟨.inr (⟨n0, k0, va0, vc0, by first | rfl | go_num, hk5, hkp0, ho0, hr0 HIN0.out⟩), hkr _ _ _ HBB.out (by omega), hkr _ _ _ HX.out (by omega), hkr _ _ _ HQ.out (by omega), hl5, hp5, hb5⟩
   case measure => simp [intOf]
  ·obtain ⟨n0, k0, va0, vc0, rfl, hkb, hk0, ho0, hr0⟩ := hc
   have HKB := Lib.hid hkb
   have hb := HBB.out
   have hx := HX.out
   have r0 := cellB (j := 0) hb rfl
   have s0 := frozenB (j := 0) hb
   have r1 := cellB (j := 1) hb rfl
   have s1 := frozenB (j := 1) hb
   have r2 := cellB (j := 2) hb rfl
   have s2 := frozenB (j := 2) hb
   have r3 := cellB (j := 3) hb rfl
   have s3 := frozenB (j := 3) hb
   have r4 := cellB (j := 4) hb rfl
   have s4 := frozenB (j := 4) hb
   have r5 := cellB (j := 5) hb rfl
   have s5 := frozenB (j := 5) hb
   obtain ⟨z0, z1, z2, z3, z4, z5⟩ := cs6 hx rfl rfl rfl rfl rfl rfl
   have h6 : ((((((wr.setCell ⟨w.heap.size, 0, none⟩ (.int .i64 kk)).setCell ⟨w.heap.size, 1, none⟩ (.int .i64 ff)).setCell ⟨w.heap.size, 2, none⟩ (.int .i64 tt)).setCell ⟨w.heap.size, 3, none⟩ (.int .u64 uu)).setCell ⟨w.heap.size, 4, none⟩ (.string ss)).setCell ⟨w.heap.size, 5, none⟩ (.slice (some ⟨kb, 0, none⟩) 1 1)).heap[w.heap.size]? = some (Obj.cells #[.int .i64 kk, .int .i64 ff, .int .i64 tt, .int .u64 uu, .string ss, .slice (some ⟨kb, 0, none⟩) 1 1] TrT) := (setCellB (j := 5) (u := .slice (some ⟨kb, 0, none⟩) 1 1) (setCellB (j := 4) (u := .string ss) (setCellB (j := 3) (u := .int .u64 uu) (setCellB (j := 2) (u := .int .i64 tt) (setCellB (j := 1) (u := .int .i64 ff) (setCellB (j := 0) (u := .int .i64 kk) hb))))))
   have hg6 : wr.grownBy ((((((wr.setCell ⟨w.heap.size, 0, none⟩ (.int .i64 kk)).setCell ⟨w.heap.size, 1, none⟩ (.int .i64 ff)).setCell ⟨w.heap.size, 2, none⟩ (.int .i64 tt)).setCell ⟨w.heap.size, 3, none⟩ (.int .u64 uu)).setCell ⟨w.heap.size, 4, none⟩ (.string ss)).setCell ⟨w.heap.size, 5, none⟩ (.slice (some ⟨kb, 0, none⟩) 1 1)) (some w.heap.size) := ((((((grownBy_set _ _ _ _).trans (grownBy_set _ _ _ _)).trans (grownBy_set _ _ _ _)).trans (grownBy_set _ _ _ _)).trans (grownBy_set _ _ _ _)).trans (grownBy_set _ _ _ _))
   clear hb hx hkb a0 a1 x5 hF0 
   have HK0 := Lib.hid hk0
   have HO0 := Lib.hid ho0
   have HR0 := Lib.hid hr0
   clear hk0 ho0 hr0
   go_wp2_with fail
   generalize ((((((wr.setCell ⟨w.heap.size, 0, none⟩ (.int .i64 kk)).setCell ⟨w.heap.size, 1, none⟩ (.int .i64 ff)).setCell ⟨w.heap.size, 2, none⟩ (.int .i64 tt)).setCell ⟨w.heap.size, 3, none⟩ (.int .u64 uu)).setCell ⟨w.heap.size, 4, none⟩ (.string ss)).setCell ⟨w.heap.size, 5, none⟩ (.slice (some ⟨kb, 0, none⟩) 1 1)) = w6 at *
   clear r0 r1 r2 r3 r4 r5 s0 s1 s2 s3 s4 s5 z0 z1 z2 z3 z4 z5
   obtain ⟨d0, d1, d2, d3, d4, d5⟩ := cs6 h6 rfl rfl rfl rfl rfl rfl
   refine bodyPost_ret (v := .agg #[.int .i64 kk, .int .i64 ff, .int .i64 tt, .int .u64 uu, .string ss, .slice (some ⟨kb, 0, none⟩) 1 1]) (by simp [results, Tryz.results33, go_sem, d0, d1, d2, d3, d4, d5]) rfl ?_
   have hab := HAB.out
   have hkk : ∀ (bb : Nat) (u : Obj), wr.heap[bb]? = some u → bb ≠ w.heap.size → w6.heap[bb]? = some u := fun bb u h hn => by
    rw [hg6.block bb (Array.getElem?_eq_some_iff.1 h).1 (fun e => hn (by cases e; rfl))]; exact h
   have hkb6 := hkk _ _ HKB.out (by omega)
   have hb6 : Below w.heap.size w w6 := HBR.out.grown hg6 HBR.out.size (fun g e => by cases e; omega)
   have hq0 : IsK w6 (NewT w w6) (.slice va0 (k0).len vc0) k0 := HK0.out.keep (fun bb hg hl => by
    obtain ⟨p1, cs, p2⟩ := hg
    have p3 := hkk bb _ p2 (by omega)
    exact ⟨⟨by omega, cs, p3⟩, by rw [p3, p2]⟩)
   have hat : AtF w6 (NewT w w6) (foOf [(n0, k0)]) kb 0 := RowF.at (l := [(n0, k0)]) (xs := six n0 (.slice va0 (k0).len vc0) ++ []) ⟨_, _, rfl, hq0, rfl⟩ (fun j u hj => by
    rw [Nat.zero_add]
    refine cellB hkb6 ?_
    simpa [six] using hj)
   refine ⟨⟨kk, ff, tt, uu, ss, 0, 0⟩, (.cons n0 k0 .nil), _, rfl, ⟨_, _, rfl, Nat.le_refl _, by decide, fun _ => ⟨kb, 0, rfl, ⟨by omega, _, hkb6⟩, hat⟩⟩, HOKB.out _ ?_, hb6, fun _ => HREP.out _ ?_, fun h => by rw [HIN.out] at h; cases h⟩
   ·exact ⟨HO0.out.1, HO0.out.2.1, HO0.out.2.2.1, HO0.out.2.2.2.1, trivial⟩
   ·exact ⟨HR0.out.1, HR0.out.2.1, trivial⟩
set_option maxRecDepth 100000 in
set_option maxHeartbeats 25600000 in
theorem ptree_two {t : Int} (hin : inP p t = true) (h2 : kidsN (atP p t).1.kind = 2) (ih0 : PTreeC B a b vv p (atP p t).1.a) (hin0 : inP p (atP p t).1.a = true) (ih1 : PTreeC B a b vv p (atP p t).1.b) (hin1 : inP p (atP p t).1.b = true) : PTreeC B a b vv p t := by
 intro w hl hp
 have bA := bZ w (.cells #[.int .i64 0, .int .i64 0, .int .i64 0, .int .u64 0, .string ⟨#[]⟩, .slice none 0 0] TrT)
 have hb : (w.alloc (.cells #[.int .i64 0, .int .i64 0, .int .i64 0, .int .u64 0, .string ⟨#[]⟩, .slice none 0 0] TrT)).heap[w.heap.size]? = some (Obj.cells #[.int .i64 0, .int .i64 0, .int .i64 0, .int .u64 0, .string ⟨#[]⟩, .slice none 0 0] TrT) := heap_alloc_new _ _
 have HNO := Lib.hid (pnode (hp.below bA) t)
 have HIN := Lib.hid hin
 have HI0 := Lib.hid ih0
 have HIN0 := Lib.hid hin0
 have HI1 := Lib.hid ih1
 have HIN1 := Lib.hid hin1
 have HM := Lib.hid (atP_nok hp.nok t)
 have HLW := Lib.hid hl.lt
 have HL := Lib.hid (hl.below bA)
 have HP := Lib.hid (hp.below bA)
 have HB := Lib.hid hb
 have HA := Lib.hid bA
 have HREP : Hid (∀ f : Fo, RepF p [(atP p t).1.a, (atP p t).1.b] f → RepF p [t] (.cons (bareN (atP p t).1) f .nil)) := Lib.hid (fun f h => ⟨hin, ⟨_, h, by rw [show (bareN (atP p t).1).kind = (atP p t).1.kind from rfl, h2]; rfl, node_kids hp.ok hin h2⟩, trivial⟩)
 clear hl hp hin ih0 hin0 ih1 hin1 bA hb
 generalize (atP p t).1 = m at *
 have HSK := Lib.hid (fun (W : World) (hW : Laid W) => shape_kids hW m.kind 2 (by rw [h2]; rfl))
 have HOKB : Hid (∀ f : Fo, OkF f → OkF (.cons (bareN m) f .nil)) := Lib.hid (fun f h => ⟨⟨HM.out.kind, HM.out.frm, HM.out.to, HM.out.num, HM.out.text, by unfold i64R; simp [bareN], by unfold i64R; simp [bareN]⟩, rfl, rfl, h, trivial⟩)
 obtain ⟨kk, ff, tt, uu, ss, xa, xb⟩ := m
 generalize namedB kk = nb at *
 generalize twoB kk = tb at *
 simp only [nodeA, bareN] at *
 have hfk := field_kids
 go_enter Tryz.func33, Tryz.ntmps33
 go_wp2_with fail
 generalize (w.alloc (.cells #[.int .i64 0, .int .i64 0, .int .i64 0, .int .u64 0, .string ⟨#[]⟩, .slice none 0 0] TrT)) = W at *
 refine HNO.out.mono ?_
 rintro e w1 ⟨rfl, u1⟩
 have HL1 := Lib.hid (HL.out.below u1)
 have HP1 := Lib.hid (HP.out.below u1)
 have HA1 := Lib.hid (bmore HA.out u1)
 have HB1 := Lib.hid (Hold.below u1 _ _ HB.out)
 clear u1
 have b1 := bZ w1 (.cells #[.int .i64 kk, .int .i64 ff, .int .i64 tt, .int .u64 uu, .string ss, .int .i64 xa, .int .i64 xb] NodeT)
 have h1 : (w1.alloc (.cells #[.int .i64 kk, .int .i64 ff, .int .i64 tt, .int .u64 uu, .string ss, .int .i64 xa, .int .i64 xb] NodeT)).heap[w1.heap.size]? = some (Obj.cells #[.int .i64 kk, .int .i64 ff, .int .i64 tt, .int .u64 uu, .string ss, .int .i64 xa, .int .i64 xb] NodeT) := heap_alloc_new _ _
 have b2 := bZ (w1.alloc (.cells #[.int .i64 kk, .int .i64 ff, .int .i64 tt, .int .u64 uu, .string ss, .int .i64 xa, .int .i64 xb] NodeT)) (.cells #[.int .i64 kk, .int .i64 ff, .int .i64 tt, .int .u64 uu, .string ss, .slice none 0 0] TrT)
 have b12 := b1.trans (b2.mono b1.size)
 have h2' := Hold.below b2 _ _ h1
 have h3 : ((w1.alloc (.cells #[.int .i64 kk, .int .i64 ff, .int .i64 tt, .int .u64 uu, .string ss, .int .i64 xa, .int .i64 xb] NodeT)).alloc (.cells #[.int .i64 kk, .int .i64 ff, .int .i64 tt, .int .u64 uu, .string ss, .slice none 0 0] TrT)).heap[w1.heap.size + 1]? = some (Obj.cells #[.int .i64 kk, .int .i64 ff, .int .i64 tt, .int .u64 uu, .string ss, .slice none 0 0] TrT) := by
  have e : w1.heap.size + 1 = (w1.alloc (.cells #[.int .i64 kk, .int .i64 ff, .int .i64 tt, .int .u64 uu, .string ss, .int .i64 xa, .int .i64 xb] NodeT)).heap.size := by simp
  rw [e]; exact heap_alloc_new _ _
 have HL2 := Lib.hid (HL1.out.below b12)
 have HA2 := Lib.hid (bmore HA1.out b12)
 have HP2 := Lib.hid (HP1.out.below b12)
 have HN2 := Lib.hid h2'
 have HX2 := Lib.hid h3
 have HB2 := Lib.hid (Hold.below b12 _ _ HB1.out)
 have HS2 : Hid (((w1.alloc (.cells #[.int .i64 kk, .int .i64 ff, .int .i64 tt, .int .u64 uu, .string ss, .int .i64 xa, .int .i64 xb] NodeT)).alloc (.cells #[.int .i64 kk, .int .i64 ff, .int .i64 tt, .int .u64 uu, .string ss, .slice none 0 0] TrT)).heap.size = w1.heap.size + 2) := Lib.hid (by simp)
 obtain ⟨c0, c1, c2, c3, c4, c5, c6⟩ := cs7 (h2') rfl rfl rfl rfl rfl rfl rfl
 clear b1 h1 b2 b12 h2' h3
 go_wp2_with fail
 generalize ((w1.alloc (.cells #[.int .i64 kk, .int .i64 ff, .int .i64 tt, .int .u64 uu, .string ss, .int .i64 xa, .int .i64 xb] NodeT)).alloc (.cells #[.int .i64 kk, .int .i64 ff, .int .i64 tt, .int .u64 uu, .string ss, .slice none 0 0] TrT)) = W2 at *
 refine (HSK.out _ HL2.out).mono ?_
 rintro e w2 ⟨rfl, u2⟩
 have HL3 := Lib.hid (HL2.out.below u2)
 have HP3 := Lib.hid (HP2.out.below u2)
 have HA3 := Lib.hid (bmore HA2.out u2)
 have hn3 := Hold.below u2 _ _ HN2.out
 have hx3 := Hold.below u2 _ _ HX2.out
 have hb3 := Hold.below u2 _ _ HB2.out
 have hsz : w1.heap.size + 2 ≤ w2.heap.size := by have := u2.size; have := HS2.out; omega
 have hwN : w.heap.size < w1.heap.size := (Array.getElem?_eq_some_iff.1 HB1.out).1
 have bM := bZ w2 (.cells #[.int .i64 0, .int .i64 0, .int .i64 0, .int .u64 0, .string ⟨#[]⟩, .slice none 0 0, .int .i64 0, .int .i64 0, .int .i64 0, .int .u64 0, .string ⟨#[]⟩, .slice none 0 0] 67)
 have hn4 := Hold.below bM _ _ hn3
 have hx4 := Hold.below bM _ _ hx3
 have hb4 := Hold.below bM _ _ hb3
 have hk4 : (w2.alloc (.cells #[.int .i64 0, .int .i64 0, .int .i64 0, .int .u64 0, .string ⟨#[]⟩, .slice none 0 0, .int .i64 0, .int .i64 0, .int .i64 0, .int .u64 0, .string ⟨#[]⟩, .slice none 0 0] 67)).heap[w2.heap.size]? = some (Obj.cells #[.int .i64 0, .int .i64 0, .int .i64 0, .int .u64 0, .string ⟨#[]⟩, .slice none 0 0, .int .i64 0, .int .i64 0, .int .i64 0, .int .u64 0, .string ⟨#[]⟩, .slice none 0 0] 67) := heap_alloc_new _ _
 have hset : (w2.alloc (.cells #[.int .i64 0, .int .i64 0, .int .i64 0, .int .u64 0, .string ⟨#[]⟩, .slice none 0 0, .int .i64 0, .int .i64 0, .int .i64 0, .int .u64 0, .string ⟨#[]⟩, .slice none 0 0] 67)).grownBy ((w2.alloc (.cells #[.int .i64 0, .int .i64 0, .int .i64 0, .int .u64 0, .string ⟨#[]⟩, .slice none 0 0, .int .i64 0, .int .i64 0, .int .i64 0, .int .u64 0, .string ⟨#[]⟩, .slice none 0 0] 67)).setCell ⟨w1.heap.size + 1, 5, none⟩ (.slice (some ⟨w2.heap.size, 0, none⟩) 2 2)) (some (w1.heap.size + 1)) := grownBy_set _ _ _ _
 have hx5 : ((w2.alloc (.cells #[.int .i64 0, .int .i64 0, .int .i64 0, .int .u64 0, .string ⟨#[]⟩, .slice none 0 0, .int .i64 0, .int .i64 0, .int .i64 0, .int .u64 0, .string ⟨#[]⟩, .slice none 0 0] 67)).setCell ⟨w1.heap.size + 1, 5, none⟩ (.slice (some ⟨w2.heap.size, 0, none⟩) 2 2)).heap[w1.heap.size + 1]? = some (Obj.cells #[.int .i64 kk, .int .i64 ff, .int .i64 tt, .int .u64 uu, .string ss, .slice (some ⟨w2.heap.size, 0, none⟩) 2 2] TrT) := setCellB (j := 5) (u := .slice (some ⟨w2.heap.size, 0, none⟩) 2 2) hx4
 have hb5 : ((w2.alloc (.cells #[.int .i64 0, .int .i64 0, .int .i64 0, .int .u64 0, .string ⟨#[]⟩, .slice none 0 0, .int .i64 0, .int .i64 0, .int .i64 0, .int .u64 0, .string ⟨#[]⟩, .slice none 0 0] 67)).setCell ⟨w1.heap.size + 1, 5, none⟩ (.slice (some ⟨w2.heap.size, 0, none⟩) 2 2)).heap[w.heap.size]? = some (Obj.cells #[.int .i64 0, .int .i64 0, .int .i64 0, .int .u64 0, .string ⟨#[]⟩, .slice none 0 0] TrT) := by
  rw [hset.block _ (Array.getElem?_eq_some_iff.1 hb4).1 (fun e => by simp only [Option.some.injEq] at e; omega)]; exact hb4
 have hk5 : ((w2.alloc (.cells #[.int .i64 0, .int .i64 0, .int .i64 0, .int .u64 0, .string ⟨#[]⟩, .slice none 0 0, .int .i64 0, .int .i64 0, .int .i64 0, .int .u64 0, .string ⟨#[]⟩, .slice none 0 0] 67)).setCell ⟨w1.heap.size + 1, 5, none⟩ (.slice (some ⟨w2.heap.size, 0, none⟩) 2 2)).heap[w2.heap.size]? = some (Obj.cells #[.int .i64 0, .int .i64 0, .int .i64 0, .int .u64 0, .string ⟨#[]⟩, .slice none 0 0, .int .i64 0, .int .i64 0, .int .i64 0, .int .u64 0, .string ⟨#[]⟩, .slice none 0 0] 67) := by
  rw [hset.block _ (Array.getElem?_eq_some_iff.1 hk4).1 (fun e => by simp only [Option.some.injEq] at e; omega)]; exact hk4
 have bQ := bZ ((w2.alloc (.cells #[.int .i64 0, .int .i64 0, .int .i64 0, .int .u64 0, .string ⟨#[]⟩, .slice none 0 0, .int .i64 0, .int .i64 0, .int .i64 0, .int .u64 0, .string ⟨#[]⟩, .slice none 0 0] 67)).setCell ⟨w1.heap.size + 1, 5, none⟩ (.slice (some ⟨w2.heap.size, 0, none⟩) 2 2)) (.cells #[.int .i64 xa, .int .i64 xb] 23)
 have ha6 : (((w2.alloc (.cells #[.int .i64 0, .int .i64 0, .int .i64 0, .int .u64 0, .string ⟨#[]⟩, .slice none 0 0, .int .i64 0, .int .i64 0, .int .i64 0, .int .u64 0, .string ⟨#[]⟩, .slice none 0 0] 67)).setCell ⟨w1.heap.size + 1, 5, none⟩ (.slice (some ⟨w2.heap.size, 0, none⟩) 2 2)).alloc (.cells #[.int .i64 xa, .int .i64 xb] 23)).heap[w2.heap.size + 1]? = some (Obj.cells #[.int .i64 xa, .int .i64 xb] 23) := by
  have e : w2.heap.size + 1 = ((w2.alloc (.cells #[.int .i64 0, .int .i64 0, .int .i64 0, .int .u64 0, .string ⟨#[]⟩, .slice none 0 0, .int .i64 0, .int .i64 0, .int .i64 0, .int .u64 0, .string ⟨#[]⟩, .slice none 0 0] 67)).setCell ⟨w1.heap.size + 1, 5, none⟩ (.slice (some ⟨w2.heap.size, 0, none⟩) 2 2)).heap.size := by simp [World.setCell]
  rw [e]; exact heap_alloc_new _ _
 have hsh : Hold NodeT (w2.alloc (.cells #[.int .i64 0, .int .i64 0, .int .i64 0, .int .u64 0, .string ⟨#[]⟩, .slice none 0 0, .int .i64 0, .int .i64 0, .int .i64 0, .int .u64 0, .string ⟨#[]⟩, .slice none 0 0] 67)) ((w2.alloc (.cells #[.int .i64 0, .int .i64 0, .int .i64 0, .int .u64 0, .string ⟨#[]⟩, .slice none 0 0, .int .i64 0, .int .i64 0, .int .i64 0, .int .u64 0, .string ⟨#[]⟩, .slice none 0 0] 67)).setCell ⟨w1.heap.size + 1, 5, none⟩ (.slice (some ⟨w2.heap.size, 0, none⟩) 2 2)) := Hold.setCell hx4 (by decide)
 have hbl5 : Below w.heap.size w ((w2.alloc (.cells #[.int .i64 0, .int .i64 0, .int .i64 0, .int .u64 0, .string ⟨#[]⟩, .slice none 0 0, .int .i64 0, .int .i64 0, .int .i64 0, .int .u64 0, .string ⟨#[]⟩, .slice none 0 0] 67)).setCell ⟨w1.heap.size + 1, 5, none⟩ (.slice (some ⟨w2.heap.size, 0, none⟩) 2 2)) := (bmore HA3.out bM).setCell (p := ⟨w1.heap.size + 1, 5, none⟩) (by simp; omega) _
 have HLP : Hid (Laid ((w2.alloc (.cells #[.int .i64 0, .int .i64 0, .int .i64 0, .int .u64 0, .string ⟨#[]⟩, .slice none 0 0, .int .i64 0, .int .i64 0, .int .i64 0, .int .u64 0, .string ⟨#[]⟩, .slice none 0 0] 67)).setCell ⟨w1.heap.size + 1, 5, none⟩ (.slice (some ⟨w2.heap.size, 0, none⟩) 2 2)) ∧ IsPool ((w2.alloc (.cells #[.int .i64 0, .int .i64 0, .int .i64 0, .int .u64 0, .string ⟨#[]⟩, .slice none 0 0, .int .i64 0, .int .i64 0, .int .i64 0, .int .u64 0, .string ⟨#[]⟩, .slice none 0 0] 67)).setCell ⟨w1.heap.size + 1, 5, none⟩ (.slice (some ⟨w2.heap.size, 0, none⟩) 2 2)) B a b vv p) := Lib.hid (by
  have hlt := (HL3.out.below bM).lt
  have hlw := HL1.out.lt
  refine ⟨fun k hk => ?_, (HP3.out.below bM).turn _ hx4 (by decide) (by decide)⟩
  obtain ⟨l0, l1, l2, l3, l4⟩ := (HL3.out.below bM) k hk
  have e : ∀ o, ((w2.alloc (.cells #[.int .i64 0, .int .i64 0, .int .i64 0, .int .u64 0, .string ⟨#[]⟩, .slice none 0 0, .int .i64 0, .int .i64 0, .int .i64 0, .int .u64 0, .string ⟨#[]⟩, .slice none 0 0] 67)).setCell ⟨w1.heap.size + 1, 5, none⟩ (.slice (some ⟨w2.heap.size, 0, none⟩) 2 2)).cell? ⟨1, o, none⟩ = (w2.alloc (.cells #[.int .i64 0, .int .i64 0, .int .i64 0, .int .u64 0, .string ⟨#[]⟩, .slice none 0 0, .int .i64 0, .int .i64 0, .int .i64 0, .int .u64 0, .string ⟨#[]⟩, .slice none 0 0] 67)).cell? ⟨1, o, none⟩ := fun o => cell_of_heap (hset.block _ hlt (fun e => by first | (have e2 := Option.some.inj e; omega) | (cases e <;> omega))) o
  simp only [e]
  exact ⟨l0, l1, l2, l3, l4⟩)
 have HL6 := Lib.hid (HLP.out.1.below bQ)
 have HP6 := Lib.hid (HLP.out.2.below bQ)
 have HB6 := Lib.hid (Hold.below bQ _ _ hb5)
 have HX6 := Lib.hid (Hold.below bQ _ _ hx5)
 have HK6 := Lib.hid (Hold.below bQ _ _ hk5)
 have HQ6 := Lib.hid ha6
 have HA6 := Lib.hid (bmore hbl5 bQ)
 obtain ⟨d0, d1, d2, d3, d4, d5, d6⟩ := cs7 hn3 rfl rfl rfl rfl rfl rfl rfl
 obtain ⟨g0, g1, g2, g3, g4, g5, g6⟩ := cs7 hn4 rfl rfl rfl rfl rfl rfl rfl
 have x5 := cellB (j := 5) hx3 rfl
 have y5 := cellB (j := 5) hx4 rfl
 have f5 := frozenB (j := 5) hx4
 have f6 := frozenB (j := 5) hx3
 have hmk := mk_two
 clear u2 c0 c1 c2 c3 c4 c5 c6 hn3 hx3 hb3 bM hn4 hx4 hb4 hk4 hset hx5 hb5 hk5 bQ ha6 hsh hbl5 HLP
 go_wp2_with fail
 clear d0 d1 d2 d3 d4 d5 d6 g0 g1 g2 g3 g4 g5 g6 x5 y5 f5 f6 hmk
 generalize (((w2.alloc (.cells #[.int .i64 0, .int .i64 0, .int .i64 0, .int .u64 0, .string ⟨#[]⟩, .slice none 0 0, .int .i64 0, .int .i64 0, .int .i64 0, .int .u64 0, .string ⟨#[]⟩, .slice none 0 0] 67)).setCell ⟨w1.heap.size + 1, 5, none⟩ (.slice (some ⟨w2.heap.size, 0, none⟩) 2 2)).alloc (.cells #[.int .i64 xa, .int .i64 xb] 23)) = W6 at *
 have HAB : Hid (w.heap.size < w2.heap.size ∧ w1.heap.size + 1 < w2.heap.size ∧ w.heap.size ≠ w1.heap.size + 1) := Lib.hid (by omega)
 clear hsz hwN
 generalize w1.heap.size = nb1 at *
 generalize w2.heap.size = kb at *
 go_loopw [45] (fun vi wr => ((vi = .int .i64 0 ∧ wr.heap[kb]? = some (Obj.cells #[.int .i64 0, .int .i64 0, .int .i64 0, .int .u64 0, .string ⟨#[]⟩, .slice none 0 0, .int .i64 0, .int .i64 0, .int .i64 0, .int .u64 0, .string ⟨#[]⟩, .slice none 0 0] TrT)) ∨ (∃ (n0 : Nd) (k0 : Fo) (va0 : Option Addr) (vc0 : Nat), vi = .int .i64 1 ∧ wr.heap[kb]? = some (Obj.cells #[.int .i64 (n0).kind, .int .i64 (n0).frm, .int .i64 (n0).to, .int .u64 (n0).num, .string (n0).text, .slice va0 (k0).len vc0, .int .i64 0, .int .i64 0, .int .i64 0, .int .u64 0, .string ⟨#[]⟩, .slice none 0 0] TrT) ∧ IsK wr (GK kb wr) (.slice va0 (k0).len vc0) k0 ∧ OkF (.cons n0 k0 .nil) ∧ RepF p [xa] (.cons n0 k0 .nil)) ∨ (∃ (n0 : Nd) (k0 : Fo) (va0 : Option Addr) (vc0 : Nat), ∃ (n1 : Nd) (k1 : Fo) (va1 : Option Addr) (vc1 : Nat), vi = .int .i64 2 ∧ wr.heap[kb]? = some (Obj.cells #[.int .i64 (n0).kind, .int .i64 (n0).frm, .int .i64 (n0).to, .int .u64 (n0).num, .string (n0).text, .slice va0 (k0).len vc0, .int .i64 (n1).kind, .int .i64 (n1).frm, .int .i64 (n1).to, .int .u64 (n1).num, .string (n1).text, .slice va1 (k1).len vc1] TrT) ∧ IsK wr (GK kb wr) (.slice va0 (k0).len vc0) k0 ∧ OkF (.cons n0 k0 .nil) ∧ RepF p [xa] (.cons n0 k0 .nil) ∧ IsK wr (GK kb wr) (.slice va1 (k1).len vc1) k1 ∧ OkF (.cons n1 k1 .nil) ∧ RepF p [xb] (.cons n1 k1 .nil))) ∧ wr.heap[w.heap.size]? = some (Obj.cells #[.int .i64 0, .int .i64 0, .int .i64 0, .int .u64 0, .string ⟨#[]⟩, .slice none 0 0] TrT) ∧ wr.heap[nb1 + 1]? = some (Obj.cells #[.int .i64 kk, .int .i64 ff, .int .i64 tt, .int .u64 uu, .string ss, .slice (some ⟨kb, 0, none⟩) 2 2] TrT) ∧ wr.heap[kb + 1]? = some (Obj.cells #[.int .i64 xa, .int .i64 xb] TermT) ∧ Laid wr ∧ IsPool wr B a b vv p ∧ Below w.heap.size w wr) (fun v _ => 2 - (intOf v).toNat)
 case atStart => exact ⟨.inl ⟨rfl, HK6.out⟩, HB6.out, HX6.out, HQ6.out, HL6.out, HP6.out, HA6.out⟩
 case round =>
  clear HB6 HX6 HK6 HQ6 HL6 HP6 HA6 HL HP HB HA HL1 HP1 HA1 HB1 HL2 HA2 HP2 HN2 HX2 HB2 HS2 HL3 HP3 HA3
  obtain ⟨hcase, hb, hx, hq, hlr, hpr, hbr⟩ := hrel
  have HBB := Lib.hid hb
  have HX := Lib.hid hx
  have HQ := Lib.hid hq
  have HLR := Lib.hid hlr
  have HPR := Lib.hid hpr
  have HBR := Lib.hid hbr
  have x5 := cellB (j := 5) hx rfl
  have a0 := cellB (j := 0) hq rfl
  have a1 := cellB (j := 1) hq rfl
  have hF0 : wr.drew.cell? ⟨nb1 + 1, 5, none⟩ = some (.slice (some ⟨kb, 0, none⟩) 2 2) := bcellAt (bd wr) x5
  clear hb hx hq hlr hpr hbr
  rcases hcase with hc | hc | hc
  ·obtain ⟨rfl, hkb⟩ := hc
   have HKB := Lib.hid hkb
   clear hkb 
   have hkid := HI0.out wr.drew (HLR.out.below (bd wr)) (HPR.out.below (bd wr))
   have HKID := Lib.hid hkid
   clear hkid
   go_wp2_with fail
   refine lexg_start [0, 1, 2, 3, 4, 5, 6, 7] 7 (F := fun W => W.cell? ⟨nb1 + 1, 5, none⟩ = some (.slice (some ⟨kb, 0, none⟩) 2 2)) (by kernel_rfl) ?_
   simp only [inOrder, List.filterMap, List.getElem?_cons_succ, List.getElem?_cons_zero]
   refine lexg_take (i := 0) (v := ?_) rfl (by decide) (by kernel_rfl) (by kernel_rfl) (by kernel_rfl) (by kernel_rfl) (by rfl) hF0 ?_ ?_
   rotate_left
   ·((intro W hW; go_simp) <;> with_reducible rfl)
   simp only [Act.put, List.setIfInBounds_toArray, List.set_cons_zero, List.set_cons_succ]
   refine lexg_take (i := 1) (v := ?_) rfl (by decide) (by kernel_rfl) (by kernel_rfl) (by kernel_rfl) (by kernel_rfl) (by rfl) hF0 ?_ ?_
   rotate_left
   ·((intro W hW; go_simp) <;> with_reducible rfl)
   simp only [Act.put, List.setIfInBounds_toArray, List.set_cons_zero, List.set_cons_succ]
   refine lexg_take (i := 2) (v := ?_) rfl (by decide) (by kernel_rfl) (by kernel_rfl) (by kernel_rfl) (by kernel_rfl) (by rfl) hF0 ?_ ?_
   rotate_left
   ·((intro W hW; go_simp) <;> with_reducible rfl)
   simp only [Act.put, List.setIfInBounds_toArray, List.set_cons_zero, List.set_cons_succ]
   refine lexg_take (i := 3) (v := ?_) rfl (by decide) (by kernel_rfl) (by kernel_rfl) (by kernel_rfl) (by kernel_rfl) (by rfl) hF0 ?_ ?_
   rotate_left
   ·((intro W hW; go_simp) <;> with_reducible rfl)
   simp only [Act.put, List.setIfInBounds_toArray, List.set_cons_zero, List.set_cons_succ]
   refine lexg_take (i := 4) (v := ?_) rfl (by decide) (by kernel_rfl) (by kernel_rfl) (by kernel_rfl) (by kernel_rfl) (by rfl) hF0 ?_ ?_
   rotate_left
   ·((intro W hW; go_simp) <;> with_reducible rfl)
   simp only [Act.put, List.setIfInBounds_toArray, List.set_cons_zero, List.set_cons_succ]
   refine lexg_call (i := 5) rfl (by kernel_rfl) (by rfl) ?_ _ HKID.out ?_
   ·go_simp
   rintro e w3 ⟨n0, k0, v0, rfl, hk0, ho0, u3, hr0, _⟩
   obtain ⟨va0, vc0, rfl, _⟩ := hk0.shape
   have bA := bmore (bd wr) u3
   have hF3 : w3.cell? ⟨nb1 + 1, 5, none⟩ = some (.slice (some ⟨kb, 0, none⟩) 2 2) := bcellAt bA x5
   refine ⟨_, rfl, fun _ => hF3, ?_⟩
   simp only [treeA, Act.put, List.setIfInBounds_toArray, List.set_cons_zero, List.set_cons_succ]
   refine lexg_take (i := 6) (v := ?_) rfl (by decide) (by kernel_rfl) (by kernel_rfl) (by kernel_rfl) (by kernel_rfl) (by rfl) hF3 ?_ ?_
   rotate_left
   ·((intro W hW; go_simp) <;> with_reducible rfl)
   simp only [Act.put, List.setIfInBounds_toArray, List.set_cons_zero, List.set_cons_succ]
   have hk3 := Hold.below bA _ _ HKB.out
   have z0 := cellB (j := 0) hk3 rfl
   have q0 := frozenB (j := 0) hk3
   have z1 := cellB (j := 1) hk3 rfl
   have q1 := frozenB (j := 1) hk3
   have z2 := cellB (j := 2) hk3 rfl
   have q2 := frozenB (j := 2) hk3
   have z3 := cellB (j := 3) hk3 rfl
   have q3 := frozenB (j := 3) hk3
   have z4 := cellB (j := 4) hk3 rfl
   have q4 := frozenB (j := 4) hk3
   have z5 := cellB (j := 5) hk3 rfl
   have q5 := frozenB (j := 5) hk3
   have HK3 := Lib.hid hk3
   refine lexg_do (i := 7) rfl (by kernel_rfl) (by rfl) (fun K hK => ?_)
   go_simp
   have hk5 : ((((((w3.setCell ⟨kb, 0, none⟩ (.int .i64 (n0).kind)).setCell ⟨kb, 1, none⟩ (.int .i64 (n0).frm)).setCell ⟨kb, 2, none⟩ (.int .i64 (n0).to)).setCell ⟨kb, 3, none⟩ (.int .u64 (n0).num)).setCell ⟨kb, 4, none⟩ (.string (n0).text)).setCell ⟨kb, 5, none⟩ (.slice va0 (k0).len vc0)).heap[kb]? = some (Obj.cells #[.int .i64 (n0).kind, .int .i64 (n0).frm, .int .i64 (n0).to, .int .u64 (n0).num, .string (n0).text, .slice va0 (k0).len vc0, .int .i64 0, .int .i64 0, .int .i64 0, .int .u64 0, .string ⟨#[]⟩, .slice none 0 0] TrT) := (setCellB (j := 5) (u := .slice va0 (k0).len vc0) (setCellB (j := 4) (u := .string (n0).text) (setCellB (j := 3) (u := .int .u64 (n0).num) (setCellB (j := 2) (u := .int .i64 (n0).to) (setCellB (j := 1) (u := .int .i64 (n0).frm) (setCellB (j := 0) (u := .int .i64 (n0).kind) HK3.out))))))
   have hg5 : w3.grownBy ((((((w3.setCell ⟨kb, 0, none⟩ (.int .i64 (n0).kind)).setCell ⟨kb, 1, none⟩ (.int .i64 (n0).frm)).setCell ⟨kb, 2, none⟩ (.int .i64 (n0).to)).setCell ⟨kb, 3, none⟩ (.int .u64 (n0).num)).setCell ⟨kb, 4, none⟩ (.string (n0).text)).setCell ⟨kb, 5, none⟩ (.slice va0 (k0).len vc0)) (some kb) := ((((((grownBy_set _ _ _ _).trans (grownBy_set _ _ _ _)).trans (grownBy_set _ _ _ _)).trans (grownBy_set _ _ _ _)).trans (grownBy_set _ _ _ _)).trans (grownBy_set _ _ _ _))
   have hp5 : IsPool ((((((w3.setCell ⟨kb, 0, none⟩ (.int .i64 (n0).kind)).setCell ⟨kb, 1, none⟩ (.int .i64 (n0).frm)).setCell ⟨kb, 2, none⟩ (.int .i64 (n0).to)).setCell ⟨kb, 3, none⟩ (.int .u64 (n0).num)).setCell ⟨kb, 4, none⟩ (.string (n0).text)).setCell ⟨kb, 5, none⟩ (.slice va0 (k0).len vc0)) B a b vv p := pool_turn6 (HPR.out.below bA) hk3 (by decide) (by decide) rfl
   refine hK _ _ ⟨fun h => absurd rfl h, ?_⟩
   clear hK K z0 z1 z2 z3 z4 z5 q0 q1 q2 q3 q4 q5 hF3 hF0
   refine lexg_done (by kernel_rfl) ?_
   generalize ((((((w3.setCell ⟨kb, 0, none⟩ (.int .i64 (n0).kind)).setCell ⟨kb, 1, none⟩ (.int .i64 (n0).frm)).setCell ⟨kb, 2, none⟩ (.int .i64 (n0).to)).setCell ⟨kb, 3, none⟩ (.int .u64 (n0).num)).setCell ⟨kb, 4, none⟩ (.string (n0).text)).setCell ⟨kb, 5, none⟩ (.slice va0 (k0).len vc0)) = w5 at *
   go_wp2_with fail
   have hkk : ∀ (bb : Nat) (u : Obj), w3.heap[bb]? = some u → bb ≠ kb → w5.heap[bb]? = some u := fun bb u h hn => by
    rw [hg5.block bb (Array.getElem?_eq_some_iff.1 h).1 (fun e => hn (by cases e; rfl))]; exact h
   have hkr : ∀ (bb : Nat) (cs : Array Value) (T : TypeId), wr.heap[bb]? = some (Obj.cells cs T) → bb ≠ kb → w5.heap[bb]? = some (Obj.cells cs T) := fun bb cs T h hn => hkk bb _ (by rw [bA.block bb (Array.getElem?_eq_some_iff.1 h).1]; exact h) hn
   have hkbl : kb < wr.heap.size := (Array.getElem?_eq_some_iff.1 HKB.out).1
   have hab := HAB.out
   have hl5 : Laid w5 := fun k hk => by
    obtain ⟨l0, l1, l2, l3, l4⟩ := (HLR.out.below bA) k hk
    have hlk := HLW.out
    have e : ∀ o, w5.cell? ⟨1, o, none⟩ = w3.cell? ⟨1, o, none⟩ := fun o => cell_of_heap (hg5.block _ (HLR.out.below bA).lt (fun e => by first | (have e2 := Option.some.inj e; omega) | (cases e <;> omega))) o
    simp only [e]
    exact ⟨l0, l1, l2, l3, l4⟩
   have hb5 : Below w.heap.size w w5 := ((HBR.out.trans (bA.mono HBR.out.size)).grown hg5 (by have := HBR.out.size; have := bA.size; omega) (fun g e => by cases e; omega))
   have hkp0 : IsK w5 (GK kb w5) (.slice va0 (k0).len vc0) k0 := hk0.keep (fun bb hg hl => by
    obtain ⟨p1, cs, p2⟩ := hg
    have p1' : wr.heap.size ≤ bb := p1
    have p3 := hkk bb _ p2 (by omega)
    exact ⟨⟨by omega, cs, p3⟩, by rw [p3, p2]⟩)
   go_roundw
   case rel => exact ⟨.inr (.inl ⟨n0, k0, va0, vc0, by first | rfl | go_num, hk5, hkp0, ho0, hr0 HIN0.out⟩), hkr _ _ _ HBB.out (by omega), hkr _ _ _ HX.out (by omega), hkr _ _ _ HQ.out (by omega), hl5, hp5, hb5⟩
   case measure => simp [intOf]
  ·obtain ⟨n0, k0, va0, vc0, rfl, hkb, hk0, ho0, hr0⟩ := hc
   have HKB := Lib.hid hkb
   have HK0 := Lib.hid hk0
   have HO0 := Lib.hid ho0
   have HR0 := Lib.hid hr0
   clear hkb hk0 ho0 hr0
   have hkid := HI1.out wr.drew (HLR.out.below (bd wr)) (HPR.out.below (bd wr))
   have HKID := Lib.hid hkid
   clear hkid
   go_wp2_with fail
   refine lexg_start [0, 1, 2, 3, 4, 5, 6, 7] 7 (F := fun W => W.cell? ⟨nb1 + 1, 5, none⟩ = some (.slice (some ⟨kb, 0, none⟩) 2 2)) (by kernel_rfl) ?_
   simp only [inOrder, List.filterMap, List.getElem?_cons_succ, List.getElem?_cons_zero]
   refine lexg_take (i := 0) (v := ?_) rfl (by decide) (by kernel_rfl) (by kernel_rfl) (by kernel_rfl) (by kernel_rfl) (by rfl) hF0 ?_ ?_
   rotate_left
   ·((intro W hW; go_simp) <;> with_reducible rfl)
   simp only [Act.put, List.setIfInBounds_toArray, List.set_cons_zero, List.set_cons_succ]
   refine lexg_take (i := 1) (v := ?_) rfl (by decide) (by kernel_rfl) (by kernel_rfl) (by kernel_rfl) (by kernel_rfl) (by rfl) hF0 ?_ ?_
   rotate_left
   ·((intro W hW; go_simp) <;> with_reducible rfl)
   simp only [Act.put, List.setIfInBounds_toArray, List.set_cons_zero, List.set_cons_succ]
   refine lexg_take (i := 2) (v := ?_) rfl (by decide) (by kernel_rfl) (by kernel_rfl) (by kernel_rfl) (by kernel_rfl) (by rfl) hF0 ?_ ?_
   rotate_left
   ·((intro W hW; go_simp) <;> with_reducible rfl)
   simp only [Act.put, List.setIfInBounds_toArray, List.set_cons_zero, List.set_cons_succ]
   refine lexg_take (i := 3) (v := ?_) rfl (by decide) (by kernel_rfl) (by kernel_rfl) (by kernel_rfl) (by kernel_rfl) (by rfl) hF0 ?_ ?_
   rotate_left
   ·((intro W hW; go_simp) <;> with_reducible rfl)
   simp only [Act.put, List.setIfInBounds_toArray, List.set_cons_zero, List.set_cons_succ]
   refine lexg_take (i := 4) (v := ?_) rfl (by decide) (by kernel_rfl) (by kernel_rfl) (by kernel_rfl) (by kernel_rfl) (by rfl) hF0 ?_ ?_
   rotate_left
   ·((intro W hW; go_simp) <;> with_reducible rfl)
   simp only [Act.put, List.setIfInBounds_toArray, List.set_cons_zero, List.set_cons_succ]
   refine lexg_call (i := 5) rfl (by kernel_rfl) (by rfl) ?_ _ HKID.out ?_
   ·go_simp
   rintro e w3 ⟨n1, k1, v1, rfl, hk1, ho1, u3, hr1, _⟩
   obtain ⟨va1, vc1, rfl, _⟩ := hk1.shape
   have bA := bmore (bd wr) u3
   have hF3 : w3.cell? ⟨nb1 + 1, 5, none⟩ = some (.slice (some ⟨kb, 0, none⟩) 2 2) := bcellAt bA x5
   refine ⟨_, rfl, fun _ => hF3, ?_⟩
   simp only [treeA, Act.put, List.setIfInBounds_toArray, List.set_cons_zero, List.set_cons_succ]
   refine lexg_take (i := 6) (v := ?_) rfl (by decide) (by kernel_rfl) (by kernel_rfl) (by kernel_rfl) (by kernel_rfl) (by rfl) hF3 ?_ ?_
   rotate_left
   ·((intro W hW; go_simp) <;> with_reducible rfl)
   simp only [Act.put, List.setIfInBounds_toArray, List.set_cons_zero, List.set_cons_succ]
   have hk3 := Hold.below bA _ _ HKB.out
   have z0 := cellB (j := 6) hk3 rfl
   have q0 := frozenB (j := 6) hk3
   have z1 := cellB (j := 7) hk3 rfl
   have q1 := frozenB (j := 7) hk3
   have z2 := cellB (j := 8) hk3 rfl
   have q2 := frozenB (j := 8) hk3
   have z3 := cellB (j := 9) hk3 rfl
   have q3 := frozenB (j := 9) hk3
   have z4 := cellB (j := 10) hk3 rfl
   have q4 := frozenB (j := 10) hk3
   have z5 := cellB (j := 11) hk3 rfl
   have q5 := frozenB (j := 11) hk3
   have HK3 := Lib.hid hk3
   refine lexg_do (i := 7) rfl (by kernel_rfl) (by rfl) (fun K hK => ?_)
   go_simp
   have hk5 : ((((((w3.setCell ⟨kb, 6, none⟩ (.int .i64 (n1).kind)).setCell ⟨kb, 7, none⟩ (.int .i64 (n1).frm)).setCell ⟨kb, 8, none⟩ (.int .i64 (n1).to)).setCell ⟨kb, 9, none⟩ (.int .u64 (n1).num)).setCell ⟨kb, 10, none⟩ (.string (n1).text)).setCell ⟨kb, 11, none⟩ (.slice va1 (k1).len vc1)).heap[kb]? = some (Obj.cells #[.int .i64 (n0).kind, .int .i64 (n0).frm, .int .i64 (n0).to, .int .u64 (n0).num, .string (n0).text, .slice va0 (k0).len vc0, .int .i64 (n1).kind, .int .i64 (n1).frm, .int .i64 (n1).to, .int .u64 (n1).num, .string (n1).text, .slice va1 (k1).len vc1] TrT) := (setCellB (j := 11) (u := .slice va1 (k1).len vc1) (setCellB (j := 10) (u := .string (n1).text) (setCellB (j := 9) (u := .int .u64 (n1).num) (setCellB (j := 8) (u := .int .i64 (n1).to) (setCellB (j := 7) (u := .int .i64 (n1).frm) (setCellB (j := 6) (u := .int .i64 (n1).kind) HK3.out))))))
   have hg5 : w3.grownBy ((((((w3.setCell ⟨kb, 6, none⟩ (.int .i64 (n1).kind)).setCell ⟨kb, 7, none⟩ (.int .i64 (n1).frm)).setCell ⟨kb, 8, none⟩ (.int .i64 (n1).to)).setCell ⟨kb, 9, none⟩ (.int .u64 (n1).num)).setCell ⟨kb, 10, none⟩ (.string (n1).text)).setCell ⟨kb, 11, none⟩ (.slice va1 (k1).len vc1)) (some kb) := ((((((grownBy_set _ _ _ _).trans (grownBy_set _ _ _ _)).trans (grownBy_set _ _ _ _)).trans (grownBy_set _ _ _ _)).trans (grownBy_set _ _ _ _)).trans (grownBy_set _ _ _ _))
   have hp5 : IsPool ((((((w3.setCell ⟨kb, 6, none⟩ (.int .i64 (n1).kind)).setCell ⟨kb, 7, none⟩ (.int .i64 (n1).frm)).setCell ⟨kb, 8, none⟩ (.int .i64 (n1).to)).setCell ⟨kb, 9, none⟩ (.int .u64 (n1).num)).setCell ⟨kb, 10, none⟩ (.string (n1).text)).setCell ⟨kb, 11, none⟩ (.slice va1 (k1).len vc1)) B a b vv p := pool_turn6 (HPR.out.below bA) hk3 (by decide) (by decide) rfl
   refine hK _ _ ⟨fun h => absurd rfl h, ?_⟩
   clear hK K z0 z1 z2 z3 z4 z5 q0 q1 q2 q3 q4 q5 hF3 hF0
   refine lexg_done (by kernel_rfl) ?_
   generalize ((((((w3.setCell ⟨kb, 6, none⟩ (.int .i64 (n1).kind)).setCell ⟨kb, 7, none⟩ (.int .i64 (n1).frm)).setCell ⟨kb, 8, none⟩ (.int .i64 (n1).to)).setCell ⟨kb, 9, none⟩ (.int .u64 (n1).num)).setCell ⟨kb, 10, none⟩ (.string (n1).text)).setCell ⟨kb, 11, none⟩ (.slice va1 (k1).len vc1)) = w5 at *
   go_wp2_with fail
   have hkk : ∀ (bb : Nat) (u : Obj), w3.heap[bb]? = some u → bb ≠ kb → w5.heap[bb]? = some u := fun bb u h hn => by
    rw [hg5.block bb (Array.getElem?_eq_some_iff.1 h).1 (fun e => hn (by cases e; rfl))]; exact h
   have hkr : ∀ (bb : Nat) (cs : Array Value) (T : TypeId), wr.heap[bb]? = some (Obj.cells cs T) → bb ≠ kb → w5.heap[bb]? = some (Obj.cells cs T) := fun bb cs T h hn => hkk bb _ (by rw [bA.block bb (Array.getElem?_eq_some_iff.1 h).1]; exact h) hn
   have hkbl : kb < wr.heap.size := (Array.getElem?_eq_some_iff.1 HKB.out).1
   have hab := HAB.out
   have hl5 : Laid w5 := fun k hk => by
    obtain ⟨l0, l1, l2, l3, l4⟩ := (HLR.out.below bA) k hk
    have hlk := HLW.out
    have e : ∀ o, w5.cell? ⟨1, o, none⟩ = w3.cell? ⟨1, o, none⟩ := fun o => cell_of_heap (hg5.block _ (HLR.out.below bA).lt (fun e => by first | (have e2 := Option.some.inj e; omega) | (cases e <;> omega))) o
    simp only [e]
    exact ⟨l0, l1, l2, l3, l4⟩
   have hb5 : Below w.heap.size w w5 := ((HBR.out.trans (bA.mono HBR.out.size)).grown hg5 (by have := HBR.out.size; have := bA.size; omega) (fun g e => by cases e; omega))
   have hkp0 : IsK w5 (GK kb w5) (.slice va0 (k0).len vc0) k0 := HK0.out.keep (fun bb hg hl => by
    obtain ⟨p1, cs, p2⟩ := hg
    have p3 := hkr bb cs TrT p2 (by omega)
    exact ⟨⟨p1, cs, p3⟩, by rw [p3, p2]⟩)
   have hkp1 : IsK w5 (GK kb w5) (.slice va1 (k1).len vc1) k1 := hk1.keep (fun bb hg hl => by
    obtain ⟨p1, cs, p2⟩ := hg
    have p1' : wr.heap.size ≤ bb := p1
    have p3 := hkk bb _ p2 (by omega)
    exact ⟨⟨by omega, cs, p3⟩, by rw [p3, p2]⟩)
   go_roundw
   case rel => exact ⟨.inr (.inr (⟨n0, k0, va0, vc0, n1, k1, va1, vc1, by first | rfl | go_num, hk5, hkp0, HO0.out, HR0.out, hkp1, ho1, hr1 HIN1.out⟩)), hkr _ _ _ HBB.out (by omega), hkr _ _ _ HX.out (by omega), hkr _ _ _ HQ.out (by omega), hl5, hp5, hb5⟩
   case measure => simp [intOf]
  ·obtain ⟨n0, k0, va0, vc0, n1, k1, va1, vc1, rfl, hkb, hk0, ho0, hr0, hk1, ho1, hr1⟩ := hc
   have HKB := Lib.hid hkb
   have hb := HBB.out
   have hx := HX.out
   have r0 := cellB (j := 0) hb rfl
   have s0 := frozenB (j := 0) hb
   have r1 := cellB (j := 1) hb rfl
   have s1 := frozenB (j := 1) hb
   have r2 := cellB (j := 2) hb rfl
   have s2 := frozenB (j := 2) hb
   have r3 := cellB (j := 3) hb rfl
   have s3 := frozenB (j := 3) hb
   have r4 := cellB (j := 4) hb rfl
   have s4 := frozenB (j := 4) hb
   have r5 := cellB (j := 5) hb rfl
   have s5 := frozenB (j := 5) hb
   obtain ⟨z0, z1, z2, z3, z4, z5⟩ := cs6 hx rfl rfl rfl rfl rfl rfl
   have h6 : ((((((wr.setCell ⟨w.heap.size, 0, none⟩ (.int .i64 kk)).setCell ⟨w.heap.size, 1, none⟩ (.int .i64 ff)).setCell ⟨w.heap.size, 2, none⟩ (.int .i64 tt)).setCell ⟨w.heap.size, 3, none⟩ (.int .u64 uu)).setCell ⟨w.heap.size, 4, none⟩ (.string ss)).setCell ⟨w.heap.size, 5, none⟩ (.slice (some ⟨kb, 0, none⟩) 2 2)).heap[w.heap.size]? = some (Obj.cells #[.int .i64 kk, .int .i64 ff, .int .i64 tt, .int .u64 uu, .string ss, .slice (some ⟨kb, 0, none⟩) 2 2] TrT) := (setCellB (j := 5) (u := .slice (some ⟨kb, 0, none⟩) 2 2) (setCellB (j := 4) (u := .string ss) (setCellB (j := 3) (u := .int .u64 uu) (setCellB (j := 2) (u := .int .i64 tt) (setCellB (j := 1) (u := .int .i64 ff) (setCellB (j := 0) (u := .int .i64 kk) hb))))))
   have hg6 : wr.grownBy ((((((wr.setCell ⟨w.heap.size, 0, none⟩ (.int .i64 kk)).setCell ⟨w.heap.size, 1, none⟩ (.int .i64 ff)).setCell ⟨w.heap.size, 2, none⟩ (.int .i64 tt)).setCell ⟨w.heap.size, 3, none⟩ (.int .u64 uu)).setCell ⟨w.heap.size, 4, none⟩ (.string ss)).setCell ⟨w.heap.size, 5, none⟩ (.slice (some ⟨kb, 0, none⟩) 2 2)) (some w.heap.size) := ((((((grownBy_set _ _ _ _).trans (grownBy_set _ _ _ _)).trans (grownBy_set _ _ _ _)).trans (grownBy_set _ _ _ _)).trans (grownBy_set _ _ _ _)).trans (grownBy_set _ _ _ _))
   clear hb hx hkb a0 a1 x5 hF0 
   have HK0 := Lib.hid hk0
   have HO0 := Lib.hid ho0
   have HR0 := Lib.hid hr0
   clear hk0 ho0 hr0
   have HK1 := Lib.hid hk1
   have HO1 := Lib.hid ho1
   have HR1 := Lib.hid hr1
   clear hk1 ho1 hr1
   go_wp2_with fail
   generalize ((((((wr.setCell ⟨w.heap.size, 0, none⟩ (.int .i64 kk)).setCell ⟨w.heap.size, 1, none⟩ (.int .i64 ff)).setCell ⟨w.heap.size, 2, none⟩ (.int .i64 tt)).setCell ⟨w.heap.size, 3, none⟩ (.int .u64 uu)).setCell ⟨w.heap.size, 4, none⟩ (.string ss)).setCell ⟨w.heap.size, 5, none⟩ (.slice (some ⟨kb, 0, none⟩) 2 2)) = w6 at *
   clear r0 r1 r2 r3 r4 r5 s0 s1 s2 s3 s4 s5 z0 z1 z2 z3 z4 z5
   obtain ⟨d0, d1, d2, d3, d4, d5⟩ := cs6 h6 rfl rfl rfl rfl rfl rfl
   refine bodyPost_ret (v := .agg #[.int .i64 kk, .int .i64 ff, .int .i64 tt, .int .u64 uu, .string ss, .slice (some ⟨kb, 0, none⟩) 2 2]) (by simp [results, Tryz.results33, go_sem, d0, d1, d2, d3, d4, d5]) rfl ?_
   have hab := HAB.out
   have hkk : ∀ (bb : Nat) (u : Obj), wr.heap[bb]? = some u → bb ≠ w.heap.size → w6.heap[bb]? = some u := fun bb u h hn => by
    rw [hg6.block bb (Array.getElem?_eq_some_iff.1 h).1 (fun e => hn (by cases e; rfl))]; exact h
   have hkb6 := hkk _ _ HKB.out (by omega)
   have hb6 : Below w.heap.size w w6 := HBR.out.grown hg6 HBR.out.size (fun g e => by cases e; omega)
   have hq0 : IsK w6 (NewT w w6) (.slice va0 (k0).len vc0) k0 := HK0.out.keep (fun bb hg hl => by
    obtain ⟨p1, cs, p2⟩ := hg
    have p3 := hkk bb _ p2 (by omega)
    exact ⟨⟨by omega, cs, p3⟩, by rw [p3, p2]⟩)
   have hq1 : IsK w6 (NewT w w6) (.slice va1 (k1).len vc1) k1 := HK1.out.keep (fun bb hg hl => by
    obtain ⟨p1, cs, p2⟩ := hg
    have p3 := hkk bb _ p2 (by omega)
    exact ⟨⟨by omega, cs, p3⟩, by rw [p3, p2]⟩)
   have hat : AtF w6 (NewT w w6) (foOf [(n0, k0), (n1, k1)]) kb 0 := RowF.at (l := [(n0, k0), (n1, k1)]) (xs := six n0 (.slice va0 (k0).len vc0) ++ (six n1 (.slice va1 (k1).len vc1) ++ [])) ⟨_, _, rfl, hq0, ⟨_, _, rfl, hq1, rfl⟩⟩ (fun j u hj => by
    rw [Nat.zero_add]
    refine cellB hkb6 ?_
    simpa [six] using hj)
   refine ⟨⟨kk, ff, tt, uu, ss, 0, 0⟩, (.cons n0 k0 (.cons n1 k1 .nil)), _, rfl, ⟨_, _, rfl, Nat.le_refl _, by decide, fun _ => ⟨kb, 0, rfl, ⟨by omega, _, hkb6⟩, hat⟩⟩, HOKB.out _ ?_, hb6, fun _ => HREP.out _ ?_, fun h => by rw [HIN.out] at h; cases h⟩
   ·exact ⟨HO0.out.1, HO0.out.2.1, HO0.out.2.2.1, HO0.out.2.2.2.1, ⟨HO1.out.1, HO1.out.2.1, HO1.out.2.2.1, HO1.out.2.2.2.1, trivial⟩⟩
   ·exact ⟨HR0.out.1, HR0.out.2.1, ⟨HR1.out.1, HR1.out.2.1, trivial⟩⟩
set_option maxRecDepth 100000 in
set_option maxHeartbeats 6400000 in
theorem ptree_leaf {t : Int} (h2 : kidsN (atP p t).1.kind = 0) : PTreeC B a b vv p t := by
 intro w hl hp
 have bA := bZ w (.cells #[.int .i64 0, .int .i64 0, .int .i64 0, .int .u64 0, .string ⟨#[]⟩, .slice none 0 0] TrT)
 have hb : (w.alloc (.cells #[.int .i64 0, .int .i64 0, .int .i64 0, .int .u64 0, .string ⟨#[]⟩, .slice none 0 0] TrT)).heap[w.heap.size]? = some (Obj.cells #[.int .i64 0, .int .i64 0, .int .i64 0, .int .u64 0, .string ⟨#[]⟩, .slice none 0 0] TrT) := heap_alloc_new _ _
 have HNO := Lib.hid (pnode (hp.below bA) t)
 have HM := Lib.hid (atP_nok hp.nok t)
 have HLW := Lib.hid hl.lt
 have HL := Lib.hid (hl.below bA)
 have HB := Lib.hid hb
 have HA := Lib.hid bA
 have HREP : Hid (inP p t = true → RepF p [t] (.cons (bareN (atP p t).1) .nil .nil)) := Lib.hid (fun hin => ⟨hin, ⟨[], trivial, by rw [show (bareN (atP p t).1).kind = (atP p t).1.kind from rfl, h2]; rfl, node_kids hp.ok hin h2⟩, trivial⟩)
 have HOUT : Hid (inP p t = false → bareN (atP p t).1 = zeroN) := Lib.hid (fun h => by rw [atP_out h]; rfl)
 clear hl hp bA hb
 generalize (atP p t).1 = m at *
 have HSK := Lib.hid (fun (W : World) (hW : Laid W) => shape_kids hW m.kind 0 (by rw [h2]; rfl))
 have HOKB : Hid (∀ f : Fo, OkF f → OkF (.cons (bareN m) f .nil)) := Lib.hid (fun f h => ⟨⟨HM.out.kind, HM.out.frm, HM.out.to, HM.out.num, HM.out.text, by unfold i64R; simp [bareN], by unfold i64R; simp [bareN]⟩, rfl, rfl, h, trivial⟩)
 obtain ⟨kk, ff, tt, uu, ss, xa, xb⟩ := m
 generalize namedB kk = nb at *
 generalize twoB kk = tb at *
 simp only [nodeA, bareN] at *
 have hfk := field_kids
 go_enter Tryz.func33, Tryz.ntmps33
 go_wp2_with fail
 generalize (w.alloc (.cells #[.int .i64 0, .int .i64 0, .int .i64 0, .int .u64 0, .string ⟨#[]⟩, .slice none 0 0] TrT)) = W at *
 refine HNO.out.mono ?_
 rintro e w1 ⟨rfl, u1⟩
 have HL1 := Lib.hid (HL.out.below u1)
 have HA1 := Lib.hid (bmore HA.out u1)
 have HB1 := Lib.hid (Hold.below u1 _ _ HB.out)
 clear u1
 have b1 := bZ w1 (.cells #[.int .i64 kk, .int .i64 ff, .int .i64 tt, .int .u64 uu, .string ss, .int .i64 xa, .int .i64 xb] NodeT)
 have h1 : (w1.alloc (.cells #[.int .i64 kk, .int .i64 ff, .int .i64 tt, .int .u64 uu, .string ss, .int .i64 xa, .int .i64 xb] NodeT)).heap[w1.heap.size]? = some (Obj.cells #[.int .i64 kk, .int .i64 ff, .int .i64 tt, .int .u64 uu, .string ss, .int .i64 xa, .int .i64 xb] NodeT) := heap_alloc_new _ _
 have b2 := bZ (w1.alloc (.cells #[.int .i64 kk, .int .i64 ff, .int .i64 tt, .int .u64 uu, .string ss, .int .i64 xa, .int .i64 xb] NodeT)) (.cells #[.int .i64 kk, .int .i64 ff, .int .i64 tt, .int .u64 uu, .string ss, .slice none 0 0] TrT)
 have b12 := b1.trans (b2.mono b1.size)
 have h2' := Hold.below b2 _ _ h1
 have h3 : ((w1.alloc (.cells #[.int .i64 kk, .int .i64 ff, .int .i64 tt, .int .u64 uu, .string ss, .int .i64 xa, .int .i64 xb] NodeT)).alloc (.cells #[.int .i64 kk, .int .i64 ff, .int .i64 tt, .int .u64 uu, .string ss, .slice none 0 0] TrT)).heap[w1.heap.size + 1]? = some (Obj.cells #[.int .i64 kk, .int .i64 ff, .int .i64 tt, .int .u64 uu, .string ss, .slice none 0 0] TrT) := by
  have e : w1.heap.size + 1 = (w1.alloc (.cells #[.int .i64 kk, .int .i64 ff, .int .i64 tt, .int .u64 uu, .string ss, .int .i64 xa, .int .i64 xb] NodeT)).heap.size := by simp
  rw [e]; exact heap_alloc_new _ _
 have HL2 := Lib.hid (HL1.out.below b12)
 have HA2 := Lib.hid (bmore HA1.out b12)
 have HX2 := Lib.hid h3
 have HB2 := Lib.hid (Hold.below b12 _ _ HB1.out)
 obtain ⟨c0, c1, c2, c3, c4, c5, c6⟩ := cs7 (h2') rfl rfl rfl rfl rfl rfl rfl
 clear b1 h1 b2 b12 h2' h3
 go_wp2_with fail
 generalize ((w1.alloc (.cells #[.int .i64 kk, .int .i64 ff, .int .i64 tt, .int .u64 uu, .string ss, .int .i64 xa, .int .i64 xb] NodeT)).alloc (.cells #[.int .i64 kk, .int .i64 ff, .int .i64 tt, .int .u64 uu, .string ss, .slice none 0 0] TrT)) = W2 at *
 refine (HSK.out _ HL2.out).mono ?_
 rintro e w2 ⟨rfl, u2⟩
 have HA3 := Lib.hid (bmore HA2.out u2)
 have hx := Hold.below u2 _ _ HX2.out
 have hb := Hold.below u2 _ _ HB2.out
 have r0 := cellB (j := 0) hb rfl
 have s0 := frozenB (j := 0) hb
 have r1 := cellB (j := 1) hb rfl
 have s1 := frozenB (j := 1) hb
 have r2 := cellB (j := 2) hb rfl
 have s2 := frozenB (j := 2) hb
 have r3 := cellB (j := 3) hb rfl
 have s3 := frozenB (j := 3) hb
 have r4 := cellB (j := 4) hb rfl
 have s4 := frozenB (j := 4) hb
 have r5 := cellB (j := 5) hb rfl
 have s5 := frozenB (j := 5) hb
 obtain ⟨z0, z1, z2, z3, z4, z5⟩ := cs6 hx rfl rfl rfl rfl rfl rfl
 have h6 : ((((((w2.setCell ⟨w.heap.size, 0, none⟩ (.int .i64 kk)).setCell ⟨w.heap.size, 1, none⟩ (.int .i64 ff)).setCell ⟨w.heap.size, 2, none⟩ (.int .i64 tt)).setCell ⟨w.heap.size, 3, none⟩ (.int .u64 uu)).setCell ⟨w.heap.size, 4, none⟩ (.string ss)).setCell ⟨w.heap.size, 5, none⟩ (.slice none 0 0)).heap[w.heap.size]? = some (Obj.cells #[.int .i64 kk, .int .i64 ff, .int .i64 tt, .int .u64 uu, .string ss, .slice none 0 0] TrT) := (setCellB (j := 5) (u := .slice none 0 0) (setCellB (j := 4) (u := .string ss) (setCellB (j := 3) (u := .int .u64 uu) (setCellB (j := 2) (u := .int .i64 tt) (setCellB (j := 1) (u := .int .i64 ff) (setCellB (j := 0) (u := .int .i64 kk) hb))))))
 have hb6 : Below w.heap.size w ((((((w2.setCell ⟨w.heap.size, 0, none⟩ (.int .i64 kk)).setCell ⟨w.heap.size, 1, none⟩ (.int .i64 ff)).setCell ⟨w.heap.size, 2, none⟩ (.int .i64 tt)).setCell ⟨w.heap.size, 3, none⟩ (.int .u64 uu)).setCell ⟨w.heap.size, 4, none⟩ (.string ss)).setCell ⟨w.heap.size, 5, none⟩ (.slice none 0 0)) := ((((((HA3.out.setCell (p := ⟨w.heap.size, 0, none⟩) (Nat.le_refl _) _).setCell (p := ⟨w.heap.size, 1, none⟩) (Nat.le_refl _) _).setCell (p := ⟨w.heap.size, 2, none⟩) (Nat.le_refl _) _).setCell (p := ⟨w.heap.size, 3, none⟩) (Nat.le_refl _) _).setCell (p := ⟨w.heap.size, 4, none⟩) (Nat.le_refl _) _).setCell (p := ⟨w.heap.size, 5, none⟩) (Nat.le_refl _) _)
 have HB6 := Lib.hid hb6
 have H6 := Lib.hid h6
 clear u2 hx hb c0 c1 c2 c3 c4 c5 c6 hb6 h6
 go_wp2_with fail
 have h6 := H6.out
 generalize ((((((w2.setCell ⟨w.heap.size, 0, none⟩ (.int .i64 kk)).setCell ⟨w.heap.size, 1, none⟩ (.int .i64 ff)).setCell ⟨w.heap.size, 2, none⟩ (.int .i64 tt)).setCell ⟨w.heap.size, 3, none⟩ (.int .u64 uu)).setCell ⟨w.heap.size, 4, none⟩ (.string ss)).setCell ⟨w.heap.size, 5, none⟩ (.slice none 0 0)) = w6 at *
 clear r0 r1 r2 r3 r4 r5 s0 s1 s2 s3 s4 s5 z0 z1 z2 z3 z4 z5
 obtain ⟨d0, d1, d2, d3, d4, d5⟩ := cs6 h6 rfl rfl rfl rfl rfl rfl
 refine bodyPost_ret (v := .agg #[.int .i64 kk, .int .i64 ff, .int .i64 tt, .int .u64 uu, .string ss, .slice none 0 0]) (by simp [results, Tryz.results33, go_sem, d0, d1, d2, d3, d4, d5]) rfl ?_
 exact ⟨⟨kk, ff, tt, uu, ss, 0, 0⟩, .nil, _, rfl, IsK.nils _ _ _ _ (by decide), HOKB.out _ trivial, HB6.out, HREP.out, fun h => ⟨HOUT.out h, rfl⟩⟩
theorem Ok.less {p : Pl} (h : Ok p) : ∀ i (hi : i < p.length), (p[i]).1.a ≤ i ∧ (p[i]).1.b ≤ i := by
 induction h with
 | nil => intro i hi; simp at hi
 | @add p n hp he hn hl ih =>
  intro i hi
  rcases Nat.lt_or_ge i p.length with hlt | hge
  ·have e : ((addP p n)[i]).1 = (p[i]).1 := by simp [addP, List.getElem_append_left hlt]
   rw [e]; exact ih i hlt
  ·have e : i = p.length := by simp [addP] at hi; omega
   subst e
   have e : ((addP p n)[p.length]).1 = n := by simp [addP]
   rw [e]
   have hk := kid_in he
   have key : ∀ t, (t = 0 ∨ inP p t = true) → t ≤ (p.length : Int) := fun t ht => by
    rcases ht with rfl | ht
    ·omega
    ·simp only [inP, Bool.and_eq_true, decide_eq_true_eq] at ht; omega
   exact ⟨key _ hk.1, key _ hk.2⟩
theorem Ok.less_at {p : Pl} (h : Ok p) {t : Int} (ht : inP p t = true) : (atP p t).1.a < t ∧ (atP p t).1.b < t := by
 obtain ⟨i, hi, rfl, e⟩ := atP_get ht
 have := h.less i hi
 rw [e]; omega
theorem ptree_any (hok : Ok p) : ∀ (n : Nat) (t : Int), t.toNat ≤ n → PTreeC B a b vv p t := by
 intro n
 induction n with
 | zero =>
  intro t ht
  have hin : inP p t = false := by
   cases h : inP p t with
   | false => rfl
   | true => simp only [inP, Bool.and_eq_true, decide_eq_true_eq] at h; omega
  exact ptree_leaf (by rw [atP_out hin]; rfl)
 | succ n ih =>
  intro t ht
  cases hin : inP p t with
  | false => exact ptree_leaf (by rw [atP_out hin]; rfl)
  | true =>
   have hless := hok.less_at hin
   have hki := kids_in hok hin
   have hpos : 1 ≤ t := by simp only [inP, Bool.and_eq_true, decide_eq_true_eq] at hin; exact hin.1
   rcases kids_cases (atP p t).1.kind with h | h | h
   ·exact ptree_leaf h
   ·exact ptree_one hin h (ih _ (by omega)) (hki.1 (by omega))
   ·exact ptree_two hin h (ih _ (by omega)) (hki.1 (by omega)) (ih _ (by omega)) (hki.2 h)
theorem ptree {w : World} (hl : Laid w) (hp : IsPool w B a b vv p) (t : Int) : Calls Tryz.prog 33 #[.pointer (some ⟨a, 0, none⟩), .int .i64 t] w (TreePost w p t) := ptree_any hp.ok t.toNat t (Nat.le_refl _) w hl hp
end
end Go.Proofs.YtjmcaceegfdkkaaGreatDoor
