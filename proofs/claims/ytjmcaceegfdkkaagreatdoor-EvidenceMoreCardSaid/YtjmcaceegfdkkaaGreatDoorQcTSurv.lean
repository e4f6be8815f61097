/-
  The program's bare, wrongTree, survey.
-/
import Derived.Test.YtjmcaceegfdkkaaGreatDoorQcLProm
import Derived.Test.YtjmcaceegfdkkaaGreatDoorQcTRefuse
namespace Go.Proofs.YtjmcaceegfdkkaaGreatDoor
open Go.RowKit Go.Maps
set_option linter.unusedVariables false
set_option maxRecDepth 100000 in
set_option maxHeartbeats 3200000 in
theorem bare_any (n : Nd) (v : Value) (w : World) (ha : n.a = 0) (hb : n.b = 0) : Calls Tryz.prog 157 #[.agg (treeA n v)] w fun e w' => e = .returned (.agg (nodeA n)) ∧ Below w.heap.size w w' := by
 obtain ⟨kk, ff, tt, uu, ss, xa, xb⟩ := n
 simp only [treeA, nodeA] at *
 subst ha hb
 go_enter Tryz.func157, Tryz.ntmps157
 go_wp2_with fail
 refine bodyPost_ret (v := .agg #[.int .i64 kk, .int .i64 ff, .int .i64 tt, .int .u64 uu, .string ss, .int .i64 0, .int .i64 0]) (by simp [results, Tryz.results157, go_sem]) rfl ⟨rfl, ?_⟩
 exact ((Below.refl _ _).alloc (Nat.le_refl _) _).alloc (by simp) _
def lkE (n : Nd) (k : Fo) (s d : Int) : Int := if 4096 ≤ s ∨ 64 ≤ d then 52 else if k.len ≠ kidsN n.kind then 53 else shp n
theorem lkT_of {n : Nd} {k : Fo} {s d : Int} (h : lkE n k s d = 0) : lkT n k s d = lk k (s + 1) (d + 1) ∧ k.len ≤ 2 := by
 unfold lkE at h
 unfold lkT
 by_cases h1 : 4096 ≤ s ∨ 64 ≤ d
 ·rw [if_pos h1] at h; cases h
 ·rw [if_neg h1] at h ⊢
  by_cases h2 : k.len ≠ kidsN n.kind
  ·rw [if_pos h2] at h; cases h
  ·rw [if_neg h2] at h ⊢
   have := kidsN_le n.kind
   exact ⟨by rw [if_neg (by rw [h]; simp)], by omega⟩
theorem lkT_err {n : Nd} {k : Fo} {s d : Int} (h : lkE n k s d ≠ 0) : (lkT n k s d).2 = lkE n k s d := by
 unfold lkE at h ⊢
 unfold lkT
 by_cases h1 : 4096 ≤ s ∨ 64 ≤ d
 ·rw [if_pos h1, if_pos h1]
 ·rw [if_neg h1] at h ⊢
  rw [if_neg h1]
  by_cases h2 : k.len ≠ kidsN n.kind
  ·rw [if_pos h2, if_pos h2]
  ·rw [if_neg h2] at h ⊢
   rw [if_neg h2, if_pos h]
section
variable {G : Nat → Prop}
set_option maxRecDepth 100000 in
set_option maxHeartbeats 6400000 in
theorem wrongTree_any (n : Nd) (k : Fo) (v : Value) (s d : Int) {w : World} (hl : Laid w) (hk : IsK w G v k) (hn : NdOk n) (ha : n.a = 0) (hb : n.b = 0) : Calls Tryz.prog 156 #[.agg (treeA n v), .int .i64 s, .int .i64 d] w fun e w' => e = .returned (.int .i64 (lkE n k s d)) ∧ Below w.heap.size w w' := by
 obtain ⟨av, cv, rfl, _⟩ := hk.shape
 have hlen := hk.small
 unfold maxLen at hlen
 have b1 : Below w.heap.size w (w.alloc (.cells (treeA n (.slice av k.len cv)) TrT)) := bZ _ _
 have h1 : (w.alloc (.cells (treeA n (.slice av k.len cv)) TrT)).heap[w.heap.size]? = some (Obj.cells (treeA n (.slice av k.len cv)) TrT) := heap_alloc_new _ _
 have HL := Lib.hid (hl.below b1)
 have HA := Lib.hid b1
 have HN := Lib.hid hn
 unfold lkE
 by_cases hc : 4096 ≤ s ∨ 64 ≤ d
 ·rw [if_pos hc]
  clear hl hk hn b1 h1
  by_cases hc1 : 4096 ≤ s
  ·go_enter Tryz.func156, Tryz.ntmps156
   go_wp2_with fail
   go_returns
   exact ⟨rfl, HA.out⟩
  ·have hc1' : decide (4096 ≤ s) = false := decide_eq_false hc1
   have hc2 : 64 ≤ d := by omega
   go_enter Tryz.func156, Tryz.ntmps156
   go_wp2_with fail
   go_returns
   exact ⟨rfl, HA.out⟩
 ·rw [if_neg hc]
  have hc1 : decide (4096 ≤ s) = false := decide_eq_false (by omega)
  have hc2 : decide (64 ≤ d) = false := decide_eq_false (by omega)
  by_cases hq : k.len = kidsN n.kind
  ·rw [if_neg (by rw [hq]; simp)]
   have hne : (((k.len : Nat) : Int) != ((kidsN n.kind : Nat) : Int)) = false := by rw [hq]; simp
   clear hq
   have SK := Lib.hid (fun (W : World) (hW : Laid W) => shape_kids hW n.kind (kidsN n.kind : Int) rfl)
   have BA := Lib.hid (fun (W : World) => bare_any n (.slice av k.len cv) W ha hb)
   have WR := Lib.hid (fun (W : World) (hW : Laid W) => wrong_any n hW HN.out.text)
   have hkk := kidsN_le n.kind
   have hfk := field_kids
   have HB1 := Lib.hid h1
   clear hl hk hn b1 hc ha hb
   generalize kidsN n.kind = kn at *
   generalize shp n = sh at *
   generalize namedB n.kind = nb at *
   generalize twoB n.kind = tb at *
   obtain ⟨kk, ff, tt, uu, ss, xa, xb⟩ := n
   simp only [treeA, nodeA] at *
   obtain ⟨y0, y1, y2, y3, y4, y5⟩ := cs6 h1 rfl rfl rfl rfl rfl rfl
   clear h1
   have hkp : ∀ w' : World, Below (w.alloc (.cells #[.int .i64 kk, .int .i64 ff, .int .i64 tt, .int .u64 uu, .string ss, .slice av k.len cv] TrT)).heap.size (w.alloc (.cells #[.int .i64 kk, .int .i64 ff, .int .i64 tt, .int .u64 uu, .string ss, .slice av k.len cv] TrT)) w' → w'.cell? ⟨w.heap.size, 0, none⟩ = some (.int .i64 kk) ∧ w'.cell? ⟨w.heap.size, 1, none⟩ = some (.int .i64 ff) ∧ w'.cell? ⟨w.heap.size, 2, none⟩ = some (.int .i64 tt) ∧ w'.cell? ⟨w.heap.size, 3, none⟩ = some (.int .u64 uu) ∧ w'.cell? ⟨w.heap.size, 4, none⟩ = some (.string ss) ∧ w'.cell? ⟨w.heap.size, 5, none⟩ = some (.slice av k.len cv) ∧ Below (w.alloc (.cells #[.int .i64 kk, .int .i64 ff, .int .i64 tt, .int .u64 uu, .string ss, .slice av k.len cv] TrT)).heap.size (w.alloc (.cells #[.int .i64 kk, .int .i64 ff, .int .i64 tt, .int .u64 uu, .string ss, .slice av k.len cv] TrT)) w' := fun w' hb => ⟨bcellAt hb y0, bcellAt hb y1, bcellAt hb y2, bcellAt hb y3, bcellAt hb y4, bcellAt hb y5, hb⟩
   have HK := Lib.hid hkp
   clear hkp
   go_enter Tryz.func156, Tryz.ntmps156
   go_wp2_with fail
   generalize (w.alloc (.cells #[.int .i64 kk, .int .i64 ff, .int .i64 tt, .int .u64 uu, .string ss, .slice av k.len cv] TrT)) = W at *
   go_region_held3 (fun w' => w'.cell? ⟨w.heap.size, 0, none⟩ = some (.int .i64 kk) ∧ w'.cell? ⟨w.heap.size, 1, none⟩ = some (.int .i64 ff) ∧ w'.cell? ⟨w.heap.size, 2, none⟩ = some (.int .i64 tt) ∧ w'.cell? ⟨w.heap.size, 3, none⟩ = some (.int .u64 uu) ∧ w'.cell? ⟨w.heap.size, 4, none⟩ = some (.string ss) ∧ w'.cell? ⟨w.heap.size, 5, none⟩ = some (.slice av k.len cv) ∧ Below W.heap.size W w') ((refine HK.out _ ?_; first | exact bdd _ _ | exact bd _ | exact bmore (by first | assumption | exact bdn _ _ | exact bd _ | exact Below.refl _ _) u1))
    (((with_reducible refine (SK.out _ (HL.out.below (by first | assumption | exact bdn _ _ | exact bd _ | exact Below.refl _ _))).mono ?_); rintro e w1 ⟨rfl, u1⟩))
   have hall := HK.out w1 (bmore (bd W) u1)
   obtain ⟨z0, z1, z2, z3, z4, z5, zb⟩ := hall
   have HZ := Lib.hid (bmore HA.out zb)
   have HZL := Lib.hid (HL.out.below zb)
   clear zb u1 y0 y1 y2 y3 y4 y5
   go_wp2_with fail
   refine (BA.out _).mono ?_
   rintro e w2 ⟨rfl, u2⟩
   have HZ2 := Lib.hid (bmore HZ.out u2)
   have HZL2 := Lib.hid (HZL.out.below u2)
   clear u2
   go_wp2_with fail
   refine (WR.out _ HZL2.out).mono ?_
   rintro e w3 ⟨rfl, u3⟩
   have HZ3 := Lib.hid (bmore HZ2.out u3)
   clear u3
   go_wp2_with fail
   go_returns
   exact ⟨rfl, HZ3.out⟩
  ·rw [if_pos hq]
   have hne : (((k.len : Nat) : Int) != ((kidsN n.kind : Nat) : Int)) = true := by simp; omega
   clear hq
   have SK := Lib.hid (fun (W : World) (hW : Laid W) => shape_kids hW n.kind (kidsN n.kind : Int) rfl)
   have BA := Lib.hid (fun (W : World) => bare_any n (.slice av k.len cv) W ha hb)
   have WR := Lib.hid (fun (W : World) (hW : Laid W) => wrong_any n hW HN.out.text)
   have hkk := kidsN_le n.kind
   have hfk := field_kids
   have HB1 := Lib.hid h1
   clear hl hk hn b1 hc ha hb
   generalize kidsN n.kind = kn at *
   generalize shp n = sh at *
   generalize namedB n.kind = nb at *
   generalize twoB n.kind = tb at *
   obtain ⟨kk, ff, tt, uu, ss, xa, xb⟩ := n
   simp only [treeA, nodeA] at *
   obtain ⟨y0, y1, y2, y3, y4, y5⟩ := cs6 h1 rfl rfl rfl rfl rfl rfl
   clear h1
   have hkp : ∀ w' : World, Below (w.alloc (.cells #[.int .i64 kk, .int .i64 ff, .int .i64 tt, .int .u64 uu, .string ss, .slice av k.len cv] TrT)).heap.size (w.alloc (.cells #[.int .i64 kk, .int .i64 ff, .int .i64 tt, .int .u64 uu, .string ss, .slice av k.len cv] TrT)) w' → w'.cell? ⟨w.heap.size, 0, none⟩ = some (.int .i64 kk) ∧ w'.cell? ⟨w.heap.size, 1, none⟩ = some (.int .i64 ff) ∧ w'.cell? ⟨w.heap.size, 2, none⟩ = some (.int .i64 tt) ∧ w'.cell? ⟨w.heap.size, 3, none⟩ = some (.int .u64 uu) ∧ w'.cell? ⟨w.heap.size, 4, none⟩ = some (.string ss) ∧ w'.cell? ⟨w.heap.size, 5, none⟩ = some (.slice av k.len cv) ∧ Below (w.alloc (.cells #[.int .i64 kk, .int .i64 ff, .int .i64 tt, .int .u64 uu, .string ss, .slice av k.len cv] TrT)).heap.size (w.alloc (.cells #[.int .i64 kk, .int .i64 ff, .int .i64 tt, .int .u64 uu, .string ss, .slice av k.len cv] TrT)) w' := fun w' hb => ⟨bcellAt hb y0, bcellAt hb y1, bcellAt hb y2, bcellAt hb y3, bcellAt hb y4, bcellAt hb y5, hb⟩
   have HK := Lib.hid hkp
   clear hkp
   go_enter Tryz.func156, Tryz.ntmps156
   go_wp2_with fail
   generalize (w.alloc (.cells #[.int .i64 kk, .int .i64 ff, .int .i64 tt, .int .u64 uu, .string ss, .slice av k.len cv] TrT)) = W at *
   go_region_held3 (fun w' => w'.cell? ⟨w.heap.size, 0, none⟩ = some (.int .i64 kk) ∧ w'.cell? ⟨w.heap.size, 1, none⟩ = some (.int .i64 ff) ∧ w'.cell? ⟨w.heap.size, 2, none⟩ = some (.int .i64 tt) ∧ w'.cell? ⟨w.heap.size, 3, none⟩ = some (.int .u64 uu) ∧ w'.cell? ⟨w.heap.size, 4, none⟩ = some (.string ss) ∧ w'.cell? ⟨w.heap.size, 5, none⟩ = some (.slice av k.len cv) ∧ Below W.heap.size W w') ((refine HK.out _ ?_; first | exact bdd _ _ | exact bd _ | exact bmore (by first | assumption | exact bdn _ _ | exact bd _ | exact Below.refl _ _) u1))
    (((with_reducible refine (SK.out _ (HL.out.below (by first | assumption | exact bdn _ _ | exact bd _ | exact Below.refl _ _))).mono ?_); rintro e w1 ⟨rfl, u1⟩))
   have hall := HK.out w1 (bmore (bd W) u1)
   obtain ⟨z0, z1, z2, z3, z4, z5, zb⟩ := hall
   have HZ := Lib.hid (bmore HA.out zb)
   have HZL := Lib.hid (HL.out.below zb)
   clear zb u1 y0 y1 y2 y3 y4 y5
   go_wp2_with fail
   go_returns
   exact ⟨rfl, HZ.out⟩
def survA (q : Int × Int) : Int := if q.2 = 0 then q.1 else 0
theorem survA_ok {q : Int × Int} (h : q.2 = 0) : survA q = q.1 := by unfold survA; rw [if_pos h]
theorem survA_err {q : Int × Int} (h : q.2 ≠ 0) : survA q = 0 := by unfold survA; rw [if_neg h]
def SurvC (G : Nat → Prop) (n : Nd) (k : Fo) : Prop := ∀ (w : World) (v : Value) (s d : Int), Laid w → IsK w G v k → NdOk n → n.a = 0 → n.b = 0 → OkF k → 0 ≤ s → s ≤ 4096 → 0 ≤ d → d ≤ 64 → Calls Tryz.prog 115 #[.agg (treeA n v), .int .i64 s, .int .i64 d] w fun e w' => e = .returned (.tuple #[.int .i64 (survA (lkT n k s d)), .int .i64 (lkT n k s d).2]) ∧ Below w.heap.size w w'
set_option maxRecDepth 100000 in
set_option maxHeartbeats 6400000 in
theorem surv_step (n : Nd) (k : Fo) (ih : AllF (SurvC G) k) : SurvC G n k := by
 intro w v s d hl hk hn ha hb hok hs0 hs1 hd0 hd1
 have b1 : Below w.heap.size w (w.alloc (.cells (treeA n v) TrT)) := bZ _ _
 have h1 : (w.alloc (.cells (treeA n v) TrT)).heap[w.heap.size]? = some (Obj.cells (treeA n v) TrT) := heap_alloc_new _ _
 obtain ⟨av, cv, rfl, hx⟩ := (hk.below b1).shape
 have hlen := hk.small
 unfold maxLen at hlen
 have WT := Lib.hid (wrongTree_any n k (.slice av k.len cv) s d (hl.below b1) (hk.below b1) hn ha hb)
 have HL := Lib.hid (hl.below b1)
 have HX := Lib.hid hx
 have HI := Lib.hid ih
 have HB := Lib.hid h1
 have HA := Lib.hid b1
 have HOK := Lib.hid hok
 have HE : Hid (lkE n k s d ≠ 0 → lkT n k s d = ((lkT n k s d).1, lkE n k s d)) := Lib.hid (fun h => Prod.ext rfl (lkT_err h))
 have HZ : Hid (lkE n k s d = 0 → lkT n k s d = lk k (s + 1) (d + 1) ∧ s < 4096 ∧ d < 64) := Lib.hid (fun h => ⟨(lkT_of h).1, by
  unfold lkE at h
  by_cases h1 : 4096 ≤ s ∨ 64 ≤ d
  ·rw [if_pos h1] at h; cases h
  ·omega⟩)
 clear hl hk hx ih b1 hok hn ha hb
 generalize lkT n k s d = q at *
 generalize lkE n k s d = ee at *
 obtain ⟨kk, ff, tt, uu, ss, xa, xb⟩ := n
 simp only [treeA] at *
 obtain ⟨y0, y1, y2, y3, y4, y5⟩ := cs6 h1 rfl rfl rfl rfl rfl rfl
 clear h1
 by_cases he : ee = 0
 ·subst he
  obtain ⟨rfl, hs2, hd2⟩ := HZ.out rfl
  clear HZ HE
  go_enter Tryz.func115, Tryz.ntmps115
  go_wp2_with fail
  generalize (w.alloc (.cells #[.int .i64 kk, .int .i64 ff, .int .i64 tt, .int .u64 uu, .string ss, .slice av k.len cv] TrT)) = W at *
  refine WT.out.mono ?_
  rintro e w1 ⟨rfl, u1⟩
  have HB1 := Lib.hid u1
  have z5 := bcellAt u1 y5
  clear u1 y0 y1 y2 y3 y4 y5
  go_wp2_with fail
  go_loopw [1, 25] (fun vs vi wr => ∃ (i : Nat) (s' : Int) (r : Fo), vs = .int .i64 s' ∧ vi = .int .i64 (i : Int) ∧ i + r.len = k.len ∧ 0 ≤ s' ∧ s' ≤ 4096 ∧ lk k (s + 1) (d + 1) = lk r s' (d + 1) ∧ AllF (SurvC G) r ∧ OkF r ∧ (0 < r.len → ∃ b o, av = some ⟨b, o, none⟩ ∧ AtF W G r b (o + i * 6)) ∧ Below W.heap.size W wr) (fun _ v _ => k.len - (intOf v).toNat)
  case atStart => exact ⟨0, s + 1, k, rfl, rfl, by omega, by omega, by omega, rfl, HI.out, HOK.out, fun hp => by obtain ⟨b, o, q1, _, q3⟩ := HX.out hp; exact ⟨b, o, q1, by simpa using q3⟩, HB1.out⟩
  case round =>
   obtain ⟨i, s', r, rfl, rfl, hi, hs3, hs4, hp, hall, hokr, hat, hbr⟩ := hrel
   have HBR := Lib.hid hbr
   clear hbr
   by_cases hlt : 0 < r.len
   ·obtain ⟨n', k', q, rfl⟩ := fo_pos hlt
    simp only [Fo.len] at hi
    obtain ⟨b, o, rfl, hat'⟩ := hat hlt
    obtain ⟨c0, c1, c2, c3, c4, v', c5, hk', hat2⟩ := hat'.cons
    obtain ⟨av', cv', rfl, _⟩ := hk'.shape
    obtain ⟨ok1, ok2, ok3, ok4, ok5⟩ := hokr
    have e0 := bcellAt HBR.out c0
    have e1 := bcellAt HBR.out c1
    have e2 := bcellAt HBR.out c2
    have e3 := bcellAt HBR.out c3
    have e4 := bcellAt HBR.out c4
    have e5 := bcellAt HBR.out c5
    have HK := Lib.hid (fun (V : World) (hV : Laid V) (hVK : IsK V G (.slice av' k'.len cv') k') => hall.1 V (.slice av' k'.len cv') s' (d + 1) hV hVK ok1 ok2 ok3 ok4 hs3 hs4 (by omega) (by omega))
    have HKK := Lib.hid (hk'.below HBR.out)
    have HP1 : Hid ((lkT n' k' s' (d + 1)).2 ≠ 0 → lk k (s + 1) (d + 1) = lkT n' k' s' (d + 1)) := Lib.hid (fun h => by rw [hp, lk_cons, if_pos h])
    have HP2 : Hid ((lkT n' k' s' (d + 1)).2 = 0 → lk k (s + 1) (d + 1) = lk q (lkT n' k' s' (d + 1)).1 (d + 1) ∧ 0 ≤ (lkT n' k' s' (d + 1)).1 ∧ (lkT n' k' s' (d + 1)).1 ≤ 4096) := Lib.hid (fun h => by
     have hz : (lk (.cons n' k' .nil) s' (d + 1)).2 = 0 := by rw [lk_cons, if_neg (by rw [h]; simp)]; rfl
     obtain ⟨a1, a2, _, _⟩ := lk_ok _ s' (d + 1) hz hs3 hs4 (by omega)
     rw [lk_cons, if_neg (by rw [h]; simp)] at a1 a2
     simp only [lk] at a1 a2
     exact ⟨by rw [hp, lk_cons, if_neg (by rw [h]; simp)], by omega, a2⟩)
    have HALL := Lib.hid hall.2
    have HAT := Lib.hid hat2
    have HOKR := Lib.hid ok5
    clear hp hall hat2 hat hat' c0 c1 c2 c3 c4 c5 hk' HI HX ok1 ok2 ok3 ok4 ok5 HOK
    generalize lkT n' k' s' (d + 1) = qq at *
    obtain ⟨q1, q2⟩ := qq
    obtain ⟨k2, f2, t2, u2, s2, y2, z2⟩ := n'
    simp only [treeA] at *
    have hi1 : (i : Int) < (k.len : Int) := by omega
    have bN := bZ wr (.cells #[.int .i64 k2, .int .i64 f2, .int .i64 t2, .int .u64 u2, .string s2, .slice av' k'.len cv'] TrT)
    have hN : (wr.alloc (.cells #[.int .i64 k2, .int .i64 f2, .int .i64 t2, .int .u64 u2, .string s2, .slice av' k'.len cv'] TrT)).heap[wr.heap.size]? = some (Obj.cells #[.int .i64 k2, .int .i64 f2, .int .i64 t2, .int .u64 u2, .string s2, .slice av' k'.len cv'] TrT) := heap_alloc_new _ _
    obtain ⟨g0, g1, g2, g3, g4, g5⟩ := cs6 hN rfl rfl rfl rfl rfl rfl
    have HBN := Lib.hid bN
    clear bN hN
    go_wp2_with fail
    generalize (wr.alloc (.cells #[.int .i64 k2, .int .i64 f2, .int .i64 t2, .int .u64 u2, .string s2, .slice av' k'.len cv'] TrT)) = V at *
    refine (HK.out V ((HL.out.below HBR.out).below HBN.out) (HKK.out.below HBN.out)).mono ?_
    rintro e w1 ⟨rfl, u1⟩
    have HB1 := Lib.hid (bmore HBR.out (bmore HBN.out u1))
    clear u1 g0 g1 g2 g3 g4 g5 e0 e1 e2 e3 e4 e5
    by_cases hq : q2 = 0
    ·subst hq
     obtain ⟨p1, p2, p3⟩ := HP2.out rfl
     rw [survA_ok rfl]
     have HP := Lib.hid p1
     clear p1 HP1 HP2
     go_wp2_with fail
     go_roundw
     case rel => exact ⟨i + 1, q1, q, rfl, by go_num, by omega, p2, p3, HP.out, HALL.out, HOKR.out, fun _ => ⟨b, o, rfl, by rw [show o + (i + 1) * 6 = o + i * 6 + 6 by omega]; exact HAT.out⟩, HB1.out⟩
     case measure => simp [intOf]; omega
    ·have HP := Lib.hid (HP1.out hq)
     rw [survA_err hq]
     have hq' : (q2 != 0) = true := by rw [bne_iff_ne]; exact hq
     clear HP1 HP2
     go_wp2_with fail
     go_returns
     refine ⟨?_, bmore HA.out HB1.out⟩
     rw [HP.out, survA_err hq]
     rfl
   ·obtain rfl := fo_nil (show r.len = 0 by omega)
    simp only [Fo.len, Nat.add_zero] at hi
    subst hi
    have HP := Lib.hid hp
    clear hp hall hat HI HX hlt
    go_wp2_with fail
    go_returns
    refine ⟨?_, bmore HA.out HBR.out⟩
    rw [HP.out]
    rfl
 ·have hq' : (ee != 0) = true := by rw [bne_iff_ne]; exact he
  have HQ := Lib.hid (HE.out he)
  clear HZ HE
  go_enter Tryz.func115, Tryz.ntmps115
  go_wp2_with fail
  generalize (w.alloc (.cells #[.int .i64 kk, .int .i64 ff, .int .i64 tt, .int .u64 uu, .string ss, .slice av k.len cv] TrT)) = W at *
  refine WT.out.mono ?_
  rintro e w1 ⟨rfl, u1⟩
  have HB1 := Lib.hid (bmore HA.out u1)
  clear u1 y0 y1 y2 y3 y4 y5
  go_wp2_with fail
  go_returns
  refine ⟨?_, HB1.out⟩
  rw [HQ.out, survA_err he]
  rfl
theorem survey_any (n : Nd) (k : Fo) : SurvC G n k := tree_all surv_step n k
end
end Go.Proofs.YtjmcaceegfdkkaaGreatDoor
