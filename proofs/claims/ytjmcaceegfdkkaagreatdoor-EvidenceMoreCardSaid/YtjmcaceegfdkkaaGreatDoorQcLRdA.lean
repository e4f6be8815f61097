/-
  Read in memory: what letter a term is.
-/
import Derived.WalkMore
import Derived.Deep.DeepCutAuto
import Derived.Test.YtjmcaceegfdkkaaGreatDoorQcLBoth
namespace Go.Proofs.YtjmcaceegfdkkaaGreatDoor
open Go.RowKit Go.Maps
set_option linter.unusedVariables false
theorem rd_else {p : Pl} {t : Int} (h1 : (atP p t).1.kind ≠ 8) (h2 : (atP p t).1.kind ≠ 9) (h3 : (atP p t).1.kind ≠ 7) (h4 : (atP p t).1.kind ≠ 4) : rdP p t = none := by
 unfold rdP; rw [if_neg (by omega), if_neg (by omega)]
theorem rd_prom {p : Pl} {t : Int} (h : (atP p t).1.kind = 8 ∨ (atP p t).1.kind = 9) : rdP p t = prP p t := by
 unfold rdP; rw [if_pos h]
theorem rd_sign {p : Pl} {t : Int} (h : (atP p t).1.kind = 7 ∨ (atP p t).1.kind = 4) : rdP p t = rdS p (byP p t) (inrP p t) := by
 unfold rdP; rw [if_neg (by omega), if_pos h]
theorem heap_other {w : World} {b b' j : Nat} {u : Value} (h : b' ≠ b) : (w.setCell ⟨b, j, none⟩ u).heap[b']? = w.heap[b']? := Below.heap_setCell _ _ _ _ (fun e => h e)
theorem set5_other {w : World} {b b' : Nat} (h : b' ≠ b) (v0 v1 v2 v3 v4 : Value) : (set5 w b v0 v1 v2 v3 v4).heap[b']? = w.heap[b']? := by
 unfold set5
 rw [heap_other h, heap_other h, heap_other h, heap_other h, heap_other h]
theorem by_ne3 {p : Pl} (hp : Ok p) (t : Int) : byP p t ≠ -3 := by
 unfold byP
 split
 ·rename_i e
  have i1 := (nd_sign hp e).1
  have hs := shp_at hp i1
  unfold shp at hs
  split at hs
  ·cases hs
  ·split at hs
   ·cases hs
   ·rename_i hb
    simp only [Bool.or_eq_true, Bool.and_eq_true, not_or, not_and] at hb
    have h3 := hb.1 (by rw [e]; rfl)
    simp only [Bool.not_eq_true', Bool.not_eq_false, nameB, Bool.and_eq_true, decide_eq_true_eq] at h3
    omega
 ·omega
theorem dl_val (od : Option (Int × ByteArray)) : ∃ c s, dlV od = .tuple #[.int .u64 c, .string s, .bool od.isSome] ∧ (od.isSome = true → od = some (c, s)) := by
 cases od with
 | none => exact ⟨_, _, rfl, fun h => by cases h⟩
 | some x => exact ⟨x.1, x.2, rfl, fun _ => rfl⟩
theorem bo_val (od : Option (Int × ByteArray × Bool)) : ∃ c s f, boV od = .tuple #[.int .u64 c, .string s, .bool f, .bool od.isSome] ∧ (od.isSome = true → od = some (c, s, f)) := by
 cases od with
 | none => exact ⟨_, _, _, rfl, fun h => by cases h⟩
 | some x => exact ⟨x.1, x.2.1, x.2.2, rfl, fun _ => rfl⟩
theorem none_of {α : Type} {o : Option α} (h : o.isSome = false) : o = none := by cases o with | none => rfl | some _ => cases h
section
variable {w : World} {pv : Value} {p : Pl}
set_option maxRecDepth 100000 in
set_option maxHeartbeats 25600000 in
theorem read_prom (h : Nodes w pv p) (hok : Ok p) (hl : LaidK w) (t : Int) (h8 : (atP p t).1.kind = 8 ∨ (atP p t).1.kind = 9) : Calls Tryz.prog 37 #[pv, .int .i64 t] w fun e w' => e = .returned (ltV (rdP p t)) ∧ Below w.heap.size w w' := by
 have HN := Lib.hid h
 have H3 := Lib.hid (by_ne3 hok t)
 have HLK := Lib.hid hl
 have F1 := Lib.hid (fun (W : World) (hb : Below w.heap.size w W) => h W hb t)
 have RP := Lib.hid (fun (W : World) (hb : Below w.heap.size w W) => rprom_any (h.below hb) t)
 have SG := Lib.hid (fun (W : World) => signer_any (atP p t).1 t W)
 have SP := Lib.hid (fun (W : World) (hb : Below w.heap.size w W) => split_any (h.below hb) (inrP p t))
 have KO := Lib.hid (fun (W : World) (hb : Below w.heap.size w W) => kindOf_any (hl.below hb) (ahP p (inrP p t)))
 have IP := Lib.hid (fun W => isParty_any (byP p t) W)
 have DI := Lib.hid (fun (W : World) (hb : Below w.heap.size w W) => readDeal_any (h.below hb) (inrP p t))
 have DB := Lib.hid (fun (W : World) (hb : Below w.heap.size w W) => readDeal_any (h.below hb) (bhP p (inrP p t)))
 have BB := Lib.hid (fun (W : World) (hb : Below w.heap.size w W) => rboth_any (h.below hb) (bhP p (inrP p t)))
 have NB := Lib.hid (fun (W : World) (hb : Below w.heap.size w W) => rnumber_any (h.below hb) (bhP p (inrP p t)))
 obtain ⟨rr, hrr⟩ : ∃ rr, rr = ltV (rdP p t) := ⟨_, rfl⟩
 rw [← hrr]
 have HE := Lib.hid (fun h1 h2 h3 h4 => hrr.trans (congrArg ltV (rd_else (p := p) (t := t) h1 h2 h3 h4)))
 have HP := Lib.hid (fun h1 => hrr.trans (congrArg ltV (rd_prom (p := p) (t := t) h1)))
 have HS := Lib.hid (fun h1 => hrr.trans (congrArg ltV (rd_sign (p := p) (t := t) h1)))
 clear h hl hrr
 change Hid (∀ W : World, Calls _ _ #[_, _] W fun e w' => e = .returned (.tuple #[.int .i64 (byP p t), .int .i64 (inrP p t)]) ∧ Below W.heap.size W w') at SG
 generalize byP p t = who at *
 generalize inrP p t = inn at *
 generalize prP p t = op at *
 generalize (atP p t).1 = n at *
 obtain ⟨k1, f1, t1, n1, s1, x1, y1⟩ := n
 replace h8 : k1 = 8 ∨ k1 = 9 := h8
 simp only [nodeA] at *
 have b0 := bZ w (.cells #[.int .i64 0, .int .i64 0, .int .u64 0, .string ⟨#[]⟩, .bool false] LtT)
 have h0 := heap_alloc_new w (.cells #[.int .i64 0, .int .i64 0, .int .u64 0, .string ⟨#[]⟩, .bool false] LtT)
 have b1 := bZ (w.alloc (.cells #[.int .i64 0, .int .i64 0, .int .u64 0, .string ⟨#[]⟩, .bool false] LtT)) (.cells #[.int .i64 0, .int .i64 0, .int .u64 0, .string ⟨#[]⟩, .bool false] LtT)
 have h1 := heap_alloc_new (w.alloc (.cells #[.int .i64 0, .int .i64 0, .int .u64 0, .string ⟨#[]⟩, .bool false] LtT)) (.cells #[.int .i64 0, .int .i64 0, .int .u64 0, .string ⟨#[]⟩, .bool false] LtT)
 have h0' := Hold.below b1 _ _ h0
 rw [World.size_alloc] at h1
 have HB1 := Lib.hid (bmore b0 b1)
 have HZ1 := Lib.hid h0'
 have HL1 := Lib.hid h1
 clear b0 h0 b1 h1 h0'
 go_enter Tryz.func37, Tryz.ntmps37
 go_wp2_with fail
 go_step3
 go_wp2_with fail
 generalize ((w.alloc (.cells #[.int .i64 0, .int .i64 0, .int .u64 0, .string ⟨#[]⟩, .bool false] LtT)).alloc (.cells #[.int .i64 0, .int .i64 0, .int .u64 0, .string ⟨#[]⟩, .bool false] LtT)) = w1 at *
 refine (F1.out _ HB1.out).mono ?_
 rintro e w2 ⟨b2, rfl, u2⟩
 have b3 := bmore u2 (bZ w2 (.cells #[.int .i64 k1, .int .i64 f1, .int .i64 t1, .int .u64 n1, .string s1, .int .i64 x1, .int .i64 y1] NodeT))
 have h3 := heap_alloc_new w2 (.cells #[.int .i64 k1, .int .i64 f1, .int .i64 t1, .int .u64 n1, .string s1, .int .i64 x1, .int .i64 y1] NodeT)
 have HB3 := Lib.hid (bmore HB1.out b3)
 have HZ3 := Lib.hid (Hold.below b3 _ _ HZ1.out)
 have HL3 := Lib.hid (Hold.below b3 _ _ HL1.out)
 have HH3 := Lib.hid h3
 clear u2 b3 h3 F1 HB1 HZ1 HL1
 have hne : w.heap.size ≠ w.heap.size + 1 := by omega
 have c0 := cellB (j := 0) HH3.out rfl
 have hkk : ((k1 == 8) = true) ∨ ((k1 == 8) = false ∧ (k1 == 9) = true) := by
  rcases h8 with rfl | rfl
  ·exact .inl rfl
  ·exact .inr ⟨rfl, rfl⟩
 have HPP := Lib.hid (HP.out h8)
 clear h8 HE HP HS SG SP KO IP DI DB BB NB HN HLK
 obtain ⟨lk, lf, lc, ls, lx, hlv, hrv⟩ : ∃ lk lf lc ls lx, ltV op = .tuple #[.agg #[.int .i64 lk, .int .i64 lf, .int .u64 lc, .string ls, .bool lx], .bool op.isSome] ∧ rr = (if op.isSome = true then .tuple #[.agg #[.int .i64 lk, .int .i64 lf, .int .u64 lc, .string ls, .bool lx], .bool true] else ltV none) := by
  have h := HPP.out
  cases op with
  | none => exact ⟨_, _, _, _, _, rfl, h⟩
  | some l => exact ⟨l.kind, l.frm, l.c, l.text, l.fake, rfl, h⟩
 rw [hlv] at RP
 have HRV := Lib.hid hrv
 clear hlv hrv HPP
 generalize op.isSome = fl at *
 obtain ⟨z0, z1, z2, z3, z4⟩ := cs5 HL3.out rfl rfl rfl rfl rfl
 rcases hkk with hk8 | ⟨hk8, hk9⟩
 all_goals
  go_wp2_with fail
  go_step3
  go_wp2_with fail
  generalize (w2.alloc (.cells #[.int .i64 k1, .int .i64 f1, .int .i64 t1, .int .u64 n1, .string s1, .int .i64 x1, .int .i64 y1] NodeT)) = w3 at *
  refine (RP.out _ HB3.out).mono ?_
  rintro e w4 ⟨rfl, u4⟩
  have HB4 := Lib.hid (bmore HB3.out u4)
  have HZ4 := Lib.hid (Hold.below u4 _ _ HZ3.out)
  have HL4 := Lib.hid (Hold.below u4 _ _ HL3.out)
  clear u4 RP HB3 HZ3 HL3 HH3 c0 z0 z1 z2 z3 z4
  obtain ⟨z0, z1, z2, z3, z4⟩ := cs5 HL4.out rfl rfl rfl rfl rfl
  obtain ⟨g0, g1, g2, g3, g4⟩ := fz5 HL4.out
  go_upto_region 26 with fail
  have hl5 := set5_at HL4.out (.int .i64 lk) (.int .i64 lf) (.int .u64 lc) (.string ls) (.bool lx)
  have hw5 := set5_below HB4.out (Nat.le_succ _) (.int .i64 lk) (.int .i64 lf) (.int .u64 lc) (.string ls) (.bool lx)
  have hz5 := HZ4.out
  rw [← set5_other hne (.int .i64 lk) (.int .i64 lf) (.int .u64 lc) (.string ls) (.bool lx)] at hz5
  unfold set5 at hl5 hw5 hz5
  have HB5 := Lib.hid hw5
  clear hw5
  generalize (((((w4.setCell ⟨w.heap.size + 1, 0, none⟩ (.int .i64 lk)).setCell ⟨w.heap.size + 1, 1, none⟩ (.int .i64 lf)).setCell ⟨w.heap.size + 1, 2, none⟩ (.int .u64 lc)).setCell ⟨w.heap.size + 1, 3, none⟩ (.string ls)).setCell ⟨w.heap.size + 1, 4, none⟩ (.bool lx)) = w5 at *
  have HL5 := Lib.hid hl5
  have HZ5 := Lib.hid hz5
  clear hl5 hz5 z0 z1 z2 z3 z4 g0 g1 g2 g3 g4 HB4 HZ4 HL4
  cases fl with
  | false =>
   have HRR := Lib.hid HRV.out
   clear HRV
   obtain ⟨tz0, tz1, tz2, tz3, tz4⟩ := cs5 HZ5.out rfl rfl rfl rfl rfl
   obtain ⟨ty0, ty1, ty2, ty3, ty4⟩ := fz5 HZ5.out
   obtain ⟨tl0, tl1, tl2, tl3, tl4⟩ := cs5 HL5.out rfl rfl rfl rfl rfl
   go_wp2_with fail
   have hs5 := set5_at HZ5.out (.int .i64 0) (.int .i64 0) (.int .u64 0) (.string ⟨#[]⟩) (.bool false)
   have hw5 := set5_below HB5.out (Nat.le_refl _) (.int .i64 0) (.int .i64 0) (.int .u64 0) (.string ⟨#[]⟩) (.bool false)
   rw [show set5 w5 w.heap.size (.int .i64 0) (.int .i64 0) (.int .u64 0) (.string ⟨#[]⟩) (.bool false) = ((((w5.setCell ⟨w.heap.size, 0, none⟩ (.int .i64 0)).setCell ⟨w.heap.size, 1, none⟩ (.int .i64 0)).setCell ⟨w.heap.size, 2, none⟩ (.int .u64 0)).setCell ⟨w.heap.size, 3, none⟩ (.string ⟨#[]⟩)).setCell ⟨w.heap.size, 4, none⟩ (.bool false) from rfl] at hs5 hw5
   have HW5 := Lib.hid hw5
   clear hw5
   generalize (((((w5.setCell ⟨w.heap.size, 0, none⟩ (.int .i64 0)).setCell ⟨w.heap.size, 1, none⟩ (.int .i64 0)).setCell ⟨w.heap.size, 2, none⟩ (.int .u64 0)).setCell ⟨w.heap.size, 3, none⟩ (.string ⟨#[]⟩)).setCell ⟨w.heap.size, 4, none⟩ (.bool false)) = w99 at *
   obtain ⟨q0, q1, q2, q3, q4⟩ := cs5 hs5 rfl rfl rfl rfl rfl
   (try rw [Exit.noGoto_ret])
   refine bodyPost_ret (v := .tuple #[.agg #[.int .i64 0, .int .i64 0, .int .u64 0, .string ⟨#[]⟩, .bool false], .bool false]) (by simp [results, Tryz.results37, go_sem, q0, q1, q2, q3, q4]) rfl ⟨by rw [HRR.out]; rfl, HW5.out⟩
  | true =>
   have HRR := Lib.hid HRV.out
   clear HRV
   obtain ⟨tz0, tz1, tz2, tz3, tz4⟩ := cs5 HZ5.out rfl rfl rfl rfl rfl
   obtain ⟨ty0, ty1, ty2, ty3, ty4⟩ := fz5 HZ5.out
   obtain ⟨tl0, tl1, tl2, tl3, tl4⟩ := cs5 HL5.out rfl rfl rfl rfl rfl
   go_wp2_with fail
   have hs5 := set5_at HZ5.out (.int .i64 lk) (.int .i64 lf) (.int .u64 lc) (.string ls) (.bool lx)
   have hw5 := set5_below HB5.out (Nat.le_refl _) (.int .i64 lk) (.int .i64 lf) (.int .u64 lc) (.string ls) (.bool lx)
   rw [show set5 w5 w.heap.size (.int .i64 lk) (.int .i64 lf) (.int .u64 lc) (.string ls) (.bool lx) = ((((w5.setCell ⟨w.heap.size, 0, none⟩ (.int .i64 lk)).setCell ⟨w.heap.size, 1, none⟩ (.int .i64 lf)).setCell ⟨w.heap.size, 2, none⟩ (.int .u64 lc)).setCell ⟨w.heap.size, 3, none⟩ (.string ls)).setCell ⟨w.heap.size, 4, none⟩ (.bool lx) from rfl] at hs5 hw5
   have HW5 := Lib.hid hw5
   clear hw5
   generalize (((((w5.setCell ⟨w.heap.size, 0, none⟩ (.int .i64 lk)).setCell ⟨w.heap.size, 1, none⟩ (.int .i64 lf)).setCell ⟨w.heap.size, 2, none⟩ (.int .u64 lc)).setCell ⟨w.heap.size, 3, none⟩ (.string ls)).setCell ⟨w.heap.size, 4, none⟩ (.bool lx)) = w99 at *
   obtain ⟨q0, q1, q2, q3, q4⟩ := cs5 hs5 rfl rfl rfl rfl rfl
   (try rw [Exit.noGoto_ret])
   refine bodyPost_ret (v := .tuple #[.agg #[.int .i64 lk, .int .i64 lf, .int .u64 lc, .string ls, .bool lx], .bool true]) (by simp [results, Tryz.results37, go_sem, q0, q1, q2, q3, q4]) rfl ⟨by rw [HRR.out]; rfl, HW5.out⟩
set_option maxRecDepth 100000 in
set_option maxHeartbeats 25600000 in
theorem read_none (h : Nodes w pv p) (hok : Ok p) (hl : LaidK w) (t : Int) (h8 : ¬ ((atP p t).1.kind = 8 ∨ (atP p t).1.kind = 9)) (h7 : ¬ ((atP p t).1.kind = 7 ∨ (atP p t).1.kind = 4)) : Calls Tryz.prog 37 #[pv, .int .i64 t] w fun e w' => e = .returned (ltV (rdP p t)) ∧ Below w.heap.size w w' := by
 have HN := Lib.hid h
 have H3 := Lib.hid (by_ne3 hok t)
 have HLK := Lib.hid hl
 have F1 := Lib.hid (fun (W : World) (hb : Below w.heap.size w W) => h W hb t)
 have RP := Lib.hid (fun (W : World) (hb : Below w.heap.size w W) => rprom_any (h.below hb) t)
 have SG := Lib.hid (fun (W : World) => signer_any (atP p t).1 t W)
 have SP := Lib.hid (fun (W : World) (hb : Below w.heap.size w W) => split_any (h.below hb) (inrP p t))
 have KO := Lib.hid (fun (W : World) (hb : Below w.heap.size w W) => kindOf_any (hl.below hb) (ahP p (inrP p t)))
 have IP := Lib.hid (fun W => isParty_any (byP p t) W)
 have DI := Lib.hid (fun (W : World) (hb : Below w.heap.size w W) => readDeal_any (h.below hb) (inrP p t))
 have DB := Lib.hid (fun (W : World) (hb : Below w.heap.size w W) => readDeal_any (h.below hb) (bhP p (inrP p t)))
 have BB := Lib.hid (fun (W : World) (hb : Below w.heap.size w W) => rboth_any (h.below hb) (bhP p (inrP p t)))
 have NB := Lib.hid (fun (W : World) (hb : Below w.heap.size w W) => rnumber_any (h.below hb) (bhP p (inrP p t)))
 obtain ⟨rr, hrr⟩ : ∃ rr, rr = ltV (rdP p t) := ⟨_, rfl⟩
 rw [← hrr]
 have HE := Lib.hid (fun h1 h2 h3 h4 => hrr.trans (congrArg ltV (rd_else (p := p) (t := t) h1 h2 h3 h4)))
 have HP := Lib.hid (fun h1 => hrr.trans (congrArg ltV (rd_prom (p := p) (t := t) h1)))
 have HS := Lib.hid (fun h1 => hrr.trans (congrArg ltV (rd_sign (p := p) (t := t) h1)))
 clear h hl hrr
 change Hid (∀ W : World, Calls _ _ #[_, _] W fun e w' => e = .returned (.tuple #[.int .i64 (byP p t), .int .i64 (inrP p t)]) ∧ Below W.heap.size W w') at SG
 generalize byP p t = who at *
 generalize inrP p t = inn at *
 generalize prP p t = op at *
 generalize (atP p t).1 = n at *
 obtain ⟨k1, f1, t1, n1, s1, x1, y1⟩ := n
 replace h8 : ¬ (k1 = 8 ∨ k1 = 9) := h8
 replace h7 : ¬ (k1 = 7 ∨ k1 = 4) := h7
 simp only [nodeA] at *
 have b0 := bZ w (.cells #[.int .i64 0, .int .i64 0, .int .u64 0, .string ⟨#[]⟩, .bool false] LtT)
 have h0 := heap_alloc_new w (.cells #[.int .i64 0, .int .i64 0, .int .u64 0, .string ⟨#[]⟩, .bool false] LtT)
 have b1 := bZ (w.alloc (.cells #[.int .i64 0, .int .i64 0, .int .u64 0, .string ⟨#[]⟩, .bool false] LtT)) (.cells #[.int .i64 0, .int .i64 0, .int .u64 0, .string ⟨#[]⟩, .bool false] LtT)
 have h1 := heap_alloc_new (w.alloc (.cells #[.int .i64 0, .int .i64 0, .int .u64 0, .string ⟨#[]⟩, .bool false] LtT)) (.cells #[.int .i64 0, .int .i64 0, .int .u64 0, .string ⟨#[]⟩, .bool false] LtT)
 have h0' := Hold.below b1 _ _ h0
 rw [World.size_alloc] at h1
 have HB1 := Lib.hid (bmore b0 b1)
 have HZ1 := Lib.hid h0'
 have HL1 := Lib.hid h1
 clear b0 h0 b1 h1 h0'
 go_enter Tryz.func37, Tryz.ntmps37
 go_wp2_with fail
 go_step3
 go_wp2_with fail
 generalize ((w.alloc (.cells #[.int .i64 0, .int .i64 0, .int .u64 0, .string ⟨#[]⟩, .bool false] LtT)).alloc (.cells #[.int .i64 0, .int .i64 0, .int .u64 0, .string ⟨#[]⟩, .bool false] LtT)) = w1 at *
 refine (F1.out _ HB1.out).mono ?_
 rintro e w2 ⟨b2, rfl, u2⟩
 have b3 := bmore u2 (bZ w2 (.cells #[.int .i64 k1, .int .i64 f1, .int .i64 t1, .int .u64 n1, .string s1, .int .i64 x1, .int .i64 y1] NodeT))
 have h3 := heap_alloc_new w2 (.cells #[.int .i64 k1, .int .i64 f1, .int .i64 t1, .int .u64 n1, .string s1, .int .i64 x1, .int .i64 y1] NodeT)
 have HB3 := Lib.hid (bmore HB1.out b3)
 have HZ3 := Lib.hid (Hold.below b3 _ _ HZ1.out)
 have HL3 := Lib.hid (Hold.below b3 _ _ HL1.out)
 have HH3 := Lib.hid h3
 clear u2 b3 h3 F1 HB1 HZ1 HL1
 have hne : w.heap.size ≠ w.heap.size + 1 := by omega
 have c0 := cellB (j := 0) HH3.out rfl
 have h8a : (k1 == 8) = false := by simp; omega
 have h9a : (k1 == 9) = false := by simp; omega
 have h7a : (k1 == 7) = false := by simp; omega
 have h4a : (k1 == 4) = false := by simp; omega
 have HEE := Lib.hid (HE.out (fun h => h8 (.inl h)) (fun h => h8 (.inr h)) (fun h => h7 (.inl h)) (fun h => h7 (.inr h)))
 clear h7 h8 HE HP HS SG SP KO IP DI DB BB NB HN HLK RP
 go_wp2_with fail
 go_step3
 go_upto_region 26 with fail
 generalize (w2.alloc (.cells #[.int .i64 k1, .int .i64 f1, .int .i64 t1, .int .u64 n1, .string s1, .int .i64 x1, .int .i64 y1] NodeT)) = w3 at *
 obtain ⟨tz0, tz1, tz2, tz3, tz4⟩ := cs5 HZ3.out rfl rfl rfl rfl rfl
 obtain ⟨ty0, ty1, ty2, ty3, ty4⟩ := fz5 HZ3.out
 obtain ⟨tl0, tl1, tl2, tl3, tl4⟩ := cs5 HL3.out rfl rfl rfl rfl rfl
 go_wp2_with fail
 have hs5 := set5_at HZ3.out (.int .i64 0) (.int .i64 0) (.int .u64 0) (.string ⟨#[]⟩) (.bool false)
 have hw5 := set5_below HB3.out (Nat.le_refl _) (.int .i64 0) (.int .i64 0) (.int .u64 0) (.string ⟨#[]⟩) (.bool false)
 rw [show set5 w3 w.heap.size (.int .i64 0) (.int .i64 0) (.int .u64 0) (.string ⟨#[]⟩) (.bool false) = ((((w3.setCell ⟨w.heap.size, 0, none⟩ (.int .i64 0)).setCell ⟨w.heap.size, 1, none⟩ (.int .i64 0)).setCell ⟨w.heap.size, 2, none⟩ (.int .u64 0)).setCell ⟨w.heap.size, 3, none⟩ (.string ⟨#[]⟩)).setCell ⟨w.heap.size, 4, none⟩ (.bool false) from rfl] at hs5 hw5
 have HW5 := Lib.hid hw5
 clear hw5
 generalize (((((w3.setCell ⟨w.heap.size, 0, none⟩ (.int .i64 0)).setCell ⟨w.heap.size, 1, none⟩ (.int .i64 0)).setCell ⟨w.heap.size, 2, none⟩ (.int .u64 0)).setCell ⟨w.heap.size, 3, none⟩ (.string ⟨#[]⟩)).setCell ⟨w.heap.size, 4, none⟩ (.bool false)) = w99 at *
 obtain ⟨q0, q1, q2, q3, q4⟩ := cs5 hs5 rfl rfl rfl rfl rfl
 (try rw [Exit.noGoto_ret])
 refine bodyPost_ret (v := .tuple #[.agg #[.int .i64 0, .int .i64 0, .int .u64 0, .string ⟨#[]⟩, .bool false], .bool false]) (by simp [results, Tryz.results37, go_sem, q0, q1, q2, q3, q4]) rfl ⟨by rw [HEE.out]; rfl, HW5.out⟩
set_option maxRecDepth 100000 in
set_option maxHeartbeats 25600000 in
theorem read_2 (h : Nodes w pv p) (hok : Ok p) (hl : LaidK w) (t : Int) (h7 : (atP p t).1.kind = 7 ∨ (atP p t).1.kind = 4) (hdd : ahP p (inrP p t) = dealS) : Calls Tryz.prog 37 #[pv, .int .i64 t] w fun e w' => e = .returned (ltV (rdP p t)) ∧ Below w.heap.size w w' := by
 have HN := Lib.hid h
 have H3 := Lib.hid (by_ne3 hok t)
 have HLK := Lib.hid hl
 have F1 := Lib.hid (fun (W : World) (hb : Below w.heap.size w W) => h W hb t)
 have RP := Lib.hid (fun (W : World) (hb : Below w.heap.size w W) => rprom_any (h.below hb) t)
 have SG := Lib.hid (fun (W : World) => signer_any (atP p t).1 t W)
 have SP := Lib.hid (fun (W : World) (hb : Below w.heap.size w W) => split_any (h.below hb) (inrP p t))
 have KO := Lib.hid (fun (W : World) (hb : Below w.heap.size w W) => kindOf_any (hl.below hb) (ahP p (inrP p t)))
 have IP := Lib.hid (fun W => isParty_any (byP p t) W)
 have DI := Lib.hid (fun (W : World) (hb : Below w.heap.size w W) => readDeal_any (h.below hb) (inrP p t))
 have DB := Lib.hid (fun (W : World) (hb : Below w.heap.size w W) => readDeal_any (h.below hb) (bhP p (inrP p t)))
 have BB := Lib.hid (fun (W : World) (hb : Below w.heap.size w W) => rboth_any (h.below hb) (bhP p (inrP p t)))
 have NB := Lib.hid (fun (W : World) (hb : Below w.heap.size w W) => rnumber_any (h.below hb) (bhP p (inrP p t)))
 obtain ⟨rr, hrr⟩ : ∃ rr, rr = ltV (rdP p t) := ⟨_, rfl⟩
 rw [← hrr]
 have HE := Lib.hid (fun h1 h2 h3 h4 => hrr.trans (congrArg ltV (rd_else (p := p) (t := t) h1 h2 h3 h4)))
 have HP := Lib.hid (fun h1 => hrr.trans (congrArg ltV (rd_prom (p := p) (t := t) h1)))
 have HS := Lib.hid (fun h1 => hrr.trans (congrArg ltV (rd_sign (p := p) (t := t) h1)))
 clear h hl hrr
 change Hid (∀ W : World, Calls _ _ #[_, _] W fun e w' => e = .returned (.tuple #[.int .i64 (byP p t), .int .i64 (inrP p t)]) ∧ Below W.heap.size W w') at SG
 generalize byP p t = who at *
 generalize inrP p t = inn at *
 generalize prP p t = op at *
 generalize (atP p t).1 = n at *
 obtain ⟨k1, f1, t1, n1, s1, x1, y1⟩ := n
 replace h7 : k1 = 7 ∨ k1 = 4 := h7
 simp only [nodeA] at *
 have b0 := bZ w (.cells #[.int .i64 0, .int .i64 0, .int .u64 0, .string ⟨#[]⟩, .bool false] LtT)
 have h0 := heap_alloc_new w (.cells #[.int .i64 0, .int .i64 0, .int .u64 0, .string ⟨#[]⟩, .bool false] LtT)
 have b1 := bZ (w.alloc (.cells #[.int .i64 0, .int .i64 0, .int .u64 0, .string ⟨#[]⟩, .bool false] LtT)) (.cells #[.int .i64 0, .int .i64 0, .int .u64 0, .string ⟨#[]⟩, .bool false] LtT)
 have h1 := heap_alloc_new (w.alloc (.cells #[.int .i64 0, .int .i64 0, .int .u64 0, .string ⟨#[]⟩, .bool false] LtT)) (.cells #[.int .i64 0, .int .i64 0, .int .u64 0, .string ⟨#[]⟩, .bool false] LtT)
 have h0' := Hold.below b1 _ _ h0
 rw [World.size_alloc] at h1
 have HB1 := Lib.hid (bmore b0 b1)
 have HZ1 := Lib.hid h0'
 have HL1 := Lib.hid h1
 clear b0 h0 b1 h1 h0'
 go_enter Tryz.func37, Tryz.ntmps37
 go_wp2_with fail
 go_step3
 go_wp2_with fail
 generalize ((w.alloc (.cells #[.int .i64 0, .int .i64 0, .int .u64 0, .string ⟨#[]⟩, .bool false] LtT)).alloc (.cells #[.int .i64 0, .int .i64 0, .int .u64 0, .string ⟨#[]⟩, .bool false] LtT)) = w1 at *
 refine (F1.out _ HB1.out).mono ?_
 rintro e w2 ⟨b2, rfl, u2⟩
 have b3 := bmore u2 (bZ w2 (.cells #[.int .i64 k1, .int .i64 f1, .int .i64 t1, .int .u64 n1, .string s1, .int .i64 x1, .int .i64 y1] NodeT))
 have h3 := heap_alloc_new w2 (.cells #[.int .i64 k1, .int .i64 f1, .int .i64 t1, .int .u64 n1, .string s1, .int .i64 x1, .int .i64 y1] NodeT)
 have HB3 := Lib.hid (bmore HB1.out b3)
 have HZ3 := Lib.hid (Hold.below b3 _ _ HZ1.out)
 have HL3 := Lib.hid (Hold.below b3 _ _ HL1.out)
 have HH3 := Lib.hid h3
 clear u2 b3 h3 F1 HB1 HZ1 HL1
 have hne : w.heap.size ≠ w.heap.size + 1 := by omega
 have c0 := cellB (j := 0) HH3.out rfl
 have h8a : (k1 == 8) = false := by simp; omega
 have h9a : (k1 == 9) = false := by simp; omega
 have HSS := Lib.hid (HS.out h7)
 have hkk : ((k1 == 7) = true) ∨ ((k1 == 7) = false ∧ (k1 == 4) = true) := by
  rcases h7 with rfl | rfl
  ·exact .inl rfl
  ·exact .inr ⟨rfl, rfl⟩
 clear h7 HE HP HS RP
 have c1 := cellB (j := 1) HH3.out rfl
 have c2 := cellB (j := 2) HH3.out rfl
 have c3 := cellB (j := 3) HH3.out rfl
 have c4 := cellB (j := 4) HH3.out rfl
 have c5 := cellB (j := 5) HH3.out rfl
 have c6 := cellB (j := 6) HH3.out rfl
 unfold rdS at HSS
 obtain ⟨dc, ds, hdv, hds⟩ := dl_val (dlP p inn)
 obtain ⟨bc, bs, hbv, hbs⟩ := dl_val (dlP p (bhP p inn))
 obtain ⟨oc, os, ox, hov, hos⟩ := bo_val (boP p (bhP p inn))
 rw [hdv] at DI
 rw [hbv] at DB
 rw [hov] at BB
 have HDS := Lib.hid hds
 have HBS := Lib.hid hbs
 have HOS := Lib.hid hos
 clear hdv hbv hov hds hbs hos
 obtain ⟨m1, m2, m3, m4, m5, m6, m7, m8, m9, m10, m11, m12, m13, m14, m15⟩ := six_apart
 have HNU : Hid (nuP p (bhP p inn) = if ((atP p (bhP p inn)).1.kind == 2) = true then some (atP p (bhP p inn)).1.num else none) := Lib.hid (by unfold nuP; simp only [beq_iff_eq])
 generalize (atP p (bhP p inn)).1.num = nc at *
 generalize ((atP p (bhP p inn)).1.kind == 2) = nf at *
 generalize nuP p (bhP p inn) = nu at *
 generalize dlP p (bhP p inn) = db at *
 generalize boP p (bhP p inn) = bo at *
 generalize dlP p inn = di at *
 generalize bhP p inn = bh at *
 generalize ahP p inn = dd at *
 have HDD := Lib.hid hdd
 clear hdd
 have HM := Lib.hid (And.intro m1 (And.intro m2 (And.intro m3 (And.intro m4 (And.intro m5 (And.intro m6 (And.intro m7 (And.intro m8 (And.intro m9 (And.intro m10 (And.intro m11 (And.intro m12 (And.intro m13 (And.intro m14 m15))))))))))))))
 clear m1 m2 m3 m4 m5 m6 m7 m8 m9 m10 m11 m12 m13 m14 m15
 rcases hkk with hk7 | ⟨hk7, hk4⟩
 all_goals
  go_wp2_with fail
  go_step3
  go_wp2_with fail
  generalize (w2.alloc (.cells #[.int .i64 k1, .int .i64 f1, .int .i64 t1, .int .u64 n1, .string s1, .int .i64 x1, .int .i64 y1] NodeT)) = w3 at *
  refine (SG.out _).mono ?_
  rintro e w4 ⟨rfl, u4⟩
  have HB4 := Lib.hid (bmore HB3.out u4)
  have HZ4 := Lib.hid (Hold.below u4 _ _ HZ3.out)
  have HL4 := Lib.hid (Hold.below u4 _ _ HL3.out)
  clear u4 SG HB3 HZ3 HL3 HH3 c0 c1 c2 c3 c4 c5 c6
  go_wp2_with fail
  refine (SP.out _ HB4.out).mono ?_
  rintro e w5 ⟨rfl, u5⟩
  have HB5 := Lib.hid (bmore HB4.out u5)
  have HZ5 := Lib.hid (Hold.below u5 _ _ HZ4.out)
  have HL5 := Lib.hid (Hold.below u5 _ _ HL4.out)
  clear u5 SP HB4 HZ4 HL4
  go_wp2_with fail
  have hdd : dd = dealS := HDD.out
  clear HDD
  have hkf : kfP dd = 2 := by rw [hdd]; decide
  have HS2 : Hid (rr = ltV (if ptyB who = true then di.map fun x => ⟨2, who, x.1, x.2, false⟩ else none)) := Lib.hid (by
   obtain ⟨m1, m2, m3, m4, m5, m6, m7, m8, m9, m10, m11, m12, m13, m14, m15⟩ := HM.out
   have h := HSS.out
   rw [hdd, if_pos rfl] at h
   exact h)
  rw [hkf] at KO
  clear hkf hdd HSS
  refine (KO.out _ HB5.out).mono ?_
  rintro e w6 ⟨rfl, u6⟩
  have HB6 := Lib.hid (bmore HB5.out u6)
  have HZ6 := Lib.hid (Hold.below u6 _ _ HZ5.out)
  have HL6 := Lib.hid (Hold.below u6 _ _ HL5.out)
  clear u6 KO HB5 HZ5 HL5
  obtain ⟨z0, z1, z2, z3, z4⟩ := cs5 HL6.out rfl rfl rfl rfl rfl
  obtain ⟨zf0, zf1, zf2, zf3, zf4⟩ := fz5 HL6.out
  obtain ⟨y0, y1', y2, y3, y4, y5, y6⟩ := (HLK.out.below HB6.out).at (k := 2) (by omega)
  rw [show kdBy 2 = -3 from rfl] at y2
  clear y0 y1' y3 y4 y5 y6
  cases hpt : ptyB who with
  | false =>
   rw [hpt] at IP
   have HW3 : ((-3 : Int) != who) = true := by have := H3.out; simpa using fun h : -3 = who => this h.symm
   have HS3 := Lib.hid (HS2.out.trans (by rw [if_neg (by rw [hpt]; decide)]))
   clear hpt
   have hz7 := HZ6.out
   have hb7 := HB6.out
   have hl7 : (w6.setCell ⟨w.heap.size + 1, 0, none⟩ (.int .i64 2)).heap[w.heap.size + 1]? = some (Obj.cells #[.int .i64 2, .int .i64 0, .int .u64 0, .string ⟨#[]⟩, .bool false] LtT) := setCellB (j := 0) (u := .int .i64 2) HL6.out
   rw [← heap_other (j := 0) (u := .int .i64 2) hne] at hz7
   replace hb7 := hb7.setCell (p := ⟨w.heap.size + 1, 0, none⟩) (Nat.le_succ _) (.int .i64 2)
   go_upto_region 26 with ((refine (IP.out _).mono ?_); rintro e wq ⟨rfl, rfl⟩)
   have HB7 := Lib.hid hb7
   clear hb7
   generalize (w6.setCell ⟨w.heap.size + 1, 0, none⟩ (.int .i64 2)) = w7 at *
   have HL7 := Lib.hid hl7
   have HZ7 := Lib.hid hz7
   clear hl7 hz7
   clear z0 z1 z2 z3 z4 zf0 zf1 zf2 zf3 zf4
   clear y2
   obtain ⟨tz0, tz1, tz2, tz3, tz4⟩ := cs5 HZ7.out rfl rfl rfl rfl rfl
   obtain ⟨ty0, ty1, ty2, ty3, ty4⟩ := fz5 HZ7.out
   obtain ⟨tl0, tl1, tl2, tl3, tl4⟩ := cs5 HL7.out rfl rfl rfl rfl rfl
   go_wp2_with fail
   have hs5 := set5_at HZ7.out (.int .i64 0) (.int .i64 0) (.int .u64 0) (.string ⟨#[]⟩) (.bool false)
   have hw5 := set5_below HB7.out (Nat.le_refl _) (.int .i64 0) (.int .i64 0) (.int .u64 0) (.string ⟨#[]⟩) (.bool false)
   rw [show set5 w7 w.heap.size (.int .i64 0) (.int .i64 0) (.int .u64 0) (.string ⟨#[]⟩) (.bool false) = ((((w7.setCell ⟨w.heap.size, 0, none⟩ (.int .i64 0)).setCell ⟨w.heap.size, 1, none⟩ (.int .i64 0)).setCell ⟨w.heap.size, 2, none⟩ (.int .u64 0)).setCell ⟨w.heap.size, 3, none⟩ (.string ⟨#[]⟩)).setCell ⟨w.heap.size, 4, none⟩ (.bool false) from rfl] at hs5 hw5
   have HW5 := Lib.hid hw5
   clear hw5
   generalize (((((w7.setCell ⟨w.heap.size, 0, none⟩ (.int .i64 0)).setCell ⟨w.heap.size, 1, none⟩ (.int .i64 0)).setCell ⟨w.heap.size, 2, none⟩ (.int .u64 0)).setCell ⟨w.heap.size, 3, none⟩ (.string ⟨#[]⟩)).setCell ⟨w.heap.size, 4, none⟩ (.bool false)) = w99 at *
   obtain ⟨q0, q1, q2, q3, q4⟩ := cs5 hs5 rfl rfl rfl rfl rfl
   (try rw [Exit.noGoto_ret])
   refine bodyPost_ret (v := .tuple #[.agg #[.int .i64 0, .int .i64 0, .int .u64 0, .string ⟨#[]⟩, .bool false], .bool false]) (by simp [results, Tryz.results37, go_sem, q0, q1, q2, q3, q4]) rfl ⟨by rw [HS3.out]; rfl, HW5.out⟩
  | true =>
   rw [hpt] at IP
   have HS3 := Lib.hid (HS2.out.trans (by rw [if_pos hpt]))
   clear hpt HS2
   have hz7 := HZ6.out
   have hb7 := HB6.out
   have hl7 : (w6.setCell ⟨w.heap.size + 1, 0, none⟩ (.int .i64 2)).heap[w.heap.size + 1]? = some (Obj.cells #[.int .i64 2, .int .i64 0, .int .u64 0, .string ⟨#[]⟩, .bool false] LtT) := setCellB (j := 0) (u := .int .i64 2) HL6.out
   rw [← heap_other (j := 0) (u := .int .i64 2) hne] at hz7
   replace hb7 := hb7.setCell (p := ⟨w.heap.size + 1, 0, none⟩) (Nat.le_succ _) (.int .i64 2)
   have hl7 : ((w6.setCell ⟨w.heap.size + 1, 0, none⟩ (.int .i64 2)).setCell ⟨w.heap.size + 1, 1, none⟩ (.int .i64 who)).heap[w.heap.size + 1]? = some (Obj.cells #[.int .i64 2, .int .i64 who, .int .u64 0, .string ⟨#[]⟩, .bool false] LtT) := setCellB (j := 1) (u := .int .i64 who) hl7
   rw [← heap_other (j := 1) (u := .int .i64 who) hne] at hz7
   replace hb7 := hb7.setCell (p := ⟨w.heap.size + 1, 1, none⟩) (Nat.le_succ _) (.int .i64 who)
   go_upto_region 18 with ((refine (IP.out _).mono ?_); rintro e wq ⟨rfl, rfl⟩)
   have HB7 := Lib.hid hb7
   clear hb7
   generalize ((w6.setCell ⟨w.heap.size + 1, 0, none⟩ (.int .i64 2)).setCell ⟨w.heap.size + 1, 1, none⟩ (.int .i64 who)) = w7 at *
   have HL7 := Lib.hid hl7
   have HZ7 := Lib.hid hz7
   clear hl7 hz7
   clear z0 z1 z2 z3 z4 zf0 zf1 zf2 zf3 zf4
   clear y2 HB6 HZ6 HL6
   obtain ⟨z0, z1, z2, z3, z4⟩ := cs5 HL7.out rfl rfl rfl rfl rfl
   obtain ⟨zf0, zf1, zf2, zf3, zf4⟩ := fz5 HL7.out
   go_wp2_with fail
   refine (DI.out _ HB7.out).mono ?_
   rintro e w8 ⟨rfl, u8⟩
   have HB8 := Lib.hid (bmore HB7.out u8)
   have HZ8 := Lib.hid (Hold.below u8 _ _ HZ7.out)
   have HL8 := Lib.hid (Hold.below u8 _ _ HL7.out)
   clear u8 HB7 HZ7 HL7
   clear z0 z1 z2 z3 z4 zf0 zf1 zf2 zf3 zf4
   obtain ⟨z0, z1, z2, z3, z4⟩ := cs5 HL8.out rfl rfl rfl rfl rfl
   obtain ⟨zf0, zf1, zf2, zf3, zf4⟩ := fz5 HL8.out
   have hz9 := HZ8.out
   have hb9 := HB8.out
   have hl9 : (w8.setCell ⟨w.heap.size + 1, 2, none⟩ (.int .u64 dc)).heap[w.heap.size + 1]? = some (Obj.cells #[.int .i64 2, .int .i64 who, .int .u64 dc, .string ⟨#[]⟩, .bool false] LtT) := setCellB (j := 2) (u := .int .u64 dc) HL8.out
   rw [← heap_other (j := 2) (u := .int .u64 dc) hne] at hz9
   replace hb9 := hb9.setCell (p := ⟨w.heap.size + 1, 2, none⟩) (Nat.le_succ _) (.int .u64 dc)
   have hl9 : ((w8.setCell ⟨w.heap.size + 1, 2, none⟩ (.int .u64 dc)).setCell ⟨w.heap.size + 1, 3, none⟩ (.string ds)).heap[w.heap.size + 1]? = some (Obj.cells #[.int .i64 2, .int .i64 who, .int .u64 dc, .string ds, .bool false] LtT) := setCellB (j := 3) (u := .string ds) hl9
   rw [← heap_other (j := 3) (u := .string ds) hne] at hz9
   replace hb9 := hb9.setCell (p := ⟨w.heap.size + 1, 3, none⟩) (Nat.le_succ _) (.string ds)
   go_upto_region 26 with fail
   have HB9 := Lib.hid hb9
   clear hb9
   generalize ((w8.setCell ⟨w.heap.size + 1, 2, none⟩ (.int .u64 dc)).setCell ⟨w.heap.size + 1, 3, none⟩ (.string ds)) = w9 at *
   have HL9 := Lib.hid hl9
   have HZ9 := Lib.hid hz9
   clear hl9 hz9
   clear z0 z1 z2 z3 z4 zf0 zf1 zf2 zf3 zf4
   clear HB8 HZ8 HL8
   cases hfl : di.isSome with
   | false =>
    have HFL := Lib.hid (none_of hfl)
    clear hfl
    obtain ⟨tz0, tz1, tz2, tz3, tz4⟩ := cs5 HZ9.out rfl rfl rfl rfl rfl
    obtain ⟨ty0, ty1, ty2, ty3, ty4⟩ := fz5 HZ9.out
    obtain ⟨tl0, tl1, tl2, tl3, tl4⟩ := cs5 HL9.out rfl rfl rfl rfl rfl
    go_wp2_with fail
    have hs5 := set5_at HZ9.out (.int .i64 0) (.int .i64 0) (.int .u64 0) (.string ⟨#[]⟩) (.bool false)
    have hw5 := set5_below HB9.out (Nat.le_refl _) (.int .i64 0) (.int .i64 0) (.int .u64 0) (.string ⟨#[]⟩) (.bool false)
    rw [show set5 w9 w.heap.size (.int .i64 0) (.int .i64 0) (.int .u64 0) (.string ⟨#[]⟩) (.bool false) = ((((w9.setCell ⟨w.heap.size, 0, none⟩ (.int .i64 0)).setCell ⟨w.heap.size, 1, none⟩ (.int .i64 0)).setCell ⟨w.heap.size, 2, none⟩ (.int .u64 0)).setCell ⟨w.heap.size, 3, none⟩ (.string ⟨#[]⟩)).setCell ⟨w.heap.size, 4, none⟩ (.bool false) from rfl] at hs5 hw5
    have HW5 := Lib.hid hw5
    clear hw5
    generalize (((((w9.setCell ⟨w.heap.size, 0, none⟩ (.int .i64 0)).setCell ⟨w.heap.size, 1, none⟩ (.int .i64 0)).setCell ⟨w.heap.size, 2, none⟩ (.int .u64 0)).setCell ⟨w.heap.size, 3, none⟩ (.string ⟨#[]⟩)).setCell ⟨w.heap.size, 4, none⟩ (.bool false)) = w99 at *
    obtain ⟨q0, q1, q2, q3, q4⟩ := cs5 hs5 rfl rfl rfl rfl rfl
    (try rw [Exit.noGoto_ret])
    refine bodyPost_ret (v := .tuple #[.agg #[.int .i64 0, .int .i64 0, .int .u64 0, .string ⟨#[]⟩, .bool false], .bool false]) (by simp [results, Tryz.results37, go_sem, q0, q1, q2, q3, q4]) rfl ⟨by rw [HS3.out, HFL.out]; rfl, HW5.out⟩
   | true =>
    have HFL := Lib.hid (HDS.out hfl)
    obtain ⟨tz0, tz1, tz2, tz3, tz4⟩ := cs5 HZ9.out rfl rfl rfl rfl rfl
    obtain ⟨ty0, ty1, ty2, ty3, ty4⟩ := fz5 HZ9.out
    obtain ⟨tl0, tl1, tl2, tl3, tl4⟩ := cs5 HL9.out rfl rfl rfl rfl rfl
    go_wp2_with fail
    have hs5 := set5_at HZ9.out (.int .i64 2) (.int .i64 who) (.int .u64 dc) (.string ds) (.bool false)
    have hw5 := set5_below HB9.out (Nat.le_refl _) (.int .i64 2) (.int .i64 who) (.int .u64 dc) (.string ds) (.bool false)
    rw [show set5 w9 w.heap.size (.int .i64 2) (.int .i64 who) (.int .u64 dc) (.string ds) (.bool false) = ((((w9.setCell ⟨w.heap.size, 0, none⟩ (.int .i64 2)).setCell ⟨w.heap.size, 1, none⟩ (.int .i64 who)).setCell ⟨w.heap.size, 2, none⟩ (.int .u64 dc)).setCell ⟨w.heap.size, 3, none⟩ (.string ds)).setCell ⟨w.heap.size, 4, none⟩ (.bool false) from rfl] at hs5 hw5
    have HW5 := Lib.hid hw5
    clear hw5
    generalize (((((w9.setCell ⟨w.heap.size, 0, none⟩ (.int .i64 2)).setCell ⟨w.heap.size, 1, none⟩ (.int .i64 who)).setCell ⟨w.heap.size, 2, none⟩ (.int .u64 dc)).setCell ⟨w.heap.size, 3, none⟩ (.string ds)).setCell ⟨w.heap.size, 4, none⟩ (.bool false)) = w99 at *
    obtain ⟨q0, q1, q2, q3, q4⟩ := cs5 hs5 rfl rfl rfl rfl rfl
    (try rw [Exit.noGoto_ret])
    refine bodyPost_ret (v := .tuple #[.agg #[.int .i64 2, .int .i64 who, .int .u64 dc, .string ds, .bool false], .bool true]) (by simp [results, Tryz.results37, go_sem, q0, q1, q2, q3, q4]) rfl ⟨by rw [HS3.out, HFL.out]; rfl, HW5.out⟩
set_option maxRecDepth 100000 in
set_option maxHeartbeats 25600000 in
theorem read_3 (h : Nodes w pv p) (hok : Ok p) (hl : LaidK w) (t : Int) (h7 : (atP p t).1.kind = 7 ∨ (atP p t).1.kind = 4) (hdd : ahP p (inrP p t) = abortS) : Calls Tryz.prog 37 #[pv, .int .i64 t] w fun e w' => e = .returned (ltV (rdP p t)) ∧ Below w.heap.size w w' := by
 have HN := Lib.hid h
 have H3 := Lib.hid (by_ne3 hok t)
 have HLK := Lib.hid hl
 have F1 := Lib.hid (fun (W : World) (hb : Below w.heap.size w W) => h W hb t)
 have RP := Lib.hid (fun (W : World) (hb : Below w.heap.size w W) => rprom_any (h.below hb) t)
 have SG := Lib.hid (fun (W : World) => signer_any (atP p t).1 t W)
 have SP := Lib.hid (fun (W : World) (hb : Below w.heap.size w W) => split_any (h.below hb) (inrP p t))
 have KO := Lib.hid (fun (W : World) (hb : Below w.heap.size w W) => kindOf_any (hl.below hb) (ahP p (inrP p t)))
 have IP := Lib.hid (fun W => isParty_any (byP p t) W)
 have DI := Lib.hid (fun (W : World) (hb : Below w.heap.size w W) => readDeal_any (h.below hb) (inrP p t))
 have DB := Lib.hid (fun (W : World) (hb : Below w.heap.size w W) => readDeal_any (h.below hb) (bhP p (inrP p t)))
 have BB := Lib.hid (fun (W : World) (hb : Below w.heap.size w W) => rboth_any (h.below hb) (bhP p (inrP p t)))
 have NB := Lib.hid (fun (W : World) (hb : Below w.heap.size w W) => rnumber_any (h.below hb) (bhP p (inrP p t)))
 obtain ⟨rr, hrr⟩ : ∃ rr, rr = ltV (rdP p t) := ⟨_, rfl⟩
 rw [← hrr]
 have HE := Lib.hid (fun h1 h2 h3 h4 => hrr.trans (congrArg ltV (rd_else (p := p) (t := t) h1 h2 h3 h4)))
 have HP := Lib.hid (fun h1 => hrr.trans (congrArg ltV (rd_prom (p := p) (t := t) h1)))
 have HS := Lib.hid (fun h1 => hrr.trans (congrArg ltV (rd_sign (p := p) (t := t) h1)))
 clear h hl hrr
 change Hid (∀ W : World, Calls _ _ #[_, _] W fun e w' => e = .returned (.tuple #[.int .i64 (byP p t), .int .i64 (inrP p t)]) ∧ Below W.heap.size W w') at SG
 generalize byP p t = who at *
 generalize inrP p t = inn at *
 generalize prP p t = op at *
 generalize (atP p t).1 = n at *
 obtain ⟨k1, f1, t1, n1, s1, x1, y1⟩ := n
 replace h7 : k1 = 7 ∨ k1 = 4 := h7
 simp only [nodeA] at *
 have b0 := bZ w (.cells #[.int .i64 0, .int .i64 0, .int .u64 0, .string ⟨#[]⟩, .bool false] LtT)
 have h0 := heap_alloc_new w (.cells #[.int .i64 0, .int .i64 0, .int .u64 0, .string ⟨#[]⟩, .bool false] LtT)
 have b1 := bZ (w.alloc (.cells #[.int .i64 0, .int .i64 0, .int .u64 0, .string ⟨#[]⟩, .bool false] LtT)) (.cells #[.int .i64 0, .int .i64 0, .int .u64 0, .string ⟨#[]⟩, .bool false] LtT)
 have h1 := heap_alloc_new (w.alloc (.cells #[.int .i64 0, .int .i64 0, .int .u64 0, .string ⟨#[]⟩, .bool false] LtT)) (.cells #[.int .i64 0, .int .i64 0, .int .u64 0, .string ⟨#[]⟩, .bool false] LtT)
 have h0' := Hold.below b1 _ _ h0
 rw [World.size_alloc] at h1
 have HB1 := Lib.hid (bmore b0 b1)
 have HZ1 := Lib.hid h0'
 have HL1 := Lib.hid h1
 clear b0 h0 b1 h1 h0'
 go_enter Tryz.func37, Tryz.ntmps37
 go_wp2_with fail
 go_step3
 go_wp2_with fail
 generalize ((w.alloc (.cells #[.int .i64 0, .int .i64 0, .int .u64 0, .string ⟨#[]⟩, .bool false] LtT)).alloc (.cells #[.int .i64 0, .int .i64 0, .int .u64 0, .string ⟨#[]⟩, .bool false] LtT)) = w1 at *
 refine (F1.out _ HB1.out).mono ?_
 rintro e w2 ⟨b2, rfl, u2⟩
 have b3 := bmore u2 (bZ w2 (.cells #[.int .i64 k1, .int .i64 f1, .int .i64 t1, .int .u64 n1, .string s1, .int .i64 x1, .int .i64 y1] NodeT))
 have h3 := heap_alloc_new w2 (.cells #[.int .i64 k1, .int .i64 f1, .int .i64 t1, .int .u64 n1, .string s1, .int .i64 x1, .int .i64 y1] NodeT)
 have HB3 := Lib.hid (bmore HB1.out b3)
 have HZ3 := Lib.hid (Hold.below b3 _ _ HZ1.out)
 have HL3 := Lib.hid (Hold.below b3 _ _ HL1.out)
 have HH3 := Lib.hid h3
 clear u2 b3 h3 F1 HB1 HZ1 HL1
 have hne : w.heap.size ≠ w.heap.size + 1 := by omega
 have c0 := cellB (j := 0) HH3.out rfl
 have h8a : (k1 == 8) = false := by simp; omega
 have h9a : (k1 == 9) = false := by simp; omega
 have HSS := Lib.hid (HS.out h7)
 have hkk : ((k1 == 7) = true) ∨ ((k1 == 7) = false ∧ (k1 == 4) = true) := by
  rcases h7 with rfl | rfl
  ·exact .inl rfl
  ·exact .inr ⟨rfl, rfl⟩
 clear h7 HE HP HS RP
 have c1 := cellB (j := 1) HH3.out rfl
 have c2 := cellB (j := 2) HH3.out rfl
 have c3 := cellB (j := 3) HH3.out rfl
 have c4 := cellB (j := 4) HH3.out rfl
 have c5 := cellB (j := 5) HH3.out rfl
 have c6 := cellB (j := 6) HH3.out rfl
 unfold rdS at HSS
 obtain ⟨dc, ds, hdv, hds⟩ := dl_val (dlP p inn)
 obtain ⟨bc, bs, hbv, hbs⟩ := dl_val (dlP p (bhP p inn))
 obtain ⟨oc, os, ox, hov, hos⟩ := bo_val (boP p (bhP p inn))
 rw [hdv] at DI
 rw [hbv] at DB
 rw [hov] at BB
 have HDS := Lib.hid hds
 have HBS := Lib.hid hbs
 have HOS := Lib.hid hos
 clear hdv hbv hov hds hbs hos
 obtain ⟨m1, m2, m3, m4, m5, m6, m7, m8, m9, m10, m11, m12, m13, m14, m15⟩ := six_apart
 have HNU : Hid (nuP p (bhP p inn) = if ((atP p (bhP p inn)).1.kind == 2) = true then some (atP p (bhP p inn)).1.num else none) := Lib.hid (by unfold nuP; simp only [beq_iff_eq])
 generalize (atP p (bhP p inn)).1.num = nc at *
 generalize ((atP p (bhP p inn)).1.kind == 2) = nf at *
 generalize nuP p (bhP p inn) = nu at *
 generalize dlP p (bhP p inn) = db at *
 generalize boP p (bhP p inn) = bo at *
 generalize dlP p inn = di at *
 generalize bhP p inn = bh at *
 generalize ahP p inn = dd at *
 have HDD := Lib.hid hdd
 clear hdd
 have HM := Lib.hid (And.intro m1 (And.intro m2 (And.intro m3 (And.intro m4 (And.intro m5 (And.intro m6 (And.intro m7 (And.intro m8 (And.intro m9 (And.intro m10 (And.intro m11 (And.intro m12 (And.intro m13 (And.intro m14 m15))))))))))))))
 clear m1 m2 m3 m4 m5 m6 m7 m8 m9 m10 m11 m12 m13 m14 m15
 rcases hkk with hk7 | ⟨hk7, hk4⟩
 all_goals
  go_wp2_with fail
  go_step3
  go_wp2_with fail
  generalize (w2.alloc (.cells #[.int .i64 k1, .int .i64 f1, .int .i64 t1, .int .u64 n1, .string s1, .int .i64 x1, .int .i64 y1] NodeT)) = w3 at *
  refine (SG.out _).mono ?_
  rintro e w4 ⟨rfl, u4⟩
  have HB4 := Lib.hid (bmore HB3.out u4)
  have HZ4 := Lib.hid (Hold.below u4 _ _ HZ3.out)
  have HL4 := Lib.hid (Hold.below u4 _ _ HL3.out)
  clear u4 SG HB3 HZ3 HL3 HH3 c0 c1 c2 c3 c4 c5 c6
  go_wp2_with fail
  refine (SP.out _ HB4.out).mono ?_
  rintro e w5 ⟨rfl, u5⟩
  have HB5 := Lib.hid (bmore HB4.out u5)
  have HZ5 := Lib.hid (Hold.below u5 _ _ HZ4.out)
  have HL5 := Lib.hid (Hold.below u5 _ _ HL4.out)
  clear u5 SP HB4 HZ4 HL4
  go_wp2_with fail
  have hdd : dd = abortS := HDD.out
  clear HDD
  have hkf : kfP dd = 3 := by rw [hdd]; decide
  have HS2 : Hid (rr = ltV (if who = 0 then nu.map fun x => ⟨3, 0, x, emptyS, false⟩ else none)) := Lib.hid (by
   obtain ⟨m1, m2, m3, m4, m5, m6, m7, m8, m9, m10, m11, m12, m13, m14, m15⟩ := HM.out
   have h := HSS.out
   rw [hdd, if_neg m1, if_pos rfl] at h
   exact h)
  rw [hkf] at KO
  clear hkf hdd HSS
  refine (KO.out _ HB5.out).mono ?_
  rintro e w6 ⟨rfl, u6⟩
  have HB6 := Lib.hid (bmore HB5.out u6)
  have HZ6 := Lib.hid (Hold.below u6 _ _ HZ5.out)
  have HL6 := Lib.hid (Hold.below u6 _ _ HL5.out)
  clear u6 KO HB5 HZ5 HL5
  obtain ⟨z0, z1, z2, z3, z4⟩ := cs5 HL6.out rfl rfl rfl rfl rfl
  obtain ⟨zf0, zf1, zf2, zf3, zf4⟩ := fz5 HL6.out
  obtain ⟨y0, y1', y2, y3, y4, y5, y6⟩ := (HLK.out.below HB6.out).at (k := 3) (by omega)
  rw [show kdBy 3 = 0 from rfl] at y2
  clear y0 y1' y3 y4 y5 y6
  by_cases hwh : who = 0
  case neg =>
   have hwb : ((0 : Int) != who) = true := by simpa using fun h : (0 : Int) = who => hwh h.symm
   have HS3 := Lib.hid (HS2.out.trans (by rw [if_neg hwh]))
   clear hwh
   have hz7 := HZ6.out
   have hb7 := HB6.out
   have hl7 : (w6.setCell ⟨w.heap.size + 1, 0, none⟩ (.int .i64 3)).heap[w.heap.size + 1]? = some (Obj.cells #[.int .i64 3, .int .i64 0, .int .u64 0, .string ⟨#[]⟩, .bool false] LtT) := setCellB (j := 0) (u := .int .i64 3) HL6.out
   rw [← heap_other (j := 0) (u := .int .i64 3) hne] at hz7
   replace hb7 := hb7.setCell (p := ⟨w.heap.size + 1, 0, none⟩) (Nat.le_succ _) (.int .i64 3)
   go_upto_region 26 with fail
   have HB7 := Lib.hid hb7
   clear hb7
   generalize (w6.setCell ⟨w.heap.size + 1, 0, none⟩ (.int .i64 3)) = w7 at *
   have HL7 := Lib.hid hl7
   have HZ7 := Lib.hid hz7
   clear hl7 hz7
   clear z0 z1 z2 z3 z4 zf0 zf1 zf2 zf3 zf4
   clear y2
   obtain ⟨tz0, tz1, tz2, tz3, tz4⟩ := cs5 HZ7.out rfl rfl rfl rfl rfl
   obtain ⟨ty0, ty1, ty2, ty3, ty4⟩ := fz5 HZ7.out
   obtain ⟨tl0, tl1, tl2, tl3, tl4⟩ := cs5 HL7.out rfl rfl rfl rfl rfl
   go_wp2_with fail
   have hs5 := set5_at HZ7.out (.int .i64 0) (.int .i64 0) (.int .u64 0) (.string ⟨#[]⟩) (.bool false)
   have hw5 := set5_below HB7.out (Nat.le_refl _) (.int .i64 0) (.int .i64 0) (.int .u64 0) (.string ⟨#[]⟩) (.bool false)
   rw [show set5 w7 w.heap.size (.int .i64 0) (.int .i64 0) (.int .u64 0) (.string ⟨#[]⟩) (.bool false) = ((((w7.setCell ⟨w.heap.size, 0, none⟩ (.int .i64 0)).setCell ⟨w.heap.size, 1, none⟩ (.int .i64 0)).setCell ⟨w.heap.size, 2, none⟩ (.int .u64 0)).setCell ⟨w.heap.size, 3, none⟩ (.string ⟨#[]⟩)).setCell ⟨w.heap.size, 4, none⟩ (.bool false) from rfl] at hs5 hw5
   have HW5 := Lib.hid hw5
   clear hw5
   generalize (((((w7.setCell ⟨w.heap.size, 0, none⟩ (.int .i64 0)).setCell ⟨w.heap.size, 1, none⟩ (.int .i64 0)).setCell ⟨w.heap.size, 2, none⟩ (.int .u64 0)).setCell ⟨w.heap.size, 3, none⟩ (.string ⟨#[]⟩)).setCell ⟨w.heap.size, 4, none⟩ (.bool false)) = w99 at *
   obtain ⟨q0, q1, q2, q3, q4⟩ := cs5 hs5 rfl rfl rfl rfl rfl
   (try rw [Exit.noGoto_ret])
   refine bodyPost_ret (v := .tuple #[.agg #[.int .i64 0, .int .i64 0, .int .u64 0, .string ⟨#[]⟩, .bool false], .bool false]) (by simp [results, Tryz.results37, go_sem, q0, q1, q2, q3, q4]) rfl ⟨by rw [HS3.out]; rfl, HW5.out⟩
  have hwb : ((0 : Int) != who) = false := by rw [hwh]; rfl
  have HS3 := Lib.hid (HS2.out.trans (by rw [if_pos hwh]))
  clear hwh HS2
  have hz7 := HZ6.out
  have hb7 := HB6.out
  have hl7 : (w6.setCell ⟨w.heap.size + 1, 0, none⟩ (.int .i64 3)).heap[w.heap.size + 1]? = some (Obj.cells #[.int .i64 3, .int .i64 0, .int .u64 0, .string ⟨#[]⟩, .bool false] LtT) := setCellB (j := 0) (u := .int .i64 3) HL6.out
  rw [← heap_other (j := 0) (u := .int .i64 3) hne] at hz7
  replace hb7 := hb7.setCell (p := ⟨w.heap.size + 1, 0, none⟩) (Nat.le_succ _) (.int .i64 3)
  go_upto_region 18 with fail
  have HB7 := Lib.hid hb7
  clear hb7
  generalize (w6.setCell ⟨w.heap.size + 1, 0, none⟩ (.int .i64 3)) = w7 at *
  have HL7 := Lib.hid hl7
  have HZ7 := Lib.hid hz7
  clear hl7 hz7
  clear z0 z1 z2 z3 z4 zf0 zf1 zf2 zf3 zf4
  clear y2 HB6 HZ6 HL6
  obtain ⟨z0, z1, z2, z3, z4⟩ := cs5 HL7.out rfl rfl rfl rfl rfl
  obtain ⟨zf0, zf1, zf2, zf3, zf4⟩ := fz5 HL7.out
  go_wp2_with fail
  refine (NB.out _ HB7.out).mono ?_
  rintro e w8 ⟨rfl, u8⟩
  have HB8 := Lib.hid (bmore HB7.out u8)
  have HZ8 := Lib.hid (Hold.below u8 _ _ HZ7.out)
  have HL8 := Lib.hid (Hold.below u8 _ _ HL7.out)
  clear u8 HB7 HZ7 HL7
  clear z0 z1 z2 z3 z4 zf0 zf1 zf2 zf3 zf4
  obtain ⟨z0, z1, z2, z3, z4⟩ := cs5 HL8.out rfl rfl rfl rfl rfl
  obtain ⟨zf0, zf1, zf2, zf3, zf4⟩ := fz5 HL8.out
  have hz9 := HZ8.out
  have hb9 := HB8.out
  have hl9 : (w8.setCell ⟨w.heap.size + 1, 2, none⟩ (.int .u64 nc)).heap[w.heap.size + 1]? = some (Obj.cells #[.int .i64 3, .int .i64 0, .int .u64 nc, .string ⟨#[]⟩, .bool false] LtT) := setCellB (j := 2) (u := .int .u64 nc) HL8.out
  rw [← heap_other (j := 2) (u := .int .u64 nc) hne] at hz9
  replace hb9 := hb9.setCell (p := ⟨w.heap.size + 1, 2, none⟩) (Nat.le_succ _) (.int .u64 nc)
  go_upto_region 26 with fail
  have HB9 := Lib.hid hb9
  clear hb9
  generalize (w8.setCell ⟨w.heap.size + 1, 2, none⟩ (.int .u64 nc)) = w9 at *
  have HL9 := Lib.hid hl9
  have HZ9 := Lib.hid hz9
  clear hl9 hz9
  clear z0 z1 z2 z3 z4 zf0 zf1 zf2 zf3 zf4
  clear HB8 HZ8 HL8
  cases nf with
  | false =>
   obtain ⟨tz0, tz1, tz2, tz3, tz4⟩ := cs5 HZ9.out rfl rfl rfl rfl rfl
   obtain ⟨ty0, ty1, ty2, ty3, ty4⟩ := fz5 HZ9.out
   obtain ⟨tl0, tl1, tl2, tl3, tl4⟩ := cs5 HL9.out rfl rfl rfl rfl rfl
   go_wp2_with fail
   have hs5 := set5_at HZ9.out (.int .i64 0) (.int .i64 0) (.int .u64 0) (.string ⟨#[]⟩) (.bool false)
   have hw5 := set5_below HB9.out (Nat.le_refl _) (.int .i64 0) (.int .i64 0) (.int .u64 0) (.string ⟨#[]⟩) (.bool false)
   rw [show set5 w9 w.heap.size (.int .i64 0) (.int .i64 0) (.int .u64 0) (.string ⟨#[]⟩) (.bool false) = ((((w9.setCell ⟨w.heap.size, 0, none⟩ (.int .i64 0)).setCell ⟨w.heap.size, 1, none⟩ (.int .i64 0)).setCell ⟨w.heap.size, 2, none⟩ (.int .u64 0)).setCell ⟨w.heap.size, 3, none⟩ (.string ⟨#[]⟩)).setCell ⟨w.heap.size, 4, none⟩ (.bool false) from rfl] at hs5 hw5
   have HW5 := Lib.hid hw5
   clear hw5
   generalize (((((w9.setCell ⟨w.heap.size, 0, none⟩ (.int .i64 0)).setCell ⟨w.heap.size, 1, none⟩ (.int .i64 0)).setCell ⟨w.heap.size, 2, none⟩ (.int .u64 0)).setCell ⟨w.heap.size, 3, none⟩ (.string ⟨#[]⟩)).setCell ⟨w.heap.size, 4, none⟩ (.bool false)) = w99 at *
   obtain ⟨q0, q1, q2, q3, q4⟩ := cs5 hs5 rfl rfl rfl rfl rfl
   (try rw [Exit.noGoto_ret])
   refine bodyPost_ret (v := .tuple #[.agg #[.int .i64 0, .int .i64 0, .int .u64 0, .string ⟨#[]⟩, .bool false], .bool false]) (by simp [results, Tryz.results37, go_sem, q0, q1, q2, q3, q4]) rfl ⟨by rw [HS3.out, HNU.out]; rfl, HW5.out⟩
  | true =>
   obtain ⟨tz0, tz1, tz2, tz3, tz4⟩ := cs5 HZ9.out rfl rfl rfl rfl rfl
   obtain ⟨ty0, ty1, ty2, ty3, ty4⟩ := fz5 HZ9.out
   obtain ⟨tl0, tl1, tl2, tl3, tl4⟩ := cs5 HL9.out rfl rfl rfl rfl rfl
   go_wp2_with fail
   have hs5 := set5_at HZ9.out (.int .i64 3) (.int .i64 0) (.int .u64 nc) (.string ⟨#[]⟩) (.bool false)
   have hw5 := set5_below HB9.out (Nat.le_refl _) (.int .i64 3) (.int .i64 0) (.int .u64 nc) (.string ⟨#[]⟩) (.bool false)
   rw [show set5 w9 w.heap.size (.int .i64 3) (.int .i64 0) (.int .u64 nc) (.string ⟨#[]⟩) (.bool false) = ((((w9.setCell ⟨w.heap.size, 0, none⟩ (.int .i64 3)).setCell ⟨w.heap.size, 1, none⟩ (.int .i64 0)).setCell ⟨w.heap.size, 2, none⟩ (.int .u64 nc)).setCell ⟨w.heap.size, 3, none⟩ (.string ⟨#[]⟩)).setCell ⟨w.heap.size, 4, none⟩ (.bool false) from rfl] at hs5 hw5
   have HW5 := Lib.hid hw5
   clear hw5
   generalize (((((w9.setCell ⟨w.heap.size, 0, none⟩ (.int .i64 3)).setCell ⟨w.heap.size, 1, none⟩ (.int .i64 0)).setCell ⟨w.heap.size, 2, none⟩ (.int .u64 nc)).setCell ⟨w.heap.size, 3, none⟩ (.string ⟨#[]⟩)).setCell ⟨w.heap.size, 4, none⟩ (.bool false)) = w99 at *
   obtain ⟨q0, q1, q2, q3, q4⟩ := cs5 hs5 rfl rfl rfl rfl rfl
   (try rw [Exit.noGoto_ret])
   refine bodyPost_ret (v := .tuple #[.agg #[.int .i64 3, .int .i64 0, .int .u64 nc, .string ⟨#[]⟩, .bool false], .bool true]) (by simp [results, Tryz.results37, go_sem, q0, q1, q2, q3, q4]) rfl ⟨by rw [HS3.out, HNU.out]; rfl, HW5.out⟩
set_option maxRecDepth 100000 in
set_option maxHeartbeats 25600000 in
theorem read_4 (h : Nodes w pv p) (hok : Ok p) (hl : LaidK w) (t : Int) (h7 : (atP p t).1.kind = 7 ∨ (atP p t).1.kind = 4) (hdd : ahP p (inrP p t) = resolveS) : Calls Tryz.prog 37 #[pv, .int .i64 t] w fun e w' => e = .returned (ltV (rdP p t)) ∧ Below w.heap.size w w' := by
 have HN := Lib.hid h
 have H3 := Lib.hid (by_ne3 hok t)
 have HLK := Lib.hid hl
 have F1 := Lib.hid (fun (W : World) (hb : Below w.heap.size w W) => h W hb t)
 have RP := Lib.hid (fun (W : World) (hb : Below w.heap.size w W) => rprom_any (h.below hb) t)
 have SG := Lib.hid (fun (W : World) => signer_any (atP p t).1 t W)
 have SP := Lib.hid (fun (W : World) (hb : Below w.heap.size w W) => split_any (h.below hb) (inrP p t))
 have KO := Lib.hid (fun (W : World) (hb : Below w.heap.size w W) => kindOf_any (hl.below hb) (ahP p (inrP p t)))
 have IP := Lib.hid (fun W => isParty_any (byP p t) W)
 have DI := Lib.hid (fun (W : World) (hb : Below w.heap.size w W) => readDeal_any (h.below hb) (inrP p t))
 have DB := Lib.hid (fun (W : World) (hb : Below w.heap.size w W) => readDeal_any (h.below hb) (bhP p (inrP p t)))
 have BB := Lib.hid (fun (W : World) (hb : Below w.heap.size w W) => rboth_any (h.below hb) (bhP p (inrP p t)))
 have NB := Lib.hid (fun (W : World) (hb : Below w.heap.size w W) => rnumber_any (h.below hb) (bhP p (inrP p t)))
 obtain ⟨rr, hrr⟩ : ∃ rr, rr = ltV (rdP p t) := ⟨_, rfl⟩
 rw [← hrr]
 have HE := Lib.hid (fun h1 h2 h3 h4 => hrr.trans (congrArg ltV (rd_else (p := p) (t := t) h1 h2 h3 h4)))
 have HP := Lib.hid (fun h1 => hrr.trans (congrArg ltV (rd_prom (p := p) (t := t) h1)))
 have HS := Lib.hid (fun h1 => hrr.trans (congrArg ltV (rd_sign (p := p) (t := t) h1)))
 clear h hl hrr
 change Hid (∀ W : World, Calls _ _ #[_, _] W fun e w' => e = .returned (.tuple #[.int .i64 (byP p t), .int .i64 (inrP p t)]) ∧ Below W.heap.size W w') at SG
 generalize byP p t = who at *
 generalize inrP p t = inn at *
 generalize prP p t = op at *
 generalize (atP p t).1 = n at *
 obtain ⟨k1, f1, t1, n1, s1, x1, y1⟩ := n
 replace h7 : k1 = 7 ∨ k1 = 4 := h7
 simp only [nodeA] at *
 have b0 := bZ w (.cells #[.int .i64 0, .int .i64 0, .int .u64 0, .string ⟨#[]⟩, .bool false] LtT)
 have h0 := heap_alloc_new w (.cells #[.int .i64 0, .int .i64 0, .int .u64 0, .string ⟨#[]⟩, .bool false] LtT)
 have b1 := bZ (w.alloc (.cells #[.int .i64 0, .int .i64 0, .int .u64 0, .string ⟨#[]⟩, .bool false] LtT)) (.cells #[.int .i64 0, .int .i64 0, .int .u64 0, .string ⟨#[]⟩, .bool false] LtT)
 have h1 := heap_alloc_new (w.alloc (.cells #[.int .i64 0, .int .i64 0, .int .u64 0, .string ⟨#[]⟩, .bool false] LtT)) (.cells #[.int .i64 0, .int .i64 0, .int .u64 0, .string ⟨#[]⟩, .bool false] LtT)
 have h0' := Hold.below b1 _ _ h0
 rw [World.size_alloc] at h1
 have HB1 := Lib.hid (bmore b0 b1)
 have HZ1 := Lib.hid h0'
 have HL1 := Lib.hid h1
 clear b0 h0 b1 h1 h0'
 go_enter Tryz.func37, Tryz.ntmps37
 go_wp2_with fail
 go_step3
 go_wp2_with fail
 generalize ((w.alloc (.cells #[.int .i64 0, .int .i64 0, .int .u64 0, .string ⟨#[]⟩, .bool false] LtT)).alloc (.cells #[.int .i64 0, .int .i64 0, .int .u64 0, .string ⟨#[]⟩, .bool false] LtT)) = w1 at *
 refine (F1.out _ HB1.out).mono ?_
 rintro e w2 ⟨b2, rfl, u2⟩
 have b3 := bmore u2 (bZ w2 (.cells #[.int .i64 k1, .int .i64 f1, .int .i64 t1, .int .u64 n1, .string s1, .int .i64 x1, .int .i64 y1] NodeT))
 have h3 := heap_alloc_new w2 (.cells #[.int .i64 k1, .int .i64 f1, .int .i64 t1, .int .u64 n1, .string s1, .int .i64 x1, .int .i64 y1] NodeT)
 have HB3 := Lib.hid (bmore HB1.out b3)
 have HZ3 := Lib.hid (Hold.below b3 _ _ HZ1.out)
 have HL3 := Lib.hid (Hold.below b3 _ _ HL1.out)
 have HH3 := Lib.hid h3
 clear u2 b3 h3 F1 HB1 HZ1 HL1
 have hne : w.heap.size ≠ w.heap.size + 1 := by omega
 have c0 := cellB (j := 0) HH3.out rfl
 have h8a : (k1 == 8) = false := by simp; omega
 have h9a : (k1 == 9) = false := by simp; omega
 have HSS := Lib.hid (HS.out h7)
 have hkk : ((k1 == 7) = true) ∨ ((k1 == 7) = false ∧ (k1 == 4) = true) := by
  rcases h7 with rfl | rfl
  ·exact .inl rfl
  ·exact .inr ⟨rfl, rfl⟩
 clear h7 HE HP HS RP
 have c1 := cellB (j := 1) HH3.out rfl
 have c2 := cellB (j := 2) HH3.out rfl
 have c3 := cellB (j := 3) HH3.out rfl
 have c4 := cellB (j := 4) HH3.out rfl
 have c5 := cellB (j := 5) HH3.out rfl
 have c6 := cellB (j := 6) HH3.out rfl
 unfold rdS at HSS
 obtain ⟨dc, ds, hdv, hds⟩ := dl_val (dlP p inn)
 obtain ⟨bc, bs, hbv, hbs⟩ := dl_val (dlP p (bhP p inn))
 obtain ⟨oc, os, ox, hov, hos⟩ := bo_val (boP p (bhP p inn))
 rw [hdv] at DI
 rw [hbv] at DB
 rw [hov] at BB
 have HDS := Lib.hid hds
 have HBS := Lib.hid hbs
 have HOS := Lib.hid hos
 clear hdv hbv hov hds hbs hos
 obtain ⟨m1, m2, m3, m4, m5, m6, m7, m8, m9, m10, m11, m12, m13, m14, m15⟩ := six_apart
 have HNU : Hid (nuP p (bhP p inn) = if ((atP p (bhP p inn)).1.kind == 2) = true then some (atP p (bhP p inn)).1.num else none) := Lib.hid (by unfold nuP; simp only [beq_iff_eq])
 generalize (atP p (bhP p inn)).1.num = nc at *
 generalize ((atP p (bhP p inn)).1.kind == 2) = nf at *
 generalize nuP p (bhP p inn) = nu at *
 generalize dlP p (bhP p inn) = db at *
 generalize boP p (bhP p inn) = bo at *
 generalize dlP p inn = di at *
 generalize bhP p inn = bh at *
 generalize ahP p inn = dd at *
 have HDD := Lib.hid hdd
 clear hdd
 have HM := Lib.hid (And.intro m1 (And.intro m2 (And.intro m3 (And.intro m4 (And.intro m5 (And.intro m6 (And.intro m7 (And.intro m8 (And.intro m9 (And.intro m10 (And.intro m11 (And.intro m12 (And.intro m13 (And.intro m14 m15))))))))))))))
 clear m1 m2 m3 m4 m5 m6 m7 m8 m9 m10 m11 m12 m13 m14 m15
 rcases hkk with hk7 | ⟨hk7, hk4⟩
 all_goals
  go_wp2_with fail
  go_step3
  go_wp2_with fail
  generalize (w2.alloc (.cells #[.int .i64 k1, .int .i64 f1, .int .i64 t1, .int .u64 n1, .string s1, .int .i64 x1, .int .i64 y1] NodeT)) = w3 at *
  refine (SG.out _).mono ?_
  rintro e w4 ⟨rfl, u4⟩
  have HB4 := Lib.hid (bmore HB3.out u4)
  have HZ4 := Lib.hid (Hold.below u4 _ _ HZ3.out)
  have HL4 := Lib.hid (Hold.below u4 _ _ HL3.out)
  clear u4 SG HB3 HZ3 HL3 HH3 c0 c1 c2 c3 c4 c5 c6
  go_wp2_with fail
  refine (SP.out _ HB4.out).mono ?_
  rintro e w5 ⟨rfl, u5⟩
  have HB5 := Lib.hid (bmore HB4.out u5)
  have HZ5 := Lib.hid (Hold.below u5 _ _ HZ4.out)
  have HL5 := Lib.hid (Hold.below u5 _ _ HL4.out)
  clear u5 SP HB4 HZ4 HL4
  go_wp2_with fail
  have hdd : dd = resolveS := HDD.out
  clear HDD
  have hkf : kfP dd = 4 := by rw [hdd]; decide
  have HS2 : Hid (rr = ltV (if ptyB who = true then bo.map fun x => ⟨4, who, x.1, x.2.1, x.2.2⟩ else none)) := Lib.hid (by
   obtain ⟨m1, m2, m3, m4, m5, m6, m7, m8, m9, m10, m11, m12, m13, m14, m15⟩ := HM.out
   have h := HSS.out
   rw [hdd, if_neg m2, if_neg m3, if_pos rfl] at h
   exact h)
  rw [hkf] at KO
  clear hkf hdd HSS
  refine (KO.out _ HB5.out).mono ?_
  rintro e w6 ⟨rfl, u6⟩
  have HB6 := Lib.hid (bmore HB5.out u6)
  have HZ6 := Lib.hid (Hold.below u6 _ _ HZ5.out)
  have HL6 := Lib.hid (Hold.below u6 _ _ HL5.out)
  clear u6 KO HB5 HZ5 HL5
  obtain ⟨z0, z1, z2, z3, z4⟩ := cs5 HL6.out rfl rfl rfl rfl rfl
  obtain ⟨zf0, zf1, zf2, zf3, zf4⟩ := fz5 HL6.out
  obtain ⟨y0, y1', y2, y3, y4, y5, y6⟩ := (HLK.out.below HB6.out).at (k := 4) (by omega)
  rw [show kdBy 4 = -3 from rfl] at y2
  clear y0 y1' y3 y4 y5 y6
  cases hpt : ptyB who with
  | false =>
   rw [hpt] at IP
   have HW3 : ((-3 : Int) != who) = true := by have := H3.out; simpa using fun h : -3 = who => this h.symm
   have HS3 := Lib.hid (HS2.out.trans (by rw [if_neg (by rw [hpt]; decide)]))
   clear hpt
   have hz7 := HZ6.out
   have hb7 := HB6.out
   have hl7 : (w6.setCell ⟨w.heap.size + 1, 0, none⟩ (.int .i64 4)).heap[w.heap.size + 1]? = some (Obj.cells #[.int .i64 4, .int .i64 0, .int .u64 0, .string ⟨#[]⟩, .bool false] LtT) := setCellB (j := 0) (u := .int .i64 4) HL6.out
   rw [← heap_other (j := 0) (u := .int .i64 4) hne] at hz7
   replace hb7 := hb7.setCell (p := ⟨w.heap.size + 1, 0, none⟩) (Nat.le_succ _) (.int .i64 4)
   go_upto_region 26 with ((refine (IP.out _).mono ?_); rintro e wq ⟨rfl, rfl⟩)
   have HB7 := Lib.hid hb7
   clear hb7
   generalize (w6.setCell ⟨w.heap.size + 1, 0, none⟩ (.int .i64 4)) = w7 at *
   have HL7 := Lib.hid hl7
   have HZ7 := Lib.hid hz7
   clear hl7 hz7
   clear z0 z1 z2 z3 z4 zf0 zf1 zf2 zf3 zf4
   clear y2
   obtain ⟨tz0, tz1, tz2, tz3, tz4⟩ := cs5 HZ7.out rfl rfl rfl rfl rfl
   obtain ⟨ty0, ty1, ty2, ty3, ty4⟩ := fz5 HZ7.out
   obtain ⟨tl0, tl1, tl2, tl3, tl4⟩ := cs5 HL7.out rfl rfl rfl rfl rfl
   go_wp2_with fail
   have hs5 := set5_at HZ7.out (.int .i64 0) (.int .i64 0) (.int .u64 0) (.string ⟨#[]⟩) (.bool false)
   have hw5 := set5_below HB7.out (Nat.le_refl _) (.int .i64 0) (.int .i64 0) (.int .u64 0) (.string ⟨#[]⟩) (.bool false)
   rw [show set5 w7 w.heap.size (.int .i64 0) (.int .i64 0) (.int .u64 0) (.string ⟨#[]⟩) (.bool false) = ((((w7.setCell ⟨w.heap.size, 0, none⟩ (.int .i64 0)).setCell ⟨w.heap.size, 1, none⟩ (.int .i64 0)).setCell ⟨w.heap.size, 2, none⟩ (.int .u64 0)).setCell ⟨w.heap.size, 3, none⟩ (.string ⟨#[]⟩)).setCell ⟨w.heap.size, 4, none⟩ (.bool false) from rfl] at hs5 hw5
   have HW5 := Lib.hid hw5
   clear hw5
   generalize (((((w7.setCell ⟨w.heap.size, 0, none⟩ (.int .i64 0)).setCell ⟨w.heap.size, 1, none⟩ (.int .i64 0)).setCell ⟨w.heap.size, 2, none⟩ (.int .u64 0)).setCell ⟨w.heap.size, 3, none⟩ (.string ⟨#[]⟩)).setCell ⟨w.heap.size, 4, none⟩ (.bool false)) = w99 at *
   obtain ⟨q0, q1, q2, q3, q4⟩ := cs5 hs5 rfl rfl rfl rfl rfl
   (try rw [Exit.noGoto_ret])
   refine bodyPost_ret (v := .tuple #[.agg #[.int .i64 0, .int .i64 0, .int .u64 0, .string ⟨#[]⟩, .bool false], .bool false]) (by simp [results, Tryz.results37, go_sem, q0, q1, q2, q3, q4]) rfl ⟨by rw [HS3.out]; rfl, HW5.out⟩
  | true =>
   rw [hpt] at IP
   have HS3 := Lib.hid (HS2.out.trans (by rw [if_pos hpt]))
   clear hpt HS2
   have hz7 := HZ6.out
   have hb7 := HB6.out
   have hl7 : (w6.setCell ⟨w.heap.size + 1, 0, none⟩ (.int .i64 4)).heap[w.heap.size + 1]? = some (Obj.cells #[.int .i64 4, .int .i64 0, .int .u64 0, .string ⟨#[]⟩, .bool false] LtT) := setCellB (j := 0) (u := .int .i64 4) HL6.out
   rw [← heap_other (j := 0) (u := .int .i64 4) hne] at hz7
   replace hb7 := hb7.setCell (p := ⟨w.heap.size + 1, 0, none⟩) (Nat.le_succ _) (.int .i64 4)
   have hl7 : ((w6.setCell ⟨w.heap.size + 1, 0, none⟩ (.int .i64 4)).setCell ⟨w.heap.size + 1, 1, none⟩ (.int .i64 who)).heap[w.heap.size + 1]? = some (Obj.cells #[.int .i64 4, .int .i64 who, .int .u64 0, .string ⟨#[]⟩, .bool false] LtT) := setCellB (j := 1) (u := .int .i64 who) hl7
   rw [← heap_other (j := 1) (u := .int .i64 who) hne] at hz7
   replace hb7 := hb7.setCell (p := ⟨w.heap.size + 1, 1, none⟩) (Nat.le_succ _) (.int .i64 who)
   go_upto_region 18 with ((refine (IP.out _).mono ?_); rintro e wq ⟨rfl, rfl⟩)
   have HB7 := Lib.hid hb7
   clear hb7
   generalize ((w6.setCell ⟨w.heap.size + 1, 0, none⟩ (.int .i64 4)).setCell ⟨w.heap.size + 1, 1, none⟩ (.int .i64 who)) = w7 at *
   have HL7 := Lib.hid hl7
   have HZ7 := Lib.hid hz7
   clear hl7 hz7
   clear z0 z1 z2 z3 z4 zf0 zf1 zf2 zf3 zf4
   clear y2 HB6 HZ6 HL6
   obtain ⟨z0, z1, z2, z3, z4⟩ := cs5 HL7.out rfl rfl rfl rfl rfl
   obtain ⟨zf0, zf1, zf2, zf3, zf4⟩ := fz5 HL7.out
   go_wp2_with fail
   refine (BB.out _ HB7.out).mono ?_
   rintro e w8 ⟨rfl, u8⟩
   have HB8 := Lib.hid (bmore HB7.out u8)
   have HZ8 := Lib.hid (Hold.below u8 _ _ HZ7.out)
   have HL8 := Lib.hid (Hold.below u8 _ _ HL7.out)
   clear u8 HB7 HZ7 HL7
   clear z0 z1 z2 z3 z4 zf0 zf1 zf2 zf3 zf4
   obtain ⟨z0, z1, z2, z3, z4⟩ := cs5 HL8.out rfl rfl rfl rfl rfl
   obtain ⟨zf0, zf1, zf2, zf3, zf4⟩ := fz5 HL8.out
   have hz9 := HZ8.out
   have hb9 := HB8.out
   have hl9 : (w8.setCell ⟨w.heap.size + 1, 2, none⟩ (.int .u64 oc)).heap[w.heap.size + 1]? = some (Obj.cells #[.int .i64 4, .int .i64 who, .int .u64 oc, .string ⟨#[]⟩, .bool false] LtT) := setCellB (j := 2) (u := .int .u64 oc) HL8.out
   rw [← heap_other (j := 2) (u := .int .u64 oc) hne] at hz9
   replace hb9 := hb9.setCell (p := ⟨w.heap.size + 1, 2, none⟩) (Nat.le_succ _) (.int .u64 oc)
   have hl9 : ((w8.setCell ⟨w.heap.size + 1, 2, none⟩ (.int .u64 oc)).setCell ⟨w.heap.size + 1, 3, none⟩ (.string os)).heap[w.heap.size + 1]? = some (Obj.cells #[.int .i64 4, .int .i64 who, .int .u64 oc, .string os, .bool false] LtT) := setCellB (j := 3) (u := .string os) hl9
   rw [← heap_other (j := 3) (u := .string os) hne] at hz9
   replace hb9 := hb9.setCell (p := ⟨w.heap.size + 1, 3, none⟩) (Nat.le_succ _) (.string os)
   have hl9 : (((w8.setCell ⟨w.heap.size + 1, 2, none⟩ (.int .u64 oc)).setCell ⟨w.heap.size + 1, 3, none⟩ (.string os)).setCell ⟨w.heap.size + 1, 4, none⟩ (.bool ox)).heap[w.heap.size + 1]? = some (Obj.cells #[.int .i64 4, .int .i64 who, .int .u64 oc, .string os, .bool ox] LtT) := setCellB (j := 4) (u := .bool ox) hl9
   rw [← heap_other (j := 4) (u := .bool ox) hne] at hz9
   replace hb9 := hb9.setCell (p := ⟨w.heap.size + 1, 4, none⟩) (Nat.le_succ _) (.bool ox)
   go_upto_region 26 with fail
   have HB9 := Lib.hid hb9
   clear hb9
   generalize (((w8.setCell ⟨w.heap.size + 1, 2, none⟩ (.int .u64 oc)).setCell ⟨w.heap.size + 1, 3, none⟩ (.string os)).setCell ⟨w.heap.size + 1, 4, none⟩ (.bool ox)) = w9 at *
   have HL9 := Lib.hid hl9
   have HZ9 := Lib.hid hz9
   clear hl9 hz9
   clear z0 z1 z2 z3 z4 zf0 zf1 zf2 zf3 zf4
   clear HB8 HZ8 HL8
   cases hfl : bo.isSome with
   | false =>
    have HFL := Lib.hid (none_of hfl)
    clear hfl
    obtain ⟨tz0, tz1, tz2, tz3, tz4⟩ := cs5 HZ9.out rfl rfl rfl rfl rfl
    obtain ⟨ty0, ty1, ty2, ty3, ty4⟩ := fz5 HZ9.out
    obtain ⟨tl0, tl1, tl2, tl3, tl4⟩ := cs5 HL9.out rfl rfl rfl rfl rfl
    go_wp2_with fail
    have hs5 := set5_at HZ9.out (.int .i64 0) (.int .i64 0) (.int .u64 0) (.string ⟨#[]⟩) (.bool false)
    have hw5 := set5_below HB9.out (Nat.le_refl _) (.int .i64 0) (.int .i64 0) (.int .u64 0) (.string ⟨#[]⟩) (.bool false)
    rw [show set5 w9 w.heap.size (.int .i64 0) (.int .i64 0) (.int .u64 0) (.string ⟨#[]⟩) (.bool false) = ((((w9.setCell ⟨w.heap.size, 0, none⟩ (.int .i64 0)).setCell ⟨w.heap.size, 1, none⟩ (.int .i64 0)).setCell ⟨w.heap.size, 2, none⟩ (.int .u64 0)).setCell ⟨w.heap.size, 3, none⟩ (.string ⟨#[]⟩)).setCell ⟨w.heap.size, 4, none⟩ (.bool false) from rfl] at hs5 hw5
    have HW5 := Lib.hid hw5
    clear hw5
    generalize (((((w9.setCell ⟨w.heap.size, 0, none⟩ (.int .i64 0)).setCell ⟨w.heap.size, 1, none⟩ (.int .i64 0)).setCell ⟨w.heap.size, 2, none⟩ (.int .u64 0)).setCell ⟨w.heap.size, 3, none⟩ (.string ⟨#[]⟩)).setCell ⟨w.heap.size, 4, none⟩ (.bool false)) = w99 at *
    obtain ⟨q0, q1, q2, q3, q4⟩ := cs5 hs5 rfl rfl rfl rfl rfl
    (try rw [Exit.noGoto_ret])
    refine bodyPost_ret (v := .tuple #[.agg #[.int .i64 0, .int .i64 0, .int .u64 0, .string ⟨#[]⟩, .bool false], .bool false]) (by simp [results, Tryz.results37, go_sem, q0, q1, q2, q3, q4]) rfl ⟨by rw [HS3.out, HFL.out]; rfl, HW5.out⟩
   | true =>
    have HFL := Lib.hid (HOS.out hfl)
    obtain ⟨tz0, tz1, tz2, tz3, tz4⟩ := cs5 HZ9.out rfl rfl rfl rfl rfl
    obtain ⟨ty0, ty1, ty2, ty3, ty4⟩ := fz5 HZ9.out
    obtain ⟨tl0, tl1, tl2, tl3, tl4⟩ := cs5 HL9.out rfl rfl rfl rfl rfl
    go_wp2_with fail
    have hs5 := set5_at HZ9.out (.int .i64 4) (.int .i64 who) (.int .u64 oc) (.string os) (.bool ox)
    have hw5 := set5_below HB9.out (Nat.le_refl _) (.int .i64 4) (.int .i64 who) (.int .u64 oc) (.string os) (.bool ox)
    rw [show set5 w9 w.heap.size (.int .i64 4) (.int .i64 who) (.int .u64 oc) (.string os) (.bool ox) = ((((w9.setCell ⟨w.heap.size, 0, none⟩ (.int .i64 4)).setCell ⟨w.heap.size, 1, none⟩ (.int .i64 who)).setCell ⟨w.heap.size, 2, none⟩ (.int .u64 oc)).setCell ⟨w.heap.size, 3, none⟩ (.string os)).setCell ⟨w.heap.size, 4, none⟩ (.bool ox) from rfl] at hs5 hw5
    have HW5 := Lib.hid hw5
    clear hw5
    generalize (((((w9.setCell ⟨w.heap.size, 0, none⟩ (.int .i64 4)).setCell ⟨w.heap.size, 1, none⟩ (.int .i64 who)).setCell ⟨w.heap.size, 2, none⟩ (.int .u64 oc)).setCell ⟨w.heap.size, 3, none⟩ (.string os)).setCell ⟨w.heap.size, 4, none⟩ (.bool ox)) = w99 at *
    obtain ⟨q0, q1, q2, q3, q4⟩ := cs5 hs5 rfl rfl rfl rfl rfl
    (try rw [Exit.noGoto_ret])
    refine bodyPost_ret (v := .tuple #[.agg #[.int .i64 4, .int .i64 who, .int .u64 oc, .string os, .bool ox], .bool true]) (by simp [results, Tryz.results37, go_sem, q0, q1, q2, q3, q4]) rfl ⟨by rw [HS3.out, HFL.out]; rfl, HW5.out⟩
end
end Go.Proofs.YtjmcaceegfdkkaaGreatDoor
