/-
  The document's own made and Of.
-/
import Derived.Test.YtjmcaceegfdkkaaGreatDoorQcFCpm
namespace Go.Proofs.YtjmcaceegfdkkaaGreatDoor
open Go.RowKit Go.Maps
set_option linter.unusedVariables false
def Other (o : Obj) : Prop := ∀ cs T fr, o = Obj.cells cs T fr → T ≠ RPoolT ∧ T ≠ NodeT ∧ T ≠ IntT
def RMostV (w : World) (B : Nat) (vl : Value) (w' : World) (vl' : Value) : Prop :=
 Below B w w' ∧ (∀ (k : Nat) (o : Obj), w.heap[k]? = some o → Other o → w'.heap[k]? = some o) ∧ (∀ (k : Nat) (cs : Array Value), w.heap[k]? = some (Obj.cells cs NodeT) → vl.ownBlock ≠ some k → w'.heap[k]? = some (Obj.cells cs NodeT)) ∧ (vl'.ownBlock = vl.ownBlock ∨ ∃ g, vl'.ownBlock = some g ∧ w.heap.size ≤ g)
def RMost (w : World) (B a : Nat) (vl : Value) (p' : Pl) (w' : World) : Prop := ∃ vl' vs' vd', IsRef w' B a vl' vs' vd' p' ∧ RMostV w B vl w' vl'
section
variable {w : World} {B a : Nat} {vl vs vd : Value} {p : Pl}
theorem RMostV.start {w' : World} (hB : B ≤ w.heap.size) (hb : Below w.heap.size w w') : RMostV w B vl w' vl :=
 ⟨hb.mono hB, fun k o h _ => by rw [hb.block k (Array.getElem?_eq_some_iff.1 h).1]; exact h, fun k cs h _ => by rw [hb.block k (Array.getElem?_eq_some_iff.1 h).1]; exact h, .inl rfl⟩
theorem RMostV.trans {w1 w2 : World} {v1 v2 : Value} (h : RMostV w B vl w1 v1) (k : RMostV w1 B v1 w2 v2) : RMostV w B vl w2 v2 := by
 obtain ⟨h1, h2, h3, h4⟩ := h
 obtain ⟨k1, k2, k3, k4⟩ := k
 refine ⟨h1.trans k1, fun k o h ho => k2 k o (h2 k o h ho) ho, fun k cs h hn => k3 k cs (h3 k cs h hn) ?_, ?_⟩
 ·rcases h4 with e | ⟨g, e, hg⟩
  ·rw [e]; exact hn
  ·rw [e]; intro e'; cases e'; have := (Array.getElem?_eq_some_iff.1 h).1; omega
 ·rcases k4 with e | ⟨g, e, hg⟩
  ·rw [e]; exact h4
  ·exact .inr ⟨g, e, Nat.le_trans h1.size hg⟩
theorem RGrew.most (hr : IsRef w B a vl vs vd p) {q : Pl} {w' : World} (hg : RGrew w B a vl vs vd q w') : RMost w B a vl q w' := by
 have hkeep := fun (k : Nat) (o : Obj) (h : w.heap[k]? = some o) (ho : Other o) => RGrew.keep hr hg h ho
 obtain ⟨g1, g2, vl', vs', vd', g3, g4⟩ := hg
 refine ⟨vl', vs', vd', g3, g1, fun k o h ho => hkeep k o h ho, fun k cs h hn => ?_, g4⟩
 have hk0 := (Array.getElem?_eq_some_iff.1 h).1
 rw [g2 k hk0 ?_ hn ?_ ?_]
 ·exact h
 ·rintro rfl
  have h0 := hr.lay
  rw [h] at h0
  simp only [Option.some.injEq, Obj.cells.injEq] at h0
  exact absurd h0.2.1 (by decide)
 ·intro e
  obtain ⟨_, cur, hc⟩ := own_type hr.rs e
  rw [h] at hc
  simp only [Option.some.injEq, Obj.cells.injEq] at hc
  exact absurd hc.2.1 (by decide)
 ·intro e
  obtain ⟨_, cur, hc⟩ := own_type hr.rd e
  rw [h] at hc
  simp only [Option.some.injEq, Obj.cells.injEq] at hc
  exact absurd hc.2.1 (by decide)
theorem other_of {cs : Array Value} {T : TypeId} {fr : Nat × Nat} (h1 : T ≠ RPoolT) (h2 : T ≠ NodeT) (h3 : T ≠ IntT) : Other (Obj.cells cs T fr) := fun cs' T' fr' e => by
 cases e; exact ⟨h1, h2, h3⟩
theorem RMostV.hold {w' : World} {v' : Value} (h : RMostV w B vl w' v') {T : TypeId} (h1 : T ≠ RPoolT) (h2 : T ≠ NodeT) (h3 : T ≠ IntT) : Hold T w w' := fun k cs hk => h.2.1 k _ hk (other_of h1 h2 h3)
theorem IsRef.turn {nb o : Nat} {cs : Array Value} (u : Value) (h : IsRef w B a vl vs vd p) (hk : w.heap[nb]? = some (Obj.cells cs NodeT)) (hn : vl.ownBlock ≠ some nb) : IsRef (w.setCell ⟨nb, o, none⟩ u) B a vl vs vd p :=
 ⟨Hold.setCell hk (by decide) _ _ h.lay, h.ga, own_kept h.rl (grownBy_set _ _ _ _) (fun r e => by cases e; exact hn), own_hold h.rs (Hold.setCell hk (by decide)), own_hold h.rd (Hold.setCell hk (by decide)), h.ap, h.ok, h.nok⟩
theorem RMostV.set {w1 : World} {v1 : Value} {nb o : Nat} (u : Value) (hg : RMostV w B vl w1 v1) (hB : B ≤ w.heap.size) (hk : w.heap.size ≤ nb) : RMostV w B vl (w1.setCell ⟨nb, o, none⟩ u) v1 := by
 obtain ⟨g1, g2, g3, g4⟩ := hg
 have e : ∀ k, k < w.heap.size → (w1.setCell ⟨nb, o, none⟩ u).heap[k]? = w1.heap[k]? := fun k hk' => Below.heap_setCell _ _ _ _ (show k ≠ nb by omega)
 exact ⟨g1.setCell (p := ⟨nb, o, none⟩) (Nat.le_trans hB hk) u, fun k o h ho => by rw [e k (Array.getElem?_eq_some_iff.1 h).1]; exact g2 k o h ho, fun k cs h hn => by rw [e k (Array.getElem?_eq_some_iff.1 h).1]; exact g3 k cs h hn, g4⟩
end
def RMadePost (w : World) (B a : Nat) (vl : Value) (q : Int × Int × Pl) (e : Ending) (w' : World) : Prop :=
 e = .returned (.tuple #[.int .i64 q.1, .int .i64 q.2.1]) ∧ RMost w B a vl q.2.2 w'
def RMadeC (B a : Nat) (n : Nd) (k : Fo) : Prop := ∀ (w : World) (v vl vs vd : Value) (p : Pl), IsRef w B a vl vs vd p → IsK w (Safe w B) v k → NdOk n → n.a = 0 → n.b = 0 → OkF k → k.len ≤ 2 → Two k →
 Calls Tryz.prog 119 #[.pointer (some ⟨a, 0, none⟩), .agg (treeA n v)] w (RMadePost w B a vl (grT n k p))
section
variable {B a : Nat}
set_option maxRecDepth 100000 in
set_option maxHeartbeats 12800000 in
theorem rmade_step (n : Nd) (k : Fo) (ih : AllF (RMadeC B a) k) : RMadeC B a n k := by
 intro w v vl vs vd p hp hk hn ha hb hok h2 htwo
 have b1 : Below w.heap.size w (w.alloc (.cells (treeA n v) TrT)) := bZ _ _
 have h1 : (w.alloc (.cells (treeA n v) TrT)).heap[w.heap.size]? = some (Obj.cells (treeA n v) TrT) := heap_alloc_new _ _
 obtain ⟨av, cv, rfl, hx⟩ := hk.shape
 have hlen := hk.small
 unfold maxLen at hlen
 have hBw : B ≤ w.heap.size := Nat.le_trans hp.ga (Nat.le_of_lt hp.lt)
 have NA := Lib.hid (rnode_any n (.slice av k.len cv) (w.alloc (.cells (treeA n (.slice av k.len cv)) TrT)) ha hb)
 have HP0 := Lib.hid hp
 have HX := Lib.hid hx
 have HI := Lib.hid ih
 have HB := Lib.hid h1
 have HA := Lib.hid b1
 have HOK := Lib.hid hok
 have HTWO := Lib.hid htwo
 have HBW := Lib.hid hBw
 have HVL := Lib.hid (fun g (e : vl.ownBlock = some g) => (hp.apart.1 g e).2.1)
 have HT : Hid (grT n k p = if (grF k p).2.1 ≠ 0 then (0, (grF k p).2.1, (grF k p).2.2) else mkP (grF k p).2.2 (nodeOf n (grF k p).1)) := Lib.hid rfl
 have HNDOK := Lib.hid (fun (ka : List Int) (h : ∀ t ∈ ka, 0 ≤ t ∧ t ≤ 65536) => ndok_of hn h)
 clear hk hx ih b1 hok hn htwo hp hBw
 generalize grT n k p = qq at *
 obtain ⟨kk, ff, tt, uu, ss, xa, xb⟩ := n
 have ha' : xa = 0 := ha
 have hb' : xb = 0 := hb
 subst ha' hb'
 clear ha hb
 simp only [treeA, nodeA] at *
 obtain ⟨y0, y1, y2, y3, y4, y5⟩ := cs6 h1 rfl rfl rfl rfl rfl rfl
 clear h1
 go_enter Tryz.func119, Tryz.ntmps119
 go_wp2_with fail
 generalize (w.alloc (.cells #[.int .i64 kk, .int .i64 ff, .int .i64 tt, .int .u64 uu, .string ss, .slice av k.len cv] TrT)) = W at *
 refine NA.out.mono ?_
 rintro e w1 ⟨rfl, u1⟩
 have bN := bZ w1 (.cells #[.int .i64 kk, .int .i64 ff, .int .i64 tt, .int .u64 uu, .string ss, .int .i64 0, .int .i64 0] NodeT)
 have hN : (w1.alloc (.cells #[.int .i64 kk, .int .i64 ff, .int .i64 tt, .int .u64 uu, .string ss, .int .i64 0, .int .i64 0] NodeT)).heap[w1.heap.size]? = some (Obj.cells #[.int .i64 kk, .int .i64 ff, .int .i64 tt, .int .u64 uu, .string ss, .int .i64 0, .int .i64 0] NodeT) := heap_alloc_new _ _
 have hall := HA.out.trans ((bmore u1 bN).mono HA.out.size)
 have hb2 := Hold.below (bmore u1 bN) _ _ HB.out
 have HNB : Hid (w.heap.size < w1.heap.size) := Lib.hid (Array.getElem?_eq_some_iff.1 (Hold.below u1 _ _ HB.out)).1
 have HN1 := Lib.hid hN
 have HB1 := Lib.hid hb2
 have HA1 := Lib.hid hall
 clear u1 bN hN hall hb2 y0 y1 y2 y3 y4 y5
 go_wp2_with fail
 generalize (w1.alloc (.cells #[.int .i64 kk, .int .i64 ff, .int .i64 tt, .int .u64 uu, .string ss, .int .i64 0, .int .i64 0] NodeT)) = W1 at *
 generalize w1.heap.size = nb at *
 go_loopw [7] (fun vi wr => ∃ (i : Nat) (r : Fo) (done : List Int) (q : Pl) (vlq vsq vdq : Value), vi = .int .i64 (i : Int) ∧ i + r.len = k.len ∧ done.length = i ∧ grF k p = (done ++ (grF r q).1, (grF r q).2) ∧ (∀ t ∈ done, 0 ≤ t ∧ t ≤ 65536) ∧ AllF (RMadeC B a) r ∧ OkF r ∧ Two r ∧ IsRef wr B a vlq vsq vdq q ∧ RMostV w B vl wr vlq ∧ vlq.ownBlock ≠ some nb ∧ (0 < r.len → ∃ b o, av = some ⟨b, o, none⟩ ∧ Safe wr B b ∧ AtF wr (Safe wr B) r b (o + i * 6)) ∧ wr.heap[w.heap.size]? = some (Obj.cells #[.int .i64 kk, .int .i64 ff, .int .i64 tt, .int .u64 uu, .string ss, .slice av k.len cv] TrT) ∧ wr.heap[nb]? = some (Obj.cells #[.int .i64 kk, .int .i64 ff, .int .i64 tt, .int .u64 uu, .string ss, .int .i64 (done.getD 0 0), .int .i64 (done.getD 1 0)] NodeT)) (fun v _ => k.len - (intOf v).toNat)
 case atStart => exact ⟨0, k, [], p, vl, vs, vd, rfl, by omega, rfl, rfl, (fun t ht => by cases ht), HI.out, HOK.out, HTWO.out, HP0.out.below HA1.out, RMostV.start HBW.out HA1.out, (fun e => by have := HVL.out _ e; have := HNB.out; omega), fun hp => by obtain ⟨b, o, q1, q2, q3⟩ := HX.out hp; exact ⟨b, o, q1, q2.below HA1.out, by simpa using q3.safe HA1.out⟩, HB1.out, HN1.out⟩
 case round =>
  clear HP0 HX HI HB HOK HTWO HN1 HB1 HA1
  obtain ⟨i, r, done, q, vlq, vsq, vdq, rfl, hi, hdl, hgr, hdb, hall, hokr, htw, hpq, hgw, hne, hat, hbx, hbn⟩ := hrel
  have HQ := Lib.hid hpq
  have HGW := Lib.hid hgw
  have HNE := Lib.hid hne
  have HBX := Lib.hid hbx
  have HBN := Lib.hid hbn
  have HDB := Lib.hid hdb
  have x5 := cellB (j := 5) hbx rfl
  clear hpq hgw hne hbn hdb
  by_cases hlt : 0 < r.len
  ·obtain ⟨n', k', rr, rfl⟩ := fo_pos hlt
   simp only [Fo.len] at hi
   obtain ⟨bb, oo, rfl, hsafe, hat'⟩ := hat hlt
   obtain ⟨c0, c1, c2, c3, c4, v', c5, hk', hat2⟩ := hat'.cons
   obtain ⟨av', cv', rfl, _⟩ := hk'.shape
   obtain ⟨ok1, ok2, ok3, ok4, ok5⟩ := hokr
   obtain ⟨tw1, tw2, tw3⟩ := htw
   have HKID := Lib.hid (hall.1 wr (.slice av' k'.len cv') vlq vsq vdq q HQ.out hk' ok1 ok2 ok3 ok4 tw1 tw2)
   have HALL := Lib.hid hall.2
   have HAT := Lib.hid hat2
   have HSF := Lib.hid hsafe
   have HOKR := Lib.hid ok5
   have HTW := Lib.hid tw3
   have HGOK := Lib.hid (grT_ok n' k' q HQ.out.ok)
   have HE1 : Hid ((grT n' k' q).2.1 ≠ 0 → (grF k p).2 = ((grT n' k' q).2.1, (grT n' k' q).2.2)) := Lib.hid (fun h => by rw [hgr, grF_cons, if_pos h])
   have HE2 : Hid ((grT n' k' q).2.1 = 0 → grF k p = (done ++ (grT n' k' q).1 :: (grF rr (grT n' k' q).2.2).1, (grF rr (grT n' k' q).2.2).2)) := Lib.hid (fun h => by rw [hgr, grF_cons, if_neg (by rw [h]; simp)])
   clear hgr hall hat2 hat hat' hk' ok1 ok2 ok3 ok4 ok5 tw1 tw2 tw3 hsafe hbx
   generalize grT n' k' q = qn at *
   obtain ⟨q1, q2, q3⟩ := qn
   obtain ⟨k2, f2, t2, u2, s2, y2, z2⟩ := n'
   simp only [treeA] at *
   have hi1 : (i : Int) < (k.len : Int) := by omega
   go_wp2_with fail
   refine HKID.out.mono ?_
   rintro e w2 ⟨rfl, vl1, vs1, vd1, p1, m1⟩
   have hT := m1.hold (T := TrT) (by decide) (by decide) (by decide)
   have HB2 := Lib.hid (hT _ _ HBX.out)
   have hbn2 := m1.2.2.1 nb _ HBN.out HNE.out
   have HA2 := Lib.hid (HAT.out.hold HSF.out m1.1 hT)
   have HS2 := Lib.hid (HSF.out.hold hT)
   have HG2 := Lib.hid (HGW.out.trans m1)
   have HP2 := Lib.hid p1
   have hnbl := (Array.getElem?_eq_some_iff.1 HBN.out).1
   have HNE2 : Hid (vl1.ownBlock ≠ some nb) := Lib.hid (fun e => by
    rcases m1.2.2.2 with h | ⟨g, h, hg⟩
    ·exact HNE.out (h.symm.trans e)
    ·rw [h] at e; cases e; omega)
   clear hT m1 p1 c0 c1 c2 c3 c4 c5 x5
   by_cases hq : q2 = 0
   ·subst hq
    have HP := Lib.hid (HE2.out rfl)
    obtain ⟨_, t0, t1⟩ := HGOK.out
    clear HE1 HE2
    have hi2 : i < 2 := by omega
    rcases (by omega : i = 0 ∨ i = 1) with hi0 | hi0
    ·have hd : done = [] := List.eq_nil_of_length_eq_zero (by omega)
     have hie : ((i : Int) == 0) = true := by rw [hi0]; rfl
     subst hd
     have z0 := cellB (j := 5) hbn2 rfl
     have z1 := frozenB (j := 5) hbn2
     have hbn3 := setCellB (j := 5) (u := .int .i64 q1) hbn2
     have hset := Hold.setCell (T := TrT) (o := 5) (v := .int .i64 q1) hbn2 (by decide)
     have HPT := Lib.hid (HP2.out.turn (o := 5) (.int .i64 q1) hbn2 HNE2.out)
     have HGT := Lib.hid (HG2.out.set (o := 5) (.int .i64 q1) HBW.out (Nat.le_of_lt HNB.out))
     have hbs : Below B w2 (w2.setCell ⟨nb, 5, none⟩ (.int .i64 q1)) := (Below.refl B w2).setCell (p := ⟨nb, 5, none⟩) (Nat.le_trans HBW.out (Nat.le_of_lt HNB.out)) _
     have HAT2 := Lib.hid (HA2.out.hold HS2.out hbs hset)
     have HSF2 := Lib.hid (HS2.out.hold hset)
     have HBX2 := Lib.hid (hset _ _ HB2.out)
     have HBN2 := Lib.hid hbn3
     clear hset hbs hbn3
     go_wp2_with fail
     go_roundw
     case rel => exact ⟨i + 1, rr, [] ++ [q1], q3, vl1, vs1, vd1, by go_num, by omega, by simp; omega, by rw [HP.out]; simp, fun t ht => by
      rcases List.mem_append.1 ht with h | h
      ·exact HDB.out t h
      ·rw [List.mem_singleton] at h; subst h; exact ⟨t0, t1⟩, HALL.out, HOKR.out, HTW.out, HPT.out, HGT.out, HNE2.out, fun _ => ⟨bb, oo, rfl, HSF2.out, by rw [show oo + (i + 1) * 6 = oo + i * 6 + 6 by omega]; exact HAT2.out⟩, HBX2.out, by have h := HBN2.out; simpa using h⟩
     case measure => simp [intOf]; omega
    ·obtain ⟨d0, hd⟩ : ∃ d0, done = [d0] := by
      match done, hdl with
      | [x], _ => exact ⟨x, rfl⟩
      | [], h => simp at h; omega
      | _ :: _ :: _, h => simp at h; omega
     have hie : ((i : Int) == 0) = false := by rw [hi0]; rfl
     subst hd
     have z0 := cellB (j := 6) hbn2 rfl
     have z1 := frozenB (j := 6) hbn2
     have hbn3 := setCellB (j := 6) (u := .int .i64 q1) hbn2
     have hset := Hold.setCell (T := TrT) (o := 6) (v := .int .i64 q1) hbn2 (by decide)
     have HPT := Lib.hid (HP2.out.turn (o := 6) (.int .i64 q1) hbn2 HNE2.out)
     have HGT := Lib.hid (HG2.out.set (o := 6) (.int .i64 q1) HBW.out (Nat.le_of_lt HNB.out))
     have hbs : Below B w2 (w2.setCell ⟨nb, 6, none⟩ (.int .i64 q1)) := (Below.refl B w2).setCell (p := ⟨nb, 6, none⟩) (Nat.le_trans HBW.out (Nat.le_of_lt HNB.out)) _
     have HAT2 := Lib.hid (HA2.out.hold HS2.out hbs hset)
     have HSF2 := Lib.hid (HS2.out.hold hset)
     have HBX2 := Lib.hid (hset _ _ HB2.out)
     have HBN2 := Lib.hid hbn3
     clear hset hbs hbn3
     go_wp2_with fail
     go_roundw
     case rel => exact ⟨i + 1, rr, [d0] ++ [q1], q3, vl1, vs1, vd1, by go_num, by omega, by simp; omega, by rw [HP.out]; simp, fun t ht => by
      rcases List.mem_append.1 ht with h | h
      ·exact HDB.out t h
      ·rw [List.mem_singleton] at h; subst h; exact ⟨t0, t1⟩, HALL.out, HOKR.out, HTW.out, HPT.out, HGT.out, HNE2.out, fun _ => ⟨bb, oo, rfl, HSF2.out, by rw [show oo + (i + 1) * 6 = oo + i * 6 + 6 by omega]; exact HAT2.out⟩, HBX2.out, by have h := HBN2.out; simpa using h⟩
     case measure => simp [intOf]; omega
   ·have HP := Lib.hid (HE1.out hq)
    have hq' : (q2 != 0) = true := by rw [bne_iff_ne]; exact hq
    clear HE1 HE2
    go_wp2_with fail
    go_returns
    have hqq : qq = (0, q2, q3) := by rw [HT.out, HP.out, if_pos hq]
    exact ⟨by rw [hqq]; rfl, by rw [hqq]; exact ⟨vl1, vs1, vd1, HP2.out, HG2.out⟩⟩
  ·obtain rfl := fo_nil (show r.len = 0 by omega)
   simp only [Fo.len, Nat.add_zero] at hi
   subst hi
   have hge : (grF k p).2.1 = 0 := by rw [hgr]; rfl
   have hqq : qq = mkP q (⟨kk, ff, tt, uu, ss, done.getD 0 0, done.getD 1 0⟩ : Nd) := by
    rw [HT.out, if_neg (by rw [hge]; simp), hgr]; simp [grF, nodeOf]
   have HQQ := Lib.hid hqq
   have HND := Lib.hid (HNDOK.out done HDB.out)
   have hnok : nodeOf (⟨kk, ff, tt, uu, ss, 0, 0⟩ : Nd) done = ⟨kk, ff, tt, uu, ss, done.getD 0 0, done.getD 1 0⟩ := rfl
   rw [hnok] at HND
   have hbn := HBN.out
   clear hgr hall hokr htw hat hge hqq hlt HT HNDOK HDB hdl hnok hbx
   generalize done.getD 0 0 = d0 at *
   generalize done.getD 1 0 = d1 at *
   obtain ⟨n0, n1, n2, n3, n4, n5, n6⟩ := cs7 hbn rfl rfl rfl rfl rfl rfl rfl
   clear hbn
   have HMK := Lib.hid (rmake HQ.out HND.out)
   simp only [nodeA] at HMK
   go_wp2_with fail
   refine HMK.out.mono ?_
   rintro e w5 ⟨rfl, g5⟩
   obtain ⟨vl5, vs5, vd5, p5, m5⟩ := RGrew.most HQ.out g5
   have HG5 := Lib.hid (HGW.out.trans m5)
   have HP5 := Lib.hid p5
   clear g5 m5 p5
   go_wp2_with fail
   go_returns
   exact ⟨by rw [HQQ.out]; rfl, by rw [HQQ.out]; exact ⟨vl5, vs5, vd5, HP5.out, HG5.out⟩⟩
theorem rmade_any (n : Nd) (k : Fo) : RMadeC B a n k := tree_all rmade_step n k
set_option maxRecDepth 100000 in
set_option maxHeartbeats 6400000 in
theorem rof {w : World} {v vl vs vd : Value} {p : Pl} {n : Nd} {k : Fo} (hp : IsRef w B a vl vs vd p) (hk : IsK w (Safe w B) v k) (hn : NdOk n) (ha : n.a = 0) (hb : n.b = 0) (hok : OkF k) (hroom : (lkT n k 0 0).2 = 0 → (grT n k p).2.1 = 0) :
  Calls Tryz.prog 65 #[.pointer (some ⟨a, 0, none⟩), .agg (treeA n v)] w (RMadePost w B a vl (ofP n k p)) := by
 have b1 : Below w.heap.size w (w.alloc (.cells (treeA n v) TrT)) := bZ _ _
 have h1 : (w.alloc (.cells (treeA n v) TrT)).heap[w.heap.size]? = some (Obj.cells (treeA n v) TrT) := heap_alloc_new _ _
 obtain ⟨av, cv, rfl, _⟩ := hk.shape
 obtain ⟨lA, lC, rfl⟩ := (row_of_own hp.rl).shape
 have HP := Lib.hid (hp.below b1)
 have HBW := Lib.hid (Nat.le_trans hp.ga (Nat.le_of_lt hp.lt))
 have HG := Lib.hid (RMostV.start (vl := .slice lA p.length lC) (Nat.le_trans hp.ga (Nat.le_of_lt hp.lt)) b1)
 have HK := Lib.hid (hk.safe b1)
 have HLK := Lib.hid (looks_any (G := Safe _ B) (hk.safe b1) hn ha hb hok)
 have HGR := Lib.hid (fun (W : World) (h1 : (lkT n k 0 0).2 = 0) (h3 : IsRef W B a (.slice lA p.length lC) vs vd p) (h4 : IsK W (Safe W B) (.slice av k.len cv) k) =>
  rmade_any n k W (.slice av k.len cv) _ vs vd p h3 h4 hn ha hb hok (by obtain ⟨⟨g1, _, g2, _⟩, _⟩ := lkT_good h1; rw [g1]; exact kidsN_le _) (Good.two (lkT_good h1).1.2.2.1))
 have hpl := hp.ok.len
 have HR := Lib.hid hroom
 have HB1 := Lib.hid h1
 have HOF1 : Hid ((lkT n k 0 0).2 ≠ 0 → ofP n k p = (0, (lkT n k 0 0).2, p)) := Lib.hid (fun h => by unfold ofP; rw [if_pos h])
 have HOF2 : Hid ((lkT n k 0 0).2 = 0 → ofP n k p = grT n k p) := Lib.hid (fun h => by unfold ofP; rw [if_neg (by rw [h]; simp), if_neg (by rw [hroom h]; simp)])
 clear hk hp b1 hn ha hb hok hroom
 generalize (lkT n k 0 0).2 = l2 at *
 generalize grT n k p = qq at *
 generalize ofP n k p = oo at *
 obtain ⟨kk, ff, tt, uu, ss, xa, xb⟩ := n
 simp only [treeA] at *
 obtain ⟨y0, y1, y2, y3, y4, y5⟩ := cs6 h1 rfl rfl rfl rfl rfl rfl
 clear h1
 by_cases hz : l2 = 0
 ·subst hz
  have HO := Lib.hid (HOF2.out rfl)
  have HR2 := Lib.hid (HR.out rfl)
  have HGR2 := Lib.hid (HGR.out · rfl)
  clear HOF1 HOF2 HR HGR
  obtain ⟨q1, q2, q3⟩ := qq
  have hq2 : q2 = 0 := HR2.out
  subst hq2
  go_enter Tryz.func65, Tryz.ntmps65
  go_wp2_with fail
  generalize (w.alloc (.cells #[.int .i64 kk, .int .i64 ff, .int .i64 tt, .int .u64 uu, .string ss, .slice av k.len cv] TrT)) = W at *
  refine HLK.out.mono ?_
  rintro e w1 ⟨rfl, u1⟩
  have HU1 := Lib.hid u1
  have HP1 := Lib.hid (HP.out.below u1)
  clear u1 y0 y1 y2 y3 y4 y5
  have hb1 := Hold.below HU1.out _ _ HB1.out
  have p0 := cellB (j := 0) HP1.out.lay rfl
  obtain ⟨z0, z1, z2, z3, z4, z5⟩ := cs6 hb1 rfl rfl rfl rfl rfl rfl
  clear hb1
  go_wp2_with fail
  refine (HGR2.out w1 HP1.out (HK.out.safe HU1.out)).mono ?_
  rintro e w3 ⟨rfl, vl3, vs3, vd3, p3, m3⟩
  have HG5 := Lib.hid ((HG.out.trans (RMostV.start (Nat.le_trans HBW.out HG.out.1.size) HU1.out)).trans m3)
  have HP5 := Lib.hid p3
  clear p3 m3 z0 z1 z2 z3 z4 z5 p0
  go_wp2_with fail
  go_returns
  exact ⟨by rw [HO.out]; rfl, by rw [HO.out]; exact ⟨vl3, vs3, vd3, HP5.out, HG5.out⟩⟩
 ·have hz' : (l2 != 0) = true := by rw [bne_iff_ne]; exact hz
  have HO := Lib.hid (HOF1.out hz)
  clear HOF1 HOF2 HR HGR
  go_enter Tryz.func65, Tryz.ntmps65
  go_wp2_with fail
  generalize (w.alloc (.cells #[.int .i64 kk, .int .i64 ff, .int .i64 tt, .int .u64 uu, .string ss, .slice av k.len cv] TrT)) = W at *
  refine HLK.out.mono ?_
  rintro e w1 ⟨rfl, u1⟩
  have HU1 := Lib.hid u1
  clear u1 y0 y1 y2 y3 y4 y5
  go_wp2_with fail
  go_returns
  exact ⟨by rw [HO.out]; rfl, by rw [HO.out]; exact ⟨_, vs, vd, HP.out.below HU1.out, HG.out.trans (RMostV.start (Nat.le_trans HBW.out HG.out.1.size) HU1.out)⟩⟩
end
end Go.Proofs.YtjmcaceegfdkkaaGreatDoor
