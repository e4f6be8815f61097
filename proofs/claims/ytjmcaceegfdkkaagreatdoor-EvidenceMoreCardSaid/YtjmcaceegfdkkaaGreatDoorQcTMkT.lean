/-
  The program's grow.
  make of one, or two, trees.
-/
import Derived.Test.YtjmcaceegfdkkaaGreatDoorQcTSurv
import Derived.Test.YtjmcaceegfdkkaaGreatDoorQcTLent
import Derived.Test.YtjmcaceegfdkkaaGreatDoorQcTFor
import Derived.Test.YtjmcaceegfdkkaaGreatDoorQcTKit
namespace Go.Proofs.YtjmcaceegfdkkaaGreatDoor
open Go.RowKit Go.Maps
set_option linter.unusedVariables false
theorem mkP_bd {p : Pl} (h : Ok p) (n : Nd) : 0 ≤ (mkP p n).1 ∧ (mkP p n).1 ≤ 65536 := by
 have hl := h.len
 unfold mkP
 split
 ·simp only; omega
 ·split
  ·rename_i h1 h2
   obtain ⟨i, hi, e, _⟩ := numP_some h2
   simp only; omega
  ·split
   ·simp only; omega
   ·simp only; omega
theorem grF_ok : ∀ (f : Fo) (p : Pl), Ok p → Ok (grF f p).2.2 ∧ ∀ t ∈ (grF f p).1, 0 ≤ t ∧ t ≤ 65536 := by
 intro f
 induction f with
 | nil => intro p hp; exact ⟨hp, fun t ht => by cases ht⟩
 | cons n k r ihk ihr =>
  intro p hp
  simp only [grF]
  obtain ⟨k1, k2⟩ := ihk p hp
  split
  ·exact ⟨k1, fun t ht => by cases ht⟩
  ·split
   ·exact ⟨mkP_ok k1 _, fun t ht => by cases ht⟩
   ·obtain ⟨r1, r2⟩ := ihr _ (mkP_ok k1 (nodeOf n (grF k p).1))
    refine ⟨r1, fun t ht => ?_⟩
    rcases List.mem_cons.1 ht with rfl | ht
    ·exact mkP_bd k1 _
    ·exact r2 t ht
theorem grT_ok (n : Nd) (k : Fo) (p : Pl) (hp : Ok p) : Ok (grT n k p).2.2 ∧ 0 ≤ (grT n k p).1 ∧ (grT n k p).1 ≤ 65536 := by
 obtain ⟨k1, k2⟩ := grF_ok k p hp
 unfold grT
 split
 ·exact ⟨k1, by simp only; omega⟩
 ·exact ⟨mkP_ok k1 _, mkP_bd k1 _⟩
theorem getD_bd {l : List Int} (h : ∀ t ∈ l, 0 ≤ t ∧ t ≤ 65536) (i : Nat) : 0 ≤ l.getD i 0 ∧ l.getD i 0 ≤ 65536 := by
 rw [List.getD_eq_getElem?_getD]
 cases e : l[i]? with
 | none => simp
 | some t => exact h t (List.mem_of_getElem? e)
theorem ndok_of {n : Nd} {ka : List Int} (hn : NdOk n) (h : ∀ t ∈ ka, 0 ≤ t ∧ t ≤ 65536) : NdOk (nodeOf n ka) := by
 have a := getD_bd h 0
 have b := getD_bd h 1
 exact ⟨hn.kind, hn.frm, hn.to, hn.num, hn.text, by unfold i64R; simp only [nodeOf]; omega, by unfold i64R; simp only [nodeOf]; omega⟩
abbrev ArrT : TypeId := 237
theorem arr_set {done : List Int} {i : Nat} (h : done.length = i) (h2 : i < 2) (t : Int) : (#[.int .i64 (done.getD 0 0), .int .i64 (done.getD 1 0)] : Array Value).setIfInBounds i (.int .i64 t) = #[.int .i64 ((done ++ [t]).getD 0 0), .int .i64 ((done ++ [t]).getD 1 0)] := by
 match done, h with
 | [], h => subst h; rfl
 | [x], h => subst h; rfl
 | _ :: _ :: _, h => simp at h; omega
def Two : Fo → Prop
 | .nil => True
 | .cons n k r => k.len ≤ 2 ∧ Two k ∧ Two r
theorem Good.two : ∀ {f : Fo}, Good f → Two f
 | .nil, _ => trivial
 | .cons n k r, ⟨h1, _, h2, h3⟩ => ⟨by rw [h1]; exact kidsN_le _, Good.two h2, Good.two h3⟩
section
variable {w : World} {B a b : Nat} {v : Value} {p : Pl}
def GrewV (w : World) (B a b : Nat) (v : Value) (w' : World) (v' : Value) : Prop :=
 Below B w w' ∧ (∀ k, k < w.heap.size → k ≠ a → k ≠ b → v.ownBlock ≠ some k → w'.heap[k]? = w.heap[k]?) ∧ (v'.ownBlock = v.ownBlock ∨ ∃ g, v'.ownBlock = some g ∧ w.heap.size ≤ g)
theorem GrewV.start {w' : World} (h : IsPool w B a b v p) (hb : Below w.heap.size w w') : GrewV w B a b v w' v :=
 ⟨hb.mono (Nat.le_trans h.ga (Nat.le_of_lt h.lt)), fun k hk _ _ _ => hb.block k hk, .inl rfl⟩
theorem GrewV.step {w1 : World} {v1 : Value} (hg : GrewV w B a b v w1 v1) {p2 : Pl} {w2 : World} (hh : Grew w1 B a b v1 p2 w2) : ∃ v2, IsPool w2 B a b v2 p2 ∧ GrewV w B a b v w2 v2 := by
 obtain ⟨g1, g2, g4⟩ := hg
 obtain ⟨f1, f2, v2, f3, f4⟩ := hh
 refine ⟨v2, f3, g1.trans f1, fun k hk h1 h2 h3 => ?_, ?_⟩
 ·rw [f2 k (Nat.lt_of_lt_of_le hk g1.size) h1 h2 ?_, g2 k hk h1 h2 h3]
  rcases g4 with e | ⟨g, e, hg⟩
  ·rw [e]; exact h3
  ·rw [e]; intro e'; cases e'; omega
 ·rcases f4 with e | ⟨g, e, hg⟩
  ·rw [e]; exact g4
  ·exact .inr ⟨g, e, Nat.le_trans g1.size hg⟩
theorem GrewV.below {w1 w2 : World} {v1 : Value} (hg : GrewV w B a b v w1 v1) (hB : B ≤ w1.heap.size) (hb : Below w1.heap.size w1 w2) : GrewV w B a b v w2 v1 := by
 obtain ⟨g1, g2, g4⟩ := hg
 exact ⟨g1.trans (hb.mono hB), fun k hk h1 h2 h3 => by rw [hb.block k (Nat.lt_of_lt_of_le hk g1.size), g2 k hk h1 h2 h3], g4⟩
theorem GrewV.set {w1 : World} {v1 : Value} {kb o : Nat} (u : Value) (hg : GrewV w B a b v w1 v1) (hB : B ≤ w.heap.size) (hk : w.heap.size ≤ kb) : GrewV w B a b v (w1.setCell ⟨kb, o, none⟩ u) v1 := by
 obtain ⟨g1, g2, g4⟩ := hg
 exact ⟨g1.setCell (p := ⟨kb, o, none⟩) (Nat.le_trans hB hk) u, fun k hk' h1 h2 h3 => by rw [Below.heap_setCell _ _ _ _ (show k ≠ kb by omega), g2 k hk' h1 h2 h3], g4⟩
theorem GrewV.fin {w1 : World} {v1 : Value} {p1 : Pl} (hg : GrewV w B a b v w1 v1) (hp : IsPool w1 B a b v1 p1) : Grew w B a b v p1 w1 := ⟨hg.1, hg.2.1, v1, hp, hg.2.2⟩
theorem IsPool.turn {kb o : Nat} {cs : Array Value} {T : TypeId} {fr : Nat × Nat} (u : Value) (h : IsPool w B a b v p) (hk : w.heap[kb]? = some (Obj.cells cs T fr)) (h1 : T ≠ PoolT) (h2 : T ≠ MadeT) : IsPool (w.setCell ⟨kb, o, none⟩ u) B a b v p := by
 obtain ⟨D, ⟨es, clock, hb, h4⟩, h3⟩ := h.dict
 refine ⟨Hold.setCell hk h1 _ _ h.lay, h.ga, h.gb, own_hold h.row (Hold.setCell hk h2), ⟨D, ⟨es, clock, ?_, h4⟩, h3⟩, h.ok, h.nok⟩
 rw [Below.heap_setCell _ _ _ _ (fun e => by rw [e, hk] at hb; cases hb)]
 exact hb
end
theorem Laid.base {w w' : World} {B : Nat} (h : Laid w) (hB : 1 < B) (hb : Below B w w') : Laid w' := fun k hk => by
 obtain ⟨c0, c1, c2, c3, c4⟩ := h k hk
 have e : ∀ o, w'.cell? ⟨1, o, none⟩ = w.cell? ⟨1, o, none⟩ := fun o => cell_of_heap (hb.block _ hB) o
 simp only [e]
 exact ⟨c0, c1, c2, c3, c4⟩
theorem Laid.lt {w : World} (h : Laid w) : 1 < w.heap.size := by
 obtain ⟨c0, _⟩ := h 0 (by omega)
 exact World.block_lt_of_cell? w _ c0
def GrowPost (w : World) (B a b : Nat) (vv : Value) (q : Int × Int × Pl) (e : Ending) (w' : World) : Prop :=
 e = .returned (.tuple #[.int .i64 q.1, .int .i64 q.2.1]) ∧ Grew w B a b vv q.2.2 w'
def GrowC (B a b : Nat) (n : Nd) (k : Fo) : Prop := ∀ (w : World) (v vv : Value) (p : Pl), Laid w → IsPool w B a b vv p → IsK w (Safe w B) v k → NdOk n → OkF k → k.len ≤ 2 → Two k →
 Calls Tryz.prog 116 #[.pointer (some ⟨a, 0, none⟩), .agg (treeA n v)] w (GrowPost w B a b vv (grT n k p))
section
variable {B a b : Nat}
set_option maxRecDepth 100000 in
set_option maxHeartbeats 12800000 in
theorem grow_step (hB : 1 < B) (n : Nd) (k : Fo) (ih : AllF (GrowC B a b) k) : GrowC B a b n k := by
 intro w v vv p hl hp hk hn hok h2 htwo
 have b1 : Below w.heap.size w (w.alloc (.cells (treeA n v) TrT)) := bZ _ _
 have h1 : (w.alloc (.cells (treeA n v) TrT)).heap[w.heap.size]? = some (Obj.cells (treeA n v) TrT) := heap_alloc_new _ _
 obtain ⟨av, cv, rfl, hx⟩ := hk.shape
 have hlen := hk.small
 unfold maxLen at hlen
 have b2 : Below (w.alloc (.cells (treeA n (.slice av k.len cv)) TrT)).heap.size (w.alloc (.cells (treeA n (.slice av k.len cv)) TrT)) ((w.alloc (.cells (treeA n (.slice av k.len cv)) TrT)).alloc (.cells #[.int .i64 0, .int .i64 0] ArrT)) := bZ _ _
 have b12 := b1.trans (b2.mono b1.size)
 have HL := Lib.hid (hl.below b12)
 have HP := Lib.hid (hp.below b12)
 have HG := Lib.hid (GrewV.start hp b12)
 have HBW := Lib.hid (Nat.le_trans hp.ga (Nat.le_of_lt hp.lt))
 have HK := Lib.hid (hk.safe b12)
 have HX := Lib.hid (fun (hp : 0 < k.len) => (hx hp).imp fun b h => h.imp fun o h => (⟨h.1, h.2.1.below b12, h.2.2.safe b12⟩ : _ ∧ Safe _ B b ∧ AtF _ _ k b o))
 have HI := Lib.hid ih
 have HB := Lib.hid (Hold.below b2 _ _ h1)
 have HOK := Lib.hid hok
 have HN := Lib.hid hn
 have HTWO := Lib.hid htwo
 have HP0 := Lib.hid hp
 clear hl hk hx ih b1 hok hn h1 b2 b12 htwo hp
 have HT : Hid (grT n k p = if (grF k p).2.1 ≠ 0 then (0, (grF k p).2.1, (grF k p).2.2) else mkP (grF k p).2.2 (nodeOf n (grF k p).1)) := Lib.hid rfl
 have HNODE : Hid (∀ ka, nodeA (nodeOf n ka) = #[.int .i64 n.kind, .int .i64 n.frm, .int .i64 n.to, .int .u64 n.num, .string n.text, .int .i64 (ka.getD 0 0), .int .i64 (ka.getD 1 0)]) := Lib.hid (fun _ => rfl)
 have HBARE := Lib.hid (fun (W : World) (v : Value) => bare_any (⟨n.kind, n.frm, n.to, n.num, n.text, 0, 0⟩ : Nd) v W rfl rfl)
 have HNDOK := Lib.hid (fun (ka : List Int) (h : ∀ t ∈ ka, 0 ≤ t ∧ t ≤ 65536) => ndok_of HN.out h)
 have HGO := Lib.hid (grF_ok k p HP0.out.ok)
 generalize grT n k p = qq at *
 obtain ⟨kk, ff, tt, uu, ss, xa, xb⟩ := n
 simp only [treeA, nodeA] at *
 go_enter Tryz.func116, Tryz.ntmps116
 go_wp2_with fail
 have HZ2 := Lib.hid (show ((w.alloc (.cells #[.int .i64 kk, .int .i64 ff, .int .i64 tt, .int .u64 uu, .string ss, .slice av k.len cv] TrT)).alloc (.cells #[.int .i64 0, .int .i64 0] ArrT)).heap[w.heap.size + 1]? = some (Obj.cells #[.int .i64 0, .int .i64 0] ArrT) from by
  have e : w.heap.size + 1 = (w.alloc (.cells #[.int .i64 kk, .int .i64 ff, .int .i64 tt, .int .u64 uu, .string ss, .slice av k.len cv] TrT)).heap.size := by simp
  rw [e]; exact heap_alloc_new _ _)
 generalize ((w.alloc (.cells #[.int .i64 kk, .int .i64 ff, .int .i64 tt, .int .u64 uu, .string ss, .slice av k.len cv] TrT)).alloc (.cells #[.int .i64 0, .int .i64 0] ArrT)) = W at *
 go_loopw [15] (fun vi wr => ∃ (i : Nat) (r : Fo) (done : List Int) (q : Pl) (vq : Value), vi = .int .i64 (i : Int) ∧ i + r.len = k.len ∧ done.length = i ∧ grF k p = (done ++ (grF r q).1, (grF r q).2) ∧ (∀ t ∈ done, 0 ≤ t ∧ t ≤ 65536) ∧ AllF (GrowC B a b) r ∧ OkF r ∧ Two r ∧ IsPool wr B a b vq q ∧ GrewV w B a b vv wr vq ∧ Laid wr ∧ (0 < r.len → ∃ b o, av = some ⟨b, o, none⟩ ∧ Safe wr B b ∧ AtF wr (Safe wr B) r b (o + i * 6)) ∧ wr.heap[w.heap.size]? = some (Obj.cells #[.int .i64 kk, .int .i64 ff, .int .i64 tt, .int .u64 uu, .string ss, .slice av k.len cv] TrT) ∧ wr.heap[w.heap.size + 1]? = some (Obj.cells #[.int .i64 (done.getD 0 0), .int .i64 (done.getD 1 0)] ArrT)) (fun v _ => k.len - (intOf v).toNat)
 case atStart =>
  exact ⟨0, k, [], p, _, rfl, by omega, rfl, rfl, (fun t ht => by cases ht), HI.out, HOK.out, HTWO.out, HP.out, HG.out, HL.out, fun hp => by obtain ⟨b, o, q1, q2, q3⟩ := HX.out hp; exact ⟨b, o, q1, q2, by simpa using q3⟩, HB.out, HZ2.out⟩
 case round =>
  clear HL HP HG HK HX HI HB HOK HTWO HP0 HZ2
  obtain ⟨i, r, done, q, vq, rfl, hi, hdl, hgr, hdb, hall, hokr, htw, hpq, hgw, hlr, hat, hbx, hba⟩ := hrel
  have HQ := Lib.hid hpq
  have HGW := Lib.hid hgw
  have HLR := Lib.hid hlr
  have HBX := Lib.hid hbx
  have HBA := Lib.hid hba
  have HDB := Lib.hid hdb
  clear hpq hgw hlr hbx hba hdb
  by_cases hlt : 0 < r.len
  ·obtain ⟨n', k', rr, rfl⟩ := fo_pos hlt
   simp only [Fo.len] at hi
   obtain ⟨bb, oo, rfl, hsafe, hat'⟩ := hat hlt
   obtain ⟨c0, c1, c2, c3, c4, v', c5, hk', hat2⟩ := hat'.cons
   obtain ⟨av', cv', rfl, _⟩ := hk'.shape
   obtain ⟨ok1, ok2, ok3, ok4, ok5⟩ := hokr
   obtain ⟨tw1, tw2, tw3⟩ := htw
   have bN := bZ wr (.cells (treeA n' (.slice av' k'.len cv')) TrT)
   have hN : (wr.alloc (.cells (treeA n' (.slice av' k'.len cv')) TrT)).heap[wr.heap.size]? = some (Obj.cells (treeA n' (.slice av' k'.len cv')) TrT) := heap_alloc_new _ _
   have HKID := Lib.hid (hall.1 _ (.slice av' k'.len cv') vq q (HLR.out.below bN) (HQ.out.below bN) (hk'.safe bN) ok1 ok4 tw1 tw2)
   have HALL := Lib.hid hall.2
   have HAT := Lib.hid (hat2.safe bN)
   have HSF := Lib.hid (hsafe.below bN)
   have HOKR := Lib.hid ok5
   have HTW := Lib.hid tw3
   have HBN := Lib.hid bN
   have HGOK := Lib.hid (grT_ok n' k' q HQ.out.ok)
   have HE1 : Hid ((grT n' k' q).2.1 ≠ 0 → (grF k p).2 = ((grT n' k' q).2.1, (grT n' k' q).2.2)) := Lib.hid (fun h => by rw [hgr, grF_cons, if_pos h])
   have HE2 : Hid ((grT n' k' q).2.1 = 0 → grF k p = (done ++ (grT n' k' q).1 :: (grF rr (grT n' k' q).2.2).1, (grF rr (grT n' k' q).2.2).2)) := Lib.hid (fun h => by rw [hgr, grF_cons, if_neg (by rw [h]; simp)])
   clear hgr hall hat2 hat hat' hk' ok1 ok2 ok3 ok4 ok5 tw1 tw2 tw3 bN hsafe
   generalize grT n' k' q = qn at *
   obtain ⟨q1, q2, q3⟩ := qn
   obtain ⟨k2, f2, t2, u2, s2, y2, z2⟩ := n'
   simp only [treeA] at *
   obtain ⟨m0, m1, m2, m3, m4, m5⟩ := cs6 hN rfl rfl rfl rfl rfl rfl
   clear hN
   have hi1 : (i : Int) < (k.len : Int) := by omega
   go_wp2_with fail
   generalize (wr.alloc (.cells #[.int .i64 k2, .int .i64 f2, .int .i64 t2, .int .u64 u2, .string s2, .slice av' k'.len cv'] TrT)) = V at *
   refine HKID.out.mono ?_
   rintro e w1 ⟨rfl, g1⟩
   have HPV := Lib.hid (HQ.out.below HBN.out)
   have hT := g1.hold HPV.out (T := TrT) (by decide) (by decide)
   have hA := g1.hold HPV.out (T := ArrT) (by decide) (by decide)
   have HB1 := Lib.hid (hT _ _ (Hold.below HBN.out _ _ HBX.out))
   have hba1 := hA _ _ (Hold.below HBN.out _ _ HBA.out)
   have HA1 := Lib.hid (HAT.out.hold HSF.out g1.1 hT)
   have HS1 := Lib.hid (HSF.out.hold hT)
   have HL1 := Lib.hid ((HLR.out.below HBN.out).base hB g1.1)
   obtain ⟨v1, p1, gv1⟩ := (HGW.out.below (Nat.le_trans HBW.out HGW.out.1.size) HBN.out).step g1
   have HG1 := Lib.hid gv1
   have HP1 := Lib.hid p1
   have HBN1 := Lib.hid (HBN.out.size)
   clear g1 hT hA p1 gv1 m0 m1 m2 m3 m4 m5 c0 c1 c2 c3 c4 c5
   by_cases hq : q2 = 0
   ·subst hq
    have HP := Lib.hid (HE2.out rfl)
    obtain ⟨_, t0, t1⟩ := HGOK.out
    clear HE1 HE2
    have hi2 : (i : Int) < 2 := by omega
    obtain ⟨uu2, huu⟩ : ∃ u, (#[.int .i64 (done.getD 0 0), .int .i64 (done.getD 1 0)] : Array Value)[i]? = some u := ⟨_, Array.getElem?_eq_getElem (by simp; omega)⟩
    have x1 := cellB (j := i) hba1 huu
    have x2 := frozenB (j := i) hba1
    have hba2 := setCellB (j := i) (u := .int .i64 q1) hba1
    rw [arr_set hdl (by omega)] at hba2
    have hset := Hold.setCell (T := TrT) (o := i) (v := .int .i64 q1) hba1 (by decide)
    have HB2 := Lib.hid (hset _ _ HB1.out)
    have HA2 := Lib.hid hba2
    have HPT := Lib.hid (HP1.out.turn (o := i) (.int .i64 q1) hba1 (by decide) (by decide))
    have HGT := Lib.hid (HG1.out.set (kb := w.heap.size + 1) (o := i) (.int .i64 q1) HBW.out (by omega))
    have hbs : Below B w1 (w1.setCell ⟨w.heap.size + 1, i, none⟩ (.int .i64 q1)) := (Below.refl B w1).setCell (p := ⟨w.heap.size + 1, i, none⟩) (Nat.le_trans HBW.out (Nat.le_succ _)) _
    have HAT2 := Lib.hid (HA1.out.hold HS1.out hbs hset)
    have HSF2 := Lib.hid (HS1.out.hold hset)
    have HL2 := Lib.hid (HL1.out.base hB hbs)
    clear hba1 hba2 hset hbs huu
    go_wp2_with fail
    go_roundw
    case rel => exact ⟨i + 1, rr, done ++ [q1], q3, v1, by go_num, by omega, by simp [hdl], by rw [HP.out]; simp, fun t ht => by
     rcases List.mem_append.1 ht with h | h
     ·exact HDB.out t h
     ·rw [List.mem_singleton] at h; subst h; exact ⟨t0, t1⟩, HALL.out, HOKR.out, HTW.out, HPT.out, HGT.out, HL2.out, fun _ => ⟨bb, oo, rfl, HSF2.out, by rw [show oo + (i + 1) * 6 = oo + i * 6 + 6 by omega]; exact HAT2.out⟩, HB2.out, HA2.out⟩
    case measure => simp [intOf]; omega
   ·have HP := Lib.hid (HE1.out hq)
    have hq' : (q2 != 0) = true := by rw [bne_iff_ne]; exact hq
    clear HE1 HE2
    go_wp2_with fail
    go_returns
    have hqq : qq = (0, q2, q3) := by rw [HT.out, HP.out, if_pos hq]
    exact ⟨by rw [hqq]; rfl, by rw [hqq]; exact HG1.out.fin HP1.out⟩
  ·obtain rfl := fo_nil (show r.len = 0 by omega)
   simp only [Fo.len, Nat.add_zero] at hi
   subst hi
   have hge : (grF k p).2.1 = 0 := by rw [hgr]; rfl
   have hqq : qq = mkP q (⟨kk, ff, tt, uu, ss, done.getD 0 0, done.getD 1 0⟩ : Nd) := by
    rw [HT.out, if_neg (by rw [hge]; simp), hgr]; simp [grF, nodeOf]
   have HQQ := Lib.hid hqq
   have HND := Lib.hid (HNDOK.out done HDB.out)
   have hnok : nodeOf (⟨kk, ff, tt, uu, ss, xa, xb⟩ : Nd) done = ⟨kk, ff, tt, uu, ss, done.getD 0 0, done.getD 1 0⟩ := rfl
   rw [hnok] at HND
   have hba := HBA.out
   have hbx := HBX.out
   clear hgr hall hokr htw hat hge hqq hlt HT HNDOK HNODE HN HGO HDB hdl hnok
   generalize done.getD 0 0 = d0 at *
   generalize done.getD 1 0 = d1 at *
   obtain ⟨y0, y1, y2, y3, y4, y5⟩ := cs6 hbx rfl rfl rfl rfl rfl rfl
   have z0 := cellB (j := 0) hba rfl
   have z1 := cellB (j := 1) hba rfl
   clear hba hbx
   go_wp2_with fail
   refine (HBARE.out _ _).mono ?_
   rintro e w1 ⟨rfl, u1⟩
   have bN := bZ w1 (.cells #[.int .i64 kk, .int .i64 ff, .int .i64 tt, .int .u64 uu, .string ss, .int .i64 0, .int .i64 0] NodeT)
   have hN : (w1.alloc (.cells #[.int .i64 kk, .int .i64 ff, .int .i64 tt, .int .u64 uu, .string ss, .int .i64 0, .int .i64 0] NodeT)).heap[w1.heap.size]? = some (Obj.cells #[.int .i64 kk, .int .i64 ff, .int .i64 tt, .int .u64 uu, .string ss, .int .i64 0, .int .i64 0] NodeT) := heap_alloc_new _ _
   have hall := bmore u1 bN
   have hne : w1.heap.size ≠ w.heap.size + 1 := by
    have := (Array.getElem?_eq_some_iff.1 (Hold.below u1 _ _ HBA.out)).1
    omega
   have HU := Lib.hid hall
   have HSZ := Lib.hid u1.size
   have HN1 := Lib.hid hN
   have HNE := Lib.hid hne
   replace z0 := bcellAt hall z0
   replace z1 := bcellAt hall z1
   clear u1 bN hN hall hne y0 y1 y2 y3 y4 y5
   go_wp2_with fail
   generalize (w1.alloc (.cells #[.int .i64 kk, .int .i64 ff, .int .i64 tt, .int .u64 uu, .string ss, .int .i64 0, .int .i64 0] NodeT)) = X at *
   have zk : (X.drew.cell? ⟨w.heap.size + 1, 0, none⟩ = some (.int .i64 d0) ∧ X.drew.cell? ⟨w.heap.size + 1, 1, none⟩ = some (.int .i64 d1)) := ⟨bcellAt (bd X) z0, bcellAt (bd X) z1⟩
   refine lex_start [0, 1, 2, 3, 4, 5, 6, 7] (S := fun W => W.cell? ⟨w.heap.size + 1, 0, none⟩ = some (.int .i64 d0) ∧ W.cell? ⟨w.heap.size + 1, 1, none⟩ = some (.int .i64 d1)) (by kernel_rfl) zk (fun hS => ?_)
   simp only [inOrder, List.filterMap, List.getElem?_cons_succ, List.getElem?_cons_zero]
   refine lex_take (i := 0) (v := ?_) rfl (by kernel_rfl) (by kernel_rfl) (by kernel_rfl) (by rfl) hS ?_ ?_
   rotate_left
   ·((intro W hW; obtain ⟨k0, k1⟩ := hW; go_simp) <;> with_reducible rfl)
   simp only [Act.put, List.setIfInBounds_toArray, List.set_cons_zero, List.set_cons_succ]
   refine lex_take (i := 1) (v := ?_) rfl (by kernel_rfl) (by kernel_rfl) (by kernel_rfl) (by rfl) hS ?_ ?_
   rotate_left
   ·((intro W hW; obtain ⟨k0, k1⟩ := hW; go_simp) <;> with_reducible rfl)
   simp only [Act.put, List.setIfInBounds_toArray, List.set_cons_zero, List.set_cons_succ]
   refine lex_take (i := 2) (v := ?_) rfl (by kernel_rfl) (by kernel_rfl) (by kernel_rfl) (by rfl) hS ?_ ?_
   rotate_left
   ·((intro W hW; obtain ⟨k0, k1⟩ := hW; go_simp) <;> with_reducible rfl)
   simp only [Act.put, List.setIfInBounds_toArray, List.set_cons_zero, List.set_cons_succ]
   refine lex_take (i := 3) (v := ?_) rfl (by kernel_rfl) (by kernel_rfl) (by kernel_rfl) (by rfl) hS ?_ ?_
   rotate_left
   ·((intro W hW; obtain ⟨k0, k1⟩ := hW; go_simp) <;> with_reducible rfl)
   simp only [Act.put, List.setIfInBounds_toArray, List.set_cons_zero, List.set_cons_succ]
   refine lex_take (i := 4) (v := ?_) rfl (by kernel_rfl) (by kernel_rfl) (by kernel_rfl) (by rfl) hS ?_ ?_
   rotate_left
   ·((intro W hW; obtain ⟨k0, k1⟩ := hW; go_simp) <;> with_reducible rfl)
   simp only [Act.put, List.setIfInBounds_toArray, List.set_cons_zero, List.set_cons_succ]
   have hb0 := Hold.below (bd X) _ _ HN1.out
   have x5 := cellB (j := 5) hb0 rfl
   have f5 := frozenB (j := 5) hb0
   refine lex_do (i := 5) rfl (by kernel_rfl) (by rfl) (fun K hK => ?_)
   go_simp
   have hb1 := setCellB (j := 5) (u := .int .i64 d0) hb0
   have zk1 : (X.drew.setCell ⟨w1.heap.size, 5, none⟩ (.int .i64 d0)).cell? ⟨w.heap.size + 1, 0, none⟩ = some (.int .i64 d0) ∧ (X.drew.setCell ⟨w1.heap.size, 5, none⟩ (.int .i64 d0)).cell? ⟨w.heap.size + 1, 1, none⟩ = some (.int .i64 d1) := by
    refine ⟨?_, ?_⟩
    ·rw [World.cell?_setCell_other _ _ _ _ (fun e => by simp only [Addr.mk.injEq] at e; exact HNE.out e.1)]; exact hS.1
    ·rw [World.cell?_setCell_other _ _ _ _ (fun e => by simp only [Addr.mk.injEq] at e; exact HNE.out e.1)]; exact hS.2
   refine hK _ _ ⟨zk1, ?_⟩
   clear hK K x5 f5 hS zk z0 z1
   refine lex_take (i := 6) (v := ?_) rfl (by kernel_rfl) (by kernel_rfl) (by kernel_rfl) (by rfl) zk1 ?_ ?_
   rotate_left
   ·((intro W hW; obtain ⟨k0, k1⟩ := hW; go_simp) <;> with_reducible rfl)
   try simp only [Act.put, List.setIfInBounds_toArray, List.set_cons_zero, List.set_cons_succ]
   have hbb1 := hb1
   simp only [List.setIfInBounds_toArray, List.set_cons_zero, List.set_cons_succ] at hbb1
   have x6 := cellB (j := 6) HN1.out rfl
   have f6 := frozenB (j := 6) HN1.out
   refine lex_do (i := 7) rfl (by kernel_rfl) (by rfl) (fun K hK => ?_)
   go_simp
   have hb2 := setCellB (j := 6) (u := .int .i64 d1) hbb1
   simp only [List.setIfInBounds_toArray, List.set_cons_zero, List.set_cons_succ] at hb2
   refine hK _ _ ⟨⟨?_, ?_⟩, ?_⟩
   ·show ((X.drew.setCell ⟨w1.heap.size, 5, none⟩ (.int .i64 d0)).setCell ⟨w1.heap.size, 6, none⟩ (.int .i64 d1)).cell? ⟨w.heap.size + 1, 0, none⟩ = some (.int .i64 d0)
    rw [World.cell?_setCell_other _ _ _ _ (fun e => by simp only [Addr.mk.injEq] at e; exact HNE.out e.1)]; exact zk1.1
   ·show ((X.drew.setCell ⟨w1.heap.size, 5, none⟩ (.int .i64 d0)).setCell ⟨w1.heap.size, 6, none⟩ (.int .i64 d1)).cell? ⟨w.heap.size + 1, 1, none⟩ = some (.int .i64 d1)
    rw [World.cell?_setCell_other _ _ _ _ (fun e => by simp only [Addr.mk.injEq] at e; exact HNE.out e.1)]; exact zk1.2
   clear hK K x6 f6 zk1
   have HBX2 := Lib.hid (show Below wr.heap.size wr ((X.setCell ⟨w1.heap.size, 5, none⟩ (.int .i64 d0)).setCell ⟨w1.heap.size, 6, none⟩ (.int .i64 d1)).drew from ((bmore HU.out (bd X)).setCell (p := ⟨w1.heap.size, 5, none⟩) HSZ.out _).setCell (p := ⟨w1.heap.size, 6, none⟩) HSZ.out _)
   replace hb2 : ((X.setCell ⟨w1.heap.size, 5, none⟩ (.int .i64 d0)).setCell ⟨w1.heap.size, 6, none⟩ (.int .i64 d1)).drew.heap[w1.heap.size]? = some (Obj.cells #[.int .i64 kk, .int .i64 ff, .int .i64 tt, .int .u64 uu, .string ss, .int .i64 d0, .int .i64 d1] NodeT) := hb2
   generalize ((X.setCell ⟨w1.heap.size, 5, none⟩ (.int .i64 d0)).setCell ⟨w1.heap.size, 6, none⟩ (.int .i64 d1)).drew = Y at *
   refine lex_done (by kernel_rfl) ?_
   obtain ⟨n0, n1, n2, n3, n4, n5, n6⟩ := cs7 hb2 rfl rfl rfl rfl rfl rfl rfl
   have HPY := Lib.hid (HQ.out.below HBX2.out)
   have HLY := Lib.hid (HLR.out.below HBX2.out)
   have HMK := Lib.hid (pmake HPY.out HLY.out HND.out)
   clear hb0 hb1 hbb1 hb2 HN1
   simp only [nodeA] at HMK
   go_wp2_with fail
   refine HMK.out.mono ?_
   rintro e w5 ⟨rfl, g5⟩
   obtain ⟨v5, p5, gv5⟩ := (HGW.out.below (Nat.le_trans HBW.out HGW.out.1.size) HBX2.out).step g5
   have HG5 := Lib.hid gv5
   have HP5 := Lib.hid p5
   clear g5 gv5 p5
   go_wp2_with fail
   go_returns
   exact ⟨by rw [HQQ.out]; rfl, by rw [HQQ.out]; exact HG5.out.fin HP5.out⟩
theorem grow_any (hB : 1 < B) (n : Nd) (k : Fo) : GrowC B a b n k := tree_all (grow_step hB) n k
end
end Go.Proofs.YtjmcaceegfdkkaaGreatDoor
namespace Go.Proofs.YtjmcaceegfdkkaaGreatDoor
open Go.RowKit
set_option maxRecDepth 100000 in
theorem mk_one (W : World) : (Instr.makeSlice TreesT (.int .i64 1) (.int .i64 1)).run Tryz.prog W = .ok (.slice (some ⟨W.heap.size, 0, none⟩) 1 1) (W.alloc (.cells #[.int .i64 0, .int .i64 0, .int .i64 0, .int .u64 0, .string ⟨#[]⟩, .slice none 0 0] TrT)) := by kernel_rfl
set_option maxRecDepth 100000 in
theorem mk_two (W : World) : (Instr.makeSlice TreesT (.int .i64 2) (.int .i64 2)).run Tryz.prog W = .ok (.slice (some ⟨W.heap.size, 0, none⟩) 2 2) (W.alloc (.cells #[.int .i64 0, .int .i64 0, .int .i64 0, .int .u64 0, .string ⟨#[]⟩, .slice none 0 0, .int .i64 0, .int .i64 0, .int .i64 0, .int .u64 0, .string ⟨#[]⟩, .slice none 0 0] TrT)) := by kernel_rfl
end Go.Proofs.YtjmcaceegfdkkaaGreatDoor
