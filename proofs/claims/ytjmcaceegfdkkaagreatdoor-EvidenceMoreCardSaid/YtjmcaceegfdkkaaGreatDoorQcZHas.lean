/-
  What Seen tells, as a plain list; two rising lists of the same terms are one.
  What is seen, out of memory: its keys, rising, are the plain list.
  The program's Seen. (For a seat that reaches them.)
  evidence.All.
  The document's Has of a list, shows; bool slices. (A seat without Check.)
-/
import Derived.Lib.SlKeysI
import Derived.Deep.DeepCutAuto
import Derived.BigQuiet
import Derived.Deep.QuietTactic
import Derived.Test.YtjmcaceegfdkkaaGreatDoorQcEDocP
import Derived.Test.YtjmcaceegfdkkaaGreatDoorQcEDer
import Derived.Test.YtjmcaceegfdkkaaGreatDoorQcEKnowP
import Derived.Test.YtjmcaceegfdkkaaGreatDoorQcEAdd
import Derived.Test.YtjmcaceegfdkkaaGreatDoorQcTRefP
namespace Go.Proofs.YtjmcaceegfdkkaaGreatDoor
set_option linter.unusedVariables false
def seenL (p : Pl) (s : Int → Option Way) : List Int := ((List.range p.length).map fun i : Nat => (i : Int) + 1).filter fun t => (s t).isSome
theorem rise_map (n : Nat) : ((List.range n).map fun i : Nat => (i : Int) + 1).Pairwise (· < ·) := by
 rw [List.pairwise_map]
 refine List.pairwise_lt_range.imp fun h => ?_
 omega
theorem seenL_rise (p : Pl) (s : Int → Option Way) : (seenL p s).Pairwise (· < ·) := (rise_map p.length).filter _
theorem mem_seenL {p : Pl} {s : Int → Option Way} (h : ∀ t, (s t).isSome = true → inP p t = true) {t : Int} : t ∈ seenL p s ↔ (s t).isSome = true := by
 unfold seenL
 rw [List.mem_filter]
 refine ⟨fun h => h.2, fun hs => ⟨?_, hs⟩⟩
 obtain ⟨z, rfl, h1, h2⟩ := in_nat (h t hs)
 rw [List.mem_map]
 exact ⟨z - 1, List.mem_range.2 (by omega), by omega⟩
theorem seenL_upto (p : Pl) (s : Int → Option Way) (n : Nat) : (((List.range (n + 1)).map fun i : Nat => (i : Int) + 1).filter fun t => (s t).isSome) = (((List.range n).map fun i : Nat => (i : Int) + 1).filter fun t => (s t).isSome) ++ (if (s ((n : Int) + 1)).isSome = true then [(n : Int) + 1] else []) := by
 rw [List.range_succ, List.map_append, List.filter_append]
 congr 1
 simp only [List.map_cons, List.map_nil, List.filter_cons, List.filter_nil]
end Go.Proofs.YtjmcaceegfdkkaaGreatDoor
namespace Go.Proofs.YtjmcaceegfdkkaaGreatDoor
open Go.RowKit Go.Maps Go.Sort
set_option linter.unusedVariables false
theorem has_wf {w : World} {b n : Nat} {D : DataW Unit} {R : Value → Option (DataW Unit × List MemPlace)} (hown : w.ownsMap Tryz.prog TermT R b n D) (hk : Tryz.prog.underlying TermT = some (.int .i64)) {x : Int} (h : Maps.has D (.int .i64 x) = true) : i64R x := by
 have hwf := intKeys_wf hown hk
 obtain ⟨es, rfl, hko⟩ := hown.keysOf
 rw [has_eq, List.any_eq_true] at h
 obtain ⟨p, hp, hs⟩ := h
 obtain ⟨v, hv⟩ := hko p hp
 obtain ⟨y, _, hy, _⟩ := Maps.keyOf_i64 hk hv
 rw [hy] at hs
 have e : y = x := by simpa [Lit.sameKey] using hs
 have hx : x ∈ intKeys (DataW.map es) := List.mem_map.2 ⟨p, hp, by rw [hy, e]; rfl⟩
 have := bounds_i64 (hwf x hx)
 unfold i64R; omega
theorem SeenM.rise {w : World} {mb : Nat} {p : Pl} {g : List Int} {s : Int → Option Way} (h : SeenM w mb p g s) (hp : p.length ≤ 65536) (K : Keyed Tryz.prog TermT) (hk : Tryz.prog.underlying TermT = some (.int .i64)) :
  ∃ (n : Nat) (D : DataW Unit), w.ownsMap Tryz.prog TermT wayElem mb n D ∧ n ≤ g.length + p.length ∧ ∀ ss : List Int, ss.Perm (intKeys D) → ss.mergeSort (fun x y => decide (x ≤ y)) = seenL p s := by
 obtain ⟨n, D, L, hown, hat, hnd, hmem, hin, hle⟩ := h
 have hsin : ∀ t, (s t).isSome = true → inP p t = true := fun t ht => hin t ((hmem t).2 ht)
 refine ⟨n, D, hown, Nat.le_trans hle (Nat.add_le_add_left (nodup_in hnd hin) _), fun ss hss => ?_⟩
 have hcol : CollectedI D (fun _ => false) (seenL p s) := by
  refine ⟨(seenL_rise p s).imp fun h => Int.ne_of_lt h, fun x => ?_⟩
  rw [mem_seenL hsin]
  constructor
  ·intro hx
   have hi := hsin x hx
   obtain ⟨z, rfl, _, hz⟩ := in_nat hi
   exact ⟨by rw [(hat _ (by unfold i64R; omega)).2]; exact hx, rfl⟩
  ·rintro ⟨hx, _⟩
   rw [← (hat x (has_wf hown hk hx)).2]; exact hx
 have hperm := hcol.perm hown K hk (fun _ => rfl)
 have e := mergeSort_of_perm_i (hss.trans hperm.symm)
 rw [show (fun x y : Int => decide (x ≤ y)) = leI from rfl, e]
 exact List.mergeSort_of_pairwise ((seenL_rise p s).imp fun h => by simp only [leI, decide_eq_true_eq]; exact Int.le_of_lt h)
end Go.Proofs.YtjmcaceegfdkkaaGreatDoor
namespace Go.Proofs.YtjmcaceegfdkkaaGreatDoor
open Go.RowKit Go.Maps Go.Sort
set_option linter.unusedVariables false
set_option maxRecDepth 100000 in
set_option maxHeartbeats 6400000 in
theorem kseen_any {w : World} {B2 k : Nat} {gv : Value} {mb a : Nat} {p : Pl} {g : List Int} {s : Int → Option Way} (h : IsKnow w B2 k gv mb a p g s) (hp : p.length ≤ 65536) : Calls Tryz.prog 74 #[.pointer (some ⟨k, 0, none⟩)] w fun e w' => ∃ v, e = .returned v ∧ w'.ownsRow w.heap.size TermT 1 v (seenL p s).length (ints (seenL p s)) ∧ Below w.heap.size w w' := by
 have c2 : w.cell? ⟨k, 2, none⟩ = some (.map (some mb)) := cellB h.lay rfl
 have hgl := h.glen
 obtain ⟨n, D, hown, hn, hrise⟩ := h.seen.rise hp lawT Tryz.underlying23
 have hsz := hown.size_le
 have SC := Lib.hid (sorted_call mb n D wayElem w hown (by unfold maxLen; omega) (by omega))
 have HRI := Lib.hid hrise
 clear h hown hn hsz hgl hrise
 go_enter Tryz.func74, Tryz.ntmps74
 go_wp2_with fail
 refine (keys_call (some mb) w).mono ?_
 rintro e w1 ⟨rfl, rfl⟩
 go_wp2_with fail
 refine SC.out.mono ?_
 rintro e w2 ⟨v, ss, rfl, hS, hrow, _, hb⟩
 have hms := HRI.out ss hS
 have HF : Hid (w2.ownsRow w.heap.size TermT 1 v (seenL p s).length (ints (seenL p s))) := Lib.hid (by
  rw [hms] at hrow
  have hl : ss.length = (seenL p s).length := by rw [← hms, List.length_mergeSort]
  rw [hl] at hrow
  exact hrow)
 have HB := Lib.hid (((Below.refl _ w).alloc (Nat.le_refl _) _).trans hb)
 clear hrow hb hS hms
 go_wp2_with fail
 go_returns
 exact ⟨v, rfl, HF.out, HB.out⟩
end Go.Proofs.YtjmcaceegfdkkaaGreatDoor
namespace Go.Proofs.YtjmcaceegfdkkaaGreatDoor
open Go.RowKit Go.Maps
set_option linter.unusedVariables false
def IsAll (p : Pl) (g : List Int) (F : List Fc) : Prop := F.Pairwise (fun x y => cmpF x y < 0) ∧ ∀ x, x ∈ F ↔ ∃ t, Reach p g t ∧ x ∈ ofR p t
theorem IsAll.one {p : Pl} {g : List Int} {F G : List Fc} (h1 : IsAll p g F) (h2 : IsAll p g G) : F = G := rise_one h1.1 h2.1 fun x => (h1.2 x).trans (h2.2 x).symm
def AllPost (w : World) (p : Pl) (g : List Int) (e : Ending) (w' : World) : Prop := ∃ v F, e = .returned v ∧ w'.ownsRow w.heap.size FacT 4 v F.length (fcs F) ∧ IsAll p g F ∧ Below w.heap.size w w'
theorem isAll_seen {p : Pl} {g : List Int} {s : Int → Option Way} (h : SeenOk p g s) (hin : ∀ t, (s t).isSome = true → inP p t = true) : IsAll p g (cptF (srtF ((seenL p s).flatMap (ofR p)))) :=
 ⟨allF_pair _, fun x => (allF_mem (l := (seenL p s).flatMap (ofR p))).trans (by
  rw [List.mem_flatMap]
  exact ⟨fun ⟨t, h1, h2⟩ => ⟨t, (h.reach t).1 ((mem_seenL hin).1 h1), h2⟩, fun ⟨t, h1, h2⟩ => ⟨t, (mem_seenL hin).2 ((h.reach t).2 h1), h2⟩⟩)⟩
theorem flat_len (p : Pl) (l : List Int) : (l.flatMap (ofR p)).length ≤ l.length * 3 := by
 induction l with
 | nil => simp
 | cons t l ih =>
  rw [List.flatMap_cons, List.length_append, List.length_cons]
  have := ofL_len ((rdP p t).getD zeroL)
  unfold ofR at *
  omega
theorem compact_any {w : World} {base : Nat} {v : Value} {l : List Fc} (h : w.ownsRow base FacT 4 v l.length (fcs l)) (hlen : l.length ≤ 100000) : Calls Tryz.prog 76 #[v] w fun e w' => ∃ v', e = .returned v' ∧ w'.ownsRow base FacT 4 v' (cptF l).length (fcs (cptF l)) ∧ Below base w w' := by
 by_cases h2 : l.length < 2
 ·exact compact_small h h2
 ·exact compact_long h hlen (by omega)
section
variable {w : World} {B a b : Nat} {v : Value} {p : Pl}
set_option maxRecDepth 100000 in
set_option maxHeartbeats 6400000 in
theorem all_any (hp : IsPool w B a b v p) (hlk : LaidK w) (hpl : p.length ≤ 30000) {vl : Value} {l : List Int} (hl : Row w 1 vl l.length (ints l)) (hli : ∀ x ∈ l, i64R x) (hll : l.length ≤ 1000000) : Calls Tryz.prog 25 #[.pointer (some ⟨a, 0, none⟩), vl] w (AllPost w p (addsG p [] l)) := by
 obtain ⟨la, lc, rfl, hx⟩ := hl.at
 have HX := Lib.hid hx
 have HP := Lib.hid hp
 have HLI := Lib.hid hli
 have HLK := Lib.hid hlk
 have HPL := Lib.hid hpl
 have hbl : b < w.heap.size := by obtain ⟨D, ho, _⟩ := hp.dict; exact ho.lt
 have HMB := Lib.hid (show w.heap.size ≠ b by omega)
 clear hl hp hx hli hbl hlk hpl
 go_enter Tryz.func25, Tryz.ntmps25
 go_wp2_with fail
 refine (knew w a w.heap.size p (Nat.le_refl _)).mono ?_
 rintro e w2 ⟨rfl, k2, u2⟩
 have HK2 := Lib.hid k2
 have HU2 := Lib.hid u2
 clear k2 u2
 generalize w.heap.size + 1 = k at *
 go_wp2_with fail
 go_loopw [15] (fun v6 wr => ∃ (i : Nat) (gv : Value) (s : Int → Option Way), v6 = .int .i64 (i : Int) ∧ i ≤ l.length ∧ Below w.heap.size w wr ∧ IsKnow wr w.heap.size k gv w.heap.size a p (addsG p [] (l.take i)) s) (fun v _ => l.length - (intOf v).toNat)
 case atStart => exact ⟨0, _, _, rfl, Nat.zero_le _, HU2.out, HK2.out⟩
 case round =>
  obtain ⟨i, gv, s, rfl, hi, hb, hk⟩ := hrel
  have HB := Lib.hid hb
  have HK := Lib.hid hk
  clear HK2 HU2 hk
  by_cases hlt : i < l.length
  ·obtain ⟨gb, go, rfl, q⟩ := HX.out (by omega)
   have c0 := bcellAt hb (q i _ (ints_at l i hlt))
   have hx := HLI.out _ (List.getElem_mem hlt)
   have htk : l.take (i + 1) = l.take i ++ [l[i]] := by simp
   have HTK := Lib.hid htk
   generalize l[i] = x at *
   have hi0 : (0 : Int) ≤ (i : Int) := by omega
   have hi1 : (i : Int) < (l.length : Int) := by omega
   have AD := Lib.hid (add_any (HP.out.below HB.out) HK.out HMB.out hx)
   clear q hb hx htk
   go_wp2_with fail
   refine AD.out.mono ?_
   rintro e w3 ⟨he, gv3, s3, k3, kg3, _⟩
   have HE := Lib.hid he
   have HK3 : Hid (IsKnow w3 w.heap.size k gv3 w.heap.size a p (addsG p [] (l.take (i + 1))) s3) := Lib.hid (by rw [HTK.out, addsG_snoc]; exact k3)
   have HB3 := Lib.hid (HB.out.trans kg3.below)
   generalize (if inP p x = true then (0 : Int) else 51) = ev at *
   subst he
   clear k3 kg3 AD
   go_wp2_with fail
   go_roundw
   case rel => exact ⟨i + 1, gv3, s3, by go_num, by omega, HB3.out, HK3.out⟩
   case measure => simp [intOf]; omega
  ·obtain rfl : i = l.length := by omega
   have HKF : Hid (IsKnow wr w.heap.size k gv w.heap.size a p (addsG p [] l) s) := Lib.hid (by have h9 := HK.out; rwa [List.take_of_length_le (Nat.le_refl _)] at h9)
   have KS := Lib.hid (kseen_any HKF.out (by have := HPL.out; omega))
   clear hb hlt HK
   go_wp2_with fail
   refine KS.out.mono ?_
   rintro e w3 ⟨sv, rfl, hrow, u3⟩
   have HB3 := Lib.hid (bmore HB.out u3)
   obtain ⟨sa, sc, rfl, hsx⟩ := (row_of_own hrow).at
   have HSX := Lib.hid hsx
   have HSL : Hid ((seenL p s).length ≤ p.length) := Lib.hid (by unfold seenL; refine Nat.le_trans (List.length_filter_le _ _) ?_; simp)
   have HAL := Lib.hid (isAll_seen HKF.out.ok (fun t ht => by
    exact Reach.inp HP.out.ok HKF.out.ok.ing ((HKF.out.ok.reach t).1 ht)))
   clear hrow u3 KS hsx HKF
   generalize seenL p s = sl at *
   have HSZ := Lib.hid (show w.heap.size ≤ w3.heap.size from HB3.out.size)
   obtain ⟨wo, hwo⟩ : ∃ wo, wo = w3 := ⟨_, rfl⟩
   go_wp2_with fail
   go_loopw [8, 26] (fun v8 v26 wr => ∃ (i : Nat), v26 = .int .i64 (i : Int) ∧ i ≤ sl.length ∧ wr.ownsRow w3.heap.size FacT 4 v8 ((sl.take i).flatMap (ofR p)).length (fcs ((sl.take i).flatMap (ofR p))) ∧ Below w3.heap.size w3 wr) (fun _ v _ => sl.length - (intOf v).toNat)
   case atStart => exact ⟨0, rfl, Nat.zero_le _, World.ownsRow_nil _ _ _ 4, Below.refl _ _⟩
   case round =>
    obtain ⟨i, rfl, hi, hown, hb⟩ := hrel
    have HO := Lib.hid hown
    have HBR := Lib.hid hb
    have HBW := Lib.hid (bmore HB3.out hb)
    obtain ⟨oa, oc, rfl⟩ := (row_of_own hown).shape
    have HFL := Lib.hid (flat_len p (sl.take i))
    clear hown
    by_cases hlt : i < sl.length
    ·obtain ⟨gb, go, rfl, q⟩ := HSX.out (by omega)
     have c0 := bcellAt hb (q i _ (ints_at sl i hlt))
     have HTK : Hid ((sl.take (i + 1)).flatMap (ofR p) = (sl.take i).flatMap (ofR p) ++ ofR p sl[i]) := Lib.hid (by rw [List.take_add_one, List.getElem?_eq_getElem hlt, Option.toList_some, List.flatMap_append]; simp)
     have OF := Lib.hid (of_any (nodes_pool (HP.out.below HBW.out)) HP.out.ok (HLK.out.below HBW.out) sl[i])
     have HOL := Lib.hid (ofL_len ((rdP p sl[i]).getD zeroL))
     have HOE : Hid (ofR p sl[i] = ofL ((rdP p sl[i]).getD zeroL)) := Lib.hid rfl
     rw [← HOE.out] at HOL
     clear HOE
     generalize ofR p sl[i] = R at *
     generalize sl[i] = x at *
     have HLT : Hid ((sl.take i).length ≤ 30000) := Lib.hid (by rw [List.length_take]; have := HSL.out; have := HPL.out; omega)
     generalize hS0 : (sl.take i).flatMap (ofR p) = S0 at *
     clear hS0
     have hi0 : (0 : Int) ≤ (i : Int) := by omega
     have hi1 : (i : Int) < (sl.length : Int) := by omega
     have hl4 : sl.length ≤ 30000 := by have := HSL.out; have := HPL.out; omega
     clear q hb
     go_wp2_with fail
     refine OF.out.mono ?_
     rintro e w4 ⟨v4, rfl, hrow4, u4⟩
     have HR4 := Lib.hid (row_of_own hrow4)
     have HO4 := Lib.hid (own_hold HO.out (Hold.below u4))
     have HB4 := Lib.hid (bmore HBR.out u4)
     clear hrow4 u4 OF
     go_wp2_with (first
      | (at_builtin; refine wpList_append_fc rfl _ _ rfl w3.heap.size (.slice oa S0.length oc) S0 rfl HO4.out _ R rfl HR4.out (by have := HFL.out; have := HOL.out; have := HLT.out; omega) HB4.out.size ?_; intro v5 w5 hrow5 hg5)
      | fail)
     go_roundw
     case rel =>
      refine ⟨i + 1, by go_num, by omega, ?_, HB4.out.grown hg5 HB4.out.size (fun j e => (own_type HO4.out e).1)⟩
      rw [HTK.out]
      exact hrow5
     case measure => simp [intOf]; omega
    ·obtain rfl : i = sl.length := by omega
     have hi2 : decide ((sl.length : Int) < (sl.length : Int)) = false := decide_eq_false (by omega)
     rw [show sl.take sl.length = sl from List.take_length] at HO HFL ⊢
     have SO := Lib.hid (sort_any HO.out (by have := HFL.out; have := HSL.out; have := HPL.out; omega))
     have HLL : Hid ((srtF (sl.flatMap (ofR p))).length ≤ 100000) := Lib.hid (by rw [srtF_len]; have := HFL.out; have := HSL.out; have := HPL.out; omega)
     have HSE := Lib.hid (srtF_len (sl.flatMap (ofR p)))
     generalize srtF (sl.flatMap (ofR p)) = Sr at *
     generalize (sl.flatMap (ofR p)).length = fn at *
     clear hb
     go_wp2_with fail
     refine SO.out.mono ?_
     rintro e w5 ⟨rfl, hrow5, u5⟩
     have HB5 := Lib.hid (HBR.out.trans u5)
     have CO := Lib.hid (compact_any (l := Sr) (by rw [HSE.out]; exact hrow5) HLL.out)
     clear hrow5 u5 SO
     go_wp2_with fail
     refine CO.out.mono ?_
     rintro e w6 ⟨v6, rfl, hrow6, u6⟩
     have HB6 := Lib.hid (bmore HB3.out (HB5.out.trans u6))
     have HO6 := Lib.hid (own_base hrow6 HSZ.out)
     clear hrow6 u6 CO
     go_wp2_with fail
     go_returns
     exact ⟨_, _, rfl, HO6.out, HAL.out, HB6.out⟩
end
end Go.Proofs.YtjmcaceegfdkkaaGreatDoor
namespace Go.Proofs.YtjmcaceegfdkkaaGreatDoor
open Go.RowKit Go.Maps
set_option linter.unusedVariables false
abbrev BooT : TypeId := 4
set_option maxRecDepth 100000 in
theorem rhasL {w : World} {vg : Value} {g : List Int} (hg : Row w 1 vg g.length (ints g)) (hgl : g.length ≤ 1000000) (t : Int) : Calls Tryz.prog 102 #[vg, .int .i64 t] w fun e w' => e = .returned (.bool (decide (t ∈ g))) ∧ w = w' := by
 obtain ⟨ga, gc, rfl, hx⟩ := hg.at
 have HX := Lib.hid hx
 clear hg hx
 go_enter Tryz.func102, Tryz.ntmps102
 go_wp2_with fail
 go_loop [5] (fun v => ∃ i : Nat, v = .int .i64 (i : Int) ∧ i ≤ g.length ∧ t ∉ g.take i) (fun v => g.length - (intOf v).toNat)
 case atStart => exact ⟨0, rfl, Nat.zero_le _, by simp⟩
 case round =>
  obtain ⟨i, rfl, hi, hn⟩ := hrel
  by_cases hlt : i < g.length
  ·obtain ⟨gb, go, rfl, q⟩ := HX.out (by omega)
   have c0 := q i _ (ints_at g i hlt)
   have hi0 : (0 : Int) ≤ (i : Int) := by omega
   have hi1 : (i : Int) < (g.length : Int) := by omega
   have htk : g.take (i + 1) = g.take i ++ [g[i]] := by simp
   have hmem : g[i] ∈ g := List.getElem_mem hlt
   have HN := Lib.hid hn
   have HTK := Lib.hid htk
   have HME := Lib.hid hmem
   generalize g[i] = x at *
   clear q hn htk hmem
   cases hq : x == t with
   | true =>
    go_wp2_with fail
    go_returns
    exact ⟨by rw [decide_eq_true (by rw [← eq_of_beq hq]; exact HME.out)]; rfl, rfl⟩
   | false =>
    go_wp2_with fail
    go_round
    case rel => exact ⟨i + 1, by go_num, by omega, by
     rw [HTK.out, List.mem_append, List.mem_singleton]
     rintro (h | h)
     ·exact HN.out h
     ·rw [h] at hq; simp at hq⟩
    case measure => simp [intOf]; omega
  ·obtain rfl : i = g.length := by omega
   have hn' : t ∉ g := by have h9 := hn; rwa [List.take_of_length_le (Nat.le_refl _)] at h9
   have HD := Lib.hid (decide_eq_false hn')
   clear hn hn' hlt
   go_wp2_with fail
   go_returns
   exact ⟨by rw [HD.out]; rfl, rfl⟩
set_option maxRecDepth 100000 in
theorem shows_any (k : Int) (w : World) : Calls Tryz.prog 138 #[.int .i64 k] w fun e w' => e = .returned (.bool (showB k)) ∧ w = w' := by
 unfold showB
 cases h7 : k == 7 with
 | true =>
  go_enter Tryz.func138, Tryz.ntmps138
  go_wp2_with fail
  go_returns
  exact ⟨rfl, rfl⟩
 | false =>
  cases h8 : k == 8 with
  | true =>
   go_enter Tryz.func138, Tryz.ntmps138
   go_wp2_with fail
   go_returns
   exact ⟨rfl, rfl⟩
  | false =>
   cases h9 : k == 9
   all_goals
    go_enter Tryz.func138, Tryz.ntmps138
    go_wp2_with fail
    go_returns
    exact ⟨rfl, rfl⟩
def booC (n : Nat) : Array Value := madeCells (Value.bool false).cells (n * 1)
theorem booC_size (n : Nat) : (booC n).size = n := by rw [booC, size_madeCells, Nat.mul_one]
theorem booC_at (n j : Nat) (h : j < n) : (booC n)[j]? = some (.bool false) := by
 unfold booC madeCells
 rw [show (Value.bool false).cells = #[Value.bool false] from rfl]
 simp [h, Nat.mod_one]
theorem rowBo : (Tryz.prog.info? BooT).map (fun i => (i.zero, i.size, i.bytes)) = some (some (.bool false), 1, 1) := by kernel_rfl
end Go.Proofs.YtjmcaceegfdkkaaGreatDoor
