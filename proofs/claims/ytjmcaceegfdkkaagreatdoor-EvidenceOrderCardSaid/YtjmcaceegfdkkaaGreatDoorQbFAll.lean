/-
  evidence.All.
-/
import Derived.Deep.DeepCutAuto
import Derived.Test.YtjmcaceegfdkkaaGreatDoorQbTSubP
import Derived.Test.YtjmcaceegfdkkaaGreatDoorQbEAdd
import Derived.Test.YtjmcaceegfdkkaaGreatDoorQbZSeen
namespace Go.Proofs.YtjmcaceegfdkkaaGreatDoor
open Go.RowKit Go.Maps
set_option linter.unusedVariables false
/-- All the facts of what is seen, rising. -/
def IsAll (p : Pl) (g : List Int) (F : List Fc) : Prop := F.Pairwise (fun x y => cmpF x y < 0) ∧ ∀ x, x ∈ F ↔ ∃ t, Reach p g t ∧ x ∈ ofR p t
theorem IsAll.one {p : Pl} {g : List Int} {F G : List Fc} (h1 : IsAll p g F) (h2 : IsAll p g G) : F = G := rise_one h1.1 h2.1 fun x => (h1.2 x).trans (h2.2 x).symm
def AllPost (w : World) (p : Pl) (g : List Int) (e : Ending) (w' : World) : Prop := ∃ v F, e = .returned v ∧ w'.ownsRow w.heap.size FacT 4 v F.length (fcs F) ∧ IsAll p g F ∧ Below w.heap.size w w'
theorem isAll_seen {p : Pl} {g : List Int} {s : Int → Option Way} (h : SeenOk p g s) (hin : ∀ t, (s t).isSome = true → inP p t = true) : IsAll p g (cptF (srtF ((seenL p s).flatMap (ofR p)))) :=
  ⟨allF_pair _, fun x => (allF_mem (l := (seenL p s).flatMap (ofR p))).trans (by
    rw [List.mem_flatMap]
    exact ⟨fun ⟨t, h1, h2⟩ => ⟨t, (h.reach t).1 ((mem_seenL hin).1 h1), h2⟩, fun ⟨t, h1, h2⟩ => ⟨t, (mem_seenL hin).2 ((h.reach t).2 h1), h2⟩⟩)⟩
theorem flat_len (p : Pl) (l : List Int) : (l.flatMap (ofR p)).length ≤ l.length * 3 := by
  induction l with
  | nil => simp
  | cons t l ih =>
    rw [List.flatMap_cons, List.length_append, List.length_cons]
    have := ofL_len ((rdP p t).getD zeroL)
    unfold ofR at *
    omega
theorem compact_any {w : World} {base : Nat} {v : Value} {l : List Fc} (h : w.ownsRow base FacT 4 v l.length (fcs l)) (hlen : l.length ≤ 100000) : Calls Tryz.prog 76 #[v] w fun e w' => ∃ v', e = .returned v' ∧ w'.ownsRow base FacT 4 v' (cptF l).length (fcs (cptF l)) ∧ Below base w w' := by
  by_cases h2 : l.length < 2
  · exact compact_small h h2
  · exact compact_long h hlen (by omega)
section
variable {w : World} {B a b : Nat} {v : Value} {p : Pl}
set_option maxRecDepth 100000 in
set_option maxHeartbeats 6400000 in
theorem all_any (hp : IsPool w B a b v p) (hlk : LaidK w) (hpl : p.length ≤ 30000) {vl : Value} {l : List Int} (hl : Row w 1 vl l.length (ints l)) (hli : ∀ x ∈ l, i64R x) (hll : l.length ≤ 1000000) : Calls Tryz.prog 25 #[.pointer (some ⟨a, 0, none⟩), vl] w (AllPost w p (addsG p [] l)) := by
  obtain ⟨la, lc, rfl, hx⟩ := hl.at
  have HX := Lib.hid hx
  have HP := Lib.hid hp
  have HLI := Lib.hid hli
  have HLK := Lib.hid hlk
  have HPL := Lib.hid hpl
  have hbl : b < w.heap.size := by obtain ⟨D, ho, _⟩ := hp.dict; exact ho.lt
  have HMB := Lib.hid (show w.heap.size ≠ b by omega)
  clear hl hp hx hli hbl hlk hpl
  go_enter Tryz.func25, Tryz.ntmps25
  go_wp2_with fail
  refine (knew w a w.heap.size p (Nat.le_refl _)).mono ?_
  rintro e w2 ⟨rfl, k2, u2⟩
  have HK2 := Lib.hid k2
  have HU2 := Lib.hid u2
  clear k2 u2
  generalize w.heap.size + 1 = k at *
  go_wp2_with fail
  go_loopw [15] (fun v6 wr => ∃ (i : Nat) (gv : Value) (s : Int → Option Way), v6 = .int .i64 (i : Int) ∧ i ≤ l.length ∧ Below w.heap.size w wr ∧ IsKnow wr w.heap.size k gv w.heap.size a p (addsG p [] (l.take i)) s) (fun v _ => l.length - (intOf v).toNat)
  case atStart => exact ⟨0, _, _, rfl, Nat.zero_le _, HU2.out, HK2.out⟩
  case round =>
    obtain ⟨i, gv, s, rfl, hi, hb, hk⟩ := hrel
    have HB := Lib.hid hb
    have HK := Lib.hid hk
    clear HK2 HU2 hk
    by_cases hlt : i < l.length
    · obtain ⟨gb, go, rfl, q⟩ := HX.out (by omega)
      have c0 := bcellAt hb (q i _ (ints_at l i hlt))
      have hx := HLI.out _ (List.getElem_mem hlt)
      have htk : l.take (i + 1) = l.take i ++ [l[i]] := by simp
      have HTK := Lib.hid htk
      generalize l[i] = x at *
      have hi0 : (0 : Int) ≤ (i : Int) := by omega
      have hi1 : (i : Int) < (l.length : Int) := by omega
      have AD := Lib.hid (add_any (HP.out.below HB.out) HK.out HMB.out hx)
      clear q hb hx htk
      go_wp2_with fail
      refine AD.out.mono ?_
      rintro e w3 ⟨he, gv3, s3, k3, kg3, _⟩
      have HE := Lib.hid he
      have HK3 : Hid (IsKnow w3 w.heap.size k gv3 w.heap.size a p (addsG p [] (l.take (i + 1))) s3) := Lib.hid (by rw [HTK.out, addsG_snoc]; exact k3)
      have HB3 := Lib.hid (HB.out.trans kg3.below)
      generalize (if inP p x = true then (0 : Int) else 51) = ev at *
      subst he
      clear k3 kg3 AD
      go_wp2_with fail
      go_roundw
      case rel => exact ⟨i + 1, gv3, s3, by go_num, by omega, HB3.out, HK3.out⟩
      case measure => simp [intOf]; omega
    · obtain rfl : i = l.length := by omega
      have HKF : Hid (IsKnow wr w.heap.size k gv w.heap.size a p (addsG p [] l) s) := Lib.hid (by have h9 := HK.out; rwa [List.take_of_length_le (Nat.le_refl _)] at h9)
      have KS := Lib.hid (kseen_any HKF.out (by have := HPL.out; omega))
      clear hb hlt HK
      go_wp2_with fail
      refine KS.out.mono ?_
      rintro e w3 ⟨sv, rfl, hrow, u3⟩
      have HB3 := Lib.hid (bmore HB.out u3)
      obtain ⟨sa, sc, rfl, hsx⟩ := (row_of_own hrow).at
      have HSX := Lib.hid hsx
      have HSL : Hid ((seenL p s).length ≤ p.length) := Lib.hid (by unfold seenL; refine Nat.le_trans (List.length_filter_le _ _) ?_; simp)
      have HAL := Lib.hid (isAll_seen HKF.out.ok (fun t ht => by
        exact Reach.inp HP.out.ok HKF.out.ok.ing ((HKF.out.ok.reach t).1 ht)))
      clear hrow u3 KS hsx HKF
      generalize seenL p s = sl at *
      have HSZ := Lib.hid (show w.heap.size ≤ w3.heap.size from HB3.out.size)
      obtain ⟨wo, hwo⟩ : ∃ wo, wo = w3 := ⟨_, rfl⟩
      go_wp2_with fail
      go_loopw [8, 26] (fun v8 v26 wr => ∃ (i : Nat), v26 = .int .i64 (i : Int) ∧ i ≤ sl.length ∧ wr.ownsRow w3.heap.size FacT 4 v8 ((sl.take i).flatMap (ofR p)).length (fcs ((sl.take i).flatMap (ofR p))) ∧ Below w3.heap.size w3 wr) (fun _ v _ => sl.length - (intOf v).toNat)
      case atStart => exact ⟨0, rfl, Nat.zero_le _, World.ownsRow_nil _ _ _ 4, Below.refl _ _⟩
      case round =>
        obtain ⟨i, rfl, hi, hown, hb⟩ := hrel
        have HO := Lib.hid hown
        have HBR := Lib.hid hb
        have HBW := Lib.hid (bmore HB3.out hb)
        obtain ⟨oa, oc, rfl⟩ := (row_of_own hown).shape
        have HFL := Lib.hid (flat_len p (sl.take i))
        clear hown
        by_cases hlt : i < sl.length
        · obtain ⟨gb, go, rfl, q⟩ := HSX.out (by omega)
          have c0 := bcellAt hb (q i _ (ints_at sl i hlt))
          have HTK : Hid ((sl.take (i + 1)).flatMap (ofR p) = (sl.take i).flatMap (ofR p) ++ ofR p sl[i]) := Lib.hid (by rw [List.take_add_one, List.getElem?_eq_getElem hlt, Option.toList_some, List.flatMap_append]; simp)
          have OF := Lib.hid (of_any (nodes_pool (HP.out.below HBW.out)) HP.out.ok (HLK.out.below HBW.out) sl[i])
          have HOL := Lib.hid (ofL_len ((rdP p sl[i]).getD zeroL))
          have HOE : Hid (ofR p sl[i] = ofL ((rdP p sl[i]).getD zeroL)) := Lib.hid rfl
          rw [← HOE.out] at HOL
          clear HOE
          generalize ofR p sl[i] = R at *
          generalize sl[i] = x at *
          have HLT : Hid ((sl.take i).length ≤ 30000) := Lib.hid (by rw [List.length_take]; have := HSL.out; have := HPL.out; omega)
          generalize hS0 : (sl.take i).flatMap (ofR p) = S0 at *
          clear hS0
          have hi0 : (0 : Int) ≤ (i : Int) := by omega
          have hi1 : (i : Int) < (sl.length : Int) := by omega
          have hl4 : sl.length ≤ 30000 := by have := HSL.out; have := HPL.out; omega
          clear q hb
          go_wp2_with fail
          refine OF.out.mono ?_
          rintro e w4 ⟨v4, rfl, hrow4, u4⟩
          have HR4 := Lib.hid (row_of_own hrow4)
          have HO4 := Lib.hid (own_hold HO.out (Hold.below u4))
          have HB4 := Lib.hid (bmore HBR.out u4)
          clear hrow4 u4 OF
          go_wp2_with (first
            | (at_builtin; refine wpList_append_fc rfl _ _ rfl w3.heap.size (.slice oa S0.length oc) S0 rfl HO4.out _ R rfl HR4.out (by have := HFL.out; have := HOL.out; have := HLT.out; omega) HB4.out.size ?_; intro v5 w5 hrow5 hg5)
            | fail)
          go_roundw
          case rel =>
            refine ⟨i + 1, by go_num, by omega, ?_, HB4.out.grown hg5 HB4.out.size (fun j e => (own_type HO4.out e).1)⟩
            rw [HTK.out]
            exact hrow5
          case measure => simp [intOf]; omega
        · obtain rfl : i = sl.length := by omega
          have hi2 : decide ((sl.length : Int) < (sl.length : Int)) = false := decide_eq_false (by omega)
          rw [show sl.take sl.length = sl from List.take_length] at HO HFL ⊢
          have SO := Lib.hid (sort_any HO.out (by have := HFL.out; have := HSL.out; have := HPL.out; omega))
          have HLL : Hid ((srtF (sl.flatMap (ofR p))).length ≤ 100000) := Lib.hid (by rw [srtF_len]; have := HFL.out; have := HSL.out; have := HPL.out; omega)
          have HSE := Lib.hid (srtF_len (sl.flatMap (ofR p)))
          generalize srtF (sl.flatMap (ofR p)) = Sr at *
          generalize (sl.flatMap (ofR p)).length = fn at *
          clear hb
          go_wp2_with fail
          refine SO.out.mono ?_
          rintro e w5 ⟨rfl, hrow5, u5⟩
          have HB5 := Lib.hid (HBR.out.trans u5)
          have CO := Lib.hid (compact_any (l := Sr) (by rw [HSE.out]; exact hrow5) HLL.out)
          clear hrow5 u5 SO
          go_wp2_with fail
          refine CO.out.mono ?_
          rintro e w6 ⟨v6, rfl, hrow6, u6⟩
          have HB6 := Lib.hid (bmore HB3.out (HB5.out.trans u6))
          have HO6 := Lib.hid (own_base hrow6 HSZ.out)
          clear hrow6 u6 CO
          go_wp2_with fail
          go_returns
          exact ⟨_, _, rfl, HO6.out, HAL.out, HB6.out⟩
end
end Go.Proofs.YtjmcaceegfdkkaaGreatDoor
