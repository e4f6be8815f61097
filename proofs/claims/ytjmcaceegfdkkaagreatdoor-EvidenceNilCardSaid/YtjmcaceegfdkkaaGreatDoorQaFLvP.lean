/-
  evidence.All.
  evidence without a pool.
  The law's live, plain: the pool that it makes, what it is asked.
-/
import Derived.Deep.DeepCutAuto
import Derived.Test.YtjmcaceegfdkkaaGreatDoorQaTSubP
import Derived.Test.YtjmcaceegfdkkaaGreatDoorQaEAdd
import Derived.Test.YtjmcaceegfdkkaaGreatDoorQaZSeen
import Derived.Test.YtjmcaceegfdkkaaGreatDoorQaFCon
import Derived.Test.YtjmcaceegfdkkaaGreatDoorQaLNil
import Derived.Test.YtjmcaceegfdkkaaGreatDoorQaFReq
namespace Go.Proofs.YtjmcaceegfdkkaaGreatDoor
open Go.RowKit Go.Maps
set_option linter.unusedVariables false
/-- All the facts of what is seen, rising. -/
def IsAll (p : Pl) (g : List Int) (F : List Fc) : Prop := F.Pairwise (fun x y => cmpF x y < 0) ∧ ∀ x, x ∈ F ↔ ∃ t, Reach p g t ∧ x ∈ ofR p t
theorem IsAll.one {p : Pl} {g : List Int} {F G : List Fc} (h1 : IsAll p g F) (h2 : IsAll p g G) : F = G := rise_one h1.1 h2.1 fun x => (h1.2 x).trans (h2.2 x).symm
def AllPost (w : World) (p : Pl) (g : List Int) (e : Ending) (w' : World) : Prop := ∃ v F, e = .returned v ∧ w'.ownsRow w.heap.size FacT 4 v F.length (fcs F) ∧ IsAll p g F ∧ Below w.heap.size w w'
theorem isAll_seen {p : Pl} {g : List Int} {s : Int → Option Way} (h : SeenOk p g s) (hin : ∀ t, (s t).isSome = true → inP p t = true) : IsAll p g (cptF (srtF ((seenL p s).flatMap (ofR p)))) :=
  ⟨allF_pair _, fun x => (allF_mem (l := (seenL p s).flatMap (ofR p))).trans (by
    rw [List.mem_flatMap]
    exact ⟨fun ⟨t, h1, h2⟩ => ⟨t, (h.reach t).1 ((mem_seenL hin).1 h1), h2⟩, fun ⟨t, h1, h2⟩ => ⟨t, (mem_seenL hin).2 ((h.reach t).2 h1), h2⟩⟩)⟩
theorem flat_len (p : Pl) (l : List Int) : (l.flatMap (ofR p)).length ≤ l.length * 3 := by
  induction l with
  | nil => simp
  | cons t l ih =>
    rw [List.flatMap_cons, List.length_append, List.length_cons]
    have := ofL_len ((rdP p t).getD zeroL)
    unfold ofR at *
    omega
theorem compact_any {w : World} {base : Nat} {v : Value} {l : List Fc} (h : w.ownsRow base FacT 4 v l.length (fcs l)) (hlen : l.length ≤ 100000) : Calls Tryz.prog 76 #[v] w fun e w' => ∃ v', e = .returned v' ∧ w'.ownsRow base FacT 4 v' (cptF l).length (fcs (cptF l)) ∧ Below base w w' := by
  by_cases h2 : l.length < 2
  · exact compact_small h h2
  · exact compact_long h hlen (by omega)
section
variable {w : World} {B a b : Nat} {v : Value} {p : Pl}
set_option maxRecDepth 100000 in
set_option maxHeartbeats 6400000 in
theorem all_any (hp : IsPool w B a b v p) (hlk : LaidK w) (hpl : p.length ≤ 30000) {vl : Value} {l : List Int} (hl : Row w 1 vl l.length (ints l)) (hli : ∀ x ∈ l, i64R x) (hll : l.length ≤ 1000000) : Calls Tryz.prog 25 #[.pointer (some ⟨a, 0, none⟩), vl] w (AllPost w p (addsG p [] l)) := by
  obtain ⟨la, lc, rfl, hx⟩ := hl.at
  have HX := Lib.hid hx
  have HP := Lib.hid hp
  have HLI := Lib.hid hli
  have HLK := Lib.hid hlk
  have HPL := Lib.hid hpl
  have hbl : b < w.heap.size := by obtain ⟨D, ho, _⟩ := hp.dict; exact ho.lt
  have HMB := Lib.hid (show w.heap.size ≠ b by omega)
  clear hl hp hx hli hbl hlk hpl
  go_enter Tryz.func25, Tryz.ntmps25
  go_wp2_with fail
  refine (knew w a w.heap.size p (Nat.le_refl _)).mono ?_
  rintro e w2 ⟨rfl, k2, u2⟩
  have HK2 := Lib.hid k2
  have HU2 := Lib.hid u2
  clear k2 u2
  generalize w.heap.size + 1 = k at *
  go_wp2_with fail
  go_loopw [15] (fun v6 wr => ∃ (i : Nat) (gv : Value) (s : Int → Option Way), v6 = .int .i64 (i : Int) ∧ i ≤ l.length ∧ Below w.heap.size w wr ∧ IsKnow wr w.heap.size k gv w.heap.size a p (addsG p [] (l.take i)) s) (fun v _ => l.length - (intOf v).toNat)
  case atStart => exact ⟨0, _, _, rfl, Nat.zero_le _, HU2.out, HK2.out⟩
  case round =>
    obtain ⟨i, gv, s, rfl, hi, hb, hk⟩ := hrel
    have HB := Lib.hid hb
    have HK := Lib.hid hk
    clear HK2 HU2 hk
    by_cases hlt : i < l.length
    · obtain ⟨gb, go, rfl, q⟩ := HX.out (by omega)
      have c0 := bcellAt hb (q i _ (ints_at l i hlt))
      have hx := HLI.out _ (List.getElem_mem hlt)
      have htk : l.take (i + 1) = l.take i ++ [l[i]] := by simp
      have HTK := Lib.hid htk
      generalize l[i] = x at *
      have hi0 : (0 : Int) ≤ (i : Int) := by omega
      have hi1 : (i : Int) < (l.length : Int) := by omega
      have AD := Lib.hid (add_any (HP.out.below HB.out) HK.out HMB.out hx)
      clear q hb hx htk
      go_wp2_with fail
      refine AD.out.mono ?_
      rintro e w3 ⟨he, gv3, s3, k3, kg3, _⟩
      have HE := Lib.hid he
      have HK3 : Hid (IsKnow w3 w.heap.size k gv3 w.heap.size a p (addsG p [] (l.take (i + 1))) s3) := Lib.hid (by rw [HTK.out, addsG_snoc]; exact k3)
      have HB3 := Lib.hid (HB.out.trans kg3.below)
      generalize (if inP p x = true then (0 : Int) else 51) = ev at *
      subst he
      clear k3 kg3 AD
      go_wp2_with fail
      go_roundw
      case rel => exact ⟨i + 1, gv3, s3, by go_num, by omega, HB3.out, HK3.out⟩
      case measure => simp [intOf]; omega
    · obtain rfl : i = l.length := by omega
      have HKF : Hid (IsKnow wr w.heap.size k gv w.heap.size a p (addsG p [] l) s) := Lib.hid (by have h9 := HK.out; rwa [List.take_of_length_le (Nat.le_refl _)] at h9)
      have KS := Lib.hid (kseen_any HKF.out (by have := HPL.out; omega))
      clear hb hlt HK
      go_wp2_with fail
      refine KS.out.mono ?_
      rintro e w3 ⟨sv, rfl, hrow, u3⟩
      have HB3 := Lib.hid (bmore HB.out u3)
      obtain ⟨sa, sc, rfl, hsx⟩ := (row_of_own hrow).at
      have HSX := Lib.hid hsx
      have HSL : Hid ((seenL p s).length ≤ p.length) := Lib.hid (by unfold seenL; refine Nat.le_trans (List.length_filter_le _ _) ?_; simp)
      have HAL := Lib.hid (isAll_seen HKF.out.ok (fun t ht => by
        exact Reach.inp HP.out.ok HKF.out.ok.ing ((HKF.out.ok.reach t).1 ht)))
      clear hrow u3 KS hsx HKF
      generalize seenL p s = sl at *
      have HSZ := Lib.hid (show w.heap.size ≤ w3.heap.size from HB3.out.size)
      obtain ⟨wo, hwo⟩ : ∃ wo, wo = w3 := ⟨_, rfl⟩
      go_wp2_with fail
      go_loopw [8, 26] (fun v8 v26 wr => ∃ (i : Nat), v26 = .int .i64 (i : Int) ∧ i ≤ sl.length ∧ wr.ownsRow w3.heap.size FacT 4 v8 ((sl.take i).flatMap (ofR p)).length (fcs ((sl.take i).flatMap (ofR p))) ∧ Below w3.heap.size w3 wr) (fun _ v _ => sl.length - (intOf v).toNat)
      case atStart => exact ⟨0, rfl, Nat.zero_le _, World.ownsRow_nil _ _ _ 4, Below.refl _ _⟩
      case round =>
        obtain ⟨i, rfl, hi, hown, hb⟩ := hrel
        have HO := Lib.hid hown
        have HBR := Lib.hid hb
        have HBW := Lib.hid (bmore HB3.out hb)
        obtain ⟨oa, oc, rfl⟩ := (row_of_own hown).shape
        have HFL := Lib.hid (flat_len p (sl.take i))
        clear hown
        by_cases hlt : i < sl.length
        · obtain ⟨gb, go, rfl, q⟩ := HSX.out (by omega)
          have c0 := bcellAt hb (q i _ (ints_at sl i hlt))
          have HTK : Hid ((sl.take (i + 1)).flatMap (ofR p) = (sl.take i).flatMap (ofR p) ++ ofR p sl[i]) := Lib.hid (by rw [List.take_add_one, List.getElem?_eq_getElem hlt, Option.toList_some, List.flatMap_append]; simp)
          have OF := Lib.hid (of_any (nodes_pool (HP.out.below HBW.out)) HP.out.ok (HLK.out.below HBW.out) sl[i])
          have HOL := Lib.hid (ofL_len ((rdP p sl[i]).getD zeroL))
          have HOE : Hid (ofR p sl[i] = ofL ((rdP p sl[i]).getD zeroL)) := Lib.hid rfl
          rw [← HOE.out] at HOL
          clear HOE
          generalize ofR p sl[i] = R at *
          generalize sl[i] = x at *
          have HLT : Hid ((sl.take i).length ≤ 30000) := Lib.hid (by rw [List.length_take]; have := HSL.out; have := HPL.out; omega)
          generalize hS0 : (sl.take i).flatMap (ofR p) = S0 at *
          clear hS0
          have hi0 : (0 : Int) ≤ (i : Int) := by omega
          have hi1 : (i : Int) < (sl.length : Int) := by omega
          have hl4 : sl.length ≤ 30000 := by have := HSL.out; have := HPL.out; omega
          clear q hb
          go_wp2_with fail
          refine OF.out.mono ?_
          rintro e w4 ⟨v4, rfl, hrow4, u4⟩
          have HR4 := Lib.hid (row_of_own hrow4)
          have HO4 := Lib.hid (own_hold HO.out (Hold.below u4))
          have HB4 := Lib.hid (bmore HBR.out u4)
          clear hrow4 u4 OF
          go_wp2_with (first
            | (at_builtin; refine wpList_append_fc rfl _ _ rfl w3.heap.size (.slice oa S0.length oc) S0 rfl HO4.out _ R rfl HR4.out (by have := HFL.out; have := HOL.out; have := HLT.out; omega) HB4.out.size ?_; intro v5 w5 hrow5 hg5)
            | fail)
          go_roundw
          case rel =>
            refine ⟨i + 1, by go_num, by omega, ?_, HB4.out.grown hg5 HB4.out.size (fun j e => (own_type HO4.out e).1)⟩
            rw [HTK.out]
            exact hrow5
          case measure => simp [intOf]; omega
        · obtain rfl : i = sl.length := by omega
          have hi2 : decide ((sl.length : Int) < (sl.length : Int)) = false := decide_eq_false (by omega)
          rw [show sl.take sl.length = sl from List.take_length] at HO HFL ⊢
          have SO := Lib.hid (sort_any HO.out (by have := HFL.out; have := HSL.out; have := HPL.out; omega))
          have HLL : Hid ((srtF (sl.flatMap (ofR p))).length ≤ 100000) := Lib.hid (by rw [srtF_len]; have := HFL.out; have := HSL.out; have := HPL.out; omega)
          have HSE := Lib.hid (srtF_len (sl.flatMap (ofR p)))
          generalize srtF (sl.flatMap (ofR p)) = Sr at *
          generalize (sl.flatMap (ofR p)).length = fn at *
          clear hb
          go_wp2_with fail
          refine SO.out.mono ?_
          rintro e w5 ⟨rfl, hrow5, u5⟩
          have HB5 := Lib.hid (HBR.out.trans u5)
          have CO := Lib.hid (compact_any (l := Sr) (by rw [HSE.out]; exact hrow5) HLL.out)
          clear hrow5 u5 SO
          go_wp2_with fail
          refine CO.out.mono ?_
          rintro e w6 ⟨v6, rfl, hrow6, u6⟩
          have HB6 := Lib.hid (bmore HB3.out (HB5.out.trans u6))
          have HO6 := Lib.hid (own_base hrow6 HSZ.out)
          clear hrow6 u6 CO
          go_wp2_with fail
          go_returns
          exact ⟨_, _, rfl, HO6.out, HAL.out, HB6.out⟩
end
end Go.Proofs.YtjmcaceegfdkkaaGreatDoor
namespace Go.Proofs.YtjmcaceegfdkkaaGreatDoor
open Go.RowKit Go.Maps
set_option linter.unusedVariables false
theorem nil_new (w : World) : Calls Tryz.prog 72 #[.pointer none] w fun e w' => e = .returned (.pointer none) ∧ w = w' := by
  go_enter Tryz.func72, Tryz.ntmps72
  go_wp2_with fail
  go_returns
  exact ⟨rfl, rfl⟩
theorem nil_add (w : World) (t : Int) : Calls Tryz.prog 73 #[.pointer none, .int .i64 t] w fun e w' => e = .returned (.int .i64 7) ∧ w = w' := by
  go_enter Tryz.func73, Tryz.ntmps73
  go_wp2_with fail
  go_returns
  exact ⟨rfl, rfl⟩
theorem nil_seen (w : World) : Calls Tryz.prog 74 #[.pointer none] w fun e w' => e = .returned (.slice none 0 0) ∧ w = w' := by
  go_enter Tryz.func74, Tryz.ntmps74
  go_wp2_with fail
  go_returns
  exact ⟨rfl, rfl⟩
set_option maxRecDepth 100000 in
set_option maxHeartbeats 6400000 in
theorem all_nil {w : World} {vl : Value} {l : List Int} (hl : Row w 1 vl l.length (ints l)) (hll : l.length ≤ 1000000) : Calls Tryz.prog 25 #[.pointer none, vl] w fun e w' => ∃ a c, e = .returned (.slice a 0 c) ∧ Below w.heap.size w w' := by
  obtain ⟨la, lc, rfl, hx⟩ := hl.at
  have HX := Lib.hid hx
  have NA := Lib.hid nil_add
  have NS := Lib.hid nil_seen
  have SO := Lib.hid (fun W : World => sort_any (l := []) (World.ownsRow_nil W W.heap.size FacT 4) (by simp))
  have CO := Lib.hid (fun W : World => compact_any (l := []) (World.ownsRow_nil W W.heap.size FacT 4) (by simp))
  simp only [List.length_nil, show cptF [] = [] from rfl] at SO CO
  clear hl hx
  go_enter Tryz.func25, Tryz.ntmps25
  go_wp2_with fail
  refine (nil_new w).mono ?_
  rintro e w2 ⟨rfl, rfl⟩
  go_wp2_with fail
  go_loopw [15] (fun v6 wr => ∃ (i : Nat), v6 = .int .i64 (i : Int) ∧ i ≤ l.length ∧ wr = w) (fun v _ => l.length - (intOf v).toNat)
  case atStart => exact ⟨0, rfl, Nat.zero_le _, rfl⟩
  case round =>
    obtain ⟨i, rfl, hi, rfl⟩ := hrel
    by_cases hlt : i < l.length
    · obtain ⟨gb, go, rfl, q⟩ := HX.out (by omega)
      have c0 := q i _ (ints_at l i hlt)
      generalize l[i] = x at *
      have hi0 : (0 : Int) ≤ (i : Int) := by omega
      have hi1 : (i : Int) < (l.length : Int) := by omega
      clear q
      go_wp2_with fail
      refine (NA.out _ _).mono ?_
      rintro e w3 ⟨rfl, rfl⟩
      go_wp2_with fail
      go_roundw
      case rel => exact ⟨i + 1, by go_num, by omega, trivial⟩
      case measure => simp [intOf]; omega
    · obtain rfl : i = l.length := by omega
      clear hlt hi HX NA
      go_wp2_with fail
      refine (NS.out _).mono ?_
      rintro e w3 ⟨rfl, rfl⟩
      clear NS
      go_wp2_with fail
      go_loopw [8, 26] (fun v8 v wy => v8 = .slice none 0 0 ∧ v = .int .i64 0 ∧ Below wr.heap.size wr wy) (fun _ _ _ => 0)
      case atStart => exact ⟨rfl, rfl, Below.refl _ _⟩
      case round =>
        obtain ⟨rfl, rfl, hb⟩ := hrel
        have HBB := Lib.hid hb
        clear hb
        go_wp2_with fail
        refine (SO.out _).mono ?_
        rintro e w4 ⟨rfl, _, u4⟩
        have HU4 := Lib.hid (bmore HBB.out u4)
        clear u4
        go_wp2_with fail
        refine (CO.out _).mono ?_
        rintro e w5 ⟨v5, rfl, h5, u5⟩
        obtain ⟨oa, oc, rfl⟩ := (row_of_own h5).shape
        have HU5 := Lib.hid (bmore HU4.out u5)
        clear u5 h5
        go_wp2_with fail
        go_returns
        exact ⟨_, _, rfl, HU5.out⟩
end Go.Proofs.YtjmcaceegfdkkaaGreatDoor
namespace Go.Proofs.YtjmcaceegfdkkaaGreatDoor
open Go.RowKit Go.Maps
set_option linter.unusedVariables false
def xS : ByteArray := ⟨#[120]⟩
def lL0 : Lt := ⟨1, 0, 7, xS, false⟩
def lL1 : Lt := ⟨1, 1, 7, xS, false⟩
def lL4 : Lt := ⟨4, 1, 7, xS, false⟩
def lP1 : Pl := (ofP (letT lL0 true true).1 (letT lL0 true true).2 []).2.2
def lP2 : Pl := (ofP (letT lL1 true true).1 (letT lL1 true true).2 lP1).2.2
def lP3 : Pl := (ofP (letT (repL lL0) true true).1 (letT (repL lL0) true true).2 lP2).2.2
def lP4 : Pl := (ofP (letT lL4 true true).1 (letT lL4 true true).2 lP3).2.2
theorem li0 : chkP lL0 = 0 := by kernel_rfl
theorem li1 : ofP (letT lL0 true true).1 (letT lL0 true true).2 [] = (6, 0, lP1) := by kernel_rfl
theorem li2 : ofP (letT lL1 true true).1 (letT lL1 true true).2 lP1 = (7, 0, lP2) := by kernel_rfl
theorem li3 : ofP (letT (repL lL0) true true).1 (letT (repL lL0) true true).2 lP2 = (10, 0, lP3) := by kernel_rfl
theorem li4 : ofP (letT lL4 true true).1 (letT lL4 true true).2 lP3 = (14, 0, lP4) := by kernel_rfl
theorem liq1 : prmL lP2 6 7 = (lL0, lL1, 0) := by kernel_rfl
theorem liq4 : prmL lP3 6 7 = (lL0, lL1, 0) := by kernel_rfl
theorem lic1 : cnvE (lL0, lL1, 0) = 0 := by kernel_rfl
theorem lic4 : reqE 1 (lL0, lL1, 0) = 0 := by kernel_rfl
theorem lird : rdP lP4 14 = some lL4 := by kernel_rfl
theorem lir6 : rdP lP3 6 = some lL0 := by kernel_rfl
theorem lir7 : rdP lP3 7 = some lL1 := by kernel_rfl
theorem lib1 : decide ((⟨2, 0, 7, xS⟩ : Fc) ∈ ofR lP4 10) = true := by kernel_rfl
theorem lib2 : decide ((⟨2, 0, 7, xS⟩ : Fc) ∈ ofR lP4 6) = false := by kernel_rfl
theorem liw : whyP lP4 6 0 7 xS = 2 := by kernel_rfl
theorem lio : (ofR lP4 10).length = 3 := by kernel_rfl
theorem lin1 : lP1.length + 20 ≤ 65536 := by rw [show lP1.length = 6 from by kernel_rfl]; decide
theorem lin2 : lP2.length + 20 ≤ 65536 := by rw [show lP2.length = 7 from by kernel_rfl]; decide
theorem lin3 : lP3.length + 50 ≤ 65536 := by rw [show lP3.length = 10 from by kernel_rfl]; decide
theorem lin3b : lP3.length + 20 ≤ 65536 := by rw [show lP3.length = 10 from by kernel_rfl]; decide
theorem lin4 : lP4.length ≤ 30000 := by rw [show lP4.length = 14 from by kernel_rfl]; decide
def lF0 : List Fc := [⟨1, 0, 7, xS⟩, ⟨1, 1, 7, xS⟩, ⟨4, 1, 7, xS⟩]
def lS4 : List Int := [14, 13, 12, 11, 7, 6, 5, 4, 3, 2, 1]
theorem takeN_kid (r : Int) (n : Nd) : takeN r n = 0 ∨ takeN r n = n.a ∨ takeN r n = n.b := by
  unfold takeN
  repeat' split
  all_goals simp
theorem lis1 : (lS4.all fun t => decide ((atP lP4 t).1.a ∈ 0 :: lS4) && decide ((atP lP4 t).1.b ∈ 0 :: lS4)) = true := by kernel_rfl
theorem lis2 : (lS4.all fun t => (ofR lP4 t).all fun f => decide (f ∈ lF0)) = true := by kernel_rfl
theorem lis3 : (lF0.all fun f => decide (f ∈ ofR lP4 14)) = true := by kernel_rfl
theorem lis4 : decide (lF0.Pairwise fun x y => cmpF x y < 0) = true := by kernel_rfl
theorem lis5 : addsG lP4 [] [14] = [14] := by kernel_rfl
theorem li_reach {t : Int} (h : Reach lP4 [14] t) : t ∈ lS4 := by
  induction h with
  | given h => rw [List.mem_singleton.1 h]; decide
  | step r _ h0 ih =>
    have h1 := List.all_eq_true.1 lis1 _ ih
    simp only [Bool.and_eq_true, decide_eq_true_eq, List.mem_cons] at h1
    rcases takeN_kid r (atP lP4 _).1 with e | e | e
    · exact absurd e h0
    · rw [e] at h0 ⊢
      rcases h1.1 with h2 | h2
      · exact absurd h2 h0
      · exact h2
    · rw [e] at h0 ⊢
      rcases h1.2 with h2 | h2
      · exact absurd h2 h0
      · exact h2
theorem li_all {F : List Fc} (h : IsAll lP4 (addsG lP4 [] [14]) F) : F.length = 3 := by
  rw [lis5] at h
  have h0 : IsAll lP4 [14] lF0 := by
    refine ⟨of_decide_eq_true lis4, fun x => ⟨fun hx => ⟨14, .given (by simp), of_decide_eq_true (List.all_eq_true.1 lis3 x hx)⟩, ?_⟩⟩
    rintro ⟨t, ht, hx⟩
    exact of_decide_eq_true (List.all_eq_true.1 (List.all_eq_true.1 lis2 t (li_reach ht)) x hx)
  rw [h.one h0]
  rfl
theorem li_t0 {x : Tr} (hp : Ok lP3) (hx : RT lP3 6 x) (hb : Bare (one x)) : x = letT lL0 true true := by
  obtain ⟨_, f1, f2, _, e⟩ := (rd_isL hp hx hb lL0).1 lir6
  exact e.symm
theorem li_t1 {x : Tr} (hp : Ok lP3) (hx : RT lP3 7 x) (hb : Bare (one x)) : x = letT lL1 true true := by
  obtain ⟨_, f1, f2, _, e⟩ := (rd_isL hp hx hb lL1).1 lir7
  exact e.symm
theorem li_req {w : World} {B a b : Nat} {vv : Value} (hp : Ok lP3) {e : Ending} {w' : World} (h : ReqPost w B a b vv lP3 1 6 7 e w') : OfPost w B a b vv (14, 0, lP4) e w' := by
  unfold ReqPost at h
  rw [liq4, lic4] at h
  rcases h with h | h
  · exact absurd rfl h.1
  · obtain ⟨_, Ta, Tb, r1, r2, b1, b2, h2⟩ := h
    obtain rfl := li_t0 hp r1 b1
    obtain rfl := li_t1 hp r2 b2
    rw [show signT 1 (pairT (dataT resolveS) (pairT (letT lL0 true true) (letT lL1 true true))) = letT lL4 true true from rfl, li4] at h2
    exact h2
theorem li_build {w : World} {B a b : Nat} {vv : Value} {p p' : Pl} {l : Lt} {t : Int} (hc : chkP l = 0) (ho : ofP (letT l true true).1 (letT l true true).2 p = (t, 0, p')) {e : Ending} {w' : World} (h : BuildPost w B a b vv p l e w') : OfPost w B a b vv (t, 0, p') e w' := by
  rcases h with h | h
  · exact absurd hc h.1
  · rw [ho] at h; exact h.2
theorem li_cnv {w : World} {B a b : Nat} {vv : Value} {p p' : Pl} {q : Lt × Lt × Int} {l m : Lt} {t : Int} (hq : q = (l, m, 0)) (hc : cnvE (l, m, 0) = 0) (ho : ofP (letT (repL l) true true).1 (letT (repL l) true true).2 p = (t, 0, p')) {e : Ending} {w' : World} (h : CnvPost w B a b vv p q e w') : OfPost w B a b vv (t, 0, p') e w' := by
  subst hq
  rcases h with h | h
  · exact absurd hc h.1
  · rw [ho] at h; exact h.2
theorem li_cnv_no {w : World} {B a b : Nat} {vv : Value} {p : Pl} {q : Lt × Lt × Int} {c : Int} (hc : cnvE q = c) (h0 : c ≠ 0) {e : Ending} {w' : World} (h : CnvPost w B a b vv p q e w') : e = .returned (.tuple #[.int .i64 0, .int .i64 c]) ∧ Below w.heap.size w w' := by
  rcases h with h | h
  · rw [hc] at h; exact h.2
  · exact absurd (hc.symm.trans h.1) h0
theorem lic3 : cnvE (prmL lP3 6 10) = 120 := by kernel_rfl
theorem liq2c : cnvE (prmL lP3 6 6) = 122 := by kernel_rfl
theorem lirow (w : World) (t : Int) : Row (w.alloc (.cells #[.int .i64 t] TermT)) 1 (.slice (some ⟨w.heap.size, 0, none⟩) 1 1) [t].length (ints [t]) := row_of_own (row_one w 0 (Nat.zero_le _) t)
end Go.Proofs.YtjmcaceegfdkkaaGreatDoor
