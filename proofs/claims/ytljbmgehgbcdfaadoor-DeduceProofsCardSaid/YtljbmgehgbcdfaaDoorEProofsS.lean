/-
  A list of terms as an argument.
  The law's local: a proof stays among the subterms of what was given and of the goal.
  The law's own walk: DeduceProofs.
  The statement DeduceProofs, as a tied card. No condition.
-/
import Derived.Test.YtljbmgehgbcdfaaDoorTMet
import Derived.Test.YtljbmgehgbcdfaaDoorTRefP
import Derived.ChangeSlices
import Derived.Test.YtljbmgehgbcdfaaDoorEDocP
import Derived.Test.YtljbmgehgbcdfaaDoorEDocS
import Derived.Test.YtljbmgehgbcdfaaDoorELay2
import Derived.Test.YtljbmgehgbcdfaaDoorTLaidL
import Derived.Test.YtljbmgehgbcdfaaDoorCards
import Derived.Test.YtljbmgehgbcdfaaDoorTie
import Derived.JoinedOf
import Derived.ChangeMaps5
import Derived.SevenTiedAt
namespace Go.Proofs.YtljbmgehgbcdfaaDoor
open Go.ChangeShapes Go.WideShapes Go.ChangeAt Go.RowKit
set_option linter.unusedVariables false

theorem cellsTm : Tryd.prog.cellsOf TermT = 1 := by kernel_rfl
theorem ints_len (l : List Int) : (ints l).length = l.length := by simp [ints]
theorem addr_addT (b o n : Nat) : (⟨b, o, none⟩ : Addr).add n = ⟨b, o + n, none⟩ := by unfold Addr.add; split <;> simp_all
section
variable {H : Type} {enc : TypeId × Value → H} {W : World} {base : Nat}
set_option maxRecDepth 100000 in
theorem open_terms {v : Value} {fuel : Nat} {x : DataW H × List MemPlace} (hval : Cell.okWide Tryd.prog W .any base 23 v) (hf : DataW.trod enc Tryd.prog W 0 (fun _ => true) true fuel 23 [v] = some x) :
    ∃ l : List Int, Row W 1 v l.length (ints l) ∧ ∀ n ∈ l, i64R n := by
  rcases Go.ChangeShapes.open_ints Tryd.underlying23 Tryd.underlying37 cellsTm hf with ⟨hcs, _⟩ | ⟨y, len, cap, ss, hcs, _, hl, hm, hz, hx, hcell, hsz⟩
  · simp at hcs
    subst hcs
    exact ⟨[], ⟨rfl, .inl ⟨rfl, rfl⟩⟩, fun s hs => by cases hs⟩
  · simp at hcs
    subst hcs
    simp only [if_true] at hz
    have hh : W.has Tryd.prog .any base y TermT cap := by
      simp only [Tryd.underlying23, Cell.okWide, Cell.ok] at hval
      exact hval.2.2
    obtain ⟨hspot, hblk⟩ := place_of hh
    obtain ⟨b, off, spot⟩ := y
    simp only at hspot hblk
    subst hspot
    have hlen : (ss.take len).length = len := by simp; omega
    refine ⟨ss.take len, ⟨by rw [ints_len]; omega, .inr ⟨b, off, cap, by rw [hlen], hblk, by omega, hm, fun j u hj => ?_⟩⟩, fun s hs => ?_⟩
    · have hj' : j < len := by
        have := (List.getElem?_eq_some_iff.1 hj).1
        rw [ints_len] at this; omega
      have hc := hcell j (by omega)
      rw [addr_addT] at hc
      rw [hc]
      rw [ints_at _ j (by omega)] at hj
      rw [← hj]
      simp [List.getD_eq_getElem?_getD, show j < ss.length by omega]
    · have := bounds_i64 (hsz s (List.mem_of_mem_take hs)); unfold i64R; omega
end
end Go.Proofs.YtljbmgehgbcdfaaDoor
namespace Go.Proofs.YtljbmgehgbcdfaaDoor
open Go.RowKit Go.Maps
set_option linter.unusedVariables false

set_option maxRecDepth 100000 in
theorem rhasLL {w : World} {vg : Value} {g : List Int} (hg : Row w 1 vg g.length (ints g)) (hgl : g.length ≤ 1000000000) (t : Int) : Calls Tryd.prog 43 #[vg, .int .i64 t] w fun e w' => e = .returned (.bool (decide (t ∈ g))) ∧ w = w' := by
  obtain ⟨ga, gc, rfl, hx⟩ := hg.at
  have HX := Lib.hid hx
  clear hg hx
  go_enter Tryd.func43, Tryd.ntmps43
  go_wp2_with fail
  go_loop [5] (fun v => ∃ i : Nat, v = .int .i64 (i : Int) ∧ i ≤ g.length ∧ t ∉ g.take i) (fun v => g.length - (intOf v).toNat)
  case atStart => exact ⟨0, rfl, Nat.zero_le _, by simp⟩
  case round =>
    obtain ⟨i, rfl, hi, hn⟩ := hrel
    by_cases hlt : i < g.length
    · obtain ⟨gb, go, rfl, q⟩ := HX.out (by omega)
      have c0 := q i _ (ints_at g i hlt)
      have hi0 : (0 : Int) ≤ (i : Int) := by omega
      have hi1 : (i : Int) < (g.length : Int) := by omega
      have htk : g.take (i + 1) = g.take i ++ [g[i]] := by simp
      have hmem : g[i] ∈ g := List.getElem_mem hlt
      have HN := Lib.hid hn
      have HTK := Lib.hid htk
      have HME := Lib.hid hmem
      generalize g[i] = x at *
      clear q hn htk hmem
      cases hq : x == t with
      | true =>
        go_wp2_with fail
        go_returns
        exact ⟨by rw [decide_eq_true (by rw [← eq_of_beq hq]; exact HME.out)]; rfl, rfl⟩
      | false =>
        go_wp2_with fail
        go_round
        case rel => exact ⟨i + 1, by go_num, by omega, by
          rw [HTK.out, List.mem_append, List.mem_singleton]
          rintro (h | h)
          · exact HN.out h
          · rw [h] at hq; simp at hq⟩
        case measure => simp [intOf]; omega
    · obtain rfl : i = g.length := by omega
      have hn' : t ∉ g := by have h9 := hn; rwa [List.take_of_length_le (Nat.le_refl _)] at h9
      have HD := Lib.hid (decide_eq_false hn')
      clear hn hn' hlt
      go_wp2_with fail
      go_returns
      exact ⟨by rw [HD.out]; rfl, rfl⟩
theorem wpList_append_tL {w : World} {ops : Array Oper} {rest : List Oper} {o : Oper} {a : Act} {Q : Exit → Act → World → Prop} (hg : o.guard = none) (s x : Operand)
    (ho : o.op = .call { callee := .builtin .append, args := #[s, x], argTypes := #[23, 23] })
    (base : Nat) (v : Value) (xs : List Int) (hs : a.eval s = v) (hown : w.ownsRow base TermT 1 v xs.length (ints xs)) (vx : Value) (l : List Int) (hx : a.eval x = vx) (hrd : Row w 1 vx l.length (ints l))
    (hlen : xs.length + l.length ≤ 1000000000) (hbase : base ≤ w.heap.size)
    (h : ∀ v' w', w'.ownsRow base TermT 1 v' (xs ++ l).length (ints (xs ++ l)) → w.grownBy w' v.ownBlock → wpList Tryd.prog ops Q rest (a.put o.dst v') w') : wpList Tryd.prog ops Q (o :: rest) a w := by
  refine wpList_plain hg fun K hK => ?_
  obtain ⟨i0, hi, hz0, hz1, hz2⟩ := info_parts rowTK
  rcases hrd with ⟨hl, ⟨rfl, h0⟩ | ⟨b, off, cap, rfl, h1, h2, h3, h4⟩⟩
  · obtain rfl : l = [] := List.eq_nil_of_length_eq_zero h0
    have hrun := run_append_owned_none (P := Tryd.prog) (w := w) base 23 o.type TermT i0 1 Tryd.underlying23 hi v _ _ hown
    unfold Oper.wp
    simp [execOp, ho, resolve, invoke, builtin, hs, hx, hrun, Result.andThen]
    exact hK _ _ (h v w (by rw [List.append_nil]; exact hown) ⟨rfl, rfl, rfl, Nat.le_refl _, fun _ _ _ => rfl⟩)
  · refine wp_append_own w s x 23 ho base TermT i0 (.int .i64 0) 1 8 Tryd.underlying23 hi hz0 hz1 hz2 rfl (by decide) v _ _ hs hown ⟨b, off, none⟩ l.length cap (ints l) hx (by simp [ints]) (fun j u hj => by have := h4 j u hj; by_cases h0 : j = 0 <;> simp_all [Addr.add]) (ints_oneCellK l) (by unfold maxLen; omega) (by omega) hbase ?_
    intro v' w' h6 h7 _
    exact hK _ _ (h v' w' (by rw [List.length_append, intsT_append]; exact h6) h7)


set_option maxRecDepth 100000 in
set_option maxHeartbeats 25600000 in
theorem local_any {w : World} {B0 ra : Nat} {rl rs rd : Value} {p : Pl} (hr : IsRef w B0 ra rl rs rd p) {vg : Value} {g : List Int} (hg : Row w 1 vg g.length (ints g)) (hgl : g.length ≤ 20) {vs : Value} {l : List St} (hs : Row w 4 vs l.length (sts l)) (hll : l.length ≤ 1000000) (t : Int) (hloc : ∀ y ∈ l, y.t ∈ mayL p t g) (hnd : (l.map (·.t)).Nodup) : Calls Tryd.prog 20 #[.pointer (some ⟨ra, 0, none⟩), vg, vs, .int .i64 t] w fun e w' => e = .returned (.bool true) ∧ Below w.heap.size w w' := by
  obtain ⟨ga, gc, rfl, hgx⟩ := hg.at
  obtain ⟨sa, sc, rfl, hsx⟩ := hs.at2
  have hok := hr.ok
  have HML : Hid (∀ i, i ≤ g.length → (mayL p t (g.take i)).length ≤ 1400000) := Lib.hid fun i hi => by
    have := may_len hok t (g.take i)
    rw [List.length_take, Nat.min_eq_left hi] at this
    omega
  have HSL : Hid (∀ x, (subs p x).length ≤ 65536) := Lib.hid fun x => Nat.le_trans (subs_len hok x) hok.len
  have HR := Lib.hid hr
  have HGX := Lib.hid hgx
  have HSX := Lib.hid hsx
  have HLO : Hid (∀ i (hi : i < l.length), decide ((l[i]).t ∈ mayL p t g) = true) := Lib.hid fun i hi => decide_eq_true (hloc _ (List.getElem_mem hi))
  have HND : Hid (∀ k i (hk : k < i) (hi : i < l.length), ((l[k]).t == (l[i]).t) = false) := Lib.hid fun k i hk hi => by
    rw [beq_eq_false_iff_ne]
    intro e
    have h1 := List.pairwise_iff_getElem.1 hnd k i (by simp; omega) (by simpa using hi) hk
    simp only [List.getElem_map] at h1
    exact h1 e
  have SU := Lib.hid (rsubs (hr.below (bA0 w (.cells #[] TermT))) t)
  have hown0 : (w.alloc (.cells #[] TermT)).ownsRow w.heap.size TermT 1 (.slice (some ⟨w.heap.size, 0, none⟩) 0 0) ([] : List Int).length (ints []) := World.ownsRow_made w #[] 0 (Nat.le_refl _) (by unfold maxLen; omega) rfl
  have HO0 := Lib.hid hown0
  have HA := Lib.hid (bA0 w (.cells #[] TermT))
  clear hr hg hs hgx hsx hloc hnd hok hown0
  go_enter Tryd.func20, Tryd.ntmps20
  go_wp2_with fail
  refine SU.out.mono ?_
  rintro e w1 ⟨v1, rfl, hrow1, u1⟩
  have HRW1 := Lib.hid hrow1
  have HO1 := Lib.hid (own_hold HO0.out (Hold.below u1))
  have HU1 := Lib.hid (HA.out.trans (u1.mono HA.out.size))
  clear hrow1 u1 SU HO0
  have HL0 := HSL.out t
  obtain ⟨ta, tc, rfl⟩ := (row_of_own HRW1.out).shape
  go_wp2_with (at_builtin; refine wpList_append_tL rfl _ _ rfl w.heap.size _ [] rfl HO1.out _ (subs p t) rfl (row_of_own HRW1.out) (by simp; omega) HU1.out.size ?_; intro v2 w2 hrow2 hg2; obtain ⟨ma, mc, rfl⟩ := (row_of_own hrow2).shape)
  have hb2 : Below w.heap.size w w2 := HU1.out.trans (grown_below hg2 HU1.out.size (fun x e => (own_type HO1.out e).1))
  rw [List.nil_append] at hrow2
  have HB2 := Lib.hid hb2
  have HRW2 : Hid (w2.ownsRow w.heap.size TermT 1 (.slice ma (subs p t).length mc) (mayL p t (g.take 0)).length (ints (mayL p t (g.take 0)))) := Lib.hid (by rw [List.take_zero, mayL_nil]; exact hrow2)
  clear hrow2 hg2 hb2 HO1 HU1 HRW1 HL0
  generalize (subs p t).length = n0 at *
  obtain ⟨wo, rfl⟩ : ∃ wo, wo = w2 := ⟨_, rfl⟩
  go_loopw [9, 10] (fun v9 v10 wr => ∃ i : Nat, v10 = .int .i64 (i : Int) ∧ i ≤ g.length ∧ wr.ownsRow w.heap.size TermT 1 v9 (mayL p t (g.take i)).length (ints (mayL p t (g.take i))) ∧ Below w.heap.size w wr) (fun _ v _ => g.length - (intOf v).toNat)
  case atStart => exact ⟨0, rfl, Nat.zero_le _, HRW2.out, HB2.out⟩
  case round =>
    clear HB2 HRW2
    obtain ⟨i, rfl, hi, hrow, hb⟩ := hrel
    have HRW := Lib.hid hrow
    have HB := Lib.hid hb
    obtain ⟨na, nc, rfl⟩ := (row_of_own hrow).shape
    clear hrow
    by_cases hlt : i < g.length
    · obtain ⟨gb, go, hga, q⟩ := HGX.out (Nat.lt_of_le_of_lt (Nat.zero_le _) hlt)
      subst hga
      have c0 := bcellAt hb (q i _ (ints_at g i hlt))
      have hi0 : (0 : Int) ≤ (i : Int) := by omega
      have hi1 : (i : Int) < (g.length : Int) := by omega
      have HTK : Hid (g.take (i + 1) = g.take i ++ [g[i]]) := Lib.hid (by simp)
      have HM1 := HML.out i hi
      have HS1 := HSL.out g[i]
      have SU := Lib.hid (rsubs (HR.out.below hb) g[i])
      generalize g[i] = y at *
      clear q hb
      go_wp2_with fail
      refine SU.out.mono ?_
      rintro e w3 ⟨v3, rfl, hrow3, u3⟩
      have HRW3 := Lib.hid hrow3
      have HO3 := Lib.hid (own_hold HRW.out (Hold.below u3))
      have HU3 := Lib.hid (bmore HB.out u3)
      clear hrow3 u3 SU HRW HB
      obtain ⟨ta, tc, rfl⟩ := (row_of_own HRW3.out).shape
      go_wp2_with (at_builtin; refine wpList_append_tL rfl _ _ rfl w.heap.size _ (mayL p t (g.take i)) rfl HO3.out _ (subs p y) rfl (row_of_own HRW3.out) (by omega) HU3.out.size ?_; intro v4 w4 hrow4 hg4)
      have hb4 : Below w.heap.size w w4 := HU3.out.trans (grown_below hg4 HU3.out.size (fun x e => (own_type HO3.out e).1))
      have HB4 := Lib.hid hb4
      have HRW4 : Hid (w4.ownsRow w.heap.size TermT 1 v4 (mayL p t (g.take (i + 1))).length (ints (mayL p t (g.take (i + 1))))) := Lib.hid (by rw [HTK.out, mayL_snoc]; exact hrow4)
      clear hrow4 hg4 hb4 HO3 HU3 HRW3 HM1 HS1
      go_wp2_with fail
      go_roundw
      case rel => exact ⟨i + 1, by go_num, by omega, HRW4.out, HB4.out⟩
      case measure => simp [intOf] <;> omega
    · obtain rfl : i = g.length := by omega
      have HM := HML.out g.length (Nat.le_refl _)
      have hmay : mayL p t (g.take g.length) = mayL p t g := by rw [List.take_of_length_le (Nat.le_refl _)]
      rw [hmay] at HRW HM ⊢
      clear hmay
      clear HML HSL hb hlt hi
      go_wp2_with fail
      generalize mayL p t g = may at *
      obtain ⟨wm, rfl⟩ : ∃ wm, wm = wr := ⟨_, rfl⟩
      go_loopw [11] (fun v11 wr => ∃ i : Nat, v11 = .int .i64 (i : Int) ∧ i ≤ l.length ∧ Below wm.heap.size wm wr) (fun v _ => l.length - (intOf v).toNat)
      case atStart => exact ⟨0, rfl, Nat.zero_le _, Below.refl _ _⟩
      case round =>
        obtain ⟨i, rfl, hi, hbm⟩ := hrel
        have HBM := Lib.hid hbm
        have HH := Lib.hid (fun x => rhasLL ((row_of_own HRW.out).below hbm) (by omega) x)
        by_cases hlt : i < l.length
        · obtain ⟨gb, go, rfl, q⟩ := HSX.out (by omega)
          have c3 := bcellAt hbm (bcellAt HB.out (q _ _ (sts_at l i hlt).2.2.2))
          have HQ := Lib.hid q
          simp only [← Nat.add_assoc] at c3
          have hi0 : (0 : Int) ≤ (i : Int) := by omega
          have hi1 : (i : Int) < (l.length : Int) := by omega
          have HH1 := Lib.hid (HH.out (l[i]).t)
          rw [HLO.out i hlt] at HH1
          have HN1 := Lib.hid (fun k (hk : k < i) => HND.out k i hk hlt)
          generalize (l[i]).t = y at *
          clear q hbm HH
          go_wp2_with fail
          refine HH1.out.mono ?_
          rintro e w5 ⟨he, hw⟩
          subst he
          subst hw
          go_wp2_with fail
          obtain ⟨wn, rfl⟩ : ∃ wn, wn = wr := ⟨_, rfl⟩
          go_loopw [12] (fun v12 wr => ∃ k : Nat, v12 = .int .i64 (k : Int) ∧ k ≤ i ∧ Below wn.heap.size wn wr) (fun v _ => i - (intOf v).toNat)
          case atStart => exact ⟨0, rfl, Nat.zero_le _, Below.refl _ _⟩
          case round =>
            obtain ⟨k, rfl, hk, hbn⟩ := hrel
            have HBN := Lib.hid hbn
            by_cases hki : k < i
            · have d3 := bcellAt hbn c3
              have e3 := bcellAt hbn (bcellAt HBM.out (bcellAt HB.out (HQ.out _ _ (sts_at l k (by omega)).2.2.2)))
              simp only [← Nat.add_assoc] at e3
              have hne := HN1.out k hki
              generalize (l[k]).t = z at *
              have hk0 : (0 : Int) ≤ (k : Int) := by omega
              have hk1 : (k : Int) < (l.length : Int) := by omega
              have hk2 : (k : Int) < (i : Int) := by omega
              clear hbn c3 hki
              go_wp2_with fail
              go_quiet (fail)
              have HBQ := Lib.hid (bmore HBN.out (bdn wr nq))
              clear d3 e3
              go_wp2_with fail
              go_roundw
              case rel => exact ⟨k + 1, by go_num, by omega, HBQ.out⟩
              case measure => simp [intOf] <;> omega
            · obtain rfl : k = i := by omega
              have HBX := Lib.hid (bmore HBM.out HBN.out)
              clear hbn hki c3
              go_wp2_with fail
              go_roundw
              case rel => exact ⟨k + 1, by go_num, by omega, HBX.out⟩
              case measure => simp [intOf] <;> omega
        · obtain rfl : i = l.length := by omega
          clear hbm hlt HH
          go_wp2_with fail
          go_returns
          exact ⟨rfl, bmore HB.out HBM.out⟩
end Go.Proofs.YtljbmgehgbcdfaaDoor
namespace Go.Proofs.YtljbmgehgbcdfaaDoor
open Go.RowKit Go.Maps
set_option linter.unusedVariables false

/-- Twain rows of terms that do not share a block. -/
def Twain (u v : Value) : Prop := ∀ r, u.ownBlock = some r → v.ownBlock ≠ some r
section
variable {w w' : World} {B2 k mb a : Nat} {gv : Value} {p : Pl} {g : List Int} {s : Int → Option Way} {B xb ra : Nat} {xg : Value} {g' : List Int}
theorem IsRK.kg (h : IsRK w B xb ra xg g') (hk : IsKnow w B2 k gv mb a p g s) (h2 : Twain gv xg) (hg : KG w B2 k mb gv w') : IsRK w' B xb ra xg g' := by
  have lay : ∀ {j : Nat} {cs : Array Value} {T : TypeId}, w.heap[j]? = some (Obj.cells cs T) → T ≠ KnowT → (gv.ownBlock ≠ some j) → w'.heap[j]? = some (Obj.cells cs T) := fun {j cs T} hj hT hne => by
    rw [hg.keep j (Array.getElem?_eq_some_iff.1 hj).1 (fun e => ?_) (fun e => ?_) hne]
    · exact hj
    · rw [e, hk.lay] at hj
      simp only [Option.some.injEq, Obj.cells.injEq] at hj
      exact hT hj.2.1.symm
    · obtain ⟨es, c, hm⟩ := hk.seen.mapb
      rw [e, hm] at hj; cases hj
  refine ⟨lay h.lay (by decide) (fun e => ?_), h.gx, ?_⟩
  · obtain ⟨_, cur, hc⟩ := own_type hk.row e
    rw [h.lay] at hc
    simp only [Option.some.injEq, Obj.cells.injEq] at hc
    exact absurd hc.2.1 (by decide)
  · obtain ⟨h1, h3⟩ := h.row
    refine ⟨h1, ?_⟩
    rcases h3 with h3 | ⟨r, cap, cur, rfl, hb, hr, rest⟩
    · exact .inl h3
    · exact .inr ⟨r, cap, cur, rfl, hb, lay hr (by decide) (fun e => h2 r e rfl), rest⟩
theorem IsKnow.rg (hk : IsKnow w B2 k gv mb a p g s) (h : IsRK w B xb ra xg g') (h2 : Twain gv xg) (hg : RG w B xb xg w') : IsKnow w' B2 k gv mb a p g s := by
  have lay : ∀ {j : Nat} {cs : Array Value} {T : TypeId}, w.heap[j]? = some (Obj.cells cs T) → T ≠ RKT → (xg.ownBlock ≠ some j) → w'.heap[j]? = some (Obj.cells cs T) := fun {j cs T} hj hT hne => by
    rw [hg.keep j (Array.getElem?_eq_some_iff.1 hj).1 (fun e => ?_) hne]
    · exact hj
    · rw [e, h.lay] at hj
      simp only [Option.some.injEq, Obj.cells.injEq] at hj
      exact hT hj.2.1.symm
  refine ⟨lay hk.lay (by decide) (fun e => ?_), hk.gk, hk.gm, ?_, hk.seen.same (fun es c hm => ?_), hk.ok⟩
  · obtain ⟨_, cur, hc⟩ := own_type h.row e
    rw [hk.lay] at hc
    simp only [Option.some.injEq, Obj.cells.injEq] at hc
    exact absurd hc.2.1 (by decide)
  · obtain ⟨h1, h3⟩ := hk.row
    refine ⟨h1, ?_⟩
    rcases h3 with h3 | ⟨r, cap, cur, rfl, hb, hr, rest⟩
    · exact .inl h3
    · exact .inr ⟨r, cap, cur, rfl, hb, lay hr (by decide) (fun e => h2 r rfl e), rest⟩
  · rw [hg.keep mb (Array.getElem?_eq_some_iff.1 hm).1 (fun e => ?_) (fun e => ?_)]
    · exact hm
    · rw [e, h.lay] at hm; cases hm
    · obtain ⟨_, cur, hc⟩ := own_type h.row e
      rw [hm] at hc; cases hc
end
/-- A row that grew stays apart from one that was there. -/
theorem two_left {w : World} {u u' v : Value} (h : Twain u v) (hu : u'.ownBlock = u.ownBlock ∨ ∃ q, u'.ownBlock = some q ∧ w.heap.size ≤ q) (hv : ∀ r, v.ownBlock = some r → r < w.heap.size) : Twain u' v := by
  intro r hr e
  rcases hu with hu | ⟨q, hq, hs⟩
  · exact h r (hu ▸ hr) e
  · rw [hq] at hr; cases hr
    have := hv _ e; omega
theorem two_right {w : World} {u v v' : Value} (h : Twain u v) (hv : v'.ownBlock = v.ownBlock ∨ ∃ q, v'.ownBlock = some q ∧ w.heap.size ≤ q) (hu : ∀ r, u.ownBlock = some r → r < w.heap.size) : Twain u v' := by
  intro r hr e
  rcases hv with hv | ⟨q, hq, hs⟩
  · exact h r hr (hv ▸ e)
  · rw [hq] at e; cases e
    have := hu _ hr; omega
theorem own_lt {w : World} {base n size : Nat} {e : TypeId} {v : Value} {xs : List Value} (h : w.ownsRow base e size v n xs) : ∀ r, v.ownBlock = some r → r < w.heap.size := fun r hr => by
  obtain ⟨_, cur, hc⟩ := own_type h hr
  exact (Array.getElem?_eq_some_iff.1 hc).1

set_option maxRecDepth 100000 in
set_option maxHeartbeats 25600000 in
theorem proofs_walk {w : World} (hl : Laid w) {fo : Fo} {vn : Value} (hk : IsK w (fun b => b < w.heap.size) vn fo) (hok : OkF fo) {vg : Value} {g : List Int} (hg : Row w 1 vg g.length (ints g)) (hgi : ∀ x ∈ g, i64R x) : Calls Tryd.prog 3 #[vn, vg] w fun e w' => e = .returned (.bool true) ∧ Below w.heap.size w w' := by
  have hlen := hk.small
  unfold maxLen at hlen
  obtain ⟨av, cv, rfl, _⟩ := hk.shape
  obtain ⟨ga, gc, rfl⟩ := hg.shape
  have HL := Lib.hid hl
  have HK := Lib.hid hk
  have HOK := Lib.hid hok
  have HG := Lib.hid hg
  have HGI := Lib.hid hgi
  have WD := Lib.hid (wide_any hk)
  have hgl : g.length ≤ 9223372036854775807 := by
    rcases hg.2 with ⟨_, h0⟩ | ⟨b, off, cap, _, _, h4, h5, _⟩
    · omega
    · unfold maxLen at h5; omega
  clear hl hk hok hg hgi
  go_enter Tryd.func3, Tryd.ntmps3
  go_wp2_with fail
  refine WD.out.mono ?_
  rintro e w1 ⟨⟨q1, rfl, hq1⟩, u1⟩
  have HU1 := Lib.hid u1
  clear u1 WD
  cases q1 with
  | true =>
    go_wp2_with fail
    refine (live_any (HL.out.below HU1.out)).mono ?_
    rintro e w2 ⟨rfl, u2⟩
    have HU2 := Lib.hid (bmore HU1.out u2)
    clear u2
    go_wp2_with fail
    go_returns
    exact ⟨rfl, HU2.out⟩
  | false =>
    obtain ⟨h12, h400⟩ := hq1 rfl
    by_cases h20 : 20 < g.length
    · have h20' : (20 : Int) < (g.length : Int) := by omega
      go_wp2_with fail
      refine (live_any (HL.out.below HU1.out)).mono ?_
      rintro e w2 ⟨rfl, u2⟩
      have HU2 := Lib.hid (bmore HU1.out u2)
      clear u2
      go_wp2_with fail
      go_returns
      exact ⟨rfl, HU2.out⟩
    · have h20' : decide ((20 : Int) < (g.length : Int)) = false := decide_eq_false (by omega)
      have hkl := (HK.out.below HU1.out).keep (G' := fun b => b < w1.heap.size) (fun b hb _ => ⟨Nat.lt_of_lt_of_le hb HU1.out.size, rfl⟩)
      have PO := Lib.hid (pools_any (HL.out.below HU1.out) hkl HOK.out (by omega) (by omega))
      have hg20 : g.length ≤ 20 := by omega
      clear hkl h20
      go_wp2_with fail
      refine PO.out.mono ?_
      rintro e w2 ⟨pa, b, ra, vv, vo, rl, rs, rd, q, rfl, p2, r2, u2⟩
      have HP2 := Lib.hid p2
      have HR2 := Lib.hid r2
      have HU2 := Lib.hid (bmore HU1.out u2)
      have HG2 := Lib.hid (HG.out.below (bmore HU1.out u2))
      clear p2 r2 u2 PO
      have HMB := Lib.hid (show w2.heap.size ≠ b by obtain ⟨D, ho, _⟩ := HP2.out.dict; have := ho.lt; omega)
      go_wp2_with fail
      refine (knew w2 pa w2.heap.size q (Nat.le_refl _)).mono ?_
      rintro e w3 ⟨rfl, k3, u3⟩
      have HK3 := Lib.hid k3
      have HU3 := Lib.hid u3
      clear k3 u3
      generalize w2.heap.size + 1 = k at *
      have bA := bA0 w3 (.cells #[.pointer (some ⟨ra, 0, none⟩), .slice none 0 0] RKT)
      have hnA : (w3.alloc (.cells #[.pointer (some ⟨ra, 0, none⟩), .slice none 0 0] RKT)).heap[w3.heap.size]? = some (Obj.cells #[.pointer (some ⟨ra, 0, none⟩), .slice none 0 0] RKT) := heap_alloc_new _ _
      have HK4 := Lib.hid (HK3.out.below bA)
      have HX4 : Hid (IsRK (w3.alloc (.cells #[.pointer (some ⟨ra, 0, none⟩), .slice none 0 0] RKT)) w2.heap.size w3.heap.size ra (.slice none 0 0) []) := Lib.hid ⟨hnA, HU3.out.size, World.ownsRow_nil _ _ _ 1⟩
      have HU4 := Lib.hid (bmore HU3.out bA)
      clear bA hnA HK3 HU3
      go_wp2_with fail
      generalize (w3.alloc (.cells #[.pointer (some ⟨ra, 0, none⟩), .slice none 0 0] RKT)) = w4 at *
      generalize w3.heap.size = xb at *
      obtain ⟨wo, hwo⟩ : ∃ wo, wo = w4 := ⟨_, rfl⟩
      go_loopw [11] (fun v11 wr => ∃ (i : Nat) (gv xg : Value) (s : Int → Option Way), v11 = .int .i64 (i : Int) ∧ i ≤ g.length ∧ Below w2.heap.size w2 wr ∧ IsKnow wr w2.heap.size k gv w2.heap.size pa q (addsG q [] (g.take i)) s ∧ IsRK wr w2.heap.size xb ra xg (addsG q [] (g.take i)) ∧ Twain gv xg) (fun v _ => g.length - (intOf v).toNat)
      case atStart => exact ⟨0, _, _, _, rfl, Nat.zero_le _, HU4.out, HK4.out, HX4.out, fun r hr => by cases hr⟩
      case round =>
        clear HK4 HX4 HU4
        obtain ⟨i, kg, xg, s, rfl, hi, hb, hk, hx, h2⟩ := hrel
        have HB := Lib.hid hb
        have HK5 := Lib.hid hk
        have HX5 := Lib.hid hx
        have H2 := Lib.hid h2
        clear hb hk hx h2
        by_cases hlt : i < g.length
        · obtain ⟨gga, ggc, hgg, hgx⟩ := (HG2.out.below HB.out).at
          obtain ⟨gb, go, hga, qq⟩ := hgx (by omega)
          rw [hga] at hgg
          simp only [Value.slice.injEq, true_and] at hgg
          obtain ⟨rfl, rfl⟩ := hgg
          have c0 := qq i _ (ints_at g i hlt)
          have HCX0 : Hid (w2.cell? ⟨gb, go + i, none⟩ = some (.int .i64 (g[i]))) := Lib.hid (by
            obtain ⟨ga', gc', e1, q1⟩ := HG2.out.at
            obtain ⟨gb', go', e2, q2⟩ := q1 (by omega)
            rw [e2] at e1
            simp only [Value.slice.injEq, Option.some.injEq, Addr.mk.injEq, and_true, true_and] at e1
            obtain ⟨⟨rfl, rfl⟩, _⟩ := e1
            exact q2 i _ (ints_at g i hlt))
          have HXI := Lib.hid (HGI.out _ (List.getElem_mem hlt))
          have HTK : Hid (g.take (i + 1) = g.take i ++ [g[i]]) := Lib.hid (by simp)
          have HLN : Hid ((addsG q [] (g.take i)).length ≤ 65536) := Lib.hid (by have := adds_len (p := q) (g.take i) []; simp at this; omega)
          generalize g[i] = x at *
          have hi0 : (0 : Int) ≤ (i : Int) := by omega
          have hi1 : (i : Int) < (g.length : Int) := by omega
          have AD := Lib.hid (add_any (HP2.out.below HB.out) HK5.out HMB.out HXI.out)
          clear qq hgx hga
          go_wp2_with fail
          refine AD.out.mono ?_
          rintro e w6 ⟨he, gv6, s6, k6, kg6, ow6⟩
          have HK6 : Hid (IsKnow w6 w2.heap.size k gv6 w2.heap.size pa q (addsG q [] (g.take (i + 1))) s6) := Lib.hid (by rw [HTK.out, addsG_snoc]; exact k6)
          have HX6 := Lib.hid (HX5.out.kg HK5.out H2.out kg6)
          have H26 := Lib.hid (two_left H2.out ow6 (own_lt HX5.out.row))
          have HB6 := Lib.hid (HB.out.trans kg6.below)
          generalize (if inP q x = true then (0 : Int) else 51) = ev at *
          subst he
          clear k6 kg6 ow6 AD c0 HK5 HX5 H2 HB
          have RA := Lib.hid (radd_any (HR2.out.below HB6.out) HX6.out HLN.out x)
          have c0 : w6.cell? ⟨gb, go + i, none⟩ = some (.int .i64 x) := bcellAt HB6.out HCX0.out
          go_wp2_with fail
          refine RA.out.mono ?_
          rintro e w7 ⟨⟨ev2, rfl⟩, xg7, x7, rg7, ow7⟩
          have HX7 : Hid (IsRK w7 w2.heap.size xb ra xg7 (addsG q [] (g.take (i + 1)))) := Lib.hid (by rw [HTK.out, addsG_snoc]; exact x7)
          have HK7 := Lib.hid (HK6.out.rg HX6.out H26.out rg7)
          have H27 := Lib.hid (two_right H26.out ow7 (own_lt HK6.out.row))
          have HB7 := Lib.hid (HB6.out.trans rg7.below)
          clear x7 rg7 ow7 RA HK6 HX6 H26 HB6 c0
          go_wp2_with fail
          go_roundw
          case rel => exact ⟨i + 1, gv6, xg7, s6, by go_num, by omega, HB7.out, HK7.out, HX7.out, H27.out⟩
          case measure => simp [intOf] <;> omega
        · obtain rfl : i = g.length := by omega
          have htk : g.take g.length = g := List.take_of_length_le (Nat.le_refl _)
          rw [htk] at HK5 HX5
          have HIN : Hid (∀ x ∈ addsG q [] g, inP q x = true) := Lib.hid (HK5.out.ok.ing)
          have HSB : Hid (∀ x ∈ addsG q [] g, x ∈ g) := Lib.hid (adds_sub g)
          have hGL : (addsG q [] g).length ≤ 20 := by have := adds_len (p := q) g []; simp at this; omega
          generalize addsG q [] g = G at *
          clear htk hlt hi H2
          have RD := Lib.hid (rderived_any (HR2.out.below HB.out) HX5.out HIN.out (by omega) HK5.out.ok.reach)
          go_wp2_with fail
          refine RD.out.mono ?_
          rintro e w6 ⟨ob, cap, d, rfl, hbo, hd, u6⟩
          have HBO := Lib.hid hbo
          have HD := Lib.hid hd
          have HK6 := Lib.hid (HK5.out.below u6)
          have HX6 := Lib.hid (HX5.out.below u6)
          have HB6 := Lib.hid (HB.out.trans (u6.mono HB.out.size))
          have hql : q.length ≤ 65536 := HP2.out.ok.len
          clear hbo hd u6 RD HK5 HX5 HB
          obtain ⟨ala, alc, rfl⟩ := (row_of_own HR2.out.rl).shape
          have DZ : Hid (derB q s 0 = false) := Lib.hid (der_none HP2.out.ok HIN.out HK6.out.ok.reach)
          go_wp2_with fail
          obtain ⟨wl, hwl⟩ : ∃ wl, wl = w6 := ⟨_, rfl⟩
          go_loopw [13] (fun v13 wr => ∃ t : Nat, v13 = .int .i64 (t : Int) ∧ t ≤ q.length + 1 ∧ Below w6.heap.size w6 wr) (fun v _ => q.length + 2 - (intOf v).toNat)
          case atStart => exact ⟨0, rfl, by omega, Below.refl _ _⟩
          case round =>
            obtain ⟨t, rfl, ht, hbt⟩ := hrel
            have HBT := Lib.hid hbt
            have HBS := Lib.hid (HB6.out.trans (hbt.mono HB6.out.size))
            have cR : wr.cell? ⟨ra, 0, none⟩ = some (.slice ala q.length alc) := cellB (HR2.out.below HBS.out).lay rfl
            by_cases hlt : t ≤ q.length
            · have ht0 : (t : Int) ≤ (q.length : Int) := by omega
              have hti : i64R (t : Int) := by unfold i64R; omega
              have PR := Lib.hid (proof_any (R := fun x => x ∈ mayL q (t : Int) G) (HP2.out.below HBS.out) (HK6.out.below hbt) (fun x hx => may_reach HP2.out.ok _ HIN.out hx) (fun u hu _ => may_closed HP2.out.ok _ _ u hu) hti (fun hd => by
                by_cases h0 : t = 0
                · have h9 := derB_iff.2 hd
                  rw [h0] at h9
                  have h8 := DZ.out
                  rw [show ((0 : Nat) : Int) = 0 from rfl, h8] at h9
                  cases h9
                · exact List.mem_append_left _ (subs_self (by simp [inP]; omega))))
              by_cases ht1 : t = 0
              · subst ht1
                have hz : derB q s ((0 : Nat) : Int) = false := DZ.out
                rw [hz] at PR
                clear hz hbt
                go_wp2_with fail
                refine PR.out.mono ?_
                rintro e w7 ⟨u7, ⟨_, rfl⟩ | ⟨h, _⟩⟩
                · have HB7 := Lib.hid (bmore HBT.out u7)
                  clear u7 PR cR
                  go_wp2_with fail
                  go_roundw
                  case rel => exact ⟨1, by go_num, by omega, HB7.out⟩
                  case measure => simp [intOf] <;> omega
                · cases h
              · have ht2 : (0 : Int) < (t : Int) := by omega
                have ht3 : (0 : Int) ≤ (t : Int) := by omega
                have ht4 : (t : Int) < ((q.length + 1 : Nat) : Int) := by omega
                have hdt := HD.out t (by omega) hlt
                cases hder : derB q s (t : Int) with
                | false =>
                  rw [hder] at PR hdt
                  clear hbt
                  go_wp2_with fail
                  refine PR.out.mono ?_
                  rintro e w7 ⟨u7, ⟨_, rfl⟩ | ⟨h, _⟩⟩
                  · have e0 := (HBO.out.below (bmore HBT.out u7)).cell (x := t) (by omega)
                    rw [hdt] at e0
                    have HB7 := Lib.hid (bmore HBT.out u7)
                    clear u7 PR cR
                    go_wp2_with fail
                    go_roundw
                    case rel => exact ⟨t + 1, by go_num, by omega, HB7.out⟩
                    case measure => simp [intOf] <;> omega
                  · cases h
                | true =>
                  rw [hder] at PR hdt
                  clear hbt
                  go_wp2_with fail
                  refine PR.out.mono ?_
                  rintro e w7 ⟨u7, ⟨h, _⟩ | ⟨_, lv, L, rfl, hrow, hgood, hn, hlast⟩⟩
                  · cases h
                  · have e0 := (HBO.out.below (bmore HBT.out u7)).cell (x := t) (by omega)
                    rw [hdt] at e0
                    obtain ⟨la, lc, rfl⟩ := (row_of_own hrow).shape
                    have hL1 : 1 ≤ L.length := List.length_pos_iff.2 hn
                    have HLI : Hid (∀ y ∈ L, inP q y.t = true) := Lib.hid (fun y hy => may_in HP2.out.ok (hgood.loc y hy))
                    have hL2 : L.length ≤ 65536 := by
                      have := nodup_in hgood.nodup (fun x hx => by obtain ⟨y, hy, rfl⟩ := List.mem_map.1 hx; exact HLI.out y hy)
                      simp at this; omega
                    have HCK : Hid (checkP q g L (t : Int) = (0, 0)) := Lib.hid ((hgood.given HSB.out).check hn hlast)
                    have HGO := Lib.hid hgood
                    have HRW := Lib.hid (row_of_own hrow)
                    have HB7 := Lib.hid (bmore HBT.out u7)
                    have HS7 := Lib.hid (HB6.out.trans (HB7.out.mono HB6.out.size))
                    have CK := Lib.hid (check_any (HP2.out.below HS7.out) (HG2.out.below HS7.out) HGI.out (by omega) HRW.out (fun y hy => in_i64 hql (.inr (HLI.out y hy))) (by omega) (goal := (t : Int)))
                    rw [HCK.out] at CK
                    have hL0 : (0 : Int) < (L.length : Int) := by omega
                    clear u7 hrow hgood hn hlast PR cR hdt hder
                    go_wp2_with fail
                    refine CK.out.mono ?_
                    rintro e w8 ⟨rfl, u8⟩
                    have HB8 := Lib.hid (bmore HB7.out u8)
                    have HS8 := Lib.hid (HB6.out.trans (HB8.out.mono HB6.out.size))
                    have HRW8 := Lib.hid (HRW.out.below u8)
                    have RC := Lib.hid (rcheck_any (HR2.out.below HS8.out) (HG2.out.below HS8.out) (by omega) HRW8.out (by omega) (goal := (t : Int)))
                    rw [HCK.out] at RC
                    clear u8 CK HB7 HS7 HRW e0
                    go_wp2_with fail
                    refine RC.out.mono ?_
                    rintro e w9 ⟨rfl, u9⟩
                    have HB9 := Lib.hid (bmore HB8.out u9)
                    have HS9 := Lib.hid (HB6.out.trans (HB9.out.mono HB6.out.size))
                    have HRW9 := Lib.hid (HRW8.out.below u9)
                    have HX9 := HX6.out.below HB9.out
                    have x1 : w9.cell? ⟨xb, 1, none⟩ = some xg := cellB HX9.lay rfl
                    have LO := Lib.hid (local_any (HR2.out.below HS9.out) (row_of_own HX9.row) hGL HRW9.out (by omega) (t : Int) HGO.out.loc HGO.out.nodup)
                    obtain ⟨xa, xc, rfl⟩ := (row_of_own HX9.row).shape
                    clear u9 RC HB8 HS8 HRW8 HX9
                    go_wp2_with fail
                    refine (num_any _ _).mono ?_
                    rintro e w10 ⟨rfl, rfl⟩
                    go_wp2_with fail
                    refine LO.out.mono ?_
                    rintro e w11 ⟨rfl, u11⟩
                    have HB11 := Lib.hid (bmore HB9.out u11)
                    clear u11 LO x1
                    go_wp2_with fail
                    go_roundw
                    case rel => exact ⟨t + 1, by go_num, by omega, HB11.out⟩
                    case measure => simp [intOf] <;> omega
            · obtain rfl : t = q.length + 1 := by omega
              have LV := Lib.hid (live_any (HL.out.below (bmore HU2.out HBS.out)))
              clear hbt hlt
              go_wp2_with fail
              refine LV.out.mono ?_
              rintro e w9 ⟨rfl, u9⟩
              have HU9 := Lib.hid (bmore (bmore HU2.out HBS.out) u9)
              clear u9
              go_wp2_with fail
              go_returns
              exact ⟨rfl, HU9.out⟩
end Go.Proofs.YtljbmgehgbcdfaaDoor
namespace Go.Proofs.YtljbmgehgbcdfaaDoor
open Go Go.ChangeShapes Go.WideShapes Go.ChangeAt Go.RowKit
set_option linter.unusedVariables false

set_option maxRecDepth 100000 in
/-- What the walk gives, for every argument. -/
theorem dproofs_contract (H : Type) (enc : TypeId × Value → H) (W : World) (base : Nat) (args : Array Value) (ds gs : List (DataW H)) (before : List MemPlace)
    (hval0 : ∀ (j : Nat) t v, Tryd.f3.params[j]? = some t → args[j]? = some v → Value.okWide Tryd.prog W .any base t v)
    (hW : DataW.Whole enc Tryd.prog Tryd.f3.params.toList Rows.deduceProofsSpec.vars false W args.toList ds gs before) (hL : laidMetH Tryd.prog laidL W) :
    Calls Tryd.prog 3 args W fun e W' => ∃ v, e = .returned v ∧ Rows.deduceProofsSpec.post enc Tryd.prog Tryd.f3 false true false false W args v W' := by
  have hval : ∀ (j : Nat) t v, Tryd.f3.params[j]? = some t → args[j]? = some v → Value.okWide Tryd.prog W .any base t v := hval0
  have hW' := hW
  obtain ⟨p, q, hA0, hV, rfl, hfz, hnd⟩ := hW
  have hA : DataW.TrodAll enc Tryd.prog W 0 (fun _ => true) true Tryd.f3.params.toList args.toList ds p := hA0
  rw [Tryd.params3] at hA hval
  obtain ⟨v0, vs0, d0, ds0, p0, q0, hargs0, rfl, rfl, h0, r0⟩ := trodAll_cons hA
  obtain ⟨v1, vs1, d1, ds1, p1, q1, hargs1, rfl, rfl, h1, r1⟩ := trodAll_cons r0
  obtain ⟨rfl, rfl, rfl⟩ := trodAll_nil r1
  subst hargs1
  obtain rfl : args = #[v0, v1] := by cases args; simp_all
  obtain ⟨rfl, rfl⟩ := trodVars_none hV
  have hv0 := hval 0 22 v0 rfl rfl
  have hc0 : Cell.okWide Tryd.prog W .any base 22 v0 := by simpa only [Value.okWide, Tryd.underlying22] using hv0
  obtain ⟨a0, c0, n0, e0⟩ := okWide_slice Tryd.underlying22 hv0
  obtain ⟨fuel0, hf0⟩ := id h0
  rw [show v0.cells.toList = [v0] by rw [e0]; rfl] at hf0
  obtain ⟨l0, rl0, hs0⟩ := open_trees hc0 hf0
  have hv1 := hval 1 23 v1 rfl rfl
  have hc1 : Cell.okWide Tryd.prog W .any base 23 v1 := by simpa only [Value.okWide, Tryd.underlying23] using hv1
  obtain ⟨a1, c1, n1, e1⟩ := okWide_slice Tryd.underlying23 hv1
  obtain ⟨fuel1, hf1⟩ := id h1
  rw [show v1.cells.toList = [v1] by rw [e1]; rfl] at hf1
  obtain ⟨l1, rl1, hs1⟩ := open_terms hc1 hf1
  have HL := of_laid hL
  clear hA0 hval0 hL
  simp only [List.append_nil] at hW'
  refine (proofs_walk HL rl0 hs0 rl1 hs1).mono fun e W' ⟨he, bel⟩ => ?_
  subst he
  exact ⟨_, rfl, _, _, _, [], _, [], hW', trodAll_mk1 (shut_bool Tryd.underlying4 _), (trodAll_cons_mk (Below.trod laidOut (by kernel_rfl) (of_decide_eq_true (by kernel_rfl)) h0 bel (places_lt h0)) (trodAll_cons_mk (Below.trod laidOut (by kernel_rfl) (of_decide_eq_true (by kernel_rfl)) h1 bel (places_lt h1)) trodAll_mk0)), rfl, bel.frame _, fun h => by cases h⟩

set_option maxRecDepth 100000 in
theorem dproofs_lifted (os : Os) (started : os.Started) (H : Type) (enc : TypeId × Value → H) :
    ReturnsInHanded {} Tryd.checked os 3 .any (fun w args => (Rows.deduceProofsSpec.pre enc Tryd.prog Tryd.f3 [] false w args ∧ laidMetH Tryd.prog laidL w) ∧ sizedMet enc Tryd.prog Tryd.f3 (OpenSpec.ofChange Rows.deduceProofsSpec) false w args)
      (Rows.deduceProofsSpec.post enc Tryd.prog Tryd.f3 false true false false) := by
  refine returnsInHanded_of_change_and (C := Tryd.checked) (X := fun w _ => laidMetH Tryd.prog laidL w) (fun _ _ _ hh h => h.of_heap hh) own started (by kernel_rfl) Tryd.func3
    (ChangeSpec.witness_shaped (enc := enc) (C := Tryd.checked) (os := os) (X := fun w _ => laidMetH Tryd.prog laidL w) false (World.doorLaid Tryd.prog 400 os) #[.slice none 0 0, .slice none 0 0] 8 rfl (World.shaped_of_RefB (by kernel_rfl) (by kernel_rfl)) (by kernel_rfl) (by kernel_rfl) (by kernel_rfl) (door_met os _)) ?_
  intro W base args ds gs before hval hW _ _ hL _
  exact dproofs_contract H enc W base args ds gs before hval hW hL

/-- The row's statement. -/
theorem dproofs_holds : Rows.DeduceProofsSaid :=
  OpenClaim.holds_of_wide 3 Tryd.f3 rfl rfl rfl rfl rfl rfl rfl ⟨rfl, rfl, rfl, rfl, rfl⟩ rfl rfl rfl rfl rfl (by kernel_rfl) Tryd.func3 (by kernel_rfl)
    (of_decide_eq_true (by kernel_rfl)) (by unfold Func.isWrapper; first | (rw [if_pos (by decide +kernel)]; kernel_rfl) | (rw [if_neg (by decide +kernel)]; exact ⟨rfl, rfl⟩))
    (fun os started H enc _ => dproofs_lifted os started H enc)

/-- The card. -/
theorem dproofs_card : Rows.DeduceProofsCardSaid :=
  Claim7.holds_tied_plain_at .later [] [.data] true _ true
    dproofs_holds (fun _ h => by cases h) (by kernel_rfl) (fun _ h => by cases h) deduceProofs_row_tie rfl ⟨rfl, rfl⟩ (by kernel_rfl) rfl
    (fun f fn hf hfn => by
      obtain rfl : f = 3 := Option.some.inj ((show Tryd.prog.funcNamed "escrow/escrowlaw08.DeduceProofs" = some 3 by kernel_rfl).symm.trans hf) |>.symm
      obtain rfl : fn = Tryd.f3 := (Option.some.inj (Tryd.func3.symm.trans hfn)).symm
      exact ⟨by kernel_rfl, fun j t ht => by
        rw [Tryd.params3] at ht
        have hm : t ∈ [22, 23] := by simpa using Array.mem_of_getElem? ht
        have hall : ([22, 23].all fun u => !Tryd.prog.wantsStandIn u) = true := by kernel_rfl
        exact (show Tryd.prog.wantsStandIn t = false by simpa using List.all_eq_true.1 hall t hm)⟩)
    (by kernel_rfl)
#print axioms dproofs_card
end Go.Proofs.YtljbmgehgbcdfaaDoor
