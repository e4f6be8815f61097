/-
  The walk of KeepHeaps.
-/
import Derived.Test.YtmbaedldikobcaaKRowT
import Derived.Test.YtmbaedldikobcaaKLive
import Derived.Test.YtmbaedldikobcaaKLong
import Derived.Deep.DeepCutAuto
namespace Go.Proofs.Ytmbaedldikobcaa
open Go.RowKit
set_option linter.unusedVariables false

set_option maxRecDepth 100000 in
set_option maxHeartbeats 1600000 in
theorem heaps_long {w : World} {v : Value} {l : List KAct} (h : Row w 3 v l.length (kacs l)) (hm : l.length ≤ maxLen) (hl : 80 < l.length) :
    Calls Try.prog 9 #[v] w fun e w' => e = .returned (.bool true) ∧ Below w.heap.size w w' := by
  have H := Lib.hid h
  obtain ⟨aa, ca, rfl⟩ := h.shape
  clear h
  go_enter Try.func9, Try.ntmps9
  go_wp2_with fail
  refine (long_long H.out hm hl).mono ?_
  rintro e w1 ⟨rfl, rfl⟩
  go_wp2_with fail
  refine (live_any _).mono ?_
  rintro e w1 ⟨rfl, u1⟩
  have HU := Lib.hid u1
  clear u1
  go_wp2_with fail
  go_returns
  exact ⟨rfl, HU.out⟩

set_option maxRecDepth 100000 in
set_option maxHeartbeats 12800000 in
theorem heaps_walk {w : World} {v : Value} {l : List KAct} (h : Row w 3 v l.length (kacs l)) (hok : ∀ y ∈ l, KActOk y) (hl : l.length ≤ 80) :
    Calls Try.prog 9 #[v] w fun e w' => e = .returned (.bool true) ∧ Below w.heap.size w w' := by
  have H := Lib.hid h
  obtain ⟨aa, ca, rfl, xa⟩ := h.at2
  have XA := Lib.hid xa
  have HOK := Lib.hid hok
  have hlen : (l.length : Int) ≤ 80 := by omega
  have HL := Lib.hid hl
  clear h xa hok
  go_enter Try.func9, Try.ntmps9
  go_wp2_with fail
  refine (long_any H.out hl).mono ?_
  clear hl
  rintro e w1 ⟨rfl | rfl, rfl⟩
  · as_aux_lemma =>
    go_wp2_with fail
    refine (live_any _).mono ?_
    rintro e w1 ⟨rfl, u1⟩
    have HU := Lib.hid u1
    clear u1
    go_wp2_with fail
    go_returns
    exact ⟨rfl, HU.out⟩
  · go_wp2_with fail
    refine (new_heap _).mono ?_
    rintro e w1 ⟨rfl, hp, u1⟩
    have HP := Lib.hid hp
    have HU1 := Lib.hid u1
    clear hp u1
    go_wp2_with fail
    go_loopw [4, 5] (fun vw i wr => ∃ (n : Nat) (W L : List Hp) (v' : Value) (t : Int), i = .int .i64 (n : Int) ∧ n ≤ l.length ∧ 0 ≤ t ∧ t ≤ n ∧ W.length ≤ n ∧ Below w.heap.size w wr ∧ IsHp wr w.heap.size w.heap.size 52 v' L t ∧ Both W L t ∧ wr.ownsRow w.heap.size ThT 2 vw (kns W).length (ths (kns W))) (fun _ i _ => l.length - (intOf i).toNat)
    case atStart => exact ⟨0, [], [], _, 0, rfl, Nat.zero_le _, Int.le_refl _, Int.le_refl _, Nat.le_refl _, HU1.out, HP.out, Both.nil _, World.ownsRow_nil _ _ _ 2⟩
    case round =>
      obtain ⟨n, W, L, v', t, rfl, hn, ht0, htn, hWn, hb, hp, hbo, hrw⟩ := hrel
      clear HP HU1
      have HB := Lib.hid hb
      have HQ := Lib.hid hp
      have HBO := Lib.hid hbo
      have HR := Lib.hid hrw
      have HT := Lib.hid (And.intro ht0 (And.intro htn hWn))
      clear hb hp hbo hrw ht0 htn hWn
      by_cases hlt : n < l.length
      · obtain ⟨b1, o1, rfl, q1⟩ := XA.out (by omega)
        obtain ⟨⟨k0, k1⟩, _, n0, n1⟩ := HOK.out (l[n]) (List.getElem_mem hlt)
        have q2 := kacs_at l n hlt
        have c0 := bcellAt HB.out (q1 _ _ q2.1)
        have cw2 := q1 _ _ q2.2.2
        rw [← Nat.add_assoc] at cw2
        have CW := Lib.hid cw2
        clear cw2 q1 q2 XA HOK
        generalize l[n] = y at *
        obtain ⟨kd, ky, nm⟩ := y
        simp only at k0 k1 n0 n1 c0 CW
        have HIN : Hid (InI nm) := Lib.hid ⟨n0, n1⟩
        have hn0 : (0 : Int) ≤ (n : Int) := by omega
        have hn1 : (n : Int) < (l.length : Int) := by omega
        have HLT := Lib.hid hlt
        obtain ⟨va, vc, rfl⟩ := (row_of_own HR.out).shape
        clear n0 n1 hlt
        go_upto_if 31 with fail
        generalize (kd.tmod 2 == 1) = q
        clear c0 k0 k1
        go_cut [4, 6, 7, 8, 9] (fun s4 s6 s7 s8 s9 wx => ∃ (W' L' : List Hp) (v'' : Value) (t' : Int), 0 ≤ t' ∧ t' ≤ (n : Int) + 1 ∧ W'.length ≤ n + 1 ∧ Below w.heap.size w wx ∧ IsHp wx w.heap.size w.heap.size 52 v'' L' t' ∧ Both W' L' t' ∧ wx.ownsRow w.heap.size ThT 2 s4 (kns W').length (ths (kns W')))
        case first =>
          cases q with
          | true =>
            by_cases h0 : L.length = 0
            · as_aux_lemma =>
              obtain rfl : L = [] := List.eq_nil_of_length_eq_zero h0
              obtain rfl : W = [] := List.eq_nil_of_length_eq_zero (by have := HBO.out.len; exact this.symm)
              clear h0
              have hnq := fun W => neq_th (x := 0) (y := 0) (by decide) (by decide) W
              have HPN := Lib.hid (pop_no HQ.out)
              clear CW
              go_wp2_with fail
              refine HPN.out.mono ?_
              rintro e w1 ⟨rfl, u1⟩
              have bA : Below w1.heap.size w1 (w1.alloc (.cells #[.int .i64 0, .int .i64 0] ThT)) := (Below.refl _ _).alloc (Nat.le_refl _) _
              have HB1 := Lib.hid (bmore HB.out (bmore u1 bA))
              have HQ1 := Lib.hid (HQ.out.below (bmore u1 bA))
              have HR1 := Lib.hid (own_hold HR.out (Hold.below (bmore u1 bA)))
              have hv0 : (w1.alloc (.cells #[.int .i64 0, .int .i64 0] ThT)).heap[w1.heap.size]? = some (Obj.cells #[.int .i64 0, .int .i64 0] ThT) := heap_alloc_new _ _
              have HV := Lib.hid hv0
              have HLE := Lib.hid (least_any (row_of_own HR1.out) (by simp [kns]))
              clear u1 bA HPN HQ HR HB hv0
              go_wp2_with fail
              refine HLE.out.mono ?_
              rintro e w2 ⟨r, rfl, hb, m, rfl⟩
              obtain rfl : r = -1 := by
                rcases hb with ⟨_, e⟩ | ⟨b, _, e, _⟩
                · exact e
                · exact absurd e (Nat.not_lt_zero _)
              clear HLE hb
              have c0 := cellB (j := 0) (Hold.below (bdn _ m) _ _ HV.out) rfl
              have c1 := cellB (j := 1) (Hold.below (bdn _ m) _ _ HV.out) rfl
              have HB2 := Lib.hid (bmore HB1.out (bdn _ m))
              have HQ2 := Lib.hid (HQ1.out.below (bdn _ m))
              have HR2 := Lib.hid (own_hold HR1.out (Hold.below (bdn _ m)))
              clear HV HB1 HQ1 HR1
              generalize (w1.alloc (.cells #[.int .i64 0, .int .i64 0] ThT)).drewN m = W2 at *
              go_wp2_with fail
              go_quiet (fail)
              go_wp2_with fail
              go_meet
              have ht := HT.out
              exact ⟨[], [], _, t, ht.1, by omega, by simp, bmore HB2.out (bdn _ _), HQ2.out.below (bdn _ _), HBO.out, own_hold HR2.out (Hold.below (bdn _ _))⟩
            · as_aux_lemma =>
              have h1 : 0 < L.length := Nat.pos_of_ne_zero h0
              have hwl : 0 < (kns W).length := by rw [kns_len, ← HBO.out.len]; exact h1
              have hz : L.length < 100000 := by have := HT.out; have := HL.out; rw [HBO.out.len]; omega
              have htm : atH L 0 ∈ W := HBO.out.perm.mem_iff.1 (by rw [atH_eq h1]; exact List.getElem_mem h1)
              have hnq := fun X => neq_th (HBO.out.keys _ htm) (HBO.out.nums _ htm) X
              have HPN := Lib.hid (pop_yes less_up HQ.out h1 hz HBO.out.keysL HBO.out.ok)
              have HH0 := Lib.hid h1
              have HWL := Lib.hid hwl
              clear CW h0 h1 hwl hz htm
              go_wp2_with fail
              refine HPN.out.mono ?_
              rintro e w1 ⟨rfl, v3, L3, hp3, hpe, ho3, u3, f3⟩
              have bA : Below w1.heap.size w1 (w1.alloc (.cells #[.int .i64 (atH L 0).key, .int .i64 (atH L 0).num] ThT)) := (Below.refl _ _).alloc (Nat.le_refl _) _
              have HB1 := Lib.hid (bmore (HB.out.trans u3) bA)
              have HQ1 := Lib.hid (hp3.below bA)
              have HR1 := Lib.hid (own_hold (own_hold HR.out (f3 ThT (by decide) (by decide))) (Hold.below bA))
              have hv0 : (w1.alloc (.cells #[.int .i64 (atH L 0).key, .int .i64 (atH L 0).num] ThT)).heap[w1.heap.size]? = some (Obj.cells #[.int .i64 (atH L 0).key, .int .i64 (atH L 0).num] ThT) := heap_alloc_new _ _
              have HV := Lib.hid hv0
              have HPE := Lib.hid hpe
              have HO3 := Lib.hid ho3
              have HLE := Lib.hid (least_any (row_of_own HR1.out) (by have := HT.out; have := HL.out; rw [kns_len]; omega))
              clear u3 f3 hp3 hpe ho3 bA HPN HQ HR HB hv0
              go_wp2_with fail
              refine HLE.out.mono ?_
              rintro e w2 ⟨r, rfl, hb, m, rfl⟩
              obtain ⟨a, rfl, ha, hat⟩ := HBO.out.best HH0.out hb
              clear HLE hb
              have HAT : Hid (∀ h : a < W.length, W[a]'h = atH L 0) := Lib.hid fun _ => hat
              have HA := Lib.hid ha
              have c0 := cellB (j := 0) (Hold.below (bdn _ m) _ _ HV.out) rfl
              have c1 := cellB (j := 1) (Hold.below (bdn _ m) _ _ HV.out) rfl
              have HB2 := Lib.hid (bmore HB1.out (bdn _ m))
              have HQ2 := Lib.hid (HQ1.out.below (bdn _ m))
              have HR2 := Lib.hid (own_hold HR1.out (Hold.below (bdn _ m)))
              clear HV HB1 HQ1 HR1 hat
              clear ha
              generalize (w1.alloc (.cells #[.int .i64 (atH L 0).key, .int .i64 (atH L 0).num] ThT)).drewN m = W2 at *
              generalize w1.heap.size = nb at *
              clear w1
              obtain ⟨g, cap, hve, hBg, hcap, hcs⟩ := own_cells HR2.out HWL.out
              simp only [Value.slice.injEq] at hve
              obtain ⟨rfl, _, rfl⟩ := hve
              have d := hcs a (by rw [kns_len]; exact HA.out)
              have d0 : W2.cell? ⟨g, a * 2, none⟩ = some (.int .i64 (atH L 0).key) := by rw [d.1]; simp only [kns, kn, List.getElem_map, HAT.out HA.out]
              have d1 : W2.cell? ⟨g, a * 2 + 1, none⟩ = some (.int .i64 (atH L 0).num) := by rw [d.2]; simp only [kns, kn, List.getElem_map, HAT.out HA.out]
              clear d hcs
              have a0 : (0 : Int) ≤ (a : Int) := by omega
              have a1 : (a : Int) < ((kns W).length : Int) := by rw [kns_len]; have := HA.out; omega
              have a2 : (a : Int) ≤ 80 := by have := HA.out; have := HT.out; have := HL.out; omega
              generalize hk : (atH L 0).key = kt at *
              generalize hm : (atH L 0).num = mt at *
              clear hk hm
              go_wp2_with fail
              go_quiet (fail)
              have HB3 := Lib.hid (bmore HB2.out (bdn _ nq))
              have HQ3 := Lib.hid (HQ2.out.below (bdn _ nq))
              have HR3 := Lib.hid (own_hold HR2.out (Hold.below (bdn _ nq)))
              clear HB2 HQ2 HR2 c0 c1 d0 d1 hnq
              generalize W2.drewN nq = W3 at *
              go_upto_region 16 with fail
              obtain ⟨vt, hrt, hst⟩ : ∃ vt, Row W3 2 vt ((kns W).take a).length (ths ((kns W).take a)) ∧ ∀ X : World, (Instr.slice SlT (.slice (some ⟨g, 0, none⟩) (kns W).length vc) none (some (.int .i64 (a : Int))) none).run Try.prog X = .ok vt X :=
                ⟨_, (row_take (row_of_own HR3.out) (k := a) (by rw [kns_len]; have := HA.out; omega))⟩
              obtain ⟨vd, hrd, hsd⟩ := (row_drop (row_of_own HR3.out) (k := a + 1) (by rw [kns_len]; have := HA.out; omega))
              have HRT := Lib.hid hrt
              have HRD := Lib.hid hrd
              have e1 : ((a + 1 : Nat) : Int) = (a : Int) + 1 := by omega
              rw [e1] at hsd
              have hww : IntKind.i64.wrap ((a : Int) + 1) = (a : Int) + 1 := IntWalk.i64_in _ (by omega)
              clear hrt hrd
              generalize hvs : Value.slice (some ⟨g, 0, none⟩) (kns W).length vc = vs at *
              clear hvs
              refine lex_start [1, 2, 3, 5, 6, 7, 8, 0, 4, 9, 10] (S := fun W => True) (by kernel_rfl) trivial (fun hS => ?_)
              simp only [inOrder, List.filterMap, List.getElem?_cons_succ, List.getElem?_cons_zero]
              refine lex_take (i := 1) (v := ?_) rfl (by kernel_rfl) (by kernel_rfl) (by kernel_rfl) (by rfl) hS ?_ ?_
              rotate_left
              · ((intro W hW; go_simp) <;> with_reducible rfl)
              simp only [Act.put, List.setIfInBounds_toArray, List.set_cons_zero, List.set_cons_succ]
              refine lex_take (i := 2) (v := ?_) rfl (by kernel_rfl) (by kernel_rfl) (by kernel_rfl) (by rfl) hS ?_ ?_
              rotate_left
              · ((intro W hW; go_simp) <;> with_reducible rfl)
              simp only [Act.put, List.setIfInBounds_toArray, List.set_cons_zero, List.set_cons_succ]
              refine lex_take (i := 3) (v := ?_) rfl (by kernel_rfl) (by kernel_rfl) (by kernel_rfl) (by rfl) hS ?_ ?_
              rotate_left
              · ((intro W hW; go_simp) <;> with_reducible rfl)
              simp only [Act.put, List.setIfInBounds_toArray, List.set_cons_zero, List.set_cons_succ]
              refine lex_take (i := 5) (v := ?_) rfl (by kernel_rfl) (by kernel_rfl) (by kernel_rfl) (by rfl) hS ?_ ?_
              rotate_left
              · ((intro W hW; go_simp) <;> with_reducible rfl)
              simp only [Act.put, List.setIfInBounds_toArray, List.set_cons_zero, List.set_cons_succ]
              refine lex_take (i := 6) (v := ?_) rfl (by kernel_rfl) (by kernel_rfl) (by kernel_rfl) (by rfl) hS ?_ ?_
              rotate_left
              · ((intro W hW; go_simp) <;> with_reducible rfl)
              simp only [Act.put, List.setIfInBounds_toArray, List.set_cons_zero, List.set_cons_succ]
              refine lex_take (i := 7) (v := ?_) rfl (by kernel_rfl) (by kernel_rfl) (by kernel_rfl) (by rfl) hS ?_ ?_
              rotate_left
              · ((intro W hW; go_simp) <;> with_reducible rfl)
              simp only [Act.put, List.setIfInBounds_toArray, List.set_cons_zero, List.set_cons_succ]
              refine lex_take (i := 8) (v := ?_) rfl (by kernel_rfl) (by kernel_rfl) (by kernel_rfl) (by rfl) hS ?_ ?_
              rotate_left
              · ((intro W hW; go_simp) <;> with_reducible rfl)
              simp only [Act.put, List.setIfInBounds_toArray, List.set_cons_zero, List.set_cons_succ]
              refine lex_do (i := 0) rfl (by kernel_rfl) (by rfl) (fun K hK => ?_)
              go_simp
              have O0 := Lib.hid (own_hold (own_new0 (Nat.le_refl W3.heap.size)) (Hold.below (bd _)))
              have b4 : Below W3.heap.size W3 (W3.alloc (.cells #[] ThT)).drew := bmore ((Below.refl _ _).alloc (Nat.le_refl _) _) (bd _)
              have B4 := Lib.hid b4
              clear b4
              refine hK _ _ ⟨trivial, ?_⟩
              clear hK K
              generalize (W3.alloc (.cells #[] ThT)).drew = W4 at *
              refine lex_do (i := 4) rfl (by kernel_rfl) (by rfl) (fun K hK => ?_)
              have hlk : (kns W).length ≤ 80 := by rw [kns_len]; have := HT.out; have := HL.out; omega
              refine wp_append_th _ _ rfl W3.heap.size _ [] rfl O0.out _ ((kns W).take a) rfl (HRT.out.below B4.out) (by simp; omega) B4.out.size ?_
              intro v9 w9 o9 g9
              rw [List.nil_append] at o9
              have b9 := B4.out.trans (grown_below g9 B4.out.size (fun k e => (own_type O0.out e).1))
              have B9 := Lib.hid b9
              have O9 := Lib.hid o9
              clear b9 o9 g9 B4 O0
              refine hK _ _ ⟨trivial, ?_⟩
              clear hK K
              simp only [Act.put, List.setIfInBounds_toArray, List.set_cons_zero, List.set_cons_succ]
              refine lex_do (i := 9) rfl (by kernel_rfl) (by rfl) (fun K hK => ?_)
              refine wp_append_th _ _ rfl W3.heap.size _ ((kns W).take a) rfl O9.out _ ((kns W).drop (a + 1)) rfl (HRD.out.below B9.out) (by simp; omega) B9.out.size ?_
              intro v10 w10 o10 g10
              have b10 := B9.out.trans (grown_below g10 B9.out.size (fun k e => (own_type O9.out e).1))
              have B10 := Lib.hid b10
              have O10 := Lib.hid o10
              clear b10 o10 g10 B9 O9
              refine hK _ _ ⟨trivial, ?_⟩
              clear hK K
              simp only [Act.put, List.setIfInBounds_toArray, List.set_cons_zero, List.set_cons_succ]
              refine lex_take (i := 10) (v := ?_) rfl (by kernel_rfl) (by kernel_rfl) (by kernel_rfl) (by rfl) hS ?_ ?_
              rotate_left
              · ((intro W hW; go_simp) <;> with_reducible rfl)
              simp only [Act.put, List.setIfInBounds_toArray, List.set_cons_zero, List.set_cons_succ]
              refine lex_done (by kernel_rfl) ?_
              go_wp2_with fail
              go_meet
              have ht := HT.out
              refine ⟨W.take a ++ W.drop (a + 1), L3, v3, t, ht.1, by omega, by simp; omega, bmore HB3.out B10.out, HQ3.out.below B10.out, HBO.out.pop HA.out (HAT.out HA.out) HPE.out HO3.out, ?_⟩
              rw [kns_append, kns_take, kns_drop]
              exact own_down O10.out HB3.out.size
          | false =>
            as_aux_lemma =>
            have c2 := bcellAt HB.out CW.out
            have hz : L.length < 100000 := by have := HT.out; have := HL.out; rw [HBO.out.len]; omega
            have hnI : InI (n : Int) := by have := HL.out; omega
            have HNI := Lib.hid hnI
            have bA : Below wr.heap.size wr (wr.alloc (.cells #[.int .i64 nm, .int .i64 (n : Int)] ThT)) := (Below.refl _ _).alloc (Nat.le_refl _) _
            have HPU := Lib.hid (push_any (m := (n : Int)) less_up (HQ.out.below bA) hz HT.out.1 (by have := HT.out; have := HL.out; omega) HIN.out HBO.out.keysL HBO.out.ok)
            have hx0 : (wr.alloc (.cells #[.int .i64 nm, .int .i64 (n : Int)] ThT)).heap[wr.heap.size]? = some (Obj.cells #[.int .i64 nm, .int .i64 (n : Int)] ThT) := heap_alloc_new _ _
            have c3 := cellB (j := 0) hx0 rfl
            have c4 := cellB (j := 1) hx0 rfl
            have HX := Lib.hid hx0
            have HBA := Lib.hid bA
            clear hz hnI bA hx0
            go_wp2_with fail
            refine HPU.out.mono ?_
            rintro e w1 ⟨rfl, v3, L3, hp3, hpe, ho3, u3, f3⟩
            have HB1 := Lib.hid ((bmore HB.out HBA.out).trans u3)
            have HP3 := Lib.hid hp3
            have HPE := Lib.hid hpe
            have HO3 := Lib.hid ho3
            have HR1 := Lib.hid (own_hold (own_hold HR.out (Hold.below HBA.out)) (f3 ThT (by decide) (by decide)))
            have hx1 := f3 ThT (by decide) (by decide) _ _ HX.out
            have c5 := cellB (j := 0) hx1 rfl
            have c6 := cellB (j := 1) hx1 rfl
            clear u3 f3 hp3 hpe ho3 HPU HX hx1 c2 c3 c4 HB HQ HR HBA
            go_upto_region 19 with fail
            generalize wr.heap.size = nb at *
            clear wr
            have hx2 : (w1.alloc (.cells #[.int .i64 nm, .int .i64 (n : Int)] ThT)).heap[w1.heap.size]? = some (Obj.cells #[.int .i64 nm, .int .i64 (n : Int)] ThT) := heap_alloc_new _ _
            have b2 : Below w1.heap.size w1 (w1.alloc (.cells #[.int .i64 nm, .int .i64 (n : Int)] ThT)) := (Below.refl _ _).alloc (Nat.le_refl _) _
            have HX2 := Lib.hid hx2
            have HB2 := Lib.hid (bmore HB1.out b2)
            have HQ2 := Lib.hid (HP3.out.below b2)
            have HR2 := Lib.hid (own_hold HR1.out (Hold.below b2))
            clear hx2 b2 HB1 HP3 HR1
            go_wp2_with (at_builtin; refine wpList_append_th (by rfl) _ _ rfl w.heap.size _ (kns W) rfl HR2.out _ [(nm, (n : Int))] rfl (row_thing HX2.out) (by rw [kns_len]; have := HT.out; have := HL.out; simp; omega) HB2.out.size ?_)
            intro v9 w9 o9 g9
            have HB9 := Lib.hid (HB2.out.trans (grown_below g9 HB2.out.size (fun k e => (own_type HR2.out e).1)))
            have HQ9 := Lib.hid (HQ2.out.hold (grown_hold HR2.out g9 (by decide)) (grown_hold HR2.out g9 (by decide)))
            have HR9 := Lib.hid o9
            clear o9 g9 HB2 HQ2 HR2 HX2
            go_wp2_with fail
            go_meet
            have ht := HT.out
            refine ⟨W ++ [⟨nm, (n : Int), t⟩], L3, v3, t + 1, by omega, by omega, by simp; omega, HB9.out, HQ9.out, HBO.out.push HIN.out HNI.out HPE.out HO3.out, ?_⟩
            rw [kns_append, List.length_append]
            exact HR9.out
        case rest =>
          obtain ⟨W', L', v'', t', g0, g1, g2, hb, hq, hbo, hr⟩ := hcut
          clear HB HQ HBO HR HT CW HIN
          have HT := Lib.hid (And.intro g0 (And.intro g1 g2))
          have HB := Lib.hid hb
          have HQ := Lib.hid hq
          have HBO := Lib.hid hbo
          have HR := Lib.hid hr
          clear g0 g1 g2 hb hq hbo hr
          by_cases h0 : L'.length = 0
          · obtain rfl : L' = [] := List.eq_nil_of_length_eq_zero h0
            obtain rfl : W' = [] := List.eq_nil_of_length_eq_zero (by have := HBO.out.len; exact this.symm)
            clear h0
            have HPK := Lib.hid (peek_no HQ.out)
            clear q
            have hr0 := HR.out
            simp only [show kns [] = [] from rfl, List.length_nil] at hr0
            obtain ⟨va2, vc2, rfl⟩ := (row_of_own hr0).shape
            clear hr0
            as_aux_lemma =>
            go_wp2_with fail
            refine HPK.out.mono ?_
            rintro e w1 ⟨rfl, u1⟩
            have bA : Below w1.heap.size w1 (w1.alloc (.cells #[.int .i64 0, .int .i64 0] ThT)) := (Below.refl _ _).alloc (Nat.le_refl _) _
            have HB1 := Lib.hid (bmore HB.out (bmore u1 bA))
            have HQ1 := Lib.hid (HQ.out.below (bmore u1 bA))
            have HR1 := Lib.hid (own_hold HR.out (Hold.below (bmore u1 bA)))
            have HLE := Lib.hid (least_any (row_of_own HR1.out) (by simp [kns]))
            clear u1 bA HPK HQ HR HB
            go_wp2_with fail
            refine HLE.out.mono ?_
            rintro e w2 ⟨r, rfl, hb, m, rfl⟩
            obtain rfl : r = -1 := by
              rcases hb with ⟨_, e⟩ | ⟨b, _, e, _⟩
              · exact e
              · exact absurd e (Nat.not_lt_zero _)
            clear HLE hb
            have HB2 := Lib.hid (bmore HB1.out (bdn _ m))
            have HQ2 := Lib.hid (HQ1.out.below (bdn _ m))
            have HR2 := Lib.hid (own_hold HR1.out (Hold.below (bdn _ m)))
            clear HB1 HQ1 HR1
            generalize (w1.alloc (.cells #[.int .i64 0, .int .i64 0] ThT)).drewN m = W2 at *
            go_wp2_with fail
            go_quiet (exact Calls.quiet_of_same (hlen_any (HQ2.out.below (bdn _ _))))
            go_wp2_with fail
            go_roundw
            case rel => exact ⟨n + 1, [], [], _, t', rfl, HLT.out, HT.out.1, by have := HT.out; omega, by simp, bmore HB2.out (bdn _ _), HQ2.out.below (bdn _ _), HBO.out, own_hold HR2.out (Hold.below (bdn _ _))⟩
            case measure => have := HLT.out; simp [intOf]; omega
          · have h1 : 0 < L'.length := Nat.pos_of_ne_zero h0
            clear h0 q
            have hwl : 0 < (kns W').length := by rw [kns_len, ← HBO.out.len]; exact h1
            have htm : atH L' 0 ∈ W' := HBO.out.perm.mem_iff.1 (by rw [atH_eq h1]; exact List.getElem_mem h1)
            have hnq := fun X => neq_th (HBO.out.keys _ htm) (HBO.out.nums _ htm) X
            have HPK := Lib.hid (peek_yes HQ.out h1)
            have HH0 := Lib.hid h1
            have hel : (kns W').length = L'.length := by rw [kns_len, HBO.out.len]
            obtain ⟨g, cap, rfl, hBg, hcap, hcs⟩ := own_cells HR.out hwl
            have HCS := Lib.hid hcs
            have hve : Value.slice (some ⟨g, 0, none⟩) (kns W').length cap = Value.slice (some ⟨g, 0, none⟩) L'.length cap := by rw [hel]
            rw [hve]
            have hr := HR.out
            rw [hve] at hr
            clear HR hve
            have HR := Lib.hid hr
            clear hr
            clear h1 hwl htm hBg hcap hcs hel
            as_aux_lemma =>
            go_wp2_with fail
            refine HPK.out.mono ?_
            rintro e w1 ⟨rfl, u1⟩
            have bA : Below w1.heap.size w1 (w1.alloc (.cells #[.int .i64 (atH L' 0).key, .int .i64 (atH L' 0).num] ThT)) := (Below.refl _ _).alloc (Nat.le_refl _) _
            have HB1 := Lib.hid (bmore HB.out (bmore u1 bA))
            have HQ1 := Lib.hid (HQ.out.below (bmore u1 bA))
            have HR1 := Lib.hid (own_hold HR.out (Hold.below (bmore u1 bA)))
            have HUA := Lib.hid (bmore u1 bA)
            have hv0 : (w1.alloc (.cells #[.int .i64 (atH L' 0).key, .int .i64 (atH L' 0).num] ThT)).heap[w1.heap.size]? = some (Obj.cells #[.int .i64 (atH L' 0).key, .int .i64 (atH L' 0).num] ThT) := heap_alloc_new _ _
            have HV := Lib.hid hv0
            have hle := least_any (row_of_own HR1.out) (by have := HT.out; have := HL.out; rw [kns_len]; omega)
            have HLE := Lib.hid hle
            clear u1 bA HPK HQ HR HB hv0 hle
            go_wp2_with fail
            refine HLE.out.mono ?_
            rintro e w2 ⟨r, rfl, hb, m, rfl⟩
            obtain ⟨a, rfl, ha, hat⟩ := HBO.out.best HH0.out hb
            clear HLE hb
            have d := HCS.out a (by rw [kns_len]; exact ha)
            have c0 := cellB (j := 0) (Hold.below (bdn _ m) _ _ HV.out) rfl
            have c1 := cellB (j := 1) (Hold.below (bdn _ m) _ _ HV.out) rfl
            have HB2 := Lib.hid (bmore HB1.out (bdn _ m))
            have HQ2 := Lib.hid (HQ1.out.below (bdn _ m))
            have HR2 := Lib.hid (own_hold HR1.out (Hold.below (bdn _ m)))
            have d0 := bcellAt (bmore HUA.out (bdn _ m)) d.1
            have d1 := bcellAt (bmore HUA.out (bdn _ m)) d.2
            simp only [kns, kn, List.getElem_map, hat] at d0 d1
            have a0 : (0 : Int) ≤ (a : Int) := by omega
            have a1 : (a : Int) < (L'.length : Int) := by rw [HBO.out.len]; omega
            clear HV HB1 HQ1 HR1 hat d HCS HUA
            clear ha
            generalize (w1.alloc (.cells #[.int .i64 (atH L' 0).key, .int .i64 (atH L' 0).num] ThT)).drewN m = W2 at *
            generalize w1.heap.size = nb at *
            clear w1
            generalize hk : (atH L' 0).key = kt at *
            generalize hm : (atH L' 0).num = mt at *
            clear hk hm
            go_wp2_with fail
            go_quiet (exact Calls.quiet_of_same (hlen_any (HQ2.out.below (bdn _ _))))
            go_wp2_with fail
            go_roundw
            case rel => exact ⟨n + 1, W', L', _, t', rfl, HLT.out, HT.out.1, by have := HT.out; omega, HT.out.2.2, bmore HB2.out (bdn _ _), HQ2.out.below (bdn _ _), HBO.out, own_hold HR2.out (Hold.below (bdn _ _))⟩
            case measure => have := HLT.out; simp [intOf]; omega
      · obtain rfl : n = l.length := by omega
        clear hlt XA HOK HQ HBO HR HT
        go_wp2_with fail
        refine (live_any _).mono ?_
        rintro e w2 ⟨rfl, u2⟩
        have HB2 := Lib.hid (bmore HB.out u2)
        clear u2 HB
        go_wp2_with fail
        go_returns
        exact ⟨rfl, HB2.out⟩
end Go.Proofs.Ytmbaedldikobcaa
