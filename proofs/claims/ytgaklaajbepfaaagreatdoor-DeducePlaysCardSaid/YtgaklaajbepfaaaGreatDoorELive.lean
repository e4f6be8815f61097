/-
  What the law's live goes through: plain.
  New, Given; the law's live.
-/
import Derived.Test.YtgaklaajbepfaaaGreatDoorEDer
import Derived.Test.YtgaklaajbepfaaaGreatDoorTLive
import Derived.Test.YtgaklaajbepfaaaGreatDoorELay2
import Derived.Test.YtgaklaajbepfaaaGreatDoorECheck
import Derived.Test.YtgaklaajbepfaaaGreatDoorTMakesP
import Derived.Lib.SliceRun
namespace Go.Proofs.YtgaklaajbepfaaaGreatDoor
open Go.RowKit
set_option linter.unusedVariables false

def lq1 : Pl := [(⟨2, 0, 0, 1, emptyS, 0, 0⟩, 1, 1)]
def lq2 : Pl := lq1 ++ [(⟨1, 2, 0, 0, emptyS, 0, 0⟩, 1, 1)]
def lq3 : Pl := lq2 ++ [(⟨4, 0, 0, 0, emptyS, 1, 2⟩, 3, 2)]
def lq4 : Pl := lq3 ++ [(⟨7, 0, 0, 0, emptyS, 3, 0⟩, 4, 3)]
def lq5 : Pl := lq4 ++ [(⟨5, 0, 0, 0, emptyS, 1, 0⟩, 2, 2)]
def lq6 : Pl := lq5 ++ [(⟨6, 0, 0, 0, emptyS, 0, 0⟩, 1, 1)]
def lq7 : Pl := lq6 ++ [(⟨7, 0, 0, 0, emptyS, 1, 0⟩, 2, 2)]
theorem lm1 : mkP [] ⟨2, 0, 0, 1, emptyS, 0, 0⟩ = (1, 0, lq1) := by kernel_rfl
theorem lm2 : mkP lq1 ⟨1, 2, 0, 0, emptyS, 0, 0⟩ = (2, 0, lq2) := by kernel_rfl
theorem lm3 : mkP lq2 ⟨4, 0, 0, 0, emptyS, 1, 2⟩ = (3, 0, lq3) := by kernel_rfl
theorem lm4 : mkP lq3 ⟨7, 0, 0, 0, emptyS, 3, 0⟩ = (4, 0, lq4) := by kernel_rfl
theorem lm5 : mkP lq4 ⟨5, 0, 0, 0, emptyS, 1, 0⟩ = (5, 0, lq5) := by kernel_rfl
theorem lm6 : mkP lq5 ⟨6, 0, 0, 0, emptyS, 0, 0⟩ = (6, 0, lq6) := by kernel_rfl
theorem lm7 : mkP lq6 ⟨7, 0, 0, 0, emptyS, 1, 0⟩ = (7, 0, lq7) := by kernel_rfl
theorem lq_add4 : addG lq7 [] 4 = [4] := by kernel_rfl
theorem lq_add6 : addG lq7 [4] 6 = [4, 6] := by kernel_rfl
theorem lq_add99 : addG lq7 [4, 6] 99 = [4, 6] := by kernel_rfl
theorem lq_in4 : inP lq7 4 = true := by kernel_rfl
theorem lq_in6 : inP lq7 6 = true := by kernel_rfl
theorem lq_in99 : inP lq7 99 = false := by kernel_rfl

theorem lq_take {x r : Int} (hx : x = 1 ∨ x = 2 ∨ x = 3 ∨ x = 4 ∨ x = 6) (h : takeN r (atP lq7 x).1 ≠ 0) : takeN r (atP lq7 x).1 = 1 ∨ takeN r (atP lq7 x).1 = 2 ∨ takeN r (atP lq7 x).1 = 3 := by
  have hr := takeN_cases _ _ h
  rcases hx with rfl | rfl | rfl | rfl | rfl
  · exact absurd (by rcases hr with rfl | rfl | rfl <;> kernel_rfl) h
  · exact absurd (by rcases hr with rfl | rfl | rfl <;> kernel_rfl) h
  · rcases hr with rfl | rfl | rfl
    · exact .inl (by kernel_rfl)
    · exact .inr (.inl (by kernel_rfl))
    · exact absurd (by kernel_rfl) h
  · rcases hr with rfl | rfl | rfl
    · exact absurd (by kernel_rfl) h
    · exact absurd (by kernel_rfl) h
    · exact .inr (.inr (by kernel_rfl))
  · exact absurd (by rcases hr with rfl | rfl | rfl <;> kernel_rfl) h
theorem lq_reach4 {x : Int} (h : Reach lq7 [4] x) : x = 1 ∨ x = 2 ∨ x = 3 ∨ x = 4 := by
  induction h with
  | given h => simp at h; omega
  | step r _ h0 ih => have := lq_take (by omega) h0; omega
theorem lq_reach6 {x : Int} (h : Reach lq7 [4, 6] x) : x = 1 ∨ x = 2 ∨ x = 3 ∨ x = 4 ∨ x = 6 := by
  induction h with
  | given h => simp at h; omega
  | step r _ h0 ih => have := lq_take (by omega) h0; omega
theorem lq_reach1 : Reach lq7 [4, 6] 1 := by
  have h4 : Reach lq7 [4, 6] 4 := .given (by simp)
  have h3 := Reach.step 3 h4 (show takeN 3 (atP lq7 4).1 ≠ 0 by rw [show takeN 3 (atP lq7 4).1 = 3 from by kernel_rfl]; decide)
  rw [show takeN 3 (atP lq7 4).1 = 3 from by kernel_rfl] at h3
  have h1 := Reach.step 1 h3 (show takeN 1 (atP lq7 3).1 ≠ 0 by rw [show takeN 1 (atP lq7 3).1 = 1 from by kernel_rfl]; decide)
  rwa [show takeN 1 (atP lq7 3).1 = 1 from by kernel_rfl] at h1
theorem lq_p5 : partP lq7 (atP lq7 5).1 = (1, 0, true) := by kernel_rfl
theorem lq_p7 : partP lq7 (atP lq7 7).1 = (1, 6, true) := by kernel_rfl
theorem lq_f1 : freeB (atP lq7 1).1.kind = true := by kernel_rfl
theorem lq_f7 : freeB (atP lq7 7).1.kind = false := by kernel_rfl
theorem lq_k6 : (atP lq7 6).1.kind = 6 := by kernel_rfl
theorem lq_der5 (s : Int → Option Way) : derB lq7 s 5 = true := by
  rw [derB_eq, lq_p5, derB_iff.2 (.free lq_f1)]
  simp
theorem lq_der7no {s : Int → Option Way} (hs : ∀ x, (s x).isSome = true ↔ Reach lq7 [4] x) : derB lq7 s 7 = false := by
  have h7 : (s 7).isSome = false := by
    cases e : (s 7).isSome with
    | false => rfl
    | true => have := lq_reach4 ((hs 7).1 e); omega
  have h6 : derB lq7 s 6 = false := by
    rw [derB_no, der_key lq_k6]
    intro h
    have := lq_reach4 ((hs 6).1 h); omega
  rw [derB_eq, lq_p7, lq_f7, h7, h6]
  simp
theorem lq_der7yes {s : Int → Option Way} (hs : ∀ x, (s x).isSome = true ↔ Reach lq7 [4, 6] x) : derB lq7 s 7 = true := by
  have h6 : derB lq7 s 6 = true := derB_iff.2 (.seen ((hs 6).2 (.given (by simp))))
  rw [derB_eq, lq_p7, lq_f7, h6, derB_iff.2 (.free lq_f1)]
  simp
theorem lq_see7 {s : Int → Option Way} (hs : ∀ x, (s x).isSome = true ↔ Reach lq7 [4, 6] x) : (s 7).isSome = false := by
  cases e : (s 7).isSome with
  | false => rfl
  | true => have := lq_reach6 ((hs 7).1 e); omega
theorem lq_see1 {s : Int → Option Way} (hs : ∀ x, (s x).isSome = true ↔ Reach lq7 [4, 6] x) : (s 1).isSome = true := (hs 1).2 lq_reach1
end Go.Proofs.YtgaklaajbepfaaaGreatDoor
namespace Go.Proofs.YtgaklaajbepfaaaGreatDoor
open Go.RowKit Go.Maps
set_option linter.unusedVariables false

theorem knew (w : World) (a B : Nat) (p : Pl) (hB : B ≤ w.heap.size) : Calls Tryz.prog 9 #[.pointer (some ⟨a, 0, none⟩)] w fun e w' => e = .returned (.pointer (some ⟨w.heap.size + 1, 0, none⟩)) ∧ IsKnow w' B (w.heap.size + 1) (.slice none 0 0) w.heap.size a p [] (fun _ => none) ∧ Below w.heap.size w w' := by
  have hmm := @run_makeMap Tryz.prog
  have b1 := bA0 w (.map #[] 0)
  have b2 := bA0 (w.alloc (.map #[] 0)) (.cells #[.pointer (some ⟨a, 0, none⟩), .slice none 0 0, .map (some w.heap.size)] KnowT)
  have hl : ((w.alloc (.map #[] 0)).alloc (.cells #[.pointer (some ⟨a, 0, none⟩), .slice none 0 0, .map (some w.heap.size)] KnowT)).heap[w.heap.size + 1]? = some (Obj.cells #[.pointer (some ⟨a, 0, none⟩), .slice none 0 0, .map (some w.heap.size)] KnowT) := by
    have := heap_alloc_new (w.alloc (.map #[] 0)) (.cells #[.pointer (some ⟨a, 0, none⟩), .slice none 0 0, .map (some w.heap.size)] KnowT)
    rwa [World.size_alloc] at this
  have hk : IsKnow ((w.alloc (.map #[] 0)).alloc (.cells #[.pointer (some ⟨a, 0, none⟩), .slice none 0 0, .map (some w.heap.size)] KnowT)) B (w.heap.size + 1) (.slice none 0 0) w.heap.size a p [] (fun _ => none) :=
    ⟨hl, Nat.le_succ_of_le hB, hB, World.ownsRow_nil _ _ _ 1, (SeenM.new w p).below b2, SeenOk.nil p⟩
  have HK := Lib.hid hk
  have HB := Lib.hid (bmore b1 b2)
  clear hk hl b1 b2
  go_enter Tryz.func9, Tryz.ntmps9
  go_wp2_with fail
  go_returns
  exact ⟨rfl, HK.out, HB.out⟩
set_option maxHeartbeats 800000 in
theorem cloneT_any {w : World} {v : Value} {l : List Int} (h : Row w 1 v l.length (ints l)) (hl : l.length ≤ 1099511627776) :
    Calls Tryz.prog 54 #[v] w fun e w' => ∃ v', e = .returned v' ∧ w'.ownsRow w.heap.size TermT 1 v' l.length (ints l) ∧ Below w.heap.size w w' := by
  obtain ⟨i0, hi, hz0, hz1, hz2⟩ := info_parts rowTK
  rcases h.2 with ⟨rfl, hn⟩ | ⟨b, off, cap, rfl, h1, h2, h3, h4⟩
  · have hnil : l = [] := List.eq_nil_of_length_eq_zero hn
    subst hnil
    have hq := fun (w : World) => Lib.run_eql_slice_nil (P := Tryz.prog) w 23 TermT none 0 0 0 0 Tryz.underlying23
    go_enter Tryz.func54, Tryz.ntmps54
    go_wp2_with fail
    go_returns
    exact ⟨_, rfl, World.ownsRow_nil w _ _ 1, Below.refl _ _⟩
  · have hN : ∀ j u, (ints l)[j]? = some u → w.cell? ((⟨b, off, none⟩ : Addr).add j) = some u := fun j u hj => by
      have hadd : (⟨b, off, none⟩ : Addr).add j = ⟨b, off + j, none⟩ := by unfold Addr.add; split <;> simp_all
      rw [hadd]; exact h4 j u hj
    have hq := fun (w : World) => Lib.run_eql_slice_nil (P := Tryz.prog) w 23 TermT (some ⟨b, off, none⟩) l.length cap 0 0 Tryz.underlying23
    have hown0 : (w.alloc (.cells #[] TermT)).ownsRow w.heap.size TermT 1 (.slice (some ⟨w.heap.size, 0, none⟩) 0 0) 0 [] := World.ownsRow_made w #[] 0 (Nat.le_refl _) (by unfold maxLen; omega) rfl
    go_enter Tryz.func54, Tryz.ntmps54
    go_wp2_with (first
      | (at_builtin; refine wpList_append_own _ rfl _ _ 23 rfl w.heap.size TermT i0 (.int .i64 0) 1 8 Tryz.underlying23 hi hz0 hz1 hz2 rfl (by decide) _ _ _ rfl hown0 ⟨b, off, none⟩ l.length cap (ints l) rfl (by simp [ints]) ?c1 (ints_oneCellK l) (by unfold maxLen; omega) (by omega) (by simp) ?_))
    case c1 => exact fun j u hu => (World.grownBy_alloc w _ none).cell (hN j u hu) (by simp)
    intro v' w' hown' hgrow' _
    go_wp2_with fail
    go_returns
    refine ⟨_, rfl, ?_, ?_⟩
    · simpa using hown'
    · refine ((Below.refl _ _).alloc (Nat.le_refl _) _).grown hgrow' (by simp) ?_
      intro k hk
      simp [Value.ownBlock] at hk
      omega
section
variable {w : World} {B a b : Nat} {v : Value} {p : Pl} {B2 k : Nat} {gv : Value} {mb : Nat} {g : List Int} {s : Int → Option Way}
theorem given_any (hk : IsKnow w B2 k gv mb a p g s) (hp : p.length ≤ 65536) : Calls Tryz.prog 50 #[.pointer (some ⟨k, 0, none⟩)] w fun e w' => ∃ v', e = .returned v' ∧ w'.ownsRow w.heap.size TermT 1 v' g.length (ints g) ∧ Below w.heap.size w w' := by
  have c1 : w.cell? ⟨k, 1, none⟩ = some gv := cellB hk.lay rfl
  have hr := row_of_own hk.row
  have hg := hk.glen
  obtain ⟨ga, gc, rfl⟩ := hr.shape
  have HC := Lib.hid (cloneT_any hr (by omega))
  clear hk hr
  go_enter Tryz.func50, Tryz.ntmps50
  go_wp2_with fail
  refine HC.out.mono ?_
  rintro e w1 ⟨v', rfl, h1, h2⟩
  have H1 := Lib.hid h1
  have H2 := Lib.hid h2
  clear h1 h2
  go_wp2_with fail
  go_returns
  exact ⟨v', rfl, H1.out, H2.out⟩
end

/-- Knowledge beside a pool that grows. -/
theorem IsKnow.grewP {w w' : World} {B a b B2 k mb : Nat} {v gv : Value} {p p' q : Pl} (hk : IsKnow w B2 k gv mb a q [] (fun _ => none)) (hp : IsPool w B a b v p) (hmb : mb ≠ b) (hg : Grew w B a b v p' w') : IsKnow w' B2 k gv mb a p' [] (fun _ => none) := by
  have h1 := hg.hold hp (T := KnowT) (by decide) (by decide)
  have h2 := hg.hold hp (T := TermT) (by decide) (by decide)
  obtain ⟨n, D, L, ⟨es, c, hm, r⟩, h3, h4, h5, h6, h7⟩ := hk.seen
  have hm' : w'.heap[mb]? = some (.map es c) := by
    rw [hg.2.1 mb (Array.getElem?_eq_some_iff.1 hm).1 (fun e => ?_) hmb (fun e => ?_)]
    · exact hm
    · rw [e, hp.lay] at hm; cases hm
    · obtain ⟨_, cur, hc⟩ := own_type hp.row e
      rw [hm] at hc; cases hc
  have hL : L = [] := by
    cases L with
    | nil => rfl
    | cons x l => have := (h5 x).1 (by simp); simp at this
  subst hL
  exact ⟨h1 _ _ hk.lay, hk.gk, hk.gm, own_hold hk.row h2, ⟨n, D, [], ⟨es, c, hm', r⟩, h3, h4, h5, fun x hx => by simp at hx, h7⟩, SeenOk.nil p'⟩

set_option maxRecDepth 100000 in
set_option maxHeartbeats 25600000 in
theorem live_any {w : World} (hl : Laid w) : Calls Tryz.prog 7 #[] w fun e w' => e = .returned (.bool true) ∧ Below w.heap.size w w' := by
  have HL := Lib.hid hl
  clear hl
  go_enter Tryz.func7, Tryz.ntmps7
  go_wp2_with fail
  refine (pnew _).mono ?_
  rintro e w1 ⟨rfl, p1, u1⟩
  have P1 := Lib.hid p1
  have U1 := Lib.hid u1
  clear p1 u1
  go_wp2_with fail
  refine (knew w1 _ w.heap.size [] U1.out.size).mono ?_
  rintro e w2 ⟨rfl, k2, u2⟩
  have K2 := Lib.hid k2
  have P2 := Lib.hid (P1.out.below u2)
  have U2 := Lib.hid (bmore U1.out u2)
  have AB : Hid (w1.heap.size ≠ w.heap.size) := Lib.hid (by
    have := P1.out.lt
    omega)
  clear k2 u2 P1
  generalize w1.heap.size = mb at *
  go_wp2_with fail
  refine (pNum P2.out (HL.out.below U2.out) 1 (by omega)).mono ?_
  intro e w3 hm
  obtain ⟨rfl, g1⟩ := make_at lm1 hm
  have hk3 := K2.out.grewP P2.out AB.out g1
  obtain ⟨g1, _, v3, p3, _⟩ := g1
  have P3 := Lib.hid p3
  have K3 := Lib.hid hk3
  have U3 := Lib.hid (U2.out.trans g1)
  clear hm g1 p3 hk3
  go_wp2_with fail
  refine (pName P3.out (HL.out.below U3.out) 2 (i64R_lit (by omega))).mono ?_
  intro e w4 hm
  obtain ⟨rfl, g1⟩ := make_at lm2 hm
  have hk4 := K3.out.grewP P3.out AB.out g1
  obtain ⟨g1, _, v4, p4, _⟩ := g1
  have P4 := Lib.hid p4
  have K4 := Lib.hid hk4
  have U4 := Lib.hid (U3.out.trans g1)
  clear hm g1 p4 hk4
  go_wp2_with fail
  refine (pPair P4.out (HL.out.below U4.out) 1 2 ⟨(i64R_lit (by omega)), (i64R_lit (by omega))⟩).mono ?_
  intro e w5 hm
  obtain ⟨rfl, g1⟩ := make_at lm3 hm
  have hk5 := K4.out.grewP P4.out AB.out g1
  obtain ⟨g1, _, v5, p5, _⟩ := g1
  have P5 := Lib.hid p5
  have K5 := Lib.hid hk5
  have U5 := Lib.hid (U4.out.trans g1)
  clear hm g1 p5 hk5
  go_wp2_with fail
  refine (pSign P5.out (HL.out.below U5.out) 0 3 ⟨(i64R_lit (by omega)), (i64R_lit (by omega))⟩).mono ?_
  intro e w6 hm
  obtain ⟨rfl, g1⟩ := make_at lm4 hm
  have hk6 := K5.out.grewP P5.out AB.out g1
  obtain ⟨g1, _, v6, p6, _⟩ := g1
  have P6 := Lib.hid p6
  have K6 := Lib.hid hk6
  have U6 := Lib.hid (U5.out.trans g1)
  clear hm g1 p6 hk6
  go_wp2_with fail
  refine (pHash P6.out (HL.out.below U6.out) 1 (i64R_lit (by omega))).mono ?_
  intro e w7 hm
  obtain ⟨rfl, g1⟩ := make_at lm5 hm
  have hk7 := K6.out.grewP P6.out AB.out g1
  obtain ⟨g1, _, v7, p7, _⟩ := g1
  have P7 := Lib.hid p7
  have K7 := Lib.hid hk7
  have U7 := Lib.hid (U6.out.trans g1)
  clear hm g1 p7 hk7
  go_wp2_with fail
  refine (pKey P7.out (HL.out.below U7.out) 0 (i64R_lit (by omega))).mono ?_
  intro e w8 hm
  obtain ⟨rfl, g1⟩ := make_at lm6 hm
  have hk8 := K7.out.grewP P7.out AB.out g1
  obtain ⟨g1, _, v8, p8, _⟩ := g1
  have P8 := Lib.hid p8
  have K8 := Lib.hid hk8
  have U8 := Lib.hid (U7.out.trans g1)
  clear hm g1 p8 hk8
  go_wp2_with fail
  refine (pSign P8.out (HL.out.below U8.out) 0 1 ⟨(i64R_lit (by omega)), (i64R_lit (by omega))⟩).mono ?_
  intro e w9 hm
  obtain ⟨rfl, g1⟩ := make_at lm7 hm
  have hk9 := K8.out.grewP P8.out AB.out g1
  obtain ⟨g1, _, v9, p9, _⟩ := g1
  have P9 := Lib.hid p9
  have K9 := Lib.hid hk9
  have U9 := Lib.hid (U8.out.trans g1)
  clear hm g1 p9 hk9
  go_wp2_with fail
  refine (add_any P9.out K9.out AB.out (t := 4) (i64R_lit (by omega))).mono ?_
  rintro e w10 ⟨he, gv1, s1, k10, kg10, _⟩
  rw [lq_add4] at k10
  rw [lq_in4, if_pos rfl] at he
  subst he
  have P10 := Lib.hid (P9.out.kg K9.out AB.out kg10)
  have K10 := Lib.hid k10
  have U10 := Lib.hid (U9.out.trans kg10.below)
  clear k10 kg10
  go_wp2_with fail
  refine (proof_any P10.out K10.out (R := fun _ => True) (fun _ _ => trivial) (fun _ _ _ => ⟨fun _ => trivial, fun _ => trivial⟩) (t := 5) (i64R_lit (by omega)) (fun _ => trivial)).mono ?_
  rintro e w11 ⟨u11, hpr⟩
  rw [lq_der5] at hpr
  obtain ⟨_, lv, Ls, rfl, hrow, hgood, hne, hlast⟩ := hpr.resolve_left (fun h => by cases h.1)
  have hlv := (row_of_own hrow).below (bA0 w11 (.cells #[.int .i64 4] TermT))
  obtain ⟨la, lc, rfl⟩ := hlv.shape
  have hll : Ls.length ≤ 65536 := Nat.le_trans hgood.len (by decide)
  have hl0 : 0 < Ls.length := List.length_pos_iff.2 hne
  have P11 := Lib.hid ((P10.out.below u11).below (bA0 w11 (.cells #[.int .i64 4] TermT)))
  have K11 := Lib.hid ((K10.out.below u11).below (bA0 w11 (.cells #[.int .i64 4] TermT)))
  have U11 := Lib.hid (bmore (bmore U10.out u11) (bA0 w11 (.cells #[.int .i64 4] TermT)))
  have CK := Lib.hid (check_any P11.out (row_of_own (row_one w11 w11.heap.size (Nat.le_refl _) 4)) (fun x hx => by rw [List.mem_singleton.1 hx]; exact (i64R_lit (by omega))) (by decide) hlv (fun x hx => in_i64 (p := lq7) (by decide) (.inr (hgood.inp x hx))) (by omega) (goal := 5))
  rw [hgood.check hne hlast] at CK
  clear hlv hrow hgood hne hlast u11
  go_wp2_with fail
  generalize (w11.alloc (.cells #[.int .i64 4] TermT)) = W11 at *
  refine CK.out.mono ?_
  rintro e w12 ⟨rfl, u12⟩
  have P12 := Lib.hid (P11.out.below u12)
  have K12 := Lib.hid (K11.out.below u12)
  have U12 := Lib.hid (bmore U11.out u12)
  clear u12
  go_wp2_with fail
  refine (derives_any P12.out K12.out (t := 7) (i64R_lit (by omega))).mono ?_
  rintro e w13 ⟨rfl, u13⟩
  rw [lq_der7no K12.out.ok.reach]
  have P13 := Lib.hid (P12.out.below u13)
  have K13 := Lib.hid (K12.out.below u13)
  have U13 := Lib.hid (bmore U12.out u13)
  clear u13
  go_wp2_with fail
  refine (add_any P13.out K13.out AB.out (t := 6) (i64R_lit (by omega))).mono ?_
  rintro e w14 ⟨he, gv2, s2, k14, kg14, _⟩
  rw [lq_add6] at k14
  rw [lq_in6, if_pos rfl] at he
  subst he
  have P14 := Lib.hid (P13.out.kg K13.out AB.out kg14)
  have K14 := Lib.hid k14
  have U14 := Lib.hid (U13.out.trans kg14.below)
  clear k14 kg14
  go_wp2_with fail
  refine (check_any P14.out (vg := .slice none 0 0) (vl := .slice none 0 0) (g := []) (l := []) ⟨rfl, .inl ⟨rfl, rfl⟩⟩ (fun x hx => by simp at hx) (by decide) ⟨rfl, .inl ⟨rfl, rfl⟩⟩ (fun x hx => by simp at hx) (by decide) (goal := 5)).mono ?_
  rintro e w15 ⟨he, u15⟩
  rw [show checkP lq7 [] [] 5 = (81, 0) from rfl] at he
  subst he
  have P15 := Lib.hid (P14.out.below u15)
  have K15 := Lib.hid (K14.out.below u15)
  have U15 := Lib.hid (bmore U14.out u15)
  clear u15
  go_wp2_with fail
  refine (num_any _ _).mono ?_
  rintro e w' ⟨rfl, rfl⟩
  go_wp2_with fail
  refine (num_any _ _).mono ?_
  rintro e w' ⟨rfl, rfl⟩
  go_wp2_with fail
  refine (num_any _ _).mono ?_
  rintro e w' ⟨rfl, rfl⟩
  go_wp2_with fail
  refine (derives_any P15.out K15.out (t := 7) (i64R_lit (by omega))).mono ?_
  rintro e w16 ⟨rfl, u16⟩
  rw [lq_der7yes K15.out.ok.reach]
  have P16 := Lib.hid (P15.out.below u16)
  have K16 := Lib.hid (K15.out.below u16)
  have U16 := Lib.hid (bmore U15.out u16)
  clear u16
  go_wp2_with fail
  refine (sees_any K16.out (t := 7) (i64R_lit (by omega))).mono ?_
  rintro e w17 ⟨rfl, u17⟩
  rw [lq_see7 K16.out.ok.reach]
  have P17 := Lib.hid (P16.out.below u17)
  have K17 := Lib.hid (K16.out.below u17)
  have U17 := Lib.hid (bmore U16.out u17)
  clear u17
  go_wp2_with fail
  refine (sees_any K17.out (t := 1) (i64R_lit (by omega))).mono ?_
  rintro e w18 ⟨rfl, u18⟩
  rw [lq_see1 K17.out.ok.reach]
  have P18 := Lib.hid (P17.out.below u18)
  have K18 := Lib.hid (K17.out.below u18)
  have U18 := Lib.hid (bmore U17.out u18)
  clear u18
  go_wp2_with fail
  refine (given_any K18.out (by decide)).mono ?_
  rintro e w19 ⟨v9, rfl, h19, u19⟩
  obtain ⟨ka, kc, rfl⟩ := (row_of_own h19).shape
  have P19 := Lib.hid (P18.out.below u19)
  have K19 := Lib.hid (K18.out.below u19)
  have U19 := Lib.hid (bmore U18.out u19)
  clear u19 h19
  simp only [List.length_cons, List.length_nil, Nat.reduceAdd]
  go_wp2_with fail
  refine (add_any P19.out K19.out AB.out (t := 99) (i64R_lit (by omega))).mono ?_
  rintro e w20 ⟨he, gv3, s3, _, kg20, _⟩
  rw [lq_in99] at he
  simp only [Bool.false_eq_true, if_false] at he
  subst he
  have U20 := Lib.hid (U19.out.trans kg20.below)
  clear kg20
  go_wp2_with fail
  refine (num_any _ _).mono ?_
  rintro e w' ⟨rfl, rfl⟩
  go_wp2_with fail
  go_returns
  exact ⟨rfl, U20.out⟩
end Go.Proofs.YtgaklaajbepfaaaGreatDoor
