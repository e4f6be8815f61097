/-
  The law's own walk: TermSubs.
-/
import Derived.Test.YteflbecdeinflaaDoorTTreesW
import Derived.Test.YteflbecdeinflaaDoorTSubs
import Derived.Test.YteflbecdeinflaaDoorTRSub
import Derived.Test.YteflbecdeinflaaDoorTGoT
import Derived.LoopN
import Derived.RangeFuncFrom
import Derived.RangeFuncBound
import Derived.RangeFuncCalls
import Derived.RangeFuncLeaves
import Derived.Shelf.Abstract
import Derived.OwnWalkIn
import Derived.TacticsInMore
import Derived.LoopNIn
import Derived.LoopIn
namespace Go.Proofs.YteflbecdeinflaaDoor
open Go.RowKit Go.Maps Go.Shelf
attribute [local go_sem] Oper.semAt_some
set_option linter.unusedVariables false

abbrev SeqT : TypeId := 62
theorem func_nilT (W : World) (fn : Fn) (x y : Array Value) : Sem.run Tryd.prog (binOp BinOp.eql SeqT (.func fn x y) Value.nilFunc) W = .ok (.bool false) W := by kernel_rfl
theorem run_store_func (P : Program) (w : World) (a : Addr) (fn : Fn) (x y : Array Value) (m : Mode) : (store a (.func fn x y) m).run P w = stored P w a (.func fn x y) m := run_store P w a _ m rfl
attribute [local go_sem] run_store_func
set_option maxRecDepth 100000 in
set_option maxHeartbeats 25600000 in
theorem goes_in {w : World} (hl : Laid w) {n : Nd} {k : Fo} {v : Value} (hk : IsK w (fun b => b < w.heap.size) v k) (hn : NdOk n ∧ n.a = 0 ∧ n.b = 0 ∧ OkF k) (stop : Int) :
    CallsIn Fence.wide 3 Tryd.prog 6 #[.agg (treeA n v), .int .i64 stop] w fun e w' => e = .returned (.bool true) ∧ Below w.heap.size w w' := by
  obtain ⟨av, cv, rfl, _⟩ := hk.shape
  have b1 : Below w.heap.size w (((w.alloc (.cells (treeA n (.slice av k.len cv)) TrT)).alloc (.cells #[.int .i64 stop] IntT)).alloc (.cells #[.bool false] BooT)) := (((Below.refl _ _).alloc (Nat.le_refl _) _).alloc (by simp) _).alloc (by simp; omega) _
  have h1 : (((w.alloc (.cells (treeA n (.slice av k.len cv)) TrT)).alloc (.cells #[.int .i64 stop] IntT)).alloc (.cells #[.bool false] BooT)).heap[w.heap.size]? = some (Obj.cells (treeA n (.slice av k.len cv)) TrT) := by
    rw [(Below.alloc (Below.refl _ _) (Nat.le_refl _) _ : Below ((w.alloc (.cells (treeA n (.slice av k.len cv)) TrT)).alloc (.cells #[.int .i64 stop] IntT)).heap.size _ _).block _ (by simp; omega),
      (Below.alloc (Below.refl _ _) (Nat.le_refl _) _ : Below (w.alloc (.cells (treeA n (.slice av k.len cv)) TrT)).heap.size _ _).block _ (by simp)]
    exact heap_alloc_new _ _
  have h2 : (((w.alloc (.cells (treeA n (.slice av k.len cv)) TrT)).alloc (.cells #[.int .i64 stop] IntT)).alloc (.cells #[.bool false] BooT)).heap[w.heap.size + 1]? = some (Obj.cells #[.int .i64 stop] IntT) := by
    rw [(Below.alloc (Below.refl _ _) (Nat.le_refl _) _ : Below ((w.alloc (.cells (treeA n (.slice av k.len cv)) TrT)).alloc (.cells #[.int .i64 stop] IntT)).heap.size _ _).block _ (by simp)]
    have e : w.heap.size + 1 = (w.alloc (.cells (treeA n (.slice av k.len cv)) TrT)).heap.size := by simp
    rw [e]; exact heap_alloc_new _ _
  have h3 : (((w.alloc (.cells (treeA n (.slice av k.len cv)) TrT)).alloc (.cells #[.int .i64 stop] IntT)).alloc (.cells #[.bool false] BooT)).heap[w.heap.size + 2]? = some (Obj.cells #[.bool false] BooT) := by
    have e : w.heap.size + 2 = ((w.alloc (.cells (treeA n (.slice av k.len cv)) TrT)).alloc (.cells #[.int .i64 stop] IntT)).heap.size := by simp
    rw [e]; exact heap_alloc_new _ _
  have HL := Lib.hid (hl.below b1)
  have HK := Lib.hid (hk.below b1)
  have HA := Lib.hid b1
  have HBG := Lib.hid hl.lt
  have LA := Lib.hid (fun (W : World) (h : IsK W (fun b => b < w.heap.size) (.slice av k.len cv) k) => large_any n k W _ h)
  have TA := Lib.hid (fun (hs : k.size ≤ 6000) (W : World) (h : IsK W (fun b => b < w.heap.size) (.slice av k.len cv) k) => lent_any n k h hs)
  have HLA : Hid (largeB k = false → 1 + k.size ≤ 6000) := Lib.hid large_size
  have HNO := Lib.hid hn
  clear hl hk hn b1
  generalize hla : largeB k = la at *
  clear hla
  refine callsIn_of_wp_marks Tryd.func6 rfl trivial ?_ rfl
  simp only [Tryd.ntmps6, List.size_toArray, List.length_cons, List.length_nil, Nat.reduceAdd, Nat.reduceSub, Array.replicate_succ, Array.replicate_zero, List.push_toArray, List.append_toArray, List.nil_append, List.cons_append]
  refine wpIn_wide.2 ?_
  cases la with
  | true =>
    obtain ⟨k1, f1, t1, n1, s1, x1, y1⟩ := n
    simp only [treeA] at *
    have c0 := cellB (j := 0) h1 rfl
    have c1 := cellB (j := 1) h1 rfl
    have c2 := cellB (j := 2) h1 rfl
    have c3 := cellB (j := 3) h1 rfl
    have c4 := cellB (j := 4) h1 rfl
    have c5 := cellB (j := 5) h1 rfl
    have H3 := Lib.hid h3
    clear h1 h2 h3
    go_wp2_with fail
    generalize (((w.alloc (.cells #[.int .i64 k1, .int .i64 f1, .int .i64 t1, .int .u64 n1, .string s1, .slice av k.len cv] TrT)).alloc (.cells #[.int .i64 stop] IntT)).alloc (.cells #[.bool false] BooT)) = W at *
    refine (LA.out _ HK.out).mono ?_
    rintro e w1 ⟨rfl, u1⟩
    have HA1 := Lib.hid (bmore HA.out u1)
    have HL1 := Lib.hid (HL.out.below u1)
    have h3 := Hold.below u1 _ _ H3.out
    have H3' := Lib.hid h3
    clear u1 c0 c1 c2 c3 c4 c5
    go_wp2_with fail
    refine (live_any HL1.out).mono ?_
    rintro e w2 ⟨rfl, u2⟩
    have HA2 := Lib.hid (bmore HA1.out u2)
    have h3 := Hold.below u2 _ _ H3'.out
    have d0 := cellB (j := 0) h3 rfl
    have df := frozenB (j := 0) h3
    clear u2
    go_wp2_with fail
    refine ⟨.bool true, ?_, rfl, HA2.out.setCell (p := ⟨w.heap.size + 2, 0, none⟩) (by simp) _⟩
    have hcL := cellB (j := 0) (setCellB (j := 0) (u := .bool true) h3) rfl
    simp [results, Tryd.f6, go_sem, hcL]
  | false =>
    have hs := HLA.out rfl
    have LE := Lib.hid (TA.out (by omega))
    have hgood := ofP_ok n k [] Ok.nil ⟨HNO.out.2.1, HNO.out.2.2.1, HNO.out.2.2.2.bare, trivial⟩ (by simp only [Fo.size, List.length_nil]; omega)
    have hroom : (lkT n k 0 0).2 = 0 → (grT n k []).2.1 = 0 := fun h => (grT_good n k [] Ok.nil (lkT_good h).1 ⟨HNO.out.2.1, HNO.out.2.2.1, HNO.out.2.2.2.bare, trivial⟩ (lkT_good h).2.1 (lkT_good h).2.2 (by simp only [Fo.size, List.length_nil]; omega)).1
    have HOF := Lib.hid (fun (W : World) (B pa pb : Nat) (vv v : Value) (h0 : 0 < B) (h1 : Laid W) (h2 : IsPool W B pa pb vv []) (h3 : IsK W (Safe W B) v k) => pof h0 h1 h2 h3 HNO.out.1 HNO.out.2.1 HNO.out.2.2.1 HNO.out.2.2.2 hroom)
    have HRO := Lib.hid (fun (W : World) (B ra : Nat) (rl rs rd v : Value) (h2 : IsRef W B ra rl rs rd []) (h3 : IsK W (Safe W B) v k) => rof h2 h3 HNO.out.1 HNO.out.2.1 HNO.out.2.2.1 HNO.out.2.2.2 hroom)
    have HSZ : Hid ((ofP n k []).2.2.length ≤ 6000) := Lib.hid (by
      rcases hgood with ⟨_, h⟩ | ⟨_, _, h3, _, _, e, h6, h7⟩
      · rw [h]; simp
      · rw [h3, h6]
        simp only [Fo.size] at h7
        simp; omega)
    clear hgood hroom TA HLA
    generalize ofP n k [] = oq at *
    obtain ⟨o1, o2, q2⟩ := oq
    obtain ⟨k1, f1, t1, n1, s1, x1, y1⟩ := n
    simp only [treeA] at *
    have H1 := Lib.hid h1
    have H2 := Lib.hid h2
    have H3 := Lib.hid h3
    have c0 := cellB (j := 0) h1 rfl
    have c1 := cellB (j := 1) h1 rfl
    have c2 := cellB (j := 2) h1 rfl
    have c3 := cellB (j := 3) h1 rfl
    have c4 := cellB (j := 4) h1 rfl
    have c5 := cellB (j := 5) h1 rfl
    have hws : (((w.alloc (.cells #[.int .i64 k1, .int .i64 f1, .int .i64 t1, .int .u64 n1, .string s1, .slice av k.len cv] TrT)).alloc (.cells #[.int .i64 stop] IntT)).alloc (.cells #[.bool false] BooT)).heap.size = w.heap.size + 3 := by simp
    clear h1 h2 h3
    go_wp2_with fail
    generalize (((w.alloc (.cells #[.int .i64 k1, .int .i64 f1, .int .i64 t1, .int .u64 n1, .string s1, .slice av k.len cv] TrT)).alloc (.cells #[.int .i64 stop] IntT)).alloc (.cells #[.bool false] BooT)) = W at *
    refine (LA.out _ HK.out).mono ?_
    rintro e w1 ⟨rfl, u1⟩
    have HA1 := Lib.hid (bmore HA.out u1)
    have HL1 := Lib.hid (HL.out.below u1)
    have HW1 := Lib.hid u1
    clear u1 c0 c1 c2 c3 c4 c5 LA
    go_wp2_with fail
    refine (pnew w1).mono ?_
    rintro e w2 ⟨rfl, p2, u2⟩
    have HW2 := Lib.hid (bmore HW1.out u2)
    have HP2 := Lib.hid p2
    have HBG1 := Lib.hid HL1.out.lt
    have HWB := Lib.hid (show W.heap.size ≤ w1.heap.size from HW1.out.size)
    have HB2 := Lib.hid (show w1.heap.size ≤ w2.heap.size from u2.size)
    have HL2 := Lib.hid (HL1.out.below u2)
    clear u2 p2 HW1 HL1
    generalize w1.heap.size + 1 = pa at *
    generalize w1.heap.size = B at *
    go_wp2_with fail
    refine (rnew w2 B HB2.out).mono ?_
    rintro e w3 ⟨rfl, r3, u3⟩
    have HP3 := Lib.hid (HP2.out.below u3)
    have HW3 := Lib.hid (bmore HW2.out u3)
    have HR3 := Lib.hid r3
    have HL3 := Lib.hid (HL2.out.below u3)
    have h1 := Hold.below HW3.out _ _ H1.out
    have c0 := cellB (j := 0) h1 rfl
    have c1 := cellB (j := 1) h1 rfl
    have c2 := cellB (j := 2) h1 rfl
    have c3 := cellB (j := 3) h1 rfl
    have c4 := cellB (j := 4) h1 rfl
    have c5 := cellB (j := 5) h1 rfl
    clear u3 r3 HP2 HW2 HL2 h1
    generalize w2.heap.size = ra at *
    go_wp2_with fail
    refine (LE.out w3 (HK.out.below HW3.out)).mono ?_
    rintro e w5 ⟨v4, rfl, k4, u4⟩
    have HW5 := Lib.hid (bmore HW3.out u4)
    have HL5 := Lib.hid (HL3.out.below u4)
    have HP5 := Lib.hid (HP3.out.below u4)
    have HR5 := Lib.hid (HR3.out.below u4)
    have HK5 := Lib.hid (k4.newT (B := B))
    clear u4 k4 c0 c1 c2 c3 c4 c5 HW3 HP3 HR3 HL3
    simp only [treeA]
    go_wp2_with fail
    refine (HOF.out w5 B pa _ _ _ HBG1.out HL5.out HP5.out HK5.out).mono ?_
    rintro e w6 ⟨rfl, g6⟩
    have HR6 := Lib.hid (IsRef.grew HP5.out HR5.out g6)
    obtain ⟨u6, _, v6, p6, _⟩ := g6
    have HW6 := Lib.hid (HW5.out.trans (u6.mono HWB.out))
    have HP6 := Lib.hid p6
    have h1 := Hold.below HW6.out _ _ H1.out
    have c0 := cellB (j := 0) h1 rfl
    have c1 := cellB (j := 1) h1 rfl
    have c2 := cellB (j := 2) h1 rfl
    have c3 := cellB (j := 3) h1 rfl
    have c4 := cellB (j := 4) h1 rfl
    have c5 := cellB (j := 5) h1 rfl
    have hkl := (HK.out.below HW6.out).keep (G' := Safe w6 B) (fun b hb _ => ⟨.inl (by have := HWB.out; omega), rfl⟩)
    have HKL := Lib.hid hkl
    have HL6 := Lib.hid (HL5.out.base HBG1.out u6)
    clear u6 p6 hkl h1 HW5 HP5 HR5 HK5 HOF LE HL5
    go_wp2_with fail
    refine (HRO.out w6 B ra _ _ _ _ HR6.out HKL.out).mono ?_
    rintro e w7 ⟨rfl, rl, rs, rd, r7, m7⟩
    have HP7 := Lib.hid (IsPool.rmost HP6.out m7)
    have HW7 := Lib.hid (HW6.out.trans (m7.1.mono HWB.out))
    have HR7 := Lib.hid r7
    have HL7 := Lib.hid (HL6.out.base HBG1.out m7.1)
    clear m7 r7 c0 c1 c2 c3 c4 c5 HW6 HP6 HR6 HKL HL6 HRO
    go_wp2_with fail
    refine (num_any _ _).mono ?_
    rintro e w8 ⟨rfl, rfl⟩
    go_wp2_with fail
    refine (rsubs HR7.out o1).mono ?_
    rintro e w9 ⟨vw, rfl, ow, u9⟩
    obtain ⟨wa, wc, rfl⟩ := (row_of_own ow).shape
    have bM : Below w9.heap.size w9 (w9.alloc (.cells #[.slice wa (subs q2 o1).length wc] SlTT)) := (Below.refl _ _).alloc (Nat.le_refl _) _
    have hM : (w9.alloc (.cells #[.slice wa (subs q2 o1).length wc] SlTT)).heap[w9.heap.size]? = some (Obj.cells #[.slice wa (subs q2 o1).length wc] SlTT) := heap_alloc_new _ _
    have HW9 := Lib.hid (bmore HW7.out (bmore u9 bM))
    have HP9 := Lib.hid (HP7.out.below (bmore u9 bM))
    have HL9 := Lib.hid (HL7.out.below (bmore u9 bM))
    have HOW := Lib.hid (own_hold ow (Hold.below bM))
    have HM := Lib.hid hM
    have HSL := Lib.hid (Nat.le_trans (subs_len HP7.out.ok o1) HSZ.out)
    clear u9 ow bM hM HW7 HP7 HR7 HL7
    have hnf := fun W fn x y => func_nilT W fn x y
    go_wp2_with fail
    generalize (w9.alloc (.cells #[.slice wa (subs q2 o1).length wc] SlTT)) = W2 at *
    generalize w9.heap.size = em at *
    refine (psubs HP9.out o1).mono ?_
    rintro e w10 ⟨rfl, s1, s2, u10⟩
    have bQ : Below w10.heap.size w10 (w10.alloc (.cells #[.func (.func 64) #[] #[.pointer (some ⟨W2.heap.size, 0, none⟩), .pointer (some ⟨W2.heap.size + 1, 0, none⟩)]] SeqT)) := (Below.refl _ _).alloc (Nat.le_refl _) _
    have hQ : (w10.alloc (.cells #[.func (.func 64) #[] #[.pointer (some ⟨W2.heap.size, 0, none⟩), .pointer (some ⟨W2.heap.size + 1, 0, none⟩)]] SeqT)).heap[w10.heap.size]? = some (Obj.cells #[.func (.func 64) #[] #[.pointer (some ⟨W2.heap.size, 0, none⟩), .pointer (some ⟨W2.heap.size + 1, 0, none⟩)]] SeqT) := heap_alloc_new _ _
    have HW10 := Lib.hid (bmore HW9.out (bmore u10 bQ))
    have HP10 := Lib.hid (HP9.out.below (bmore u10 bQ))
    have HL10 := Lib.hid (HL9.out.below (bmore u10 bQ))
    have HOW10 := Lib.hid ((row_of_own HOW.out).below (bmore u10 bQ))
    have HM10 := Lib.hid (Hold.below (bmore u10 bQ) _ _ HM.out)
    have HS1 := Lib.hid (Hold.below bQ _ _ s1)
    have HS2 := Lib.hid (Hold.below bQ _ _ s2)
    have HQ := Lib.hid hQ
    have xq := cellB (j := 0) hQ rfl
    clear u10 bQ hQ s1 s2 HW9 HP9 HL9 HOW HM
    go_wp2_with fail
    have S6 : (w10.alloc (.cells #[.func (.func 64) #[] #[.pointer (some ⟨W2.heap.size, 0, none⟩), .pointer (some ⟨W2.heap.size + 1, 0, none⟩)]] SeqT)).heap.size = w10.heap.size + 1 := by simp
    generalize (w10.alloc (.cells #[.func (.func 64) #[] #[.pointer (some ⟨W2.heap.size, 0, none⟩), .pointer (some ⟨W2.heap.size + 1, 0, none⟩)]] SeqT)) = W6 at *
    generalize w10.heap.size = eb at *
    generalize W2.heap.size = bp at *
    have hpa : pa < W6.heap.size := HP10.out.lt
    have hpb : B < W6.heap.size := by obtain ⟨D, ho, _⟩ := HP10.out.dict; exact ho.lt
    have hpv : ∀ g, v6.ownBlock = some g → g < W6.heap.size := fun g hg => (HP10.out.apart.2 g hg).2.2.1
    have hst := fun (m : Nat) (X : World) (hX : Below W6.heap.size W6 X) => stopsT (w := X) m (KpT W6.heap.size) (fun _ _ hk hp => hp.low hpa hpb hpv hk.low) (fun _ _ hk => hk.nodes) (fun _ _ k es c hk _ hm => hk.walks.same k _ hm rfl) (HP10.out.below hX) (Hold.below hX _ _ HS1.out) (Hold.below hX _ _ HS2.out) (termIn_or q2 o1)
    simp only [subs_termIn] at hst
    have HST := Lib.hid hst
    have HLV := Lib.hid (fun (X : World) (hX : Below W6.heap.size W6 X) => live_any (HL10.out.below hX))
    clear hpa hpb hpv hst HP10 HL10 HS1 HS2 HBG1 HWB HB2 hws
    generalize subs q2 o1 = A at *
    have X2 := Lib.hid (Hold.below HW10.out _ _ H2.out)
    have X3 := Lib.hid (Hold.below HW10.out _ _ H3.out)
    have HA6 := Lib.hid (bmore HA.out HW10.out)
    clear H1 H2 H3 HW10 HK HL HA hnf
    have t0 : Boxed (W6.alloc (.cells #[.int .i64 0] IntT)) (eb + 1) IntT (.int .i64 0) := by have := Boxed.new W6 IntT (.int .i64 0); rwa [S6] at this
    have x13 := t0.cell
    have xq1 := bcellAt ((Below.refl _ _).alloc (Nat.le_refl _) (.cells #[.int .i64 0] IntT) : Below W6.heap.size W6 _) xq
    refine wp_loop_rounds 3 ?_
    rw [rounds_succ]
    have hq7 : ((W6.alloc (.cells #[.int .i64 0] IntT)).alloc (.cells #[.int .i64 0] IntT)).cell? ⟨eb, 0, none⟩ = some (.func (.func 64) #[] #[.pointer (some ⟨bp, 0, none⟩), .pointer (some ⟨bp + 1, 0, none⟩)]) := bcellAt (((Below.refl _ _).alloc (Nat.le_refl _) _).alloc (by simp) _ : Below W6.heap.size W6 _) xq
    go_wp2_with fail
    have BN : Hid (Boxed ((W6.alloc (.cells #[.int .i64 0] IntT)).alloc (.cells #[.int .i64 0] IntT)) (eb + 1 + 1) IntT (.int .i64 0)) := Lib.hid (by have := Boxed.new (W6.alloc (.cells #[.int .i64 0] IntT)) IntT (.int .i64 0); rwa [World.size_alloc, S6] at this)
    have BR : Hid (Boxed ((W6.alloc (.cells #[.int .i64 0] IntT)).alloc (.cells #[.int .i64 0] IntT)) (eb + 1) IntT (.int .i64 0)) := Lib.hid (t0.alloc _)
    have HV : Hid (Below W6.heap.size W6 ((W6.alloc (.cells #[.int .i64 0] IntT)).alloc (.cells #[.int .i64 0] IntT))) := Lib.hid (((Below.refl _ _).alloc (Nat.le_refl _) _).alloc (by simp) _)
    have MK : Hid (∀ D, (none : Option Nat) = some D → D < ((W6.alloc (.cells #[.int .i64 0] IntT)).alloc (.cells #[.int .i64 0] IntT)).heap.size) := Lib.hid (fun D e => by cases e)
    have MD : Hid (∀ D, (none : Option Nat) = some D → ((W6.alloc (.cells #[.int .i64 0] IntT)).alloc (.cells #[.int .i64 0] IntT)).heap[D]? = some (.deferred (some []))) := Lib.hid (fun D e => by cases e)
    clear t0 x13 xq1 hq7
    generalize ((W6.alloc (.cells #[.int .i64 0] IntT)).alloc (.cells #[.int .i64 0] IntT)) = V1 at *
    refine (wpIn_wide (n := 3)).1 ?_
    refine range_H rfl (by decide) (gf := 64) (lb := #[.pointer (some ⟨bp, 0, none⟩), .pointer (some ⟨bp + 1, 0, none⟩)]) rfl trivial (enters_of Tryd.func64 (by kernel_rfl) rfl)
      (HST.out 2 V1 HV.out) HV.out.size (fun _ => rfl)
      (Bt A W6 (eb + 1 + 1) (eb + 1) 0 none) (Lv A W6 (eb + 1) 0 True none 2) (bt_own A W6 (eb + 1 + 1) (eb + 1) 0 none HV.out.size MK.out) (lv_own A W6 (eb + 1) 0 True none 2 HV.out.size MK.out) ⟨List.nil_prefix, BN.out, BR.out, HV.out, MD.out⟩ ?a1x ?assignx ?bodyx ?donex ?stopx
    case assignx =>
      intro lb x W' K hK
      gi_wp2
      exact hK
    case bodyx =>
      as_aux_lemma =>
      have HNE : Hid (eb + 1 ≠ eb + 1 + 1) := Lib.hid (by omega)
      have HIB : Hid (W6.heap.size ≤ eb + 1 + 1) := Lib.hid (by omega)
      rintro lb pre x X hlb hrec hbt hlt
      have HBT := Lib.hid hbt
      obtain ⟨hp, hb1, hb2, hb, hd⟩ := hbt
      obtain ⟨aR, cR, hvR, xR⟩ := (HOW10.out.below hb).at
      simp only [Value.slice.injEq, true_and] at hvR
      obtain ⟨rfl, rfl⟩ := hvR
      obtain ⟨b1, o1', rfl, q1⟩ := xR (by omega)
      have d1 := q1 _ _ (ints_at A pre.length hlt)
      have hps := prefix_snoc (x := x) hp hlt
      clear q1 xR
      generalize hy : A[pre.length] = y at *
      clear hy
      have HPS := Lib.hid hps
      have x11 := bcellAt hb (cellB (j := 0) HM10.out rfl)
      have x4 := bcellAt hb (cellB (j := 0) X3.out rfl)
      have f4 := bfrozenAt hb (cellB (j := 0) X3.out rfl) (frozenB (j := 0) X3.out)
      have x14 := hb1.cell
      have hn0 : (0 : Int) ≤ (pre.length : Int) := by omega
      have hn1 : (pre.length : Int) < (A.length : Int) := by omega
      have hn2 : (pre.length : Int) ≤ 6000 := by have := HSL.out; omega
      have HREC := Lib.hid hrec
      have HB := Lib.hid hb
      have hxs : W6.heap.size ≤ X.heap.size := hb.size
      have hx2 := (Array.getElem?_eq_some_iff.1 X2.out).1
      have e1 : ¬ w.heap.size + 1 = X.heap.size := by omega
      have e1' : ¬ X.heap.size = w.heap.size + 1 := by omega
      have e2 : ¬ w.heap.size + 1 = eb + 1 + 1 := by have := HIB.out; omega
      have e2' : ¬ eb + 1 + 1 = w.heap.size + 1 := by have := HIB.out; omega
      have e3 : ¬ eb + 1 = eb + 1 + 1 := HNE.out
      have e3' : ¬ eb + 1 + 1 = eb + 1 := fun e => HNE.out e.symm
      clear hps hb1 hb2 hb hd hp hrec hlt hxs hx2
      by_cases hxy : x = y
      · subst hxy
        have HPX : Hid (pre ++ [x] <+: A) := Lib.hid (HPS.out.2 rfl)
        clear HPS
        by_cases h3 : (pre.length : Int) < 3
        · have bK : Below X.heap.size X (X.alloc (.cells #[.int .i64 0] IntT)) := (Below.refl _ _).alloc (Nat.le_refl _) _
          have x12 := bcellAt (bmore HB.out bK) xq
          have hkb : Bi X X.heap.size [] (X.alloc (.cells #[.int .i64 0] IntT)) := ⟨Boxed.new _ _ _, bK⟩
          obtain ⟨rr, hrr⟩ := HREC.out
          have hrr1 := (bK.block lb (Array.getElem?_eq_some_iff.1 hrr).1).trans hrr
          have HST2 := Lib.hid ((HST.out 0 _ (bmore HB.out bK)).inRound lb)
          have HRR := Lib.hid hrr1
          have HKB := Lib.hid hkb
          have HXS := Lib.hid (show X.heap.size ≤ (X.alloc (.cells #[.int .i64 0] IntT)).heap.size from bK.size)
          have HWS := Lib.hid (show W6.heap.size ≤ (X.alloc (.cells #[.int .i64 0] IntT)).heap.size from Nat.le_trans HB.out.size bK.size)
          clear hrr hrr1 hkb bK
          gi_wp2
          refine range_N rfl HRR.out (by decide) (gf := 64) (lb := #[.pointer (some ⟨bp, 0, none⟩), .pointer (some ⟨bp + 1, 0, none⟩)]) rfl trivial (enters_of Tryd.func64 (by kernel_rfl) rfl)
            HST2.out HWS.out (fun _ => rfl) (Bi X X.heap.size) (Li X X.heap.size 4) (bi_own X X.heap.size HXS.out) (li_own X X.heap.size 4 HXS.out) HKB.out ?a1n1 ?assignn1 ?bodyn1 ?donen1 ?stopn1
          case assignn1 =>
            intro lb2 z W' K hK
            gi_wp2
            exact hK
          case bodyn1 =>
            rintro lb2 p2 z Y hlb2 hbi hlt2
            have y16 := hbi.1.cell
            have g16 := hbi.1.frozen
            have y3 := bcellAt (HB.out.trans (hbi.2.mono HB.out.size)) (cellB (j := 0) X2.out rfl)
            have BS := Lib.hid (fun (B : Nat) => bi_step (z := z) (B := B) (n0 := W6.heap.size) hbi HB.out.size)
            have hm0 : (0 : Int) ≤ (p2.length : Int) := by omega
            have hm1 : (p2.length : Int) ≤ 6000 := by have := HSL.out; omega
            clear hbi hlt2 x11 x4 f4 x14 x12 d1
            by_cases hs : (p2.length : Int) + 1 = stop
            · have hs2 : ((p2.length : Int) + 1 == stop) = true := by simp; exact hs
              clear hs
              gi_wp2
              exact ⟨(BS.out _).1, rfl, (BS.out X.heap.size).2.2⟩
            · have hs2 : ((p2.length : Int) + 1 == stop) = false := by simp; exact hs
              clear hs
              gi_wp2
              exact BS.out _
          case donen1 =>
            rintro ys Y hS hbi
            subst hS
            have HY := Lib.hid hbi.2
            have x16 := hbi.1.cell
            clear hbi x11 x4 f4 x14 x12 d1 HST2 HRR HKB
            have hbY := HB.out.trans ((HY.out).mono HB.out.size)
            have x14 := (boxed_below HBT.out.2.1 (HY.out)).cell
            have f14 := (boxed_below HBT.out.2.1 (HY.out)).frozen
            have x13 := (boxed_below HBT.out.2.2.1 (HY.out)).cell
            have x11 := bcellAt hbY (cellB (j := 0) HM10.out rfl)
            have x3 := bcellAt hbY (cellB (j := 0) X2.out rfl)
            have TF := Lib.hid (tail_facts (B := V1.heap.size) HBT.out (HY.out) HPX.out HNE.out HIB.out)
            clear hbY
            by_cases hs : (pre.length : Int) + 1 = stop
            · have hs2 : ((pre.length : Int) + 1 == stop) = true := by simp; exact hs
              clear hs
              gi_wp2
              exact ⟨TF.out.1, .inr ⟨trivial, rfl, TF.out.2.2.2.2.1, TF.out.2.2.2.2.2.1, TF.out.2.2.2.2.2.2⟩⟩
            · have hs2 : ((pre.length : Int) + 1 == stop) = false := by simp; exact hs
              clear hs
              gi_wp2
              exact TF.out

          case stopn1 =>
            rintro c ys Y hS ⟨rfl, hbi⟩
            have HY := Lib.hid hbi.2
            have x16 := hbi.1.cell
            have hle : decide (A.length < ys.length) = false := decide_eq_false (by have := hS.length_le; omega)
            clear hbi x11 x4 f4 x14 x12 d1 HST2 HRR HKB hS
            have hbY := HB.out.trans ((HY.out).mono HB.out.size)
            have x14 := (boxed_below HBT.out.2.1 (HY.out)).cell
            have f14 := (boxed_below HBT.out.2.1 (HY.out)).frozen
            have x13 := (boxed_below HBT.out.2.2.1 (HY.out)).cell
            have x11 := bcellAt hbY (cellB (j := 0) HM10.out rfl)
            have x3 := bcellAt hbY (cellB (j := 0) X2.out rfl)
            have TF := Lib.hid (tail_facts (B := V1.heap.size) HBT.out (HY.out) HPX.out HNE.out HIB.out)
            clear hbY
            by_cases hs : (pre.length : Int) + 1 = stop
            · have hs2 : ((pre.length : Int) + 1 == stop) = true := by simp; exact hs
              clear hs
              gi_wp2
              exact ⟨TF.out.1, .inr ⟨trivial, rfl, TF.out.2.2.2.2.1, TF.out.2.2.2.2.2.1, TF.out.2.2.2.2.2.2⟩⟩
            · have hs2 : ((pre.length : Int) + 1 == stop) = false := by simp; exact hs
              clear hs
              gi_wp2
              exact TF.out

        · have h3' : decide ((pre.length : Int) < 3) = false := decide_eq_false h3
          clear h3
          have hbY := HB.out.trans ((Below.refl _ _).mono HB.out.size)
          have x14 := (boxed_below HBT.out.2.1 (Below.refl _ _)).cell
          have f14 := (boxed_below HBT.out.2.1 (Below.refl _ _)).frozen
          have x13 := (boxed_below HBT.out.2.2.1 (Below.refl _ _)).cell
          have x11 := bcellAt hbY (cellB (j := 0) HM10.out rfl)
          have x3 := bcellAt hbY (cellB (j := 0) X2.out rfl)
          have TF := Lib.hid (tail_facts (B := V1.heap.size) HBT.out (Below.refl _ _) HPX.out HNE.out HIB.out)
          clear hbY
          by_cases hs : (pre.length : Int) + 1 = stop
          · have hs2 : ((pre.length : Int) + 1 == stop) = true := by simp; exact hs
            clear hs
            gi_wp2
            exact ⟨TF.out.1, .inr ⟨trivial, rfl, TF.out.2.2.2.2.1, TF.out.2.2.2.2.2.1, TF.out.2.2.2.2.2.2⟩⟩
          · have hs2 : ((pre.length : Int) + 1 == stop) = false := by simp; exact hs
            clear hs
            gi_wp2
            exact TF.out

      · have hv2 : (x != y) = true := by simp; exact hxy
        have hnp : ¬ pre ++ [x] <+: A := fun h => hxy (HPS.out.1 h)
        have HNP := Lib.hid hnp
        clear hnp hxy
        gi_wp2
        exact ⟨(KeepsOthers.setCell _ _ _).from _, .inl ⟨rfl, HNP.out⟩⟩

    case donex =>
      rintro D ys W' hD hS ⟨hp, hb1, hb2, hb, _⟩ hK
      clear hp hb1
      as_aux_lemma =>
      have x12 := bcellAt hb xq
      have x13 := hb2.cell
      have HKD := Lib.hid hK
      have HBW := Lib.hid hb
      have HR0 := Lib.hid hb2
      have hDlo : W6.heap.size ≤ D := Nat.le_trans HV.out.size hD
      clear hK hb hb2 hD hS
      go_wp2_with fail
      have hr1 : Boxed (W'.alloc (.cells #[.int .i64 1] IntT)) W'.heap.size IntT (.int .i64 1) := Boxed.new _ _ _
      have hbA : Below W6.heap.size W6 (W'.alloc (.cells #[.int .i64 1] IntT)) := HBW.out.alloc HBW.out.size _
      have hDW : D < W'.heap.size := (Array.getElem?_eq_some_iff.1 HKD.out).1
      have hK7 : (W'.alloc (.cells #[.int .i64 1] IntT)).heap[D]? = some (.deferred (some [])) := (Below.heap_alloc W' _ D hDW).trans HKD.out
      have hn1 : W6.heap.size ≤ W'.heap.size := HBW.out.size
      clear HKD HBW HR0 x12 x13 BN BR HV MK MD
      generalize (W'.alloc (.cells #[.int .i64 1] IntT)) = W7 at *
      generalize W'.heap.size = n1 at *
      rw [rounds_succ]
      have x13 := hr1.cell
      have xq1 := bcellAt hbA xq
      have hq7 : (W7.alloc (.cells #[.int .i64 0] IntT)).cell? ⟨eb, 0, none⟩ = some (.func (.func 64) #[] #[.pointer (some ⟨bp, 0, none⟩), .pointer (some ⟨bp + 1, 0, none⟩)]) := bcellAt (hbA.alloc hbA.size _) xq
      go_wp2_with fail
      have BN : Hid (Boxed (W7.alloc (.cells #[.int .i64 0] IntT)) W7.heap.size IntT (.int .i64 0)) := Lib.hid (Boxed.new _ _ _)
      have BR : Hid (Boxed (W7.alloc (.cells #[.int .i64 0] IntT)) n1 IntT (.int .i64 1)) := Lib.hid (hr1.alloc _)
      have HV : Hid (Below W6.heap.size W6 (W7.alloc (.cells #[.int .i64 0] IntT))) := Lib.hid (hbA.alloc hbA.size _)
      have h12 : n1 < W7.heap.size := hr1.lt
      have hd7 : D < W7.heap.size := (Array.getElem?_eq_some_iff.1 hK7).1
      have MK : Hid (∀ D', some D = some D' → D' < (W7.alloc (.cells #[.int .i64 0] IntT)).heap.size) := Lib.hid (fun D' e => by cases e; simp; omega)
      have MD : Hid (∀ D', some D = some D' → (W7.alloc (.cells #[.int .i64 0] IntT)).heap[D']? = some (.deferred (some []))) := Lib.hid (fun D' e => by cases e; exact (Below.heap_alloc W7 _ D hd7).trans hK7)
      have HIB : Hid (W6.heap.size ≤ W7.heap.size) := Lib.hid hbA.size
      have HNE : Hid (n1 ≠ W7.heap.size) := Lib.hid (by omega)
      clear hr1 hbA hK7 x13 xq1 hq7 hDW hd7
      have hz2 : W7.heap.size < (W7.alloc (.cells #[.int .i64 0] IntT)).heap.size := by simp
      generalize (W7.alloc (.cells #[.int .i64 0] IntT)) = V2 at *
      generalize W7.heap.size = n2 at *
      refine (wpIn_wide (n := 3)).1 ?_
      refine range_H rfl (by decide) (gf := 64) (lb := #[.pointer (some ⟨bp, 0, none⟩), .pointer (some ⟨bp + 1, 0, none⟩)]) rfl trivial (enters_of Tryd.func64 (by kernel_rfl) rfl)
        (HST.out 2 V2 HV.out) HV.out.size (fun _ => rfl)
        (Bt A W6 n2 n1 1 (some D)) (Lv A W6 n1 1 False (some D) 2) (bt_own A W6 n2 n1 1 (some D) HV.out.size MK.out) (lv_own A W6 n1 1 False (some D) 2 HV.out.size MK.out) ⟨List.nil_prefix, BN.out, BR.out, HV.out, MD.out⟩ ?a1y1 ?assigny1 ?bodyy1 ?doney1 ?stopy1
      case assigny1 =>
        intro lb x W' K hK
        gi_wp2
        exact hK
      case bodyy1 =>
        rintro lb pre x X hlb hrec hbt hlt
        have HBT := Lib.hid hbt
        obtain ⟨hp, hb1, hb2, hb, hd⟩ := hbt
        obtain ⟨aR, cR, hvR, xR⟩ := (HOW10.out.below hb).at
        simp only [Value.slice.injEq, true_and] at hvR
        obtain ⟨rfl, rfl⟩ := hvR
        obtain ⟨b1, o1', rfl, q1⟩ := xR (by omega)
        have d1 := q1 _ _ (ints_at A pre.length hlt)
        have hps := prefix_snoc (x := x) hp hlt
        clear q1 xR
        generalize hy : A[pre.length] = y at *
        clear hy
        have HPS := Lib.hid hps
        have x11 := bcellAt hb (cellB (j := 0) HM10.out rfl)
        have x4 := bcellAt hb (cellB (j := 0) X3.out rfl)
        have f4 := bfrozenAt hb (cellB (j := 0) X3.out rfl) (frozenB (j := 0) X3.out)
        have x14 := hb1.cell
        have hn0 : (0 : Int) ≤ (pre.length : Int) := by omega
        have hn1 : (pre.length : Int) < (A.length : Int) := by omega
        have hn2 : (pre.length : Int) ≤ 6000 := by have := HSL.out; omega
        have HREC := Lib.hid hrec
        have HB := Lib.hid hb
        have hxs : W6.heap.size ≤ X.heap.size := hb.size
        have hx2 := (Array.getElem?_eq_some_iff.1 X2.out).1
        have e1 : ¬ w.heap.size + 1 = X.heap.size := by omega
        have e1' : ¬ X.heap.size = w.heap.size + 1 := by omega
        have e2 : ¬ w.heap.size + 1 = n2 := by have := HIB.out; omega
        have e2' : ¬ n2 = w.heap.size + 1 := by have := HIB.out; omega
        have e3 : ¬ n1 = n2 := HNE.out
        have e3' : ¬ n2 = n1 := fun e => HNE.out e.symm
        clear hps hb1 hb2 hb hd hp hrec hlt hxs hx2
        by_cases hxy : x = y
        · subst hxy
          have HPX : Hid (pre ++ [x] <+: A) := Lib.hid (HPS.out.2 rfl)
          clear HPS
          by_cases h3 : (pre.length : Int) < 3
          · have bK : Below X.heap.size X (X.alloc (.cells #[.int .i64 0] IntT)) := (Below.refl _ _).alloc (Nat.le_refl _) _
            have x12 := bcellAt (bmore HB.out bK) xq
            have hkb : Bi X X.heap.size [] (X.alloc (.cells #[.int .i64 0] IntT)) := ⟨Boxed.new _ _ _, bK⟩
            obtain ⟨rr, hrr⟩ := HREC.out
            have hrr1 := (bK.block lb (Array.getElem?_eq_some_iff.1 hrr).1).trans hrr
            have HST2 := Lib.hid ((HST.out 0 _ (bmore HB.out bK)).inRound lb)
            have HRR := Lib.hid hrr1
            have HKB := Lib.hid hkb
            have HXS := Lib.hid (show X.heap.size ≤ (X.alloc (.cells #[.int .i64 0] IntT)).heap.size from bK.size)
            have HWS := Lib.hid (show W6.heap.size ≤ (X.alloc (.cells #[.int .i64 0] IntT)).heap.size from Nat.le_trans HB.out.size bK.size)
            clear hrr hrr1 hkb bK
            gi_wp2
            refine range_N rfl HRR.out (by decide) (gf := 64) (lb := #[.pointer (some ⟨bp, 0, none⟩), .pointer (some ⟨bp + 1, 0, none⟩)]) rfl trivial (enters_of Tryd.func64 (by kernel_rfl) rfl)
              HST2.out HWS.out (fun _ => rfl) (Bi X X.heap.size) (Li X X.heap.size 4) (bi_own X X.heap.size HXS.out) (li_own X X.heap.size 4 HXS.out) HKB.out ?a1n2 ?assignn2 ?bodyn2 ?donen2 ?stopn2
            case assignn2 =>
              intro lb2 z W' K hK
              gi_wp2
              exact hK
            case bodyn2 =>
              rintro lb2 p2 z Y hlb2 hbi hlt2
              have y16 := hbi.1.cell
              have g16 := hbi.1.frozen
              have y3 := bcellAt (HB.out.trans (hbi.2.mono HB.out.size)) (cellB (j := 0) X2.out rfl)
              have BS := Lib.hid (fun (B : Nat) => bi_step (z := z) (B := B) (n0 := W6.heap.size) hbi HB.out.size)
              have hm0 : (0 : Int) ≤ (p2.length : Int) := by omega
              have hm1 : (p2.length : Int) ≤ 6000 := by have := HSL.out; omega
              clear hbi hlt2 x11 x4 f4 x14 x12 d1
              by_cases hs : (p2.length : Int) + 1 = stop
              · have hs2 : ((p2.length : Int) + 1 == stop) = true := by simp; exact hs
                clear hs
                gi_wp2
                exact ⟨(BS.out _).1, rfl, (BS.out X.heap.size).2.2⟩
              · have hs2 : ((p2.length : Int) + 1 == stop) = false := by simp; exact hs
                clear hs
                gi_wp2
                exact BS.out _
            case donen2 =>
              rintro ys Y hS hbi
              subst hS
              have HY := Lib.hid hbi.2
              have x16 := hbi.1.cell
              clear hbi x11 x4 f4 x14 x12 d1 HST2 HRR HKB
              have hbY := HB.out.trans ((HY.out).mono HB.out.size)
              have x14 := (boxed_below HBT.out.2.1 (HY.out)).cell
              have f14 := (boxed_below HBT.out.2.1 (HY.out)).frozen
              have x13 := (boxed_below HBT.out.2.2.1 (HY.out)).cell
              have x11 := bcellAt hbY (cellB (j := 0) HM10.out rfl)
              have x3 := bcellAt hbY (cellB (j := 0) X2.out rfl)
              have TF := Lib.hid (tail_facts (B := V2.heap.size) HBT.out (HY.out) HPX.out HNE.out HIB.out)
              clear hbY
              gi_wp2
              exact TF.out

            case stopn2 =>
              rintro c ys Y hS ⟨rfl, hbi⟩
              have HY := Lib.hid hbi.2
              have x16 := hbi.1.cell
              have hle : decide (A.length < ys.length) = false := decide_eq_false (by have := hS.length_le; omega)
              clear hbi x11 x4 f4 x14 x12 d1 HST2 HRR HKB hS
              have hbY := HB.out.trans ((HY.out).mono HB.out.size)
              have x14 := (boxed_below HBT.out.2.1 (HY.out)).cell
              have f14 := (boxed_below HBT.out.2.1 (HY.out)).frozen
              have x13 := (boxed_below HBT.out.2.2.1 (HY.out)).cell
              have x11 := bcellAt hbY (cellB (j := 0) HM10.out rfl)
              have x3 := bcellAt hbY (cellB (j := 0) X2.out rfl)
              have TF := Lib.hid (tail_facts (B := V2.heap.size) HBT.out (HY.out) HPX.out HNE.out HIB.out)
              clear hbY
              gi_wp2
              exact TF.out

          · have h3' : decide ((pre.length : Int) < 3) = false := decide_eq_false h3
            clear h3
            have hbY := HB.out.trans ((Below.refl _ _).mono HB.out.size)
            have x14 := (boxed_below HBT.out.2.1 (Below.refl _ _)).cell
            have f14 := (boxed_below HBT.out.2.1 (Below.refl _ _)).frozen
            have x13 := (boxed_below HBT.out.2.2.1 (Below.refl _ _)).cell
            have x11 := bcellAt hbY (cellB (j := 0) HM10.out rfl)
            have x3 := bcellAt hbY (cellB (j := 0) X2.out rfl)
            have TF := Lib.hid (tail_facts (B := V2.heap.size) HBT.out (Below.refl _ _) HPX.out HNE.out HIB.out)
            clear hbY
            gi_wp2
            exact TF.out

        · have hv2 : (x != y) = true := by simp; exact hxy
          have hnp : ¬ pre ++ [x] <+: A := fun h => hxy (HPS.out.1 h)
          have HNP := Lib.hid hnp
          clear hnp hxy
          gi_wp2
          exact ⟨(KeepsOthers.setCell _ _ _).from _, .inl ⟨rfl, HNP.out⟩⟩

      case doney1 =>
        rintro D2 ys2 W8 hD2 hS2 ⟨hp, hb1, hb2, hb, hmk⟩ hK2
        subst hS2
        have x11 := bcellAt hb (cellB (j := 0) HM10.out rfl)
        have x14 := hb1.cell
        have x13 := hb2.cell
        have hK1 := hmk D rfl
        have HB8 := Lib.hid hb
        have H1 := Lib.hid hK1
        have H2 := Lib.hid hK2
        have HDD := Lib.hid hD2
        have HDV : Hid (D < V2.heap.size) := Lib.hid (MK.out D rfl)
        clear hp hb1 hb2 hb hmk hK1 hK2 BN BR HV MK MD HST
        go_wp2_with fail
        have hr2 : Boxed (W8.alloc (.cells #[.int .i64 2] IntT)) W8.heap.size IntT (.int .i64 2) := Boxed.new _ _ _
        have l1 : D < W8.heap.size := (Array.getElem?_eq_some_iff.1 H1.out).1
        have l2 : D2 < W8.heap.size := (Array.getElem?_eq_some_iff.1 H2.out).1
        have H1f := Lib.hid ((Below.heap_alloc W8 (.cells #[.int .i64 2] IntT) D l1).trans H1.out)
        have H2f := Lib.hid ((Below.heap_alloc W8 (.cells #[.int .i64 2] IntT) D2 l2).trans H2.out)
        have HBf := Lib.hid (HB8.out.alloc HB8.out.size (.cells #[.int .i64 2] IntT))
        have x13 := hr2.cell
        clear hr2 x11 x14 H1 H2 HB8 l1 l2
        generalize (W8.alloc (.cells #[.int .i64 2] IntT)) = Wf at *
        generalize W8.heap.size = n8 at *
        rw [rounds_succ]
        go_wp2_with fail
        refine (HLV.out Wf HBf.out).mono ?_
        rintro e wL ⟨rfl, hbL⟩
        have HBL := Lib.hid (HBf.out.trans (hbL.mono HBf.out.size))
        have HAL := Lib.hid (show Boxed wL (w.heap.size + 1 + 1) BooT (.bool false) from (HBL.out.block _ (Array.getElem?_eq_some_iff.1 X3.out).1).trans X3.out)
        have xL := HAL.out.cell
        have fL := HAL.out.frozen
        have H1L := Lib.hid ((hbL.block D (Array.getElem?_eq_some_iff.1 H1f.out).1).trans H1f.out)
        have H2L := Lib.hid ((hbL.block D2 (Array.getElem?_eq_some_iff.1 H2f.out).1).trans H2f.out)
        clear hbL x13
        go_wp2_with fail
        have hne1 : D ≠ w.heap.size + 1 + 1 := fun e => by have h := H1L.out; rw [e, HAL.out] at h; cases h
        have hne2 : D2 ≠ w.heap.size + 1 + 1 := fun e => by have h := H2L.out; rw [e, HAL.out] at h; cases h
        have hDD : D ≠ D2 := by have := HDD.out; have := HDV.out; omega
        have hK2 : (wL.setCell ⟨w.heap.size + 1 + 1, 0, none⟩ (.bool true)).heap[D2]? = some (.deferred (some [])) := (Below.heap_setCell _ _ _ _ hne2).trans H2L.out
        have hK1 : (wL.setCell ⟨w.heap.size + 1 + 1, 0, none⟩ (.bool true)).heap[D]? = some (.deferred (some [])) := (Below.heap_setCell _ _ _ _ hne1).trans H1L.out
        have hK1' : ((wL.setCell ⟨w.heap.size + 1 + 1, 0, none⟩ (.bool true)).putObj D2 (.deferred none)).heap[D]? = some (.deferred (some [])) := ((grownBy_putObj' _ D2 (.deferred none)).block D ((Array.getElem?_eq_some_iff.1 hK1).1) (fun e => hDD (Option.some.inj e))).trans hK1
        refine ⟨by simp, .inl ⟨_, _, rfl, run_takeDeferred hK2, ?_⟩⟩
        refine ⟨by simp, .inl ⟨_, _, rfl, run_takeDeferred hK1', ?_⟩⟩
        have hc := (HAL.out.set (.bool true)).cell
        have hc1 := cell_kept hc (grownBy_putObj' _ D2 (.deferred none)) (fun r e => by cases e; exact ⟨_, hK2, rfl⟩)
        have hc2 := cell_kept hc1 (grownBy_putObj' _ D (.deferred none)) (fun r e => by cases e; exact ⟨_, hK1', rfl⟩)
        refine ⟨.bool true, ?_, rfl, ?_⟩
        · simp [results, Tryd.f6, go_sem, hc2]
        · have hbB := HA6.out.trans (HBL.out.mono HA6.out.size)
          have hbS := hbB.setCell (p := ⟨w.heap.size + 1 + 1, 0, none⟩) (by simp only; omega) (.bool true)
          have hDw : w.heap.size ≤ D := by have := HA6.out.size; omega
          have hD2w : w.heap.size ≤ D2 := by have := HA6.out.size; have := HDD.out; have := HIB.out; omega
          have hbT := hbS.grown (grownBy_putObj' _ D2 (.deferred none)) hbS.size (fun k e => by cases e; exact hD2w)
          exact hbT.grown (grownBy_putObj' _ D (.deferred none)) hbT.size (fun k e => by cases e; exact hDw)
      case stopy1 =>
        rintro D2 c ys2 W8 hD2 hS2 (⟨rfl, hno⟩ | ⟨hf, _⟩) hK2
        · exact absurd hS2 hno
        · exact hf.elim

    case stopx =>
      rintro D c ys W' hD hS (⟨rfl, hno⟩ | ⟨_, rfl, hb2, hb, _⟩) hK
      · exact absurd hS hno
      · gi_wp2
        as_aux_lemma =>
        have x12 := bcellAt hb xq
        have x13 := hb2.cell
        have HKD := Lib.hid hK
        have HBW := Lib.hid hb
        have HR0 := Lib.hid hb2
        have hDlo : W6.heap.size ≤ D := Nat.le_trans HV.out.size hD
        clear hK hb hb2 hD hS
        go_wp2_with fail
        have hr1 : Boxed (W'.alloc (.cells #[.int .i64 1] IntT)) W'.heap.size IntT (.int .i64 1) := Boxed.new _ _ _
        have hbA : Below W6.heap.size W6 (W'.alloc (.cells #[.int .i64 1] IntT)) := HBW.out.alloc HBW.out.size _
        have hDW : D < W'.heap.size := (Array.getElem?_eq_some_iff.1 HKD.out).1
        have hK7 : (W'.alloc (.cells #[.int .i64 1] IntT)).heap[D]? = some (.deferred (some [])) := (Below.heap_alloc W' _ D hDW).trans HKD.out
        have hn1 : W6.heap.size ≤ W'.heap.size := HBW.out.size
        clear HKD HBW HR0 x12 x13 BN BR HV MK MD
        generalize (W'.alloc (.cells #[.int .i64 1] IntT)) = W7 at *
        generalize W'.heap.size = n1 at *
        rw [rounds_succ]
        have x13 := hr1.cell
        have xq1 := bcellAt hbA xq
        have hq7 : (W7.alloc (.cells #[.int .i64 0] IntT)).cell? ⟨eb, 0, none⟩ = some (.func (.func 64) #[] #[.pointer (some ⟨bp, 0, none⟩), .pointer (some ⟨bp + 1, 0, none⟩)]) := bcellAt (hbA.alloc hbA.size _) xq
        go_wp2_with fail
        have BN : Hid (Boxed (W7.alloc (.cells #[.int .i64 0] IntT)) W7.heap.size IntT (.int .i64 0)) := Lib.hid (Boxed.new _ _ _)
        have BR : Hid (Boxed (W7.alloc (.cells #[.int .i64 0] IntT)) n1 IntT (.int .i64 1)) := Lib.hid (hr1.alloc _)
        have HV : Hid (Below W6.heap.size W6 (W7.alloc (.cells #[.int .i64 0] IntT))) := Lib.hid (hbA.alloc hbA.size _)
        have h12 : n1 < W7.heap.size := hr1.lt
        have hd7 : D < W7.heap.size := (Array.getElem?_eq_some_iff.1 hK7).1
        have MK : Hid (∀ D', some D = some D' → D' < (W7.alloc (.cells #[.int .i64 0] IntT)).heap.size) := Lib.hid (fun D' e => by cases e; simp; omega)
        have MD : Hid (∀ D', some D = some D' → (W7.alloc (.cells #[.int .i64 0] IntT)).heap[D']? = some (.deferred (some []))) := Lib.hid (fun D' e => by cases e; exact (Below.heap_alloc W7 _ D hd7).trans hK7)
        have HIB : Hid (W6.heap.size ≤ W7.heap.size) := Lib.hid hbA.size
        have HNE : Hid (n1 ≠ W7.heap.size) := Lib.hid (by omega)
        clear hr1 hbA hK7 x13 xq1 hq7 hDW hd7
        have hz2 : W7.heap.size < (W7.alloc (.cells #[.int .i64 0] IntT)).heap.size := by simp
        generalize (W7.alloc (.cells #[.int .i64 0] IntT)) = V2 at *
        generalize W7.heap.size = n2 at *
        refine (wpIn_wide (n := 3)).1 ?_
        refine range_H rfl (by decide) (gf := 64) (lb := #[.pointer (some ⟨bp, 0, none⟩), .pointer (some ⟨bp + 1, 0, none⟩)]) rfl trivial (enters_of Tryd.func64 (by kernel_rfl) rfl)
          (HST.out 2 V2 HV.out) HV.out.size (fun _ => rfl)
          (Bt A W6 n2 n1 1 (some D)) (Lv A W6 n1 1 False (some D) 2) (bt_own A W6 n2 n1 1 (some D) HV.out.size MK.out) (lv_own A W6 n1 1 False (some D) 2 HV.out.size MK.out) ⟨List.nil_prefix, BN.out, BR.out, HV.out, MD.out⟩ ?a1y2 ?assigny2 ?bodyy2 ?doney2 ?stopy2
        case assigny2 =>
          intro lb x W' K hK
          gi_wp2
          exact hK
        case bodyy2 =>
          rintro lb pre x X hlb hrec hbt hlt
          have HBT := Lib.hid hbt
          obtain ⟨hp, hb1, hb2, hb, hd⟩ := hbt
          obtain ⟨aR, cR, hvR, xR⟩ := (HOW10.out.below hb).at
          simp only [Value.slice.injEq, true_and] at hvR
          obtain ⟨rfl, rfl⟩ := hvR
          obtain ⟨b1, o1', rfl, q1⟩ := xR (by omega)
          have d1 := q1 _ _ (ints_at A pre.length hlt)
          have hps := prefix_snoc (x := x) hp hlt
          clear q1 xR
          generalize hy : A[pre.length] = y at *
          clear hy
          have HPS := Lib.hid hps
          have x11 := bcellAt hb (cellB (j := 0) HM10.out rfl)
          have x4 := bcellAt hb (cellB (j := 0) X3.out rfl)
          have f4 := bfrozenAt hb (cellB (j := 0) X3.out rfl) (frozenB (j := 0) X3.out)
          have x14 := hb1.cell
          have hn0 : (0 : Int) ≤ (pre.length : Int) := by omega
          have hn1 : (pre.length : Int) < (A.length : Int) := by omega
          have hn2 : (pre.length : Int) ≤ 6000 := by have := HSL.out; omega
          have HREC := Lib.hid hrec
          have HB := Lib.hid hb
          have hxs : W6.heap.size ≤ X.heap.size := hb.size
          have hx2 := (Array.getElem?_eq_some_iff.1 X2.out).1
          have e1 : ¬ w.heap.size + 1 = X.heap.size := by omega
          have e1' : ¬ X.heap.size = w.heap.size + 1 := by omega
          have e2 : ¬ w.heap.size + 1 = n2 := by have := HIB.out; omega
          have e2' : ¬ n2 = w.heap.size + 1 := by have := HIB.out; omega
          have e3 : ¬ n1 = n2 := HNE.out
          have e3' : ¬ n2 = n1 := fun e => HNE.out e.symm
          clear hps hb1 hb2 hb hd hp hrec hlt hxs hx2
          by_cases hxy : x = y
          · subst hxy
            have HPX : Hid (pre ++ [x] <+: A) := Lib.hid (HPS.out.2 rfl)
            clear HPS
            by_cases h3 : (pre.length : Int) < 3
            · have bK : Below X.heap.size X (X.alloc (.cells #[.int .i64 0] IntT)) := (Below.refl _ _).alloc (Nat.le_refl _) _
              have x12 := bcellAt (bmore HB.out bK) xq
              have hkb : Bi X X.heap.size [] (X.alloc (.cells #[.int .i64 0] IntT)) := ⟨Boxed.new _ _ _, bK⟩
              obtain ⟨rr, hrr⟩ := HREC.out
              have hrr1 := (bK.block lb (Array.getElem?_eq_some_iff.1 hrr).1).trans hrr
              have HST2 := Lib.hid ((HST.out 0 _ (bmore HB.out bK)).inRound lb)
              have HRR := Lib.hid hrr1
              have HKB := Lib.hid hkb
              have HXS := Lib.hid (show X.heap.size ≤ (X.alloc (.cells #[.int .i64 0] IntT)).heap.size from bK.size)
              have HWS := Lib.hid (show W6.heap.size ≤ (X.alloc (.cells #[.int .i64 0] IntT)).heap.size from Nat.le_trans HB.out.size bK.size)
              clear hrr hrr1 hkb bK
              gi_wp2
              refine range_N rfl HRR.out (by decide) (gf := 64) (lb := #[.pointer (some ⟨bp, 0, none⟩), .pointer (some ⟨bp + 1, 0, none⟩)]) rfl trivial (enters_of Tryd.func64 (by kernel_rfl) rfl)
                HST2.out HWS.out (fun _ => rfl) (Bi X X.heap.size) (Li X X.heap.size 4) (bi_own X X.heap.size HXS.out) (li_own X X.heap.size 4 HXS.out) HKB.out ?a1n3 ?assignn3 ?bodyn3 ?donen3 ?stopn3
              case assignn3 =>
                intro lb2 z W' K hK
                gi_wp2
                exact hK
              case bodyn3 =>
                rintro lb2 p2 z Y hlb2 hbi hlt2
                have y16 := hbi.1.cell
                have g16 := hbi.1.frozen
                have y3 := bcellAt (HB.out.trans (hbi.2.mono HB.out.size)) (cellB (j := 0) X2.out rfl)
                have BS := Lib.hid (fun (B : Nat) => bi_step (z := z) (B := B) (n0 := W6.heap.size) hbi HB.out.size)
                have hm0 : (0 : Int) ≤ (p2.length : Int) := by omega
                have hm1 : (p2.length : Int) ≤ 6000 := by have := HSL.out; omega
                clear hbi hlt2 x11 x4 f4 x14 x12 d1
                by_cases hs : (p2.length : Int) + 1 = stop
                · have hs2 : ((p2.length : Int) + 1 == stop) = true := by simp; exact hs
                  clear hs
                  gi_wp2
                  exact ⟨(BS.out _).1, rfl, (BS.out X.heap.size).2.2⟩
                · have hs2 : ((p2.length : Int) + 1 == stop) = false := by simp; exact hs
                  clear hs
                  gi_wp2
                  exact BS.out _
              case donen3 =>
                rintro ys Y hS hbi
                subst hS
                have HY := Lib.hid hbi.2
                have x16 := hbi.1.cell
                clear hbi x11 x4 f4 x14 x12 d1 HST2 HRR HKB
                have hbY := HB.out.trans ((HY.out).mono HB.out.size)
                have x14 := (boxed_below HBT.out.2.1 (HY.out)).cell
                have f14 := (boxed_below HBT.out.2.1 (HY.out)).frozen
                have x13 := (boxed_below HBT.out.2.2.1 (HY.out)).cell
                have x11 := bcellAt hbY (cellB (j := 0) HM10.out rfl)
                have x3 := bcellAt hbY (cellB (j := 0) X2.out rfl)
                have TF := Lib.hid (tail_facts (B := V2.heap.size) HBT.out (HY.out) HPX.out HNE.out HIB.out)
                clear hbY
                gi_wp2
                exact TF.out

              case stopn3 =>
                rintro c ys Y hS ⟨rfl, hbi⟩
                have HY := Lib.hid hbi.2
                have x16 := hbi.1.cell
                have hle : decide (A.length < ys.length) = false := decide_eq_false (by have := hS.length_le; omega)
                clear hbi x11 x4 f4 x14 x12 d1 HST2 HRR HKB hS
                have hbY := HB.out.trans ((HY.out).mono HB.out.size)
                have x14 := (boxed_below HBT.out.2.1 (HY.out)).cell
                have f14 := (boxed_below HBT.out.2.1 (HY.out)).frozen
                have x13 := (boxed_below HBT.out.2.2.1 (HY.out)).cell
                have x11 := bcellAt hbY (cellB (j := 0) HM10.out rfl)
                have x3 := bcellAt hbY (cellB (j := 0) X2.out rfl)
                have TF := Lib.hid (tail_facts (B := V2.heap.size) HBT.out (HY.out) HPX.out HNE.out HIB.out)
                clear hbY
                gi_wp2
                exact TF.out

            · have h3' : decide ((pre.length : Int) < 3) = false := decide_eq_false h3
              clear h3
              have hbY := HB.out.trans ((Below.refl _ _).mono HB.out.size)
              have x14 := (boxed_below HBT.out.2.1 (Below.refl _ _)).cell
              have f14 := (boxed_below HBT.out.2.1 (Below.refl _ _)).frozen
              have x13 := (boxed_below HBT.out.2.2.1 (Below.refl _ _)).cell
              have x11 := bcellAt hbY (cellB (j := 0) HM10.out rfl)
              have x3 := bcellAt hbY (cellB (j := 0) X2.out rfl)
              have TF := Lib.hid (tail_facts (B := V2.heap.size) HBT.out (Below.refl _ _) HPX.out HNE.out HIB.out)
              clear hbY
              gi_wp2
              exact TF.out

          · have hv2 : (x != y) = true := by simp; exact hxy
            have hnp : ¬ pre ++ [x] <+: A := fun h => hxy (HPS.out.1 h)
            have HNP := Lib.hid hnp
            clear hnp hxy
            gi_wp2
            exact ⟨(KeepsOthers.setCell _ _ _).from _, .inl ⟨rfl, HNP.out⟩⟩

        case doney2 =>
          rintro D2 ys2 W8 hD2 hS2 ⟨hp, hb1, hb2, hb, hmk⟩ hK2
          subst hS2
          have x11 := bcellAt hb (cellB (j := 0) HM10.out rfl)
          have x14 := hb1.cell
          have x13 := hb2.cell
          have hK1 := hmk D rfl
          have HB8 := Lib.hid hb
          have H1 := Lib.hid hK1
          have H2 := Lib.hid hK2
          have HDD := Lib.hid hD2
          have HDV : Hid (D < V2.heap.size) := Lib.hid (MK.out D rfl)
          clear hp hb1 hb2 hb hmk hK1 hK2 BN BR HV MK MD HST
          go_wp2_with fail
          have hr2 : Boxed (W8.alloc (.cells #[.int .i64 2] IntT)) W8.heap.size IntT (.int .i64 2) := Boxed.new _ _ _
          have l1 : D < W8.heap.size := (Array.getElem?_eq_some_iff.1 H1.out).1
          have l2 : D2 < W8.heap.size := (Array.getElem?_eq_some_iff.1 H2.out).1
          have H1f := Lib.hid ((Below.heap_alloc W8 (.cells #[.int .i64 2] IntT) D l1).trans H1.out)
          have H2f := Lib.hid ((Below.heap_alloc W8 (.cells #[.int .i64 2] IntT) D2 l2).trans H2.out)
          have HBf := Lib.hid (HB8.out.alloc HB8.out.size (.cells #[.int .i64 2] IntT))
          have x13 := hr2.cell
          clear hr2 x11 x14 H1 H2 HB8 l1 l2
          generalize (W8.alloc (.cells #[.int .i64 2] IntT)) = Wf at *
          generalize W8.heap.size = n8 at *
          rw [rounds_succ]
          go_wp2_with fail
          refine (HLV.out Wf HBf.out).mono ?_
          rintro e wL ⟨rfl, hbL⟩
          have HBL := Lib.hid (HBf.out.trans (hbL.mono HBf.out.size))
          have HAL := Lib.hid (show Boxed wL (w.heap.size + 1 + 1) BooT (.bool false) from (HBL.out.block _ (Array.getElem?_eq_some_iff.1 X3.out).1).trans X3.out)
          have xL := HAL.out.cell
          have fL := HAL.out.frozen
          have H1L := Lib.hid ((hbL.block D (Array.getElem?_eq_some_iff.1 H1f.out).1).trans H1f.out)
          have H2L := Lib.hid ((hbL.block D2 (Array.getElem?_eq_some_iff.1 H2f.out).1).trans H2f.out)
          clear hbL x13
          go_wp2_with fail
          have hne1 : D ≠ w.heap.size + 1 + 1 := fun e => by have h := H1L.out; rw [e, HAL.out] at h; cases h
          have hne2 : D2 ≠ w.heap.size + 1 + 1 := fun e => by have h := H2L.out; rw [e, HAL.out] at h; cases h
          have hDD : D ≠ D2 := by have := HDD.out; have := HDV.out; omega
          have hK2 : (wL.setCell ⟨w.heap.size + 1 + 1, 0, none⟩ (.bool true)).heap[D2]? = some (.deferred (some [])) := (Below.heap_setCell _ _ _ _ hne2).trans H2L.out
          have hK1 : (wL.setCell ⟨w.heap.size + 1 + 1, 0, none⟩ (.bool true)).heap[D]? = some (.deferred (some [])) := (Below.heap_setCell _ _ _ _ hne1).trans H1L.out
          have hK1' : ((wL.setCell ⟨w.heap.size + 1 + 1, 0, none⟩ (.bool true)).putObj D2 (.deferred none)).heap[D]? = some (.deferred (some [])) := ((grownBy_putObj' _ D2 (.deferred none)).block D ((Array.getElem?_eq_some_iff.1 hK1).1) (fun e => hDD (Option.some.inj e))).trans hK1
          refine ⟨by simp, .inl ⟨_, _, rfl, run_takeDeferred hK2, ?_⟩⟩
          refine ⟨by simp, .inl ⟨_, _, rfl, run_takeDeferred hK1', ?_⟩⟩
          have hc := (HAL.out.set (.bool true)).cell
          have hc1 := cell_kept hc (grownBy_putObj' _ D2 (.deferred none)) (fun r e => by cases e; exact ⟨_, hK2, rfl⟩)
          have hc2 := cell_kept hc1 (grownBy_putObj' _ D (.deferred none)) (fun r e => by cases e; exact ⟨_, hK1', rfl⟩)
          refine ⟨.bool true, ?_, rfl, ?_⟩
          · simp [results, Tryd.f6, go_sem, hc2]
          · have hbB := HA6.out.trans (HBL.out.mono HA6.out.size)
            have hbS := hbB.setCell (p := ⟨w.heap.size + 1 + 1, 0, none⟩) (by simp only; omega) (.bool true)
            have hDw : w.heap.size ≤ D := by have := HA6.out.size; omega
            have hD2w : w.heap.size ≤ D2 := by have := HA6.out.size; have := HDD.out; have := HIB.out; omega
            have hbT := hbS.grown (grownBy_putObj' _ D2 (.deferred none)) hbS.size (fun k e => by cases e; exact hD2w)
            exact hbT.grown (grownBy_putObj' _ D (.deferred none)) hbT.size (fun k e => by cases e; exact hDw)
        case stopy2 =>
          rintro D2 c ys2 W8 hD2 hS2 (⟨rfl, hno⟩ | ⟨hf, _⟩) hK2
          · exact absurd hS2 hno
          · exact hf.elim

end Go.Proofs.YteflbecdeinflaaDoor
