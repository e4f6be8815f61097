/-
  The walk of KeepMerges.
-/
import Derived.Test.YtkobiimkaimbaaaKMrgS
import Derived.Test.YtkobiimkaimbaaaKRMrg
import Derived.Test.YtkobiimkaimbaaaKRanksP
import Derived.Test.YtkobiimkaimbaaaKLive
namespace Go.Proofs.Ytkobiimkaimbaaa
open Go.RowKit
attribute [local go_sem] Oper.semAt_some
set_option linter.unusedVariables false

theorem notNil (bc bx b3 : Nat) (w : World) : Sem.run Try.prog (binOp BinOp.eql 52 (HowS bc bx b3) Value.nilFunc) w = .ok (.bool false) w := by kernel_rfl
theorem row_entq {w : World} {v : Value} {l l' : List Ent} (h : Row w 2 v l.length (ents l)) (e : l = l') : Row w 2 v l'.length (ents l') := by subst e; exact h
/-- A count, and two lists without anything, that are new. -/
theorem log_new (W : World) : Below W.heap.size W (((W.alloc (.cells #[.int .i64 0] IntN)).alloc (.cells #[.slice none 0 0] SlI)).alloc (.cells #[.slice none 0 0] SlI)) ∧
    Log (((W.alloc (.cells #[.int .i64 0] IntN)).alloc (.cells #[.slice none 0 0] SlI)).alloc (.cells #[.slice none 0 0] SlI)) W.heap.size W.heap.size (W.heap.size + 1) (W.heap.size + 1 + 1) (.slice none 0 0) (.slice none 0 0) [] := by
  have b1 : Below W.heap.size W (W.alloc (.cells #[.int .i64 0] IntN)) := (Below.refl _ _).alloc (Nat.le_refl _) _
  have s1 : (W.alloc (.cells #[.int .i64 0] IntN)).heap.size = W.heap.size + 1 := by simp
  have h1 : (W.alloc (.cells #[.int .i64 0] IntN)).heap[W.heap.size]? = some (Obj.cells #[.int .i64 0] IntN) := heap_alloc_new W _
  generalize (W.alloc (.cells #[.int .i64 0] IntN)) = W1 at *
  have b2 : Below W1.heap.size W1 (W1.alloc (.cells #[.slice none 0 0] SlI)) := (Below.refl _ _).alloc (Nat.le_refl _) _
  have s2 : (W1.alloc (.cells #[.slice none 0 0] SlI)).heap.size = W1.heap.size + 1 := by simp
  have h2 : (W1.alloc (.cells #[.slice none 0 0] SlI)).heap[W1.heap.size]? = some (Obj.cells #[.slice none 0 0] SlI) := heap_alloc_new W1 _
  have h12 := Hold.below b2 _ _ h1
  generalize (W1.alloc (.cells #[.slice none 0 0] SlI)) = W2 at *
  have b3 : Below W2.heap.size W2 (W2.alloc (.cells #[.slice none 0 0] SlI)) := (Below.refl _ _).alloc (Nat.le_refl _) _
  have h3 : (W2.alloc (.cells #[.slice none 0 0] SlI)).heap[W2.heap.size]? = some (Obj.cells #[.slice none 0 0] SlI) := heap_alloc_new W2 _
  have h13 := Hold.below b3 _ _ h12
  have h23 := Hold.below b3 _ _ h2
  generalize (W2.alloc (.cells #[.slice none 0 0] SlI)) = W3 at *
  rw [s1] at h23 s2
  rw [s2] at h3
  exact ⟨(b1.trans (b2.mono b1.size)).trans (b3.mono (Nat.le_trans b1.size b2.size)), h13, h23, h3, Nat.le_refl _, by omega, by omega, by omega, World.ownsRow_nil _ _ _ 1, World.ownsRow_nil _ _ _ 1, by simp [Value.ownBlock], by simp [Value.ownBlock], .inl rfl⟩

theorem log_new4 (w : World) (p : Option Addr) : Below w.heap.size w ((((w.alloc (.cells #[.pointer p] 31)).alloc (.cells #[.int .i64 0] IntN)).alloc (.cells #[.slice none 0 0] SlI)).alloc (.cells #[.slice none 0 0] SlI)) ∧
    ((((w.alloc (.cells #[.pointer p] 31)).alloc (.cells #[.int .i64 0] IntN)).alloc (.cells #[.slice none 0 0] SlI)).alloc (.cells #[.slice none 0 0] SlI)).cell? ⟨w.heap.size, 0, none⟩ = some (.pointer p) ∧
    Log ((((w.alloc (.cells #[.pointer p] 31)).alloc (.cells #[.int .i64 0] IntN)).alloc (.cells #[.slice none 0 0] SlI)).alloc (.cells #[.slice none 0 0] SlI)) (w.heap.size + 1) (w.heap.size + 1) (w.heap.size + 1 + 1) (w.heap.size + 1 + 1 + 1) (.slice none 0 0) (.slice none 0 0) [] := by
  have b0 : Below w.heap.size w (w.alloc (.cells #[.pointer p] 31)) := (Below.refl _ _).alloc (Nat.le_refl _) _
  have s0 : (w.alloc (.cells #[.pointer p] 31)).heap.size = w.heap.size + 1 := by simp
  have h0 : (w.alloc (.cells #[.pointer p] 31)).cell? ⟨w.heap.size, 0, none⟩ = some (.pointer p) := cellB (j := 0) (heap_alloc_new w _) rfl
  generalize (w.alloc (.cells #[.pointer p] 31)) = W at *
  obtain ⟨h1, h2⟩ := log_new W
  rw [s0] at h2
  exact ⟨b0.trans (h1.mono b0.size), bcellAt h1 h0, h2⟩

set_option maxRecDepth 100000 in
set_option maxHeartbeats 1600000 in
theorem mmergeS {w : World} {p q : Option Addr} {x y : Tr ByteArray Int} {B bc bx b3 : Nat} {lx ly : Value} {lg : List (Int × Int)} (hx : IsTS w (.pointer p) x) (hy : IsTS w (.pointer q) y) (hL : Log w B bc bx b3 lx ly lg) (hs : x.size + y.size < 400000) (hn : lg.length + x.size < 1000) :
    Calls Try.prog 27 #[.agg #[.pointer p], .agg #[.pointer q], HowS bc bx b3] w fun e w' => ∃ r, e = .returned (.agg #[.pointer r]) ∧ IsTS w' (.pointer r) (Tr.merge hw x y) ∧ (∃ lx' ly', Log w' B bc bx b3 lx' ly' (lg ++ logT x y)) ∧ Below B w w' := by
  have b0 : Below w.heap.size w (((w.alloc (.cells #[.pointer p] 31)).alloc (.cells #[.pointer q] 31)).alloc (.cells #[.pointer none] 31)) := (((Below.refl _ _).alloc (Nat.le_refl _) _).alloc (by simp) _).alloc (by simp; omega) _
  have y0 : (((w.alloc (.cells #[.pointer p] 31)).alloc (.cells #[.pointer q] 31)).alloc (.cells #[.pointer none] 31)).heap[w.heap.size + 2]? = some (Obj.cells #[.pointer none] 31) := by
    have e : w.heap.size + 2 = ((w.alloc (.cells #[.pointer p] 31)).alloc (.cells #[.pointer q] 31)).heap.size := by simp
    rw [e]; exact heap_alloc_new _ _
  have HB := Lib.hid b0
  have HY := Lib.hid y0
  have HBS := Lib.hid hL.base
  have HH := Lib.hid (hx.below b0)
  have HG := Lib.hid (hy.below b0)
  have HLG := Lib.hid (hL.below b0)
  have hnn := notNil bc bx b3 (((w.alloc (.cells #[.pointer p] 31)).alloc (.cells #[.pointer q] 31)).alloc (.cells #[.pointer none] 31))
  clear hx hy b0 y0 hL
  go_enter Try.func27, Try.ntmps27
  go_wp2_with fail
  refine (mergeS B bc bx b3 x y _ _ _ _ _ _ HH.out HG.out HLG.out hs hn).mono ?_
  rintro e w1 ⟨r, rfl, t1, ⟨lx1, ly1, hl1⟩, f1⟩
  have hy1 := f1.2 31 (by decide) (by decide) _ _ HY.out
  have x1 : w1.cell? ⟨w.heap.size + 2, 0, none⟩ = some (.pointer none) := cellB hy1 rfl
  have z1 : w1.frozen? ⟨w.heap.size + 2, 0, none⟩ = false := frozenB hy1
  have HY1 := Lib.hid hy1
  have HT := Lib.hid t1
  have HF := Lib.hid f1
  have HL1 := Lib.hid hl1
  clear t1 f1 hy1 hl1
  go_wp2_with fail
  have hxs : (w1.setCell ⟨w.heap.size + 2, 0, none⟩ (.pointer r)).cell? ⟨w.heap.size + 2, 0, none⟩ = some (.pointer r) := World.cell?_setCell_same' _ _ _ (by rw [x1]; rfl)
  refine bodyPost_ret (v := .agg #[.pointer r]) (by simp [results, Try.results27, go_sem, hxs]) rfl ?_
  exact ⟨r, rfl, HT.out.hold (Hold.setCell HY1.out (by decide)), ⟨_, _, HL1.out.hold (Hold.setCell HY1.out (by decide)) (Hold.setCell HY1.out (by decide))⟩, ((HB.out.mono HBS.out).trans HF.out.1).setCell (p := ⟨w.heap.size + 2, 0, none⟩) (by have := HBS.out; show B ≤ w.heap.size + 2; omega) _⟩

theorem merges_facts (l : List Ent) : (treeOf l).toL = lstOf l ∧ Srt (lstOf l) ∧ (treeOf l).size = (lstOf l).length ∧ (lstOf l).length ≤ l.length := by
  have h := treeOf_list l l.length (Nat.le_refl _)
  rw [List.take_length] at h
  exact ⟨h.2.1, by rw [← h.2.1]; exact h.1, by rw [← h.2.1, Tr.size_toL], by rw [← h.2.1, Tr.size_toL]; exact h.2.2⟩

set_option maxRecDepth 100000 in
set_option maxHeartbeats 12800000 in
theorem merges_walk {w : World} {va vb : Value} {l m : List Ent} (ha : Row w 2 va l.length (ents l)) (hb : Row w 2 vb m.length (ents m)) :
    Calls Try.prog 5 #[va, vb] w fun e w' => e = .returned (.bool true) ∧ Below w.heap.size w w' := by
  have HA := Lib.hid ha
  have HB := Lib.hid hb
  obtain ⟨aa, ca, rfl⟩ := ha.shape
  obtain ⟨ab, cb, rfl⟩ := hb.shape
  have ML := Lib.hid ha.small
  have MM := Lib.hid hb.small
  clear ha hb
  have hwa : Calls Try.prog 24 #[.slice aa l.length ca] w fun e w' => (e = .returned (.bool true) ∨ (e = .returned (.bool false) ∧ l.length ≤ 80)) ∧ w = w' := by
    by_cases h : 80 < l.length
    · exact (wide_long HA.out ML.out h).mono fun e w' h => ⟨.inl h.1, h.2⟩
    · exact (wide_any HA.out (by omega)).mono fun e w' h' => ⟨h'.1.imp id (fun q => ⟨q, by omega⟩), h'.2⟩
  have hwb : Calls Try.prog 24 #[.slice ab m.length cb] w fun e w' => (e = .returned (.bool true) ∨ (e = .returned (.bool false) ∧ m.length ≤ 80)) ∧ w = w' := by
    by_cases h : 80 < m.length
    · exact (wide_long HB.out MM.out h).mono fun e w' h => ⟨.inl h.1, h.2⟩
    · exact (wide_any HB.out (by omega)).mono fun e w' h' => ⟨h'.1.imp id (fun q => ⟨q, by omega⟩), h'.2⟩
  have HWA := Lib.hid hwa
  have HWB := Lib.hid hwb
  clear hwa hwb ML MM
  go_enter Try.func5, Try.ntmps5
  go_wp2_with fail
  refine HWA.out.mono ?_
  rintro e w1 ⟨rfl | ⟨rfl, hl⟩, rfl⟩
  · go_wp2_with fail
    refine (live_any _).mono ?_
    rintro e w9 ⟨rfl, u9⟩
    have HU := Lib.hid u9
    clear u9
    go_wp2_with fail
    go_returns
    exact ⟨rfl, HU.out⟩
  go_wp2_with fail
  refine HWB.out.mono ?_
  rintro e w1 ⟨rfl | ⟨rfl, hm⟩, rfl⟩
  · go_wp2_with fail
    refine (live_any _).mono ?_
    rintro e w9 ⟨rfl, u9⟩
    have HU := Lib.hid u9
    clear u9
    go_wp2_with fail
    go_returns
    exact ⟨rfl, HU.out⟩
  clear HWA HWB
  obtain ⟨fa1, fa2, fa3, fa4⟩ := merges_facts l
  obtain ⟨fb1, fb2, fb3, fb4⟩ := merges_facts m
  have NA : Hid ((lstOf l).length ≤ 80) := Lib.hid (by omega)
  have NB : Hid ((lstOf m).length ≤ 80) := Lib.hid (by omega)
  have EA := Lib.hid fa1
  have EB := Lib.hid fb1
  have SA := Lib.hid fa2
  have SB := Lib.hid fb2
  have ZA := Lib.hid fa3
  have ZB := Lib.hid fb3
  clear fa1 fa2 fa3 fa4 fb1 fb2 fb3 fb4
  go_wp2_with fail
  have HW := Lib.hid (Below.refl w.heap.size w)
  refine (built_any HA.out (by omega)).mono ?_
  rintro e w1 ⟨q1, va, rfl, t, o, u1⟩
  replace HB := Lib.hid (HB.out.below u1)
  replace HW := Lib.hid (HW.out.trans (u1.mono HW.out.size))
  have TA := Lib.hid (t)
  have RA := Lib.hid (row_of_own o)
  clear u1
  obtain ⟨sA, cA, rfl⟩ := (row_of_own o).shape
  clear t o HA
  go_wp2_with fail
  have bz : Below w1.heap.size w1 (w1.alloc (.cells #[.pointer q1] 31)) := (Below.refl _ _).alloc (Nat.le_refl _) _
  have c5 : (w1.alloc (.cells #[.pointer q1] 31)).cell? ⟨w1.heap.size, 0, none⟩ = some (.pointer q1) := cellB (j := 0) (heap_alloc_new w1 _) rfl
  replace HB := Lib.hid (HB.out.below bz)
  replace HW := Lib.hid (HW.out.trans (bz.mono HW.out.size))
  replace TA := Lib.hid (TA.out.below bz)
  replace RA := Lib.hid (RA.out.below bz)
  clear bz
  generalize (w1.alloc (.cells #[.pointer q1] 31)) = W5 at *
  generalize w1.heap.size = Ec5 at *
  refine (built_any HB.out (by omega)).mono ?_
  rintro e w2 ⟨q2, vb, rfl, t, o, u2⟩
  replace HB := Lib.hid (HB.out.below u2)
  replace HW := Lib.hid (HW.out.trans (u2.mono HW.out.size))
  replace TA := Lib.hid (TA.out.below u2)
  replace RA := Lib.hid (RA.out.below u2)
  replace c5 := bcellAt u2 c5
  clear HB
  have TB := Lib.hid (t)
  have RB := Lib.hid (row_of_own o)
  clear u2
  obtain ⟨sB, cB, rfl⟩ := (row_of_own o).shape
  clear t o
  obtain ⟨bz, c7, hlg⟩ := log_new4 w2 q2
  have c5w := c5
  have c5z := bcellAt bz c5
  have BZ := Lib.hid bz
  have LG := Lib.hid hlg
  clear hlg bz c5
  have hmf : ∀ (fn : Fn) (first cap : Array Value) (w : World), (Instr.makeFunc fn first cap).run Try.prog w = .ok (.func fn first cap) w := fun _ _ _ _ => rfl
  go_wp2_with fail
  have c5 := c5w
  clear c5w c5z hmf
  have C7 := Lib.hid c7
  clear c7
  refine (mmergeS (TA.out.below BZ.out) (TB.out.below BZ.out) LG.out (by have := ZA.out; have := ZB.out; have := NA.out; have := NB.out; omega) (by have := ZA.out; have := NA.out; simp; omega)).mono ?_
  rintro e wm ⟨r, rfl, t, ⟨lx, ly, hl2⟩, f⟩
  have um : Below w2.heap.size w2 wm := BZ.out.trans (f.mono (Nat.le_succ _))
  have c7 : wm.cell? ⟨w2.heap.size, 0, none⟩ = some (.pointer q2) := (f.cell (p := ⟨w2.heap.size, 0, none⟩) (Nat.lt_succ_self _)).trans C7.out
  replace HW := Lib.hid (HW.out.trans (um.mono HW.out.size))
  replace TA := Lib.hid (TA.out.below um)
  replace RA := Lib.hid (RA.out.below um)
  replace c5 := bcellAt um c5
  replace TB := Lib.hid (TB.out.below um)
  replace RB := Lib.hid (RB.out.below um)
  have TM := Lib.hid t
  have LM := Lib.hid hl2
  generalize w2.heap.size = Ec7 at *
  clear um f t hl2 BZ LG C7
  replace LM := Lib.hid (show Log wm (Ec7 + 1) (Ec7 + 1) (Ec7 + 1 + 1) (Ec7 + 1 + 1 + 1) lx ly (logL (lstOf l) (lstOf m)) by have := LM.out; rw [List.nil_append, log_eq _ _ (treeOf_srt l) (treeOf_srt m), EA.out, EB.out] at this; exact this)
  have HML := Lib.hid (show (Tr.merge hw (treeOf l) (treeOf m)).toL = rmerge hw (lstOf l) (lstOf m) by rw [merge_lists hw _ _ (treeOf_srt l) (treeOf_srt m), EA.out, EB.out])
  go_wp2_with fail
  have bz : Below wm.heap.size wm (wm.alloc (.cells #[.pointer r] 31)) := (Below.refl _ _).alloc (Nat.le_refl _) _
  have c12 : (wm.alloc (.cells #[.pointer r] 31)).cell? ⟨wm.heap.size, 0, none⟩ = some (.pointer r) := cellB (j := 0) (heap_alloc_new wm _) rfl
  replace HW := Lib.hid (HW.out.trans (bz.mono HW.out.size))
  replace TA := Lib.hid (TA.out.below bz)
  replace RA := Lib.hid (RA.out.below bz)
  replace c5 := bcellAt bz c5
  replace TB := Lib.hid (TB.out.below bz)
  replace RB := Lib.hid (RB.out.below bz)
  replace TM := Lib.hid (TM.out.below bz)
  replace LM := Lib.hid (LM.out.below bz)
  replace c7 := bcellAt bz c7
  clear bz
  generalize (wm.alloc (.cells #[.pointer r] 31)) = W9 at *
  generalize wm.heap.size = E12 at *
  have LT := Lib.hid (logL_len (lstOf l) (lstOf m))
  obtain ⟨a', c', hv', xa⟩ := RA.out.at2
  simp only [Value.slice.injEq, true_and] at hv'
  obtain ⟨rfl, rfl⟩ := hv'
  have XA := Lib.hid xa
  clear xa
  obtain ⟨ax, cx, rfl, xx⟩ := (row_of_own LM.out.ox).at
  obtain ⟨ay, cy, rfl, xy⟩ := (row_of_own LM.out.oy).at
  have XX := Lib.hid xx
  have XY := Lib.hid xy
  clear xx xy
  go_loopw [14, 13] (fun i nn wr => ∃ k : Nat, i = .int .i64 (k : Int) ∧ k ≤ (lstOf l).length ∧ nn = .int .i64 (((logL ((lstOf l).take k) (lstOf m)).length : Nat) : Int) ∧ Below W9.heap.size W9 wr) (fun i _ _ => (lstOf l).length - (intOf i).toNat)
  case atStart => exact ⟨0, rfl, Nat.zero_le _, rfl, Below.refl _ _⟩
  case round =>
    obtain ⟨k, rfl, hk, rfl, hb⟩ := hrel
    by_cases hlt : k < (lstOf l).length
    · clear c5 c7 c12
      obtain ⟨b1, o1, rfl, q1⟩ := XA.out (by omega)
      have q2 := ents_at (lstOf l) k hlt
      have d1 := q1 _ _ q2.1
      have d2 := q1 _ _ q2.2
      rw [show o1 + (k * 2 + 1) = o1 + k * 2 + 1 by omega] at d2
      have c1 := bcellAt hb d1
      have c2 := bcellAt hb d2
      have hsn := logL_snoc (lstOf l) (lstOf m) k hlt
      have hpf := logL_prefix (lstOf l) (lstOf m) (k + 1)
      have hk80 : (lstOf l).length ≤ 80 := NA.out
      clear q1 q2 XA
      generalize hy : (lstOf l)[k] = y at *
      obtain ⟨yk, yv⟩ := y
      simp only at c1 c2 d1 d2 hsn
      clear hy d1 d2
      have HPF := Lib.hid hpf
      have HBB := Lib.hid hb
      have HRB := Lib.hid (RB.out.below hb)
      have hlk : (logL ((lstOf l).take k) (lstOf m)).length ≤ k := Nat.le_trans (logL_len _ _) (by simp; omega)
      have hn0 : (0 : Int) ≤ (k : Int) := by omega
      have hn1 : (k : Int) < ((lstOf l).length : Int) := by omega
      clear hb hpf
      have HG := Lib.hid (gv_lget (lstOf m) yk)
      go_wp2_with fail
      refine (rget_any yk HRB.out (by have := NB.out; omega) SB.out).mono ?_
      rintro e v1 ⟨rfl, u1⟩
      replace c1 := bcellAt u1 c1
      replace c2 := bcellAt u1 c2
      replace HBB := Lib.hid (HBB.out.trans (u1.mono HBB.out.size))
      clear u1
      rw [HG.out]
      cases hlg : lget (lstOf m) yk with
      | none =>
        have HLN : Hid ((logL ((lstOf l).take (k + 1)) (lstOf m)).length = (logL ((lstOf l).take k) (lstOf m)).length) := Lib.hid (by rw [hsn, hlg]; simp)
        clear hsn hlg
        go_wp2_with fail
        go_roundw
        case rel => exact ⟨k + 1, by go_num, by omega, by rw [HLN.out], HBB.out⟩
        case measure => simp [intOf]; omega
      | some q =>
        have h1 : logL ((lstOf l).take (k + 1)) (lstOf m) = logL ((lstOf l).take k) (lstOf m) ++ [(yv, q)] := by rw [hsn, hlg]
        have HLN : Hid ((logL ((lstOf l).take (k + 1)) (lstOf m)).length = (logL ((lstOf l).take k) (lstOf m)).length + 1) := Lib.hid (by rw [h1]; simp)
        obtain ⟨rest, hrest⟩ := HPF.out
        rw [h1] at hrest
        have htot : (logL (lstOf l) (lstOf m))[(logL ((lstOf l).take k) (lstOf m)).length]? = some (yv, q) := by rw [← hrest]; simp
        have hlen : (logL ((lstOf l).take k) (lstOf m)).length < (logL (lstOf l) (lstOf m)).length := (List.getElem?_eq_some_iff.1 htot).1
        obtain ⟨bxr, oxr, rfl, qx⟩ := XX.out (by omega)
        obtain ⟨byr, oyr, rfl, qy⟩ := XY.out (by omega)
        have kx := bcellAt HBB.out (qx (logL ((lstOf l).take k) (lstOf m)).length (.int .i64 yv) (by simp [ints, htot]))
        have ky := bcellAt HBB.out (qy (logL ((lstOf l).take k) (lstOf m)).length (.int .i64 q) (by simp [ints, htot]))
        have kbx := bcellAt HBB.out (cellB (j := 0) LM.out.hx rfl)
        have kby := bcellAt HBB.out (cellB (j := 0) LM.out.hy rfl)
        clear hsn hlg h1 hrest htot qx qy XX XY
        generalize (logL ((lstOf l).take k) (lstOf m)).length = n0 at *
        have hm0 : (0 : Int) ≤ (n0 : Int) := by omega
        have hm1 : (n0 : Int) < ((logL (lstOf l) (lstOf m)).length : Int) := by omega
        go_wp2_with fail
        go_quiet (fail)
        go_wp2_with fail
        go_roundw
        case rel => exact ⟨k + 1, by go_num, by omega, by rw [HLN.out]; go_num, HBB.out.trans ((bdn _ _).mono HBB.out.size)⟩
        case measure => simp [intOf]; omega
    · obtain rfl : k = (lstOf l).length := by omega
      rw [List.take_length]
      clear XA XX XY
      replace HW := Lib.hid (HW.out.trans (hb.mono HW.out.size))
      replace TA := Lib.hid (TA.out.below hb)
      replace RA := Lib.hid (RA.out.below hb)
      replace c5 := bcellAt hb c5
      replace TB := Lib.hid (TB.out.below hb)
      replace RB := Lib.hid (RB.out.below hb)
      replace TM := Lib.hid (TM.out.below hb)
      replace c7 := bcellAt hb c7
      replace c12 := bcellAt hb c12
      have LM2 := Lib.hid (LM.out.below hb)
      clear hb LM
      have kc := cellB (j := 0) LM2.out.c rfl
      clear LM2
      go_wp2_with fail
      have NR : Hid ((rmerge hw (lstOf l) (lstOf m)).length ≤ 160) := Lib.hid (by have := rmerge_len hw (lstOf l) (lstOf m) (lstOf m).length; rw [List.take_length] at this; have := NA.out; have := NB.out; omega)
      refine (callsIn_wide.1 (entries_in TM.out (by have := ZA.out; have := ZB.out; have := NA.out; have := NB.out; have := Tr.size_merge hw (treeOf l) (treeOf m); omega))).mono ?_
      rintro e w3 ⟨vx, rfl, o, u3⟩
      replace HW := Lib.hid (HW.out.trans (u3.mono HW.out.size))
      replace TA := Lib.hid (TA.out.below u3)
      replace RA := Lib.hid (RA.out.below u3)
      replace c5 := bcellAt u3 c5
      replace TB := Lib.hid (TB.out.below u3)
      replace RB := Lib.hid (RB.out.below u3)
      replace TM := Lib.hid (TM.out.below u3)
      replace c7 := bcellAt u3 c7
      replace c12 := bcellAt u3 c12
      have RX := Lib.hid (row_entq (row_of_own o) (HML.out))
      clear u3
      obtain ⟨sX, cX, rfl⟩ := (row_of_own o).shape
      clear o
      go_wp2_with fail
      refine (rmerge_any RA.out RB.out (by have := NA.out; have := NB.out; omega) (by have := NA.out; have := NB.out; omega) SA.out).mono ?_
      rintro e w4 ⟨vy, rfl, o, u4⟩
      replace HW := Lib.hid (HW.out.trans (u4.mono HW.out.size))
      replace TA := Lib.hid (TA.out.below u4)
      replace RA := Lib.hid (RA.out.below u4)
      replace c5 := bcellAt u4 c5
      replace TB := Lib.hid (TB.out.below u4)
      replace RB := Lib.hid (RB.out.below u4)
      replace TM := Lib.hid (TM.out.below u4)
      replace c7 := bcellAt u4 c7
      replace c12 := bcellAt u4 c12
      replace RX := Lib.hid (RX.out.below u4)
      have RY := Lib.hid (row_of_own o)
      clear u4
      obtain ⟨sY, cY, rfl⟩ := (row_of_own o).shape
      clear o
      go_wp2_with fail
      refine (same_ents RX.out RY.out (by have := NR.out; omega)).mono ?_
      rintro e w5 ⟨rfl, hd⟩
      have u5 := hd.below
      clear RX
      clear RY
      clear hd
      replace HW := Lib.hid (HW.out.trans (u5.mono HW.out.size))
      replace TA := Lib.hid (TA.out.below u5)
      replace RA := Lib.hid (RA.out.below u5)
      replace c5 := bcellAt u5 c5
      replace TB := Lib.hid (TB.out.below u5)
      replace RB := Lib.hid (RB.out.below u5)
      replace TM := Lib.hid (TM.out.below u5)
      replace c7 := bcellAt u5 c7
      replace c12 := bcellAt u5 c12
      clear u5
      go_wp2_with fail
      refine (callsIn_wide.1 (entries_in TA.out (by have := ZA.out; have := ZB.out; have := NA.out; have := NB.out; have := Tr.size_merge hw (treeOf l) (treeOf m); omega))).mono ?_
      rintro e w6 ⟨vx, rfl, o, u6⟩
      replace HW := Lib.hid (HW.out.trans (u6.mono HW.out.size))
      replace TA := Lib.hid (TA.out.below u6)
      replace RA := Lib.hid (RA.out.below u6)
      replace c5 := bcellAt u6 c5
      replace TB := Lib.hid (TB.out.below u6)
      replace RB := Lib.hid (RB.out.below u6)
      replace TM := Lib.hid (TM.out.below u6)
      replace c7 := bcellAt u6 c7
      replace c12 := bcellAt u6 c12
      have RX := Lib.hid (row_entq (row_of_own o) (EA.out))
      clear u6
      obtain ⟨sX, cX, rfl⟩ := (row_of_own o).shape
      clear o
      go_wp2_with fail
      refine (same_ents RX.out RA.out (by have := NA.out; omega)).mono ?_
      rintro e w7 ⟨rfl, hd⟩
      have u7 := hd.below
      clear RX
      clear hd
      replace HW := Lib.hid (HW.out.trans (u7.mono HW.out.size))
      replace TA := Lib.hid (TA.out.below u7)
      replace RA := Lib.hid (RA.out.below u7)
      replace c5 := bcellAt u7 c5
      replace TB := Lib.hid (TB.out.below u7)
      replace RB := Lib.hid (RB.out.below u7)
      replace TM := Lib.hid (TM.out.below u7)
      replace c7 := bcellAt u7 c7
      replace c12 := bcellAt u7 c12
      clear u7
      go_wp2_with fail
      refine (callsIn_wide.1 (entries_in TB.out (by have := ZA.out; have := ZB.out; have := NA.out; have := NB.out; have := Tr.size_merge hw (treeOf l) (treeOf m); omega))).mono ?_
      rintro e w8 ⟨vx, rfl, o, u8⟩
      replace HW := Lib.hid (HW.out.trans (u8.mono HW.out.size))
      replace TA := Lib.hid (TA.out.below u8)
      replace RA := Lib.hid (RA.out.below u8)
      replace c5 := bcellAt u8 c5
      replace TB := Lib.hid (TB.out.below u8)
      replace RB := Lib.hid (RB.out.below u8)
      replace TM := Lib.hid (TM.out.below u8)
      replace c7 := bcellAt u8 c7
      replace c12 := bcellAt u8 c12
      have RX := Lib.hid (row_entq (row_of_own o) (EB.out))
      clear u8
      obtain ⟨sX, cX, rfl⟩ := (row_of_own o).shape
      clear o
      go_wp2_with fail
      refine (same_ents RX.out RB.out (by have := NB.out; omega)).mono ?_
      rintro e w9 ⟨rfl, hd⟩
      have u9 := hd.below
      clear RX
      clear hd
      replace HW := Lib.hid (HW.out.trans (u9.mono HW.out.size))
      replace TA := Lib.hid (TA.out.below u9)
      replace RA := Lib.hid (RA.out.below u9)
      replace c5 := bcellAt u9 c5
      replace TB := Lib.hid (TB.out.below u9)
      replace RB := Lib.hid (RB.out.below u9)
      replace TM := Lib.hid (TM.out.below u9)
      replace c7 := bcellAt u9 c7
      replace c12 := bcellAt u9 c12
      clear u9
      go_wp2_with fail
      have HSM := Lib.hid (show (Tr.merge hw (treeOf l) (treeOf m)).size = (rmerge hw (lstOf l) (lstOf m)).length by rw [← Tr.size_toL, HML.out])
      refine (mlenS TM.out).mono ?_
      rintro e w10 ⟨rfl, u10⟩
      replace HW := Lib.hid (HW.out.trans (u10.mono HW.out.size))
      replace TA := Lib.hid (TA.out.below u10)
      replace RA := Lib.hid (RA.out.below u10)
      replace c5 := bcellAt u10 c5
      replace TB := Lib.hid (TB.out.below u10)
      replace RB := Lib.hid (RB.out.below u10)
      replace TM := Lib.hid (TM.out.below u10)
      replace c7 := bcellAt u10 c7
      replace c12 := bcellAt u10 c12
      clear u10
      rw [HSM.out]
      go_wp2_with fail
      refine (rmerge_any RA.out RB.out (by have := NA.out; have := NB.out; omega) (by have := NA.out; have := NB.out; omega) SA.out).mono ?_
      rintro e w11 ⟨vy, rfl, o, u11⟩
      replace HW := Lib.hid (HW.out.trans (u11.mono HW.out.size))
      replace TA := Lib.hid (TA.out.below u11)
      replace RA := Lib.hid (RA.out.below u11)
      replace c5 := bcellAt u11 c5
      replace TB := Lib.hid (TB.out.below u11)
      replace RB := Lib.hid (RB.out.below u11)
      replace TM := Lib.hid (TM.out.below u11)
      replace c7 := bcellAt u11 c7
      replace c12 := bcellAt u11 c12
      clear u11
      obtain ⟨sY, cY, rfl⟩ := (row_of_own o).shape
      clear o
      go_wp2_with fail
      refine (live_any _).mono ?_
      rintro e w12 ⟨rfl, u12⟩
      replace HW := Lib.hid (HW.out.trans (u12.mono HW.out.size))
      replace TA := Lib.hid (TA.out.below u12)
      replace RA := Lib.hid (RA.out.below u12)
      replace c5 := bcellAt u12 c5
      replace TB := Lib.hid (TB.out.below u12)
      replace RB := Lib.hid (RB.out.below u12)
      replace TM := Lib.hid (TM.out.below u12)
      replace c7 := bcellAt u12 c7
      replace c12 := bcellAt u12 c12
      clear u12
      go_wp2_with fail
      go_returns
      exact ⟨rfl, HW.out⟩

end Go.Proofs.Ytkobiimkaimbaaa
