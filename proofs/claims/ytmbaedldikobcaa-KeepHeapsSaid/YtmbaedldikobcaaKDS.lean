/-
  Put, Drop and what is asked of a map in memory (string,int).
-/
import Derived.Handy
import Derived.IntWalk
import Derived.OwnWalk
import Derived.Test.YtmbaedldikobcaaKMS
namespace Go.Proofs.Ytmbaedldikobcaa
open Go.RowKit
set_option linter.unusedVariables false

set_option maxRecDepth 100000 in
set_option maxHeartbeats 800000 in
theorem mputS {w : World} {p : Option Addr} {t : Tr ByteArray Int} (k : ByteArray) (x : Int) (h : IsTS w (.pointer p) t) (hs : t.size < 500000) :
    Calls Try.prog 18 #[.agg #[.pointer p], .string k, .int .i64 x] w fun e w' => ∃ q, e = .returned (.agg #[.pointer q]) ∧ IsTS w' (.pointer q) (Tr.put t k x) ∧ Below w.heap.size w w' := by
  have b0 : Below w.heap.size w ((w.alloc (.cells #[.pointer p] 31)).alloc (.cells #[.pointer none] 31)) := ((Below.refl _ _).alloc (Nat.le_refl _) _).alloc (by simp) _
  have y0 : ((w.alloc (.cells #[.pointer p] 31)).alloc (.cells #[.pointer none] 31)).heap[w.heap.size + 1]? = some (Obj.cells #[.pointer none] 31) := by
    have e : w.heap.size + 1 = ((w.alloc (.cells #[.pointer p] 31))).heap.size := by simp
    rw [e]; exact heap_alloc_new _ _
  have x0 : ((w.alloc (.cells #[.pointer p] 31)).alloc (.cells #[.pointer none] 31)).cell? ⟨w.heap.size + 1, 0, none⟩ = some (.pointer none) := cellB y0 rfl
  have f0 : ((w.alloc (.cells #[.pointer p] 31)).alloc (.cells #[.pointer none] 31)).frozen? ⟨w.heap.size + 1, 0, none⟩ = false := frozenB y0
  have HB := Lib.hid b0
  have HY := Lib.hid y0
  have HX := Lib.hid x0
  have HF := Lib.hid f0
  have h' := h.below b0
  have HH := Lib.hid h'
  clear h b0 y0 x0 f0 h'
  go_enter Try.func18, Try.ntmps18
  go_wp2_with fail
  refine (putS k x t _ _ HH.out hs).mono ?_
  rintro e w1 ⟨q, rfl, t1, u1⟩
  have x1 := bcellAt u1 HX.out
  have f1 := bfrozenAt u1 HX.out HF.out
  have y1 := Hold.below (T := 31) u1 _ _ HY.out
  have HT := Lib.hid t1
  have HU := Lib.hid u1
  have HY1 := Lib.hid y1
  clear t1 u1 y1
  go_wp2_with fail
  have hxs : (w1.setCell ⟨w.heap.size + 1, 0, none⟩ (.pointer q)).cell? ⟨w.heap.size + 1, 0, none⟩ = some (.pointer q) := World.cell?_setCell_same' _ _ _ (by rw [x1]; rfl)
  refine bodyPost_ret (v := .agg #[.pointer q]) (by simp [results, Try.results18, go_sem, hxs]) rfl ?_
  exact ⟨q, rfl, HT.out.hold (Hold.setCell HY1.out (by decide)), (HB.out.trans (HU.out.mono HB.out.size)).setCell (p := ⟨w.heap.size + 1, 0, none⟩) (by simp) _⟩

set_option maxRecDepth 100000 in
set_option maxHeartbeats 800000 in
theorem mdropS {w : World} {p : Option Addr} {t : Tr ByteArray Int} (k : ByteArray) (h : IsTS w (.pointer p) t) (hs : t.size < 500000) :
    Calls Try.prog 16 #[.agg #[.pointer p], .string k] w fun e w' => ∃ q, e = .returned (.agg #[.pointer q]) ∧ IsTS w' (.pointer q) (Tr.del t k) ∧ Below w.heap.size w w' := by
  have b0 : Below w.heap.size w ((w.alloc (.cells #[.pointer p] 31)).alloc (.cells #[.pointer none] 31)) := ((Below.refl _ _).alloc (Nat.le_refl _) _).alloc (by simp) _
  have y0 : ((w.alloc (.cells #[.pointer p] 31)).alloc (.cells #[.pointer none] 31)).heap[w.heap.size + 1]? = some (Obj.cells #[.pointer none] 31) := by
    have e : w.heap.size + 1 = ((w.alloc (.cells #[.pointer p] 31))).heap.size := by simp
    rw [e]; exact heap_alloc_new _ _
  have x0 : ((w.alloc (.cells #[.pointer p] 31)).alloc (.cells #[.pointer none] 31)).cell? ⟨w.heap.size + 1, 0, none⟩ = some (.pointer none) := cellB y0 rfl
  have f0 : ((w.alloc (.cells #[.pointer p] 31)).alloc (.cells #[.pointer none] 31)).frozen? ⟨w.heap.size + 1, 0, none⟩ = false := frozenB y0
  have HB := Lib.hid b0
  have HY := Lib.hid y0
  have HX := Lib.hid x0
  have HF := Lib.hid f0
  have h' := h.below b0
  have HH := Lib.hid h'
  have H00 := Lib.hid h
  clear h b0 y0 x0 f0 h'
  cases hf : Tr.find t k with
  | nil =>
    have e1 : Tr.del t k = t := by unfold Tr.del; rw [hf]
    rw [e1]
    have HFD := Lib.hid hf
    clear hf e1
    go_enter Try.func16, Try.ntmps16
    go_wp2_with fail
    refine (findS k HH.out).mono ?_
    rintro e w9 ⟨pf, rfl, tf, rfl⟩
    rw [HFD.out] at tf
    obtain rfl : pf = none := by simpa [IsTS] using tf
    clear tf
    have x1 := HX.out
    have f1 := HF.out
    go_wp2_with fail
    refine bodyPost_ret (v := .agg #[.pointer p]) (by simp [results, Try.results16, go_sem]) rfl ?_
    have bz : Below w.heap.size w ((w.alloc (.cells #[.pointer p] 31)).alloc (.cells #[.pointer p] 31)) := ((Below.refl _ _).alloc (Nat.le_refl _) _).alloc (by simp) _
    exact ⟨p, rfl, H00.out.below bz, bz⟩
  | node fl fk fx fr =>
    have e1 : Tr.del t k = Tr.drop t k := by unfold Tr.del; rw [hf]
    rw [e1]
    have HN := Lib.hid (show Tr.find t k ≠ .nil by rw [hf]; intro h; cases h)
    have HFD := Lib.hid hf
    clear hf e1
    go_enter Try.func16, Try.ntmps16
    go_wp2_with fail
    refine (findS k HH.out).mono ?_
    rintro e w9 ⟨pf, rfl, tf, rfl⟩
    rw [HFD.out] at tf
    obtain ⟨fb, _, _, hfv, _⟩ := tf
    obtain rfl : pf = some ⟨fb, 0, none⟩ := by simpa using hfv
    clear hfv
    go_wp2_with fail
    refine (dropS k t _ _ HH.out hs HN.out).mono ?_
    rintro e w1 ⟨q, rfl, t1, u1⟩
    have x1 := bcellAt u1 HX.out
    have f1 := bfrozenAt u1 HX.out HF.out
    have y1 := Hold.below (T := 31) u1 _ _ HY.out
    have HT := Lib.hid t1
    have HU := Lib.hid u1
    have HY1 := Lib.hid y1
    clear t1 u1 y1
    go_wp2_with fail
    have hxs : (w1.setCell ⟨w.heap.size + 1, 0, none⟩ (.pointer q)).cell? ⟨w.heap.size + 1, 0, none⟩ = some (.pointer q) := World.cell?_setCell_same' _ _ _ (by rw [x1]; rfl)
    refine bodyPost_ret (v := .agg #[.pointer q]) (by simp [results, Try.results16, go_sem, hxs]) rfl ?_
    exact ⟨q, rfl, HT.out.hold (Hold.setCell HY1.out (by decide)), (HB.out.trans (HU.out.mono HB.out.size)).setCell (p := ⟨w.heap.size + 1, 0, none⟩) (by simp) _⟩

/-- What told answers. -/
def toldVS : Tr ByteArray Int → Value
  | .nil => .tuple #[.string ⟨#[]⟩, .int .i64 0, .bool false]
  | .node _ k x _ => .tuple #[.string k, .int .i64 x, .bool true]
set_option maxRecDepth 100000 in
set_option maxHeartbeats 800000 in
theorem toldS {w : World} {v : Value} {t : Tr ByteArray Int} (h : IsTS w v t) : Calls Try.prog 109 #[v] w fun e w' => e = .returned (toldVS t) ∧ Below w.heap.size w w' := by
  cases t with
  | nil =>
    obtain rfl := h
    have b0 := Lib.hid ((Below.refl _ w).alloc (Nat.le_refl _) (.cells #[.string ⟨#[]⟩, .int .i64 0] 119))
    go_enter Try.func109, Try.ntmps109
    go_wp2_with fail
    go_quiet (fail)
    go_wp2_with fail
    go_returns
    exact ⟨rfl, b0.out.trans ((bdn _ _).mono b0.out.size)⟩
  | node l k x r =>
    obtain ⟨b, pl, pr, rfl, hb, _, _⟩ := h
    obtain ⟨c0, cx, cl, cr, cs, ch⟩ := nodeCS (x := x) hb
    clear hb
    go_enter Try.func109, Try.ntmps109
    go_wp2_with fail
    go_quiet (fail)
    go_wp2_with fail
    go_returns
    exact ⟨rfl, bdn _ _⟩

set_option maxRecDepth 100000 in
set_option maxHeartbeats 1600000 in
theorem matS {w : World} {p : Option Addr} {t : Tr ByteArray Int} (i : Int) (h : IsTS w (.pointer p) t) (hs : t.size < 1000000) (hi : -9223372036854775808 ≤ i ∧ i ≤ 9223372036854775807) :
    Calls Try.prog 65 #[.agg #[.pointer p], .int .i64 i] w fun e w' => e = .returned (toldVS (Tr.nth t i)) ∧ Below w.heap.size w w' := by
  have b0 : Below w.heap.size w (w.alloc (.cells #[.pointer p] 31)) := (Below.refl _ _).alloc (Nat.le_refl _) _
  have HB := Lib.hid b0
  have H0 := Lib.hid (h.below b0)
  have HI := Lib.hid hi
  clear h b0 hi
  go_enter Try.func65, Try.ntmps65
  go_wp2_with fail
  generalize (w.alloc (.cells #[.pointer p] 31)) = W at *
  go_loopw [7, 1] (fun v j wr => ∃ (t' : Tr ByteArray Int) (m : Nat) (j' : Int), wr = W.drewN m ∧ j = .int .i64 j' ∧ IsTS W v t' ∧ t'.size < 1000000 ∧ (-9223372036854775808 ≤ j' ∧ j' ≤ 9223372036854775807) ∧ Tr.nth t' j' = Tr.nth t i) (fun v _ wr => sizeAtS W v)
  case atStart => exact ⟨t, 0, i, rfl, rfl, H0.out, hs, HI.out, rfl⟩
  case round =>
    obtain ⟨t', m, j', rfl, rfl, ht, hz, ⟨hj1, hj2⟩, he⟩ := hrel
    have HSZ := Lib.hid ht.sizeAt
    have HJ1 := Lib.hid hj1
    have HJ2 := Lib.hid hj2
    clear hj1 hj2
    cases t' with
    | nil =>
      obtain rfl := ht
      rw [Tr.nth] at he
      have HE := Lib.hid he
      clear he
      go_wp2_with fail
      refine (toldS (t := .nil) rfl).mono ?_
      rintro e w2 ⟨rfl, u2⟩
      have HU := Lib.hid u2
      clear u2
      simp only [toldVS]
      go_wp2_with fail
      go_returns
      exact ⟨by rw [← HE.out]; rfl, HB.out.trans (((bdn W m).trans (HU.out.mono (Nat.le_refl _))).mono HB.out.size)⟩
    | node l k x r =>
      have HT := Lib.hid ht
      obtain ⟨b, pl, pr, rfl, hb, hl, hr⟩ := ht
      obtain ⟨pl, rfl⟩ := hl.shape
      obtain ⟨pr, rfl⟩ := hr.shape
      obtain ⟨c0, cx, cl, cr, cs, ch⟩ := nodeCS (x := x) hb
      have HL := Lib.hid hl
      have HR := Lib.hid hr
      have hz1 : l.size < 1000000 := by simp only [Tr.size] at hz; omega
      have hz2 : r.size < 1000000 := by simp only [Tr.size] at hz; omega
      have HSL := Lib.hid hl.sizeAt
      have HSR := Lib.hid hr.sizeAt
      clear hb hl hr cs ch
      rw [Tr.nth] at he
      by_cases hA : j' = (l.size : Int)
      · rw [if_pos hA] at he
        have HE := Lib.hid he
        subst hA
        clear he
        go_wp2_with fail
        refine (sizeS (HL.out.drewN m)).mono ?_
        rintro e w2 ⟨rfl, rfl⟩
        go_wp2_with fail
        refine (toldS (HT.out.drewN m)).mono ?_
        rintro e w2 ⟨rfl, u2⟩
        have HU := Lib.hid u2
        clear u2
        simp only [toldVS]
        go_wp2_with fail
        go_returns
        exact ⟨by rw [← HE.out]; rfl, HB.out.trans (((bdn W m).trans (HU.out.mono (Nat.le_refl _))).mono HB.out.size)⟩
      · rw [if_neg hA] at he
        have hA' : decide (j' = (l.size : Int)) = false := by simpa using hA
        by_cases hC : j' < (l.size : Int)
        · rw [if_pos hC] at he
          have HE := Lib.hid he
          clear he
          have hcl := bcellAt (bdn W m) cl
          go_wp2_with fail
          refine (sizeS (HL.out.drewN m)).mono ?_
          rintro e w2 ⟨rfl, rfl⟩
          go_wp2_with fail
          refine (sizeS (HL.out.drewN m)).mono ?_
          rintro e w2 ⟨rfl, rfl⟩
          go_wp2_with fail
          go_roundw
          case rel => exact ⟨l, m, j', rfl, rfl, HL.out, hz1, ⟨HJ1.out, HJ2.out⟩, HE.out⟩
          case measure => rw [HSL.out, HSZ.out]; simp only [Tr.size]; omega
        · rw [if_neg hC] at he
          have HE := Lib.hid he
          clear he
          have e1 : IntKind.i64.wrap (j' - (l.size : Int)) = j' - (l.size : Int) := IntWalk.i64_in _ (by have := HJ2.out; omega)
          have e2 : IntKind.i64.wrap (j' - (l.size : Int) - 1) = j' - (l.size : Int) - 1 := IntWalk.i64_in _ (by have := HJ2.out; omega)
          have hj1 := HJ1.out
          have hj2 := HJ2.out
          have HK1 : Hid (-9223372036854775808 ≤ j' - (l.size : Int) - 1 ∧ j' - (l.size : Int) - 1 ≤ 9223372036854775807) := Lib.hid (by omega)
          clear hj1 hj2
          go_wp2_with fail
          refine (sizeS (HL.out.drewN m)).mono ?_
          rintro e w2 ⟨rfl, rfl⟩
          go_wp2_with fail
          refine (sizeS (HL.out.drewN m)).mono ?_
          rintro e w2 ⟨rfl, rfl⟩
          go_wp2_with fail
          go_quiet (first | exact Calls.quiet_of_same (still_of (sizeS (HL.out.drewN _))) | exact (sizeS (HL.out.drewN _)).mono fun _ _ ⟨h1, h2⟩ => ⟨h1, _, h2.symm⟩)
          go_wp2_with fail
          go_roundw
          case rel => exact ⟨r, m + nq, _, by rw [World.drewN_drewN], rfl, HR.out, hz2, HK1.out, HE.out⟩
          case measure => rw [HSR.out, HSZ.out]; simp only [Tr.size]; omega

theorem Tr.rank_le (t : Tr ByteArray Int) (k : ByteArray) : Tr.rank t k ≤ t.size := by
  induction t with
  | nil => simp [Tr.rank, Tr.size]
  | node l k' x r hl hr => simp only [Tr.rank, Tr.size]; split <;> omega
set_option maxRecDepth 100000 in
set_option maxHeartbeats 1600000 in
theorem mrank {w : World} {p : Option Addr} {t : Tr ByteArray Int} (k : ByteArray) (h : IsTS w (.pointer p) t) (hs : t.size < 1000000) :
    Calls Try.prog 66 #[.agg #[.pointer p], .string k] w fun e w' => e = .returned (.int .i64 (Tr.rank t k : Int)) ∧ Below w.heap.size w w' := by
  have b0 : Below w.heap.size w (w.alloc (.cells #[.pointer p] 31)) := (Below.refl _ _).alloc (Nat.le_refl _) _
  have HB := Lib.hid b0
  have H0 := Lib.hid (h.below b0)
  have HRK := Lib.hid (Tr.rank_le t k)
  clear h b0
  go_enter Try.func66, Try.ntmps66
  go_wp2_with fail
  generalize (w.alloc (.cells #[.pointer p] 31)) = W at *
  go_loop [6, 5] (fun v j => ∃ (t' : Tr ByteArray Int) (acc : Nat), j = .int .i64 (acc : Int) ∧ IsTS W v t' ∧ t'.size < 1000000 ∧ acc + Tr.rank t' k = Tr.rank t k) (fun v _ => sizeAtS W v)
  case atStart => exact ⟨t, 0, rfl, H0.out, hs, by omega⟩
  case round =>
    obtain ⟨t', acc, rfl, ht, hz, he⟩ := hrel
    have HSZ := Lib.hid ht.sizeAt
    cases t' with
    | nil =>
      obtain rfl := ht
      rw [Tr.rank] at he
      have HE := Lib.hid he
      clear he
      go_wp2_with fail
      go_returns
      exact ⟨by rw [← HE.out]; rfl, HB.out⟩
    | node l k' x r =>
      obtain ⟨b, pl, pr, rfl, hb, hl, hr⟩ := ht
      obtain ⟨pl, rfl⟩ := hl.shape
      obtain ⟨pr, rfl⟩ := hr.shape
      obtain ⟨c0, cx, cl, cr, cs, ch⟩ := nodeCS (x := x) hb
      have HL := Lib.hid hl
      have HR := Lib.hid hr
      have hz1 : l.size < 1000000 := by simp only [Tr.size] at hz; omega
      have hz2 : r.size < 1000000 := by simp only [Tr.size] at hz; omega
      have HSL := Lib.hid hl.sizeAt
      have HSR := Lib.hid hr.sizeAt
      have hrt := HRK.out
      rw [Tr.rank] at he
      clear hb hl hr cs ch
      cases hA : KOrd.lt k' k
      · rw [hA, if_neg (by simp)] at he
        have HE := Lib.hid he
        have HA := Lib.hid hA
        clear he hA hrt
        go_wp2_with fail
        refine (lessS_no _ HA.out).mono ?_
        rintro e w2 ⟨rfl, rfl⟩
        go_wp2_with fail
        go_round
        case rel => exact ⟨l, acc, rfl, HL.out, hz1, HE.out⟩
        case measure => rw [HSL.out, HSZ.out]; simp only [Tr.size]; omega
      · rw [hA, if_pos rfl] at he
        have hacc : acc < 1000000 := by omega
        have HE := Lib.hid he
        have HA := Lib.hid hA
        clear he hA hrt
        go_wp2_with fail
        refine (lessS_yes _ HA.out).mono ?_
        rintro e w2 ⟨rfl, rfl⟩
        go_wp2_with fail
        refine (sizeS HL.out).mono ?_
        rintro e w2 ⟨rfl, rfl⟩
        go_wp2_with fail
        go_round
        case rel => exact ⟨r, acc + (l.size + 1), by go_num, HR.out, hz2, by have := HE.out; omega⟩
        case measure => rw [HSR.out, HSZ.out]; simp only [Tr.size]; omega

theorem toldVS_shape (t : Tr ByteArray Int) : ∃ v1 v2 v3, toldVS t = .tuple #[v1, v2, v3] := by
  cases t <;> exact ⟨_, _, _, rfl⟩

set_option maxRecDepth 100000 in
set_option maxHeartbeats 1600000 in
theorem mceil_at {w : World} {p : Option Addr} {t : Tr ByteArray Int} (k : ByteArray) (h : IsTS w (.pointer p) t) (hs : t.size < 1000000) :
    Calls Try.prog 68 #[.agg #[.pointer p], .string k] w fun e w' => e = .returned (toldVS (Tr.nth t (Tr.rank t k))) ∧ Below w.heap.size w w' := by
  have b0 : Below w.heap.size w (w.alloc (.cells #[.pointer p] 31)) := (Below.refl _ _).alloc (Nat.le_refl _) _
  have z : (w.alloc (.cells #[.pointer p] 31)).heap[w.heap.size]? = some (Obj.cells #[.pointer p] 31) := heap_alloc_new w _
  have z0 : (w.alloc (.cells #[.pointer p] 31)).cell? ⟨w.heap.size, 0, none⟩ = some (.pointer p) := cellB z rfl
  have HB := Lib.hid b0
  have H0 := Lib.hid (h.below b0)
  have HRK := Lib.hid (Tr.rank_le t k)
  obtain ⟨v1, v2, v3, hv⟩ := toldVS_shape (Tr.nth t (Tr.rank t k))
  rw [hv]
  have hm : ∀ w' : World, Below (w.alloc (.cells #[.pointer p] 31)).heap.size (w.alloc (.cells #[.pointer p] 31)) w' → Calls Try.prog 65 #[.agg #[.pointer p], .int .i64 (Tr.rank t k : Int)] w' fun e w2 => e = .returned (.tuple #[v1, v2, v3]) ∧ Below w'.heap.size w' w2 := fun w' hb => by
    have := matS (Tr.rank t k : Int) (H0.out.below hb) hs (by have := HRK.out; omega)
    rw [hv] at this
    exact this
  have HM := Lib.hid hm
  clear h b0 z hv hm
  go_enter Try.func68, Try.ntmps68
  go_wp2_with fail
  generalize (w.alloc (.cells #[.pointer p] 31)) = W at *
  have hk : ∀ w' : World, Below W.heap.size W w' → w'.cell? ⟨w.heap.size, 0, none⟩ = some (.pointer p) ∧ Below W.heap.size W w' := fun w' hb => ⟨bcellAt hb z0, hb⟩
  have HK := Lib.hid hk
  clear hk
  have hrk := HRK.out
  have hw1 : IntKind.i64.wrap ((Tr.rank t k : Int) - 1) = (Tr.rank t k : Int) - 1 := IntWalk.i64_in _ (by omega)
  clear hrk
  go_region_held3 (fun w' => w'.cell? ⟨w.heap.size, 0, none⟩ = some (.pointer p) ∧ Below W.heap.size W w') ((refine HK.out _ ?_; first | exact bdd _ _ | exact bd _ | exact bdn _ _ | exact bmore (by first | assumption | exact bdn _ _ | exact bd _ | exact Below.refl _ _) u1 | exact bmore (bmore (by first | assumption | exact bdn _ _ | exact bd _ | exact Below.refl _ _) u1) u2))
    ((first
      | ((with_reducible refine (mrank k (H0.out.below (by first | assumption | exact bdn _ _ | exact bd _ | exact Below.refl _ _)) hs).mono ?_); rintro e w1 ⟨rfl, u1⟩)
      | ((with_reducible refine (HM.out _ (bmore (by first | assumption | exact bdn _ _ | exact bd _ | exact Below.refl _ _) u1)).mono ?_); rintro e w2 ⟨rfl, u2⟩)))
  go_wp2_with fail
  go_returns
  exact ⟨rfl, HB.out.trans ((bmore (bmore (by first | assumption | exact bdn _ _ | exact bd _ | exact Below.refl _ _) u1) u2).mono HB.out.size)⟩

set_option maxRecDepth 100000 in
set_option maxHeartbeats 1600000 in
theorem mfloor_at {w : World} {p : Option Addr} {t : Tr ByteArray Int} (k : ByteArray) (h : IsTS w (.pointer p) t) (hs : t.size < 1000000) (hf : Tr.find t k = .nil) :
    Calls Try.prog 67 #[.agg #[.pointer p], .string k] w fun e w' => e = .returned (toldVS (Tr.nth t ((Tr.rank t k : Int) - 1))) ∧ Below w.heap.size w w' := by
  have b0 : Below w.heap.size w (w.alloc (.cells #[.pointer p] 31)) := (Below.refl _ _).alloc (Nat.le_refl _) _
  have z : (w.alloc (.cells #[.pointer p] 31)).heap[w.heap.size]? = some (Obj.cells #[.pointer p] 31) := heap_alloc_new w _
  have z0 : (w.alloc (.cells #[.pointer p] 31)).cell? ⟨w.heap.size, 0, none⟩ = some (.pointer p) := cellB z rfl
  have HB := Lib.hid b0
  have H0 := Lib.hid (h.below b0)
  have HRK := Lib.hid (Tr.rank_le t k)
  obtain ⟨v1, v2, v3, hv⟩ := toldVS_shape (Tr.nth t ((Tr.rank t k : Int) - 1))
  rw [hv]
  have hm : ∀ w' : World, Below (w.alloc (.cells #[.pointer p] 31)).heap.size (w.alloc (.cells #[.pointer p] 31)) w' → Calls Try.prog 65 #[.agg #[.pointer p], .int .i64 ((Tr.rank t k : Int) - 1)] w' fun e w2 => e = .returned (.tuple #[v1, v2, v3]) ∧ Below w'.heap.size w' w2 := fun w' hb => by
    have := matS ((Tr.rank t k : Int) - 1) (H0.out.below hb) hs (by have := HRK.out; omega)
    rw [hv] at this
    exact this
  have HM := Lib.hid hm
  clear h b0 z hv hm
  go_enter Try.func67, Try.ntmps67
  go_wp2_with fail
  generalize (w.alloc (.cells #[.pointer p] 31)) = W at *
  refine (findS k H0.out).mono ?_
  rintro e w9 ⟨pf, rfl, tf, rfl⟩
  rw [hf] at tf
  obtain rfl : pf = none := by simpa [IsTS] using tf
  clear tf hf
  go_wp2_with fail
  have hk : ∀ w' : World, Below W.heap.size W w' → w'.cell? ⟨w.heap.size, 0, none⟩ = some (.pointer p) ∧ Below W.heap.size W w' := fun w' hb => ⟨bcellAt hb z0, hb⟩
  have HK := Lib.hid hk
  clear hk
  have hrk := HRK.out
  have hw1 : IntKind.i64.wrap ((Tr.rank t k : Int) - 1) = (Tr.rank t k : Int) - 1 := IntWalk.i64_in _ (by omega)
  clear hrk
  go_region_held3 (fun w' => w'.cell? ⟨w.heap.size, 0, none⟩ = some (.pointer p) ∧ Below W.heap.size W w') ((refine HK.out _ ?_; first | exact bdd _ _ | exact bd _ | exact bdn _ _ | exact bmore (by first | assumption | exact bdn _ _ | exact bd _ | exact Below.refl _ _) u1 | exact bmore (bmore (by first | assumption | exact bdn _ _ | exact bd _ | exact Below.refl _ _) u1) u2))
    ((first
      | ((with_reducible refine (mrank k (H0.out.below (by first | assumption | exact bdn _ _ | exact bd _ | exact Below.refl _ _)) hs).mono ?_); rintro e w1 ⟨rfl, u1⟩)
      | ((with_reducible refine (HM.out _ (bmore (by first | assumption | exact bdn _ _ | exact bd _ | exact Below.refl _ _) u1)).mono ?_); rintro e w2 ⟨rfl, u2⟩)))
  go_wp2_with fail
  go_returns
  exact ⟨rfl, HB.out.trans ((bmore (bmore (by first | assumption | exact bdn _ _ | exact bd _ | exact Below.refl _ _) u1) u2).mono HB.out.size)⟩

set_option maxRecDepth 100000 in
set_option maxHeartbeats 1600000 in
theorem mfloor_there {w : World} {p : Option Addr} {t l r : Tr ByteArray Int} {v : Int} (k : ByteArray) (h : IsTS w (.pointer p) t) (hf : Tr.find t k = .node l k v r) :
    Calls Try.prog 67 #[.agg #[.pointer p], .string k] w fun e w' => e = .returned (.tuple #[.string k, .int .i64 v, .bool true]) ∧ Below w.heap.size w w' := by
  have b0 : Below w.heap.size w (w.alloc (.cells #[.pointer p] 31)) := (Below.refl _ _).alloc (Nat.le_refl _) _
  have HB := Lib.hid b0
  have H0 := Lib.hid (h.below b0)
  have HF := Lib.hid hf
  clear h b0 hf
  go_enter Try.func67, Try.ntmps67
  go_wp2_with fail
  generalize (w.alloc (.cells #[.pointer p] 31)) = W at *
  refine (findS k H0.out).mono ?_
  rintro e w9 ⟨pf, rfl, tf, rfl⟩
  rw [HF.out] at tf
  have HT := Lib.hid tf
  obtain ⟨fb, _, _, hfv, _⟩ := tf
  obtain rfl : pf = some ⟨fb, 0, none⟩ := by simpa using hfv
  clear hfv
  go_wp2_with fail
  refine (toldS HT.out).mono ?_
  rintro e w2 ⟨rfl, u2⟩
  have HU := Lib.hid u2
  clear u2
  simp only [toldVS]
  go_wp2_with fail
  go_returns
  exact ⟨rfl, HB.out.trans (HU.out.mono HB.out.size)⟩
set_option maxRecDepth 100000 in
set_option maxHeartbeats 1600000 in
theorem mget_no {w : World} {p : Option Addr} {t : Tr ByteArray Int} (k : ByteArray) (h : IsTS w (.pointer p) t) (hf : Tr.find t k = .nil) :
    Calls Try.prog 69 #[.agg #[.pointer p], .string k] w fun e w' => e = .returned (.tuple #[.int .i64 0, .bool false]) ∧ Below w.heap.size w w' := by
  have b0 : Below w.heap.size w (w.alloc (.cells #[.pointer p] 31)) := (Below.refl _ _).alloc (Nat.le_refl _) _
  have HB := Lib.hid b0
  have H0 := Lib.hid (h.below b0)
  have HF := Lib.hid hf
  clear h b0 hf
  go_enter Try.func69, Try.ntmps69
  go_wp2_with fail
  generalize (w.alloc (.cells #[.pointer p] 31)) = W at *
  refine (findS k H0.out).mono ?_
  rintro e w9 ⟨pf, rfl, tf, rfl⟩
  rw [HF.out] at tf
  have HT := Lib.hid tf
  clear tf
  go_wp2_with fail
  refine (toldS HT.out).mono ?_
  rintro e w2 ⟨rfl, u2⟩
  have HU := Lib.hid u2
  clear u2
  simp only [toldVS]
  go_wp2_with fail
  go_returns
  exact ⟨rfl, HB.out.trans (HU.out.mono HB.out.size)⟩
set_option maxRecDepth 100000 in
set_option maxHeartbeats 1600000 in
theorem mget_yes {w : World} {p : Option Addr} {t l r : Tr ByteArray Int} {v : Int} (k : ByteArray) (h : IsTS w (.pointer p) t) (hf : Tr.find t k = .node l k v r) :
    Calls Try.prog 69 #[.agg #[.pointer p], .string k] w fun e w' => e = .returned (.tuple #[.int .i64 v, .bool true]) ∧ Below w.heap.size w w' := by
  have b0 : Below w.heap.size w (w.alloc (.cells #[.pointer p] 31)) := (Below.refl _ _).alloc (Nat.le_refl _) _
  have HB := Lib.hid b0
  have H0 := Lib.hid (h.below b0)
  have HF := Lib.hid hf
  clear h b0 hf
  go_enter Try.func69, Try.ntmps69
  go_wp2_with fail
  generalize (w.alloc (.cells #[.pointer p] 31)) = W at *
  refine (findS k H0.out).mono ?_
  rintro e w9 ⟨pf, rfl, tf, rfl⟩
  rw [HF.out] at tf
  have HT := Lib.hid tf
  clear tf
  go_wp2_with fail
  refine (toldS HT.out).mono ?_
  rintro e w2 ⟨rfl, u2⟩
  have HU := Lib.hid u2
  clear u2
  simp only [toldVS]
  go_wp2_with fail
  go_returns
  exact ⟨rfl, HB.out.trans (HU.out.mono HB.out.size)⟩
set_option maxHeartbeats 400000 in
theorem mdepth {w : World} {p : Option Addr} {t : Tr ByteArray Int} (h : IsTS w (.pointer p) t) : Calls Try.prog 85 #[.agg #[.pointer p]] w fun e w' => e = .returned (.int .i64 (t.height : Int)) ∧ Below w.heap.size w w' := by
  have b0 : Below w.heap.size w (w.alloc (.cells #[.pointer p] 31)) := (Below.refl _ _).alloc (Nat.le_refl _) _
  have h' := h.below b0
  have HB := Lib.hid b0
  clear h b0
  go_enter Try.func85, Try.ntmps85
  go_wp2_with fail
  refine (heightS h').mono ?_
  rintro e w1 ⟨rfl, rfl⟩
  go_wp2_with fail
  go_returns
  exact ⟨rfl, HB.out⟩

end Go.Proofs.Ytmbaedldikobcaa
