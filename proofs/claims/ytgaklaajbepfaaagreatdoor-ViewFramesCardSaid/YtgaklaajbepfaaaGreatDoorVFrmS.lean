/-
  The law's pools, with the plain pool told: twice of the same trees, twice the same.
  The document's own questions of kinds and names.
  Plain: trees whose nodes are turned, one by one.
  The document's own View of a tree.
  The document's own Swap of a tree.
  Plain: looking alike is an equivalence, holds of beginnings, and asks for one view; to the notary it is equality.
  Plain: what was made of a term by swapping promises looks as the term did.
  Plain: a view's view is the view; terms with one view have trees with one view; a term and its view look alike where no two of its subterms have one view.
  Frame, of every list.
  Classes, of every list.
  The document's own Classes: where a tree with one view stands first.
  Plain: where a view stands first, told by terms and by trees; a pool that stands beside another.
  append of a list of terms to an empty slice that was just made.
  A tree appended to a row of trees of the call's own.
  What the row's condition gives the walks: the table of the kinds' fields.
  The law's own walk: ViewFrames.
  The statement ViewFrames, as a tied card. No condition.
-/
import Derived.Test.YtgaklaajbepfaaaGreatDoorVLarge
import Derived.Test.YtgaklaajbepfaaaGreatDoorTRefP
import Derived.Test.YtgaklaajbepfaaaGreatDoorTRef2
import Derived.Test.YtgaklaajbepfaaaGreatDoorVTrP
import Derived.Deep.DeepCutAuto
import Derived.Test.YtgaklaajbepfaaaGreatDoorVAlike
import Derived.Test.YtgaklaajbepfaaaGreatDoorVProm
import Derived.Test.YtgaklaajbepfaaaGreatDoorTRSub
import Derived.Test.YtgaklaajbepfaaaGreatDoorTRTree
import Derived.Test.YtgaklaajbepfaaaGreatDoorTChain
import Derived.Test.YtgaklaajbepfaaaGreatDoorTMake
import Derived.Maps.AppendAt
import Derived.Test.YtgaklaajbepfaaaGreatDoorTShape
import Derived.Test.YtgaklaajbepfaaaGreatDoorRows
import Derived.LaidMore
import Derived.MakeChecks
import Derived.JoinedOf
import Derived.Stop.Joined
import Derived.Test.YtgaklaajbepfaaaGreatDoorVLiveW
import Derived.Test.YtgaklaajbepfaaaGreatDoorCards
import Derived.Test.YtgaklaajbepfaaaGreatDoorTie
import Derived.ChangeMaps5
import Derived.SevenTiedAt
namespace Go.Proofs.YtgaklaajbepfaaaGreatDoor
open Go.RowKit Go.Maps
set_option linter.unusedVariables false

/-- The pool behind trees. -/
def plF : Pl → Fo → Pl
  | q, .nil => q
  | q, .cons n k r => plF (ofP n k q).2.2 r
/-- What pools answers: the two pools, alike. -/
def PoolsDet (w : World) (fo : Fo) (m : Nat) (e : Ending) (w' : World) : Prop :=
  ∃ (pa b ra : Nat) (vv rl rs rd : Value) (q : Pl), e = .returned (.tuple #[.pointer (some ⟨pa, 0, none⟩), .pointer (some ⟨ra, 0, none⟩), .bool true]) ∧ IsPool w' w.heap.size pa b vv q ∧ IsRef w' w.heap.size ra rl rs rd q ∧ Below w.heap.size w w' ∧ q.length ≤ m ∧ q = plF [] fo
set_option maxRecDepth 100000 in
set_option maxHeartbeats 25600000 in
theorem pools_det {w : World} (hl : Laid w) {fo : Fo} {vn : Value} (hk : IsK w (fun b => b < w.heap.size) vn fo) (hok : OkF fo) (hsz : fo.size ≤ 6000) (hln : fo.len ≤ 100) : Calls Tryz.prog 17 #[vn] w (PoolsDet w fo fo.size) := by
  obtain ⟨av, cv, rfl, hx⟩ := hk.shape
  have HX := Lib.hid hx
  have HL := Lib.hid hl
  have HOK := Lib.hid hok
  have HBG := Lib.hid hl.lt
  clear hk hl hok hx
  go_enter Tryz.func17, Tryz.ntmps17
  go_wp2_with fail
  refine (pnew w).mono ?_
  rintro e w2 ⟨rfl, p2, u2⟩
  have HA2 := Lib.hid u2
  have HP2 := Lib.hid p2
  clear u2 p2
  generalize w.heap.size + 1 = pa at *
  go_wp2_with fail
  refine (rnew w2 w.heap.size HA2.out.size).mono ?_
  rintro e w3 ⟨rfl, r3, u3⟩
  have HP3 := Lib.hid (HP2.out.below u3)
  have HA3 := Lib.hid (bmore HA2.out u3)
  have HR3 := Lib.hid r3
  clear u3 r3 HP2 HA2
  generalize w2.heap.size = ra at *
  go_wp2_with fail
  go_loopw [7] (fun v9 wr => ∃ (i : Nat) (r : Fo) (vv rl rs rd : Value) (q : Pl), v9 = .int .i64 (i : Int) ∧ i + r.len = fo.len ∧ q.length + r.size ≤ fo.size ∧ OkF r ∧ (0 < r.len → ∃ b o, av = some ⟨b, o, none⟩ ∧ b < w.heap.size ∧ AtF w (fun b => b < w.heap.size) r b (o + i * 6)) ∧ Below w.heap.size w wr ∧ IsPool wr w.heap.size pa w.heap.size vv q ∧ IsRef wr w.heap.size ra rl rs rd q ∧ plF q r = plF [] fo) (fun v _ => fo.len - (intOf v).toNat)
  case atStart => exact ⟨0, fo, _, _, _, _, [], rfl, by omega, by simp, HOK.out, fun hp => by obtain ⟨b, o, q1, q2, q3⟩ := HX.out hp; exact ⟨b, o, q1, q2, by simpa using q3⟩, HA3.out, HP3.out, HR3.out, rfl⟩
  case round =>
    clear HP3 HA3 HR3 HX
    obtain ⟨i, r, vv, rl, rs, rd, q, rfl, hi, hqs, hokr, hat, hbr, hp, hq, hpl⟩ := hrel
    have HPLF := Lib.hid hpl
    clear hpl
    have HP := Lib.hid hp
    have HQ := Lib.hid hq
    have HBR := Lib.hid hbr
    clear hp hq hbr
    by_cases hlt : 0 < r.len
    · obtain ⟨n', kd, rr, rfl⟩ := fo_pos hlt
      simp only [Fo.len] at hi
      simp only [Fo.size] at hqs
      obtain ⟨b, o, rfl, hbw, hat'⟩ := hat hlt
      obtain ⟨c0, c1, c2, c3, c4, v', c5, hk', hat2⟩ := hat'.cons
      obtain ⟨av2, cv2, rfl, _⟩ := hk'.shape
      obtain ⟨ok1, ok2, ok3, ok4, ok5⟩ := hokr
      have hgood := ofP_ok n' kd q HP.out.ok ⟨ok2, ok3, ok4.bare, trivial⟩ (by simp only [Fo.size]; omega)
      have hroom : (lkT n' kd 0 0).2 = 0 → (grT n' kd q).2.1 = 0 := fun h => (grT_good n' kd q HP.out.ok (lkT_good h).1 ⟨ok2, ok3, ok4.bare, trivial⟩ (lkT_good h).2.1 (lkT_good h).2.2 (by simp only [Fo.size]; omega)).1
      have HOF := Lib.hid (fun (W : World) (h1 : Laid W) (h2 : IsPool W w.heap.size pa w.heap.size vv q) (h3 : IsK W (Safe W w.heap.size) (.slice av2 kd.len cv2) kd) => pof HBG.out h1 h2 h3 ok1 ok2 ok3 ok4 hroom)
      have HRO := Lib.hid (fun (W : World) (h2 : IsRef W w.heap.size ra rl rs rd q) (h3 : IsK W (Safe W w.heap.size) (.slice av2 kd.len cv2) kd) => rof h2 h3 ok1 ok2 ok3 ok4 hroom)
      have HSZ : Hid ((ofP n' kd q).2.2.length + rr.size ≤ fo.size) := Lib.hid (by
        rcases hgood with ⟨_, h⟩ | ⟨_, _, h3, _, _, e, h6, h7⟩
        · rw [h]; simp only; omega
        · rw [h3, h6]
          simp only [Fo.size] at h7
          simp; omega)
      have HPN : Hid (plF (ofP n' kd q).2.2 rr = plF [] fo) := Lib.hid HPLF.out
      clear HPLF
      have HAT := Lib.hid hat2
      have HKW := Lib.hid hk'
      have HOKR := Lib.hid ok5
      clear hgood hroom hat hat' hat2 hk' ok1 ok2 ok3 ok4 ok5
      generalize ofP n' kd q = oq at *
      obtain ⟨o1, o2, q2⟩ := oq
      have hoo : (o1 != o1) = false := by simp
      have hee : (o2 != o2) = false := by simp
      obtain ⟨k1, f1, t1, n1, s1, y1, z1⟩ := n'
      simp only [treeA] at *
      have e0 := bcellAt HBR.out c0
      have e1 := bcellAt HBR.out c1
      have e2 := bcellAt HBR.out c2
      have e3 := bcellAt HBR.out c3
      have e4 := bcellAt HBR.out c4
      have e5 := bcellAt HBR.out c5
      have hi0 : (0 : Int) ≤ (i : Int) := by omega
      have hi1 : (i : Int) < (fo.len : Int) := by omega
      have hkl := (HKW.out.below HBR.out).keep (G' := Safe wr w.heap.size) (fun b hb _ => ⟨.inl hb, rfl⟩)
      have HKL := Lib.hid hkl
      clear hkl
      go_wp2_with fail
      refine (HOF.out wr (HL.out.below HBR.out) HP.out HKL.out).mono ?_
      rintro e w6 ⟨rfl, g6⟩
      have HQ6 := Lib.hid (IsRef.grew HP.out HQ.out g6)
      obtain ⟨u6, _, v6, p6, _⟩ := g6
      have HA6 := Lib.hid (HBR.out.trans u6)
      have HP6 := Lib.hid p6
      have hkl := (HKW.out.below HA6.out).keep (G' := Safe w6 w.heap.size) (fun b hb _ => ⟨.inl hb, rfl⟩)
      have HKL6 := Lib.hid hkl
      clear u6 p6 hkl e0 e1 e2 e3 e4 e5
      have e0 := bcellAt HA6.out c0
      have e1 := bcellAt HA6.out c1
      have e2 := bcellAt HA6.out c2
      have e3 := bcellAt HA6.out c3
      have e4 := bcellAt HA6.out c4
      have e5 := bcellAt HA6.out c5
      go_wp2_with fail
      refine (HRO.out w6 HQ6.out HKL6.out).mono ?_
      rintro e w7 ⟨rfl, x1, x2, x3, r7, m7⟩
      have HP7 := Lib.hid (IsPool.rmost HP6.out m7)
      have HA7 := Lib.hid (HA6.out.trans m7.1)
      have HQ7 := Lib.hid r7
      clear m7 r7 e0 e1 e2 e3 e4 e5 c0 c1 c2 c3 c4 c5
      go_wp2_with fail
      refine (num_any o2 w7).mono ?_
      rintro e w8 ⟨rfl, rfl⟩
      go_wp2_with fail
      go_roundw
      case rel => exact ⟨i + 1, rr, _, _, _, _, q2, by go_num, by omega, HSZ.out, HOKR.out, fun _ => ⟨b, o, rfl, hbw, by rw [show o + (i + 1) * 6 = o + i * 6 + 6 by omega]; exact HAT.out⟩, HA7.out, HP7.out, HQ7.out, HPN.out⟩
      case measure => simp [intOf]; omega
    · obtain rfl := fo_nil (show r.len = 0 by omega)
      simp only [Fo.len, Nat.add_zero] at hi
      subst hi
      clear hat hlt
      go_wp2_with fail
      go_returns
      exact ⟨pa, w.heap.size, ra, vv, rl, rs, rd, q, rfl, HP.out, HQ.out, HBR.out, by simp only [Fo.size] at hqs; omega, HPLF.out⟩
end Go.Proofs.YtgaklaajbepfaaaGreatDoor
namespace Go.Proofs.YtgaklaajbepfaaaGreatDoor
open Go.RowKit Go.Maps
set_option linter.unusedVariables false

def twoK (k : Int) : Bool := k == 8 || k == 9
def tellK (who f t : Int) : Bool := who == f || (who == t || who == 2)
theorem rtwo_any (k : Int) (w : World) : Calls Tryz.prog 68 #[.int .i64 k] w fun e w' => e = .returned (.bool (twoK k)) ∧ w = w' := by
  unfold twoK
  cases h1 : (k == (8 : Int)) with
  | true =>
    go_enter Tryz.func68, Tryz.ntmps68
    go_wp2_with fail
    go_returns
    exact ⟨rfl, rfl⟩
  | false =>
    cases h2 : (k == (9 : Int)) with
    | true =>
      go_enter Tryz.func68, Tryz.ntmps68
      go_wp2_with fail
      go_returns
      exact ⟨rfl, rfl⟩
    | false =>
      go_enter Tryz.func68, Tryz.ntmps68
      go_wp2_with fail
      go_returns
      exact ⟨rfl, rfl⟩
theorem rtellsk_any (who f t : Int) (w : World) : Calls Tryz.prog 69 #[.int .i64 who, .int .i64 f, .int .i64 t] w fun e w' => e = .returned (.bool (tellK who f t)) ∧ w = w' := by
  unfold tellK
  cases h1 : (who == f) with
  | true =>
    go_enter Tryz.func69, Tryz.ntmps69
    go_wp2_with fail
    go_returns
    exact ⟨rfl, rfl⟩
  | false =>
    cases h2 : (who == t) with
    | true =>
      go_enter Tryz.func69, Tryz.ntmps69
      go_wp2_with fail
      go_returns
      exact ⟨rfl, rfl⟩
    | false =>
      cases h3 : (who == (2 : Int)) with
      | true =>
        go_enter Tryz.func69, Tryz.ntmps69
        go_wp2_with fail
        go_returns
        exact ⟨rfl, rfl⟩
      | false =>
        go_enter Tryz.func69, Tryz.ntmps69
        go_wp2_with fail
        go_returns
        exact ⟨rfl, rfl⟩
def nameK (n : Int) : Bool := decide (0 ≤ n) && decide (n < 16)
theorem rname_any (n : Int) (w : World) : Calls Tryz.prog 26 #[.int .i64 n] w fun e w' => e = .returned (.bool (nameK n)) ∧ w = w' := by
  unfold nameK
  by_cases h1 : 0 ≤ n
  · by_cases h2 : n < 16
    · rw [decide_eq_true h1, decide_eq_true h2]
      go_enter Tryz.func26, Tryz.ntmps26
      go_wp2_with fail
      go_returns
      exact ⟨rfl, rfl⟩
    · rw [decide_eq_true h1, decide_eq_false h2]
      go_enter Tryz.func26, Tryz.ntmps26
      go_wp2_with fail
      go_returns
      exact ⟨rfl, rfl⟩
  · rw [decide_eq_false h1]
    go_enter Tryz.func26, Tryz.ntmps26
    go_wp2_with fail
    go_returns
    exact ⟨rfl, rfl⟩
end Go.Proofs.YtgaklaajbepfaaaGreatDoor
namespace Go.Proofs.YtgaklaajbepfaaaGreatDoor
set_option linter.unusedVariables false

def mapF (g : Nd → Nd) : Fo → Fo
  | .nil => .nil
  | .cons n k r => .cons (g n) (mapF g k) (mapF g r)
theorem mapF_len (g : Nd → Nd) : ∀ f : Fo, (mapF g f).len = f.len
  | .nil => rfl
  | .cons n k r => by simp only [mapF, Fo.len, mapF_len g r]
theorem mapF_size (g : Nd → Nd) : ∀ f : Fo, (mapF g f).size = f.size
  | .nil => rfl
  | .cons n k r => by simp only [mapF, Fo.size, mapF_size g k, mapF_size g r]
end Go.Proofs.YtgaklaajbepfaaaGreatDoor
namespace Go.Proofs.YtgaklaajbepfaaaGreatDoor
open Go.RowKit Go.Maps
set_option linter.unusedVariables false

/-- What View makes of a kind. -/
def seeTK (who k f t : Int) : Int := if (k == 9 && !tellK who f t) = true then 8 else k
def vtT (who : Int) (n : Nd) : Nd := ⟨seeTK who n.kind n.frm n.to, n.frm, n.to, n.num, n.text, n.a, n.b⟩
def vtP (who : Int) (x : Nd × Fo) : Nd × Fo := (vtT who x.1, mapF (vtT who) x.2)
theorem foOf_map_vt (who : Int) : ∀ l : List (Nd × Fo), mapF (vtT who) (foOf l) = foOf (l.map (vtP who))
  | [] => rfl
  | x :: l => by simp only [foOf, mapF, List.map_cons, vtP, foOf_map_vt who l]
def vtPost (w : World) (who : Int) (n : Nd) (k : Fo) (e : Ending) (w' : World) : Prop := ∃ v, e = .returned (.agg (treeA (vtT who n) v)) ∧ IsK w' (NewT w w') v (mapF (vtT who) k) ∧ Below w.heap.size w w'
def vtC (who : Int) (N : Nat) (n : Nd) (k : Fo) : Prop := ∀ (w : World) (v : Value), IsK w (fun b => b < N) v k → N ≤ w.heap.size → k.size ≤ 6000 → Calls Tryz.prog 31 #[.int .i64 who, .agg (treeA n v)] w (vtPost w who n k)
set_option maxRecDepth 100000 in
set_option maxHeartbeats 25600000 in
theorem vt_step {who : Int} {N : Nat} (n : Nd) (k : Fo) (ih : AllF (vtC who N) k) : vtC who N n k := by
  intro w v hk hN hsz
  obtain ⟨i0, hi0, hz0, hz1, hz2⟩ := info_parts rowTree
  obtain ⟨av, cv, rfl, hx⟩ := hk.shape
  have hlk := k.len_le
  obtain ⟨kk, ff, tt, uu, ss, xa, xb⟩ := n
  have b1 := bZ w (.cells #[.int .i64 kk, .int .i64 ff, .int .i64 tt, .int .u64 uu, .string ss, .slice av k.len cv] TrT)
  have b2 := bZ (w.alloc (.cells #[.int .i64 kk, .int .i64 ff, .int .i64 tt, .int .u64 uu, .string ss, .slice av k.len cv] TrT)) (.cells #[.int .i64 0, .int .i64 0, .int .i64 0, .int .u64 0, .string ⟨#[]⟩, .slice none 0 0] TrT)
  have b3 := bZ ((w.alloc (.cells #[.int .i64 kk, .int .i64 ff, .int .i64 tt, .int .u64 uu, .string ss, .slice av k.len cv] TrT)).alloc (.cells #[.int .i64 0, .int .i64 0, .int .i64 0, .int .u64 0, .string ⟨#[]⟩, .slice none 0 0] TrT)) (.cells #[.int .i64 kk, .int .i64 ff, .int .i64 tt, .int .u64 uu, .string ss, .slice none 0 0] TrT)
  have b12 := b1.trans (b2.mono b1.size)
  have b123 := b12.trans (b3.mono b12.size)
  have h1 : (((w.alloc (.cells #[.int .i64 kk, .int .i64 ff, .int .i64 tt, .int .u64 uu, .string ss, .slice av k.len cv] TrT)).alloc (.cells #[.int .i64 0, .int .i64 0, .int .i64 0, .int .u64 0, .string ⟨#[]⟩, .slice none 0 0] TrT)).alloc (.cells #[.int .i64 kk, .int .i64 ff, .int .i64 tt, .int .u64 uu, .string ss, .slice none 0 0] TrT)).heap[w.heap.size]? = some (Obj.cells #[.int .i64 kk, .int .i64 ff, .int .i64 tt, .int .u64 uu, .string ss, .slice av k.len cv] TrT) := Hold.below b3 _ _ (Hold.below b2 _ _ (heap_alloc_new _ _))
  have h2 : (((w.alloc (.cells #[.int .i64 kk, .int .i64 ff, .int .i64 tt, .int .u64 uu, .string ss, .slice av k.len cv] TrT)).alloc (.cells #[.int .i64 0, .int .i64 0, .int .i64 0, .int .u64 0, .string ⟨#[]⟩, .slice none 0 0] TrT)).alloc (.cells #[.int .i64 kk, .int .i64 ff, .int .i64 tt, .int .u64 uu, .string ss, .slice none 0 0] TrT)).heap[w.heap.size + 1]? = some (Obj.cells #[.int .i64 0, .int .i64 0, .int .i64 0, .int .u64 0, .string ⟨#[]⟩, .slice none 0 0] TrT) := by
    have e : w.heap.size + 1 = (w.alloc (.cells #[.int .i64 kk, .int .i64 ff, .int .i64 tt, .int .u64 uu, .string ss, .slice av k.len cv] TrT)).heap.size := by simp
    rw [e]; exact Hold.below b3 _ _ (heap_alloc_new _ _)
  have h3 : (((w.alloc (.cells #[.int .i64 kk, .int .i64 ff, .int .i64 tt, .int .u64 uu, .string ss, .slice av k.len cv] TrT)).alloc (.cells #[.int .i64 0, .int .i64 0, .int .i64 0, .int .u64 0, .string ⟨#[]⟩, .slice none 0 0] TrT)).alloc (.cells #[.int .i64 kk, .int .i64 ff, .int .i64 tt, .int .u64 uu, .string ss, .slice none 0 0] TrT)).heap[w.heap.size + 2]? = some (Obj.cells #[.int .i64 kk, .int .i64 ff, .int .i64 tt, .int .u64 uu, .string ss, .slice none 0 0] TrT) := by
    have e : w.heap.size + 2 = ((w.alloc (.cells #[.int .i64 kk, .int .i64 ff, .int .i64 tt, .int .u64 uu, .string ss, .slice av k.len cv] TrT)).alloc (.cells #[.int .i64 0, .int .i64 0, .int .i64 0, .int .u64 0, .string ⟨#[]⟩, .slice none 0 0] TrT)).heap.size := by simp
    rw [e]; exact heap_alloc_new _ _
  have HX := Lib.hid hx
  have HS : Hid ((((w.alloc (.cells #[.int .i64 kk, .int .i64 ff, .int .i64 tt, .int .u64 uu, .string ss, .slice av k.len cv] TrT)).alloc (.cells #[.int .i64 0, .int .i64 0, .int .i64 0, .int .u64 0, .string ⟨#[]⟩, .slice none 0 0] TrT)).alloc (.cells #[.int .i64 kk, .int .i64 ff, .int .i64 tt, .int .u64 uu, .string ss, .slice none 0 0] TrT)).heap.size = w.heap.size + 3) := Lib.hid (by simp)
  have HI := Lib.hid ih
  have HB1 := Lib.hid h1
  have HB2 := Lib.hid h2
  have HB3 := Lib.hid h3
  have HA := Lib.hid b123
  clear hk hx ih b1 b2 b3 b12 b123 h1 h2 h3
  simp only [treeA] at *
  go_enter Tryz.func31, Tryz.ntmps31
  go_upto_region 3 with fail
  generalize (((w.alloc (.cells #[.int .i64 kk, .int .i64 ff, .int .i64 tt, .int .u64 uu, .string ss, .slice av k.len cv] TrT)).alloc (.cells #[.int .i64 0, .int .i64 0, .int .i64 0, .int .u64 0, .string ⟨#[]⟩, .slice none 0 0] TrT)).alloc (.cells #[.int .i64 kk, .int .i64 ff, .int .i64 tt, .int .u64 uu, .string ss, .slice none 0 0] TrT)) = W at *
  have p0 : W.cell? ⟨w.heap.size + 2, 0, none⟩ = some (.int .i64 kk) := cellB (j := 0) HB3.out rfl
  have p1 : W.cell? ⟨w.heap.size, 1, none⟩ = some (.int .i64 ff) := cellB (j := 1) HB1.out rfl
  have p2 : W.cell? ⟨w.heap.size, 2, none⟩ = some (.int .i64 tt) := cellB (j := 2) HB1.out rfl
  have p3 : W.frozen? ⟨w.heap.size + 2, 0, none⟩ = false := frozenB (j := 0) HB3.out
  go_cut [20] (fun s wx => W = wx ∧ s = .bool (kk == 9 && !tellK who ff tt))
  case first =>
    by_cases h9 : kk = 9
    · have e9 : (kk == (9 : Int)) = true := by rw [h9]; rfl
      have RT := rtellsk_any who ff tt W
      clear h9
      generalize tellK who ff tt = tk9 at *
      go_wp2_with fail
      refine RT.mono ?_
      rintro e V ⟨rfl, rfl⟩
      go_wp2_with fail
      go_meet
      exact ⟨by trivial, by rw [e9]; rfl⟩
    · have e9 : (kk == (9 : Int)) = false := by simpa using h9
      clear h9
      go_wp2_with fail
      go_meet
      exact ⟨by trivial, by rw [e9]; rfl⟩
  case rest =>
  obtain ⟨rfl, rfl⟩ := hcut
  have HZC : Hid (seeTK who kk ff tt = if (kk == 9 && !tellK who ff tt) = true then 8 else kk) := Lib.hid rfl
  generalize (kk == 9 && !tellK who ff tt) = cz at *
  go_upto_if 20 with fail
  go_cut [] (fun wx => wx.heap[w.heap.size]? = some (Obj.cells #[.int .i64 kk, .int .i64 ff, .int .i64 tt, .int .u64 uu, .string ss, .slice av k.len cv] TrT) ∧ wx.heap[w.heap.size + 1]? = some (Obj.cells #[.int .i64 0, .int .i64 0, .int .i64 0, .int .u64 0, .string ⟨#[]⟩, .slice none 0 0] TrT) ∧ wx.heap[w.heap.size + 2]? = some (Obj.cells #[.int .i64 (seeTK who kk ff tt), .int .i64 ff, .int .i64 tt, .int .u64 uu, .string ss, .slice none 0 0] TrT) ∧ Below w.heap.size w wx ∧ wx.heap.size = w.heap.size + 3)
  case first =>
    have HQ : Hid (∀ u : Value, (W.setCell ⟨w.heap.size + 2, 0, none⟩ u).heap[w.heap.size]? = some (Obj.cells #[.int .i64 kk, .int .i64 ff, .int .i64 tt, .int .u64 uu, .string ss, .slice av k.len cv] TrT) ∧ (W.setCell ⟨w.heap.size + 2, 0, none⟩ u).heap[w.heap.size + 1]? = some (Obj.cells #[.int .i64 0, .int .i64 0, .int .i64 0, .int .u64 0, .string ⟨#[]⟩, .slice none 0 0] TrT) ∧ Below w.heap.size w (W.setCell ⟨w.heap.size + 2, 0, none⟩ u) ∧ (W.setCell ⟨w.heap.size + 2, 0, none⟩ u).heap.size = w.heap.size + 3) := Lib.hid fun u => ⟨((grownBy_set W (w.heap.size + 2) 0 u).block w.heap.size (Array.getElem?_eq_some_iff.1 HB1.out).1 (fun e => by have := Option.some.inj e; omega)).trans HB1.out, ((grownBy_set W (w.heap.size + 2) 0 u).block (w.heap.size + 1) (Array.getElem?_eq_some_iff.1 HB2.out).1 (fun e => by have := Option.some.inj e; omega)).trans HB2.out, HA.out.setCell (p := ⟨w.heap.size + 2, 0, none⟩) (by simp) u, by simpa [World.setCell] using HS.out⟩
    cases cz with
    | true =>
      go_wp2_with fail
      go_meet
      exact ⟨(HQ.out _).1, (HQ.out _).2.1, by rw [HZC.out]; exact setCellB (j := 0) HB3.out, (HQ.out _).2.2.1, (HQ.out _).2.2.2⟩
    | false =>
      go_wp2_with fail
      go_meet
      exact ⟨HB1.out, HB2.out, by rw [HZC.out]; exact HB3.out, HA.out, HS.out⟩
  case rest =>
    obtain ⟨hb1', hb2', hb3', hbA, hbS⟩ := hcut
    clear HB1 HB2 HB3 HA HS p0 p1 p2 p3
    have HB1 := Lib.hid hb1'
    have HB2 := Lib.hid hb2'
    have HB3 := Lib.hid hb3'
    have HA := Lib.hid hbA
    have HS := Lib.hid hbS
    clear hb1' hb2' hb3' hbA hbS
    obtain ⟨kz, hkz⟩ : ∃ kz, kz = seeTK who kk ff tt := ⟨_, rfl⟩
    rw [← hkz] at HB3
    have HKZ := Lib.hid hkz
    clear hkz
    go_wp2_with fail
    go_loopw [6] (fun vi wr => ∃ (i : Nat) (r : Fo) (done : List (Nd × Fo)) (ya : Option Addr) (yc : Nat) (xs : List Value), vi = .int .i64 (i : Int) ∧ i + r.len = k.len ∧ done.length = i ∧ k = foApp done r ∧ AllF (vtC who N) r ∧ (0 < r.len → ∃ b o, av = some ⟨b, o, none⟩ ∧ b < N ∧ AtF w (fun b => b < N) r b (o + i * 6)) ∧ wr.heap[w.heap.size]? = some (Obj.cells #[.int .i64 kk, .int .i64 ff, .int .i64 tt, .int .u64 uu, .string ss, .slice av k.len cv] TrT) ∧ wr.heap[w.heap.size + 1]? = some (Obj.cells #[.int .i64 0, .int .i64 0, .int .i64 0, .int .u64 0, .string ⟨#[]⟩, .slice none 0 0] TrT) ∧ wr.heap[w.heap.size + 2]? = some (Obj.cells #[.int .i64 kz, .int .i64 ff, .int .i64 tt, .int .u64 uu, .string ss, .slice ya i yc] TrT) ∧ wr.ownsRow (w.heap.size + 3) TrT 6 (.slice ya i yc) i xs ∧ RowF wr (ButT (w.heap.size + 3) (Value.slice ya i yc).ownBlock wr) (done.map (vtP who)) xs ∧ Below w.heap.size w wr ∧ w.heap.size + 3 ≤ wr.heap.size) (fun v _ => k.len - (intOf v).toNat)
    case atStart => exact ⟨0, k, [], none, 0, [], rfl, by omega, rfl, rfl, HI.out, fun hp => by obtain ⟨b, o, q1, q2, q3⟩ := HX.out hp; exact ⟨b, o, q1, q2, by simpa using q3⟩, HB1.out, HB2.out, HB3.out, World.ownsRow_nil _ _ _ 6, rfl, HA.out, by rw [HS.out]; exact Nat.le_refl _⟩
    case round =>
      obtain ⟨i, r, done, ya, yc, xs, rfl, hi, hdl, hka, hall, hat, hb1, hb2, hb3, hown, hrow, hbr, hsz3⟩ := hrel
      have HBR := Lib.hid hbr
      have HBX := Lib.hid hb1
      have HBY := Lib.hid hb2
      have HBZ := Lib.hid hb3
      have HOWN := Lib.hid hown
      have HROW := Lib.hid hrow
      have HSZ3 := Lib.hid hsz3
      clear hown hrow HX HI
      by_cases hlt : 0 < r.len
      · obtain ⟨n', kd, rr, rfl⟩ := fo_pos hlt
        simp only [Fo.len] at hi
        obtain ⟨b, o, rfl, hbN, hat'⟩ := hat hlt
        obtain ⟨c0, c1, c2, c3, c4, v', c5, hk', hat2⟩ := hat'.cons
        obtain ⟨av2, cv2, rfl, _⟩ := hk'.shape
        have hbw : b < w.heap.size := Nat.lt_of_lt_of_le hbN hN
        have hkr := (hk'.below HBR.out).below (bd wr)
        have hkd : kd.size ≤ 6000 := by
          have h1 := foApp_size done (.cons n' kd rr)
          rw [← hka] at h1
          simp only [Fo.size] at h1
          omega
        have HK := Lib.hid (hall.1 wr.drew (.slice av2 kd.len cv2) hkr (Nat.le_trans hN (HBR.out.size)) hkd)
        have hilt : i < 6000 := by omega
        have HALL := Lib.hid hall.2
        have HAT := Lib.hid hat2
        have HKA := Lib.hid (show k = foApp (done ++ [(n', kd)]) rr by rw [foApp_snoc]; exact hka)
        have e0 := bcellAt HBR.out c0
        have e1 := bcellAt HBR.out c1
        have e2 := bcellAt HBR.out c2
        have e3 := bcellAt HBR.out c3
        have e4 := bcellAt HBR.out c4
        have e5 := bcellAt HBR.out c5
        clear hall hat2 hat hat' hk' hkr hkd hka c0 c1 c2 c3 c4 c5 hbr
        obtain ⟨k2, f2, t2, u2, s2, y2, z2⟩ := n'
        simp only [treeA] at *
        have x5 := cellB (j := 5) hb1 rfl
        have y5 := cellB (j := 5) hb3 rfl
        clear hb1 hb2 hb3
        have hi0' : (0 : Int) ≤ (i : Int) := by omega
        have hi1 : (i : Int) < (k.len : Int) := by omega
        go_wp2_with fail
        have hfk : ∀ V : World, (∀ (b o : Nat) (u : Value), wr.cell? ⟨b, o, none⟩ = some u → b < w.heap.size ∨ b = w.heap.size ∨ b = w.heap.size + 2 → V.cell? ⟨b, o, none⟩ = some u) → V.cell? ⟨w.heap.size + 2, 5, none⟩ = some (.slice ya i yc) ∧ V.cell? ⟨w.heap.size, 5, none⟩ = some (.slice (some ⟨b, o, none⟩) k.len cv) ∧ V.cell? ⟨b, o + i * 6, none⟩ = some (.int .i64 k2) ∧ V.cell? ⟨b, o + i * 6 + 1, none⟩ = some (.int .i64 f2) ∧ V.cell? ⟨b, o + i * 6 + 2, none⟩ = some (.int .i64 t2) ∧ V.cell? ⟨b, o + i * 6 + 3, none⟩ = some (.int .u64 u2) ∧ V.cell? ⟨b, o + i * 6 + 4, none⟩ = some (.string s2) ∧ V.cell? ⟨b, o + i * 6 + 5, none⟩ = some (.slice av2 kd.len cv2) := fun V hV => ⟨hV _ _ _ y5 (by omega), hV _ _ _ x5 (by omega), hV _ _ _ e0 (by omega), hV _ _ _ e1 (by omega), hV _ _ _ e2 (by omega), hV _ _ _ e3 (by omega), hV _ _ _ e4 (by omega), hV _ _ _ e5 (by omega)⟩
        have HFK := Lib.hid hfk
        have hF0 := HFK.out wr.drew (fun b o u h _ => bcellAt (bd wr) h)
        clear hfk e0 e1 e2 e3 e4 e5 x5 y5
        refine lexg_start [0, 1, 2, 3, 4, 5, 6, 7, 8, 9, 10, 11, 12] 12 (F := fun W => W.cell? ⟨w.heap.size + 2, 5, none⟩ = some (.slice ya i yc) ∧ W.cell? ⟨w.heap.size, 5, none⟩ = some (.slice (some ⟨b, o, none⟩) k.len cv) ∧ W.cell? ⟨b, o + i * 6, none⟩ = some (.int .i64 k2) ∧ W.cell? ⟨b, o + i * 6 + 1, none⟩ = some (.int .i64 f2) ∧ W.cell? ⟨b, o + i * 6 + 2, none⟩ = some (.int .i64 t2) ∧ W.cell? ⟨b, o + i * 6 + 3, none⟩ = some (.int .u64 u2) ∧ W.cell? ⟨b, o + i * 6 + 4, none⟩ = some (.string s2) ∧ W.cell? ⟨b, o + i * 6 + 5, none⟩ = some (.slice av2 kd.len cv2)) (by kernel_rfl) ?_
        simp only [inOrder, List.filterMap, List.getElem?_cons_succ, List.getElem?_cons_zero]
        refine lexg_take (i := 0) (v := ?_) rfl (by decide) (by kernel_rfl) (by kernel_rfl) (by kernel_rfl) (by kernel_rfl) (by rfl) hF0 ?_ ?_
        rotate_left
        · ((intro W hW; obtain ⟨k0, k1, k3, k4, k5, k6, k7, k8⟩ := hW; go_simp) <;> with_reducible rfl)
        simp only [Act.put, List.setIfInBounds_toArray, List.set_cons_zero, List.set_cons_succ]
        refine lexg_take (i := 1) (v := ?_) rfl (by decide) (by kernel_rfl) (by kernel_rfl) (by kernel_rfl) (by kernel_rfl) (by rfl) hF0 ?_ ?_
        rotate_left
        · ((intro W hW; obtain ⟨k0, k1, k3, k4, k5, k6, k7, k8⟩ := hW; go_simp) <;> with_reducible rfl)
        simp only [Act.put, List.setIfInBounds_toArray, List.set_cons_zero, List.set_cons_succ]
        refine lexg_take (i := 2) (v := ?_) rfl (by decide) (by kernel_rfl) (by kernel_rfl) (by kernel_rfl) (by kernel_rfl) (by rfl) hF0 ?_ ?_
        rotate_left
        · ((intro W hW; obtain ⟨k0, k1, k3, k4, k5, k6, k7, k8⟩ := hW; go_simp) <;> with_reducible rfl)
        simp only [Act.put, List.setIfInBounds_toArray, List.set_cons_zero, List.set_cons_succ]
        refine lexg_take (i := 3) (v := ?_) rfl (by decide) (by kernel_rfl) (by kernel_rfl) (by kernel_rfl) (by kernel_rfl) (by rfl) hF0 ?_ ?_
        rotate_left
        · ((intro W hW; obtain ⟨k0, k1, k3, k4, k5, k6, k7, k8⟩ := hW; go_simp) <;> with_reducible rfl)
        simp only [Act.put, List.setIfInBounds_toArray, List.set_cons_zero, List.set_cons_succ]
        refine lexg_take (i := 4) (v := ?_) rfl (by decide) (by kernel_rfl) (by kernel_rfl) (by kernel_rfl) (by kernel_rfl) (by rfl) hF0 ?_ ?_
        rotate_left
        · ((intro W hW; obtain ⟨k0, k1, k3, k4, k5, k6, k7, k8⟩ := hW; go_simp) <;> with_reducible rfl)
        simp only [Act.put, List.setIfInBounds_toArray, List.set_cons_zero, List.set_cons_succ]
        refine lexg_take (i := 5) (v := ?_) rfl (by decide) (by kernel_rfl) (by kernel_rfl) (by kernel_rfl) (by kernel_rfl) (by rfl) hF0 ?_ ?_
        rotate_left
        · ((intro W hW; obtain ⟨k0, k1, k3, k4, k5, k6, k7, k8⟩ := hW; go_simp) <;> with_reducible rfl)
        simp only [Act.put, List.setIfInBounds_toArray, List.set_cons_zero, List.set_cons_succ]
        refine lexg_take (i := 6) (v := ?_) rfl (by decide) (by kernel_rfl) (by kernel_rfl) (by kernel_rfl) (by kernel_rfl) (by rfl) hF0 ?_ ?_
        rotate_left
        · ((intro W hW; obtain ⟨k0, k1, k3, k4, k5, k6, k7, k8⟩ := hW; go_simp) <;> with_reducible rfl)
        simp only [Act.put, List.setIfInBounds_toArray, List.set_cons_zero, List.set_cons_succ]
        refine lexg_take (i := 7) (v := ?_) rfl (by decide) (by kernel_rfl) (by kernel_rfl) (by kernel_rfl) (by kernel_rfl) (by rfl) hF0 ?_ ?_
        rotate_left
        · ((intro W hW; obtain ⟨k0, k1, k3, k4, k5, k6, k7, k8⟩ := hW; go_simp) <;> with_reducible rfl)
        simp only [Act.put, List.setIfInBounds_toArray, List.set_cons_zero, List.set_cons_succ]
        refine lexg_call (i := 8) rfl (by kernel_rfl) (by rfl) ?_ _ HK.out ?_
        · go_simp
        rintro e w1 ⟨v1, rfl, hv1, u1⟩
        obtain ⟨va, vc, hva, _⟩ := hv1.shape
        rw [mapF_len] at hva
        subst hva
        have bA := bmore (bd wr) u1
        refine ⟨_, rfl, fun _ => HFK.out w1 (fun b o u h _ => bcellAt bA h), ?_⟩
        simp only [treeA, vtT, Act.put, List.setIfInBounds_toArray, List.set_cons_zero, List.set_cons_succ]
        have hszA := bA.size
        refine lexg_do (i := 9) rfl (by kernel_rfl) (by rfl) (fun K hK => ?_)
        go_simp
        have bC := bZ w1 (.cells #[.int .i64 (seeTK who k2 f2 t2), .int .i64 f2, .int .i64 t2, .int .u64 u2, .string s2, .slice va kd.len vc] 62)
        have bAC := bmore bA bC
        have hownC := own_hold HOWN.out (Hold.below bAC)
        have HBAC := Lib.hid bAC
        have HV1 := Lib.hid hv1
        have HBC := Lib.hid bC
        have HBA := Lib.hid bA
        refine hK _ _ ⟨fun _ => HFK.out _ (fun b o u h _ => bcellAt bAC h), ?_⟩
        clear hK K
        refine lexg_do (i := 10) rfl (by kernel_rfl) (by rfl) (fun K hK => ?_)
        refine wp_append_at _ _ _ 22 rfl (w.heap.size + 3) TrT i0 (.agg #[.int .i64 0, .int .i64 0, .int .i64 0, .int .u64 0, .string ⟨#[]⟩, .slice none 0 0]) 6 72 Tryz.underlying22 hi0 hz0 hz1 hz2 rfl (by decide) (.slice ya i yc) i xs rfl hownC ⟨w1.heap.size, 0, none⟩ 1 1 [.int .i64 (seeTK who k2 f2 t2), .int .i64 f2, .int .i64 t2, .int .u64 u2, .string s2, .slice va kd.len vc] rfl (by decide) rfl (news6 w1 _ _ _ _ _ _ _) (by simp [Value.oneCell']) (by unfold maxLen; omega) (by omega) (by have := HSZ3.out; have := bC.size; omega) ?_
        intro v3 w3 hown3 hg3 hp3
        obtain ⟨za, zc, rfl⟩ := (row_of_own hown3).shape
        have hyo : ∀ g, (Value.slice ya i yc).ownBlock = some g → w.heap.size + 3 ≤ g ∧ g < wr.heap.size := fun g e => by
          obtain ⟨hB, cur, hc⟩ := own_type HOWN.out e
          exact ⟨hB, (Array.getElem?_eq_some_iff.1 hc).1⟩
        have hkb : ∀ (b : Nat) (u : Obj), wr.heap[b]? = some u → (Value.slice ya i yc).ownBlock ≠ some b → w3.heap[b]? = some u := fun b u h hn => by
          have hl := (Array.getElem?_eq_some_iff.1 h).1
          rw [hg3.block b (Nat.lt_of_lt_of_le hl HBAC.out.size) (fun e => hn e.symm), HBAC.out.block b hl]; exact h
        have hkb1 : ∀ (b : Nat) (u : Obj), w1.heap[b]? = some u → wr.heap.size ≤ b → w3.heap[b]? = some u := fun b u h hn => by
          have hl := (Array.getElem?_eq_some_iff.1 h).1
          rw [hg3.block b (Nat.lt_of_lt_of_le hl HBC.out.size) (fun e => by have := (hyo b e.symm).2; omega), HBC.out.block b hl]; exact h
        have hz3 := hkb _ _ HBZ.out (fun e => by have := (hyo _ e).1; omega)
        have hF3 := HFK.out w3 (fun b o u h hb => by
          have hl := World.block_lt_of_cell? wr _ h
          rw [cell_of_heap (show w3.heap[b]? = wr.heap[b]? from by
            rw [hg3.block b (Nat.lt_of_lt_of_le hl HBAC.out.size) (fun e => by have := (hyo _ e.symm).1; omega), HBAC.out.block b hl])]
          exact h)
        have HKB := Lib.hid hkb
        have HKB1 := Lib.hid hkb1
        have HYO := Lib.hid hyo
        have HG3 := Lib.hid hg3
        have HP3 := Lib.hid hp3
        have HOWN3 := Lib.hid hown3
        have HZ3 := Lib.hid hz3
        clear hkb hkb1 hyo hg3 hp3 hown3 hownC bA bC bAC hv1 u1
        refine hK _ _ ⟨fun _ => hF3, ?_⟩
        clear hK K
        try simp only [Act.put, List.setIfInBounds_toArray, List.set_cons_zero, List.set_cons_succ]
        refine lexg_take (i := 11) (v := ?_) rfl (by decide) (by kernel_rfl) (by kernel_rfl) (by kernel_rfl) (by kernel_rfl) (by rfl) hF3 ?_ ?_
        rotate_left
        · ((intro W hW; obtain ⟨k0, k1, k3, k4, k5, k6, k7, k8⟩ := hW; go_simp) <;> with_reducible rfl)
        simp only [Act.put, List.setIfInBounds_toArray, List.set_cons_zero, List.set_cons_succ]
        have x5 := cellB (j := 5) hz3 rfl
        have f5 := frozenB (j := 5) hz3
        refine lexg_do (i := 12) rfl (by kernel_rfl) (by rfl) (fun K hK => ?_)
        go_simp
        have hz4 := setCellB (j := 5) (u := .slice za (i + 1) zc) hz3
        have HZ4 := Lib.hid hz4
        have HGS := Lib.hid (grownBy_set w3 (w.heap.size + 2) 5 (.slice za (i + 1) zc))
        refine hK _ _ ⟨fun h => absurd rfl h, ?_⟩
        clear hK K x5 f5 hF3 hF0 hz3 hz4
        refine lexg_done (by kernel_rfl) ?_
        generalize (w3.setCell ⟨w.heap.size + 2, 5, none⟩ (.slice za (i + 1) zc)) = w4 at *
        go_wp2_with fail
        have hyo3 : ∀ g, (Value.slice za (i + 1) zc).ownBlock = some g → w.heap.size + 3 ≤ g := fun g e => (own_type HOWN3.out e).1
        have h34 : ∀ (b : Nat) (u : Obj), w3.heap[b]? = some u → b ≠ w.heap.size + 2 → w4.heap[b]? = some u := fun b u h hn => by
          rw [HGS.out.block b (Array.getElem?_eq_some_iff.1 h).1 (fun e => hn (by cases e; rfl))]; exact h
        have hb4 : Below w.heap.size w w4 := ((HBR.out.trans (HBAC.out.mono (by omega))).grown HG3.out (by have := HBAC.out.size; omega) (fun g e => by have := (HYO.out g e).1; omega)).grown HGS.out (by have := HG3.out.size; have := HBAC.out.size; omega) (fun g e => by cases e; omega)
        have hsz4 : w.heap.size + 3 ≤ w4.heap.size := by have := HG3.out.size; have := HBAC.out.size; have := HGS.out.size; have := HSZ3.out; omega
        have hrow4 : RowF w4 (ButT (w.heap.size + 3) (Value.slice za (i + 1) zc).ownBlock w4) (done.map (vtP who)) xs := HROW.out.keep (fun bb hg hl => by
          obtain ⟨q1, q2, cs, q3⟩ := hg
          have q4 := h34 _ _ (HKB.out _ _ q3 q2) (by omega)
          refine ⟨⟨q1, fun e => ?_, cs, q4⟩, by rw [q4, q3]⟩
          rcases HP3.out with h | h
          · exact q2 (h.symm.trans e)
          · rw [h] at e; cases e; have := HBAC.out.size; omega)
        have hkid4 : IsK w4 (ButT (w.heap.size + 3) (Value.slice za (i + 1) zc).ownBlock w4) (.slice va kd.len vc) (mapF (vtT who) kd) := HV1.out.keep (fun bb hg hl => by
          obtain ⟨q1, cs, q3⟩ := hg
          have q1' : wr.heap.size ≤ bb := q1
          have q4 := h34 _ _ (HKB1.out _ _ q3 q1') (by have := HSZ3.out; omega)
          refine ⟨⟨by have := HSZ3.out; omega, fun e => ?_, cs, q4⟩, by rw [q4, q3]⟩
          rcases HP3.out with h | h
          · have := (HYO.out bb (h.symm.trans e)).2; omega
          · rw [h] at e; cases e; have := HBC.out.size; omega)
        have hwa : w.heap.size < w3.heap.size ∧ w.heap.size + 1 < w3.heap.size := by have := HG3.out.size; have := HBAC.out.size; have := HSZ3.out; omega
        go_roundw
        case rel => exact ⟨i + 1, rr, done ++ [(⟨k2, f2, t2, u2, s2, y2, z2⟩, kd)], za, zc, _, by go_num, by omega, by simp [hdl], HKA.out, HALL.out, fun _ => ⟨b, o, rfl, hbN, by rw [show o + (i + 1) * 6 = o + i * 6 + 6 by omega]; exact HAT.out⟩, h34 _ _ (HKB.out _ _ HBX.out (fun e => by have := (HYO.out _ e).1; omega)) (by omega), h34 _ _ (HKB.out _ _ HBY.out (fun e => by have := (HYO.out _ e).1; omega)) (by omega), HZ4.out, own_kept HOWN3.out HGS.out (fun r e e' => by cases e; have := hyo3 _ e'; omega), by rw [List.map_append]; exact RowF.snoc (n := vtT who ⟨k2, f2, t2, u2, s2, y2, z2⟩) hkid4 hrow4, hb4, hsz4⟩
        case measure => simp [intOf]; omega
      · obtain rfl := fo_nil (show r.len = 0 by omega)
        simp only [Fo.len, Nat.add_zero] at hi
        rw [foApp_nil] at hka
        have hdk : done.length = k.len := by omega
        have HKA := Lib.hid hka
        have HDK := Lib.hid hdk
        subst hi
        clear hka hall hat hlt hdl hdk
        have x5 := cellB (j := 5) hb1 rfl
        have r0 := cellB (j := 0) hb2 rfl
        have q0 := frozenB (j := 0) hb2
        have r1 := cellB (j := 1) hb2 rfl
        have q1 := frozenB (j := 1) hb2
        have r2 := cellB (j := 2) hb2 rfl
        have q2 := frozenB (j := 2) hb2
        have r3 := cellB (j := 3) hb2 rfl
        have q3 := frozenB (j := 3) hb2
        have r4 := cellB (j := 4) hb2 rfl
        have q4 := frozenB (j := 4) hb2
        have r5 := cellB (j := 5) hb2 rfl
        have q5 := frozenB (j := 5) hb2
        have y0 := cellB (j := 0) hb3 rfl
        have y1 := cellB (j := 1) hb3 rfl
        have y2 := cellB (j := 2) hb3 rfl
        have y3 := cellB (j := 3) hb3 rfl
        have y4 := cellB (j := 4) hb3 rfl
        have y5 := cellB (j := 5) hb3 rfl
        have hb6 : Below w.heap.size w ((((((wr.setCell ⟨w.heap.size + 1, 0, none⟩ (.int .i64 kz)).setCell ⟨w.heap.size + 1, 1, none⟩ (.int .i64 ff)).setCell ⟨w.heap.size + 1, 2, none⟩ (.int .i64 tt)).setCell ⟨w.heap.size + 1, 3, none⟩ (.int .u64 uu)).setCell ⟨w.heap.size + 1, 4, none⟩ (.string ss)).setCell ⟨w.heap.size + 1, 5, none⟩ (.slice ya k.len yc)) := ((((((hbr.setCell (p := ⟨w.heap.size + 1, 0, none⟩) (Nat.le_succ _) _).setCell (p := ⟨w.heap.size + 1, 1, none⟩) (Nat.le_succ _) _).setCell (p := ⟨w.heap.size + 1, 2, none⟩) (Nat.le_succ _) _).setCell (p := ⟨w.heap.size + 1, 3, none⟩) (Nat.le_succ _) _).setCell (p := ⟨w.heap.size + 1, 4, none⟩) (Nat.le_succ _) _).setCell (p := ⟨w.heap.size + 1, 5, none⟩) (Nat.le_succ _) _)
        have h6 : ((((((wr.setCell ⟨w.heap.size + 1, 0, none⟩ (.int .i64 kz)).setCell ⟨w.heap.size + 1, 1, none⟩ (.int .i64 ff)).setCell ⟨w.heap.size + 1, 2, none⟩ (.int .i64 tt)).setCell ⟨w.heap.size + 1, 3, none⟩ (.int .u64 uu)).setCell ⟨w.heap.size + 1, 4, none⟩ (.string ss)).setCell ⟨w.heap.size + 1, 5, none⟩ (.slice ya k.len yc)).heap[w.heap.size + 1]? = some (Obj.cells #[.int .i64 kz, .int .i64 ff, .int .i64 tt, .int .u64 uu, .string ss, .slice ya k.len yc] TrT) := (setCellB (j := 5) (u := .slice ya k.len yc) (setCellB (j := 4) (u := .string ss) (setCellB (j := 3) (u := .int .u64 uu) (setCellB (j := 2) (u := .int .i64 tt) (setCellB (j := 1) (u := .int .i64 ff) (setCellB (j := 0) (u := .int .i64 kz) hb2))))))
        have hg36 : wr.grownBy ((((((wr.setCell ⟨w.heap.size + 1, 0, none⟩ (.int .i64 kz)).setCell ⟨w.heap.size + 1, 1, none⟩ (.int .i64 ff)).setCell ⟨w.heap.size + 1, 2, none⟩ (.int .i64 tt)).setCell ⟨w.heap.size + 1, 3, none⟩ (.int .u64 uu)).setCell ⟨w.heap.size + 1, 4, none⟩ (.string ss)).setCell ⟨w.heap.size + 1, 5, none⟩ (.slice ya k.len yc)) (some (w.heap.size + 1)) := ((((((grownBy_set _ _ _ _).trans (grownBy_set _ _ _ _)).trans (grownBy_set _ _ _ _)).trans (grownBy_set _ _ _ _)).trans (grownBy_set _ _ _ _)).trans (grownBy_set _ _ _ _))
        have HB6 := Lib.hid hb6
        have H6 := Lib.hid h6
        have HG6 := Lib.hid hg36
        clear hb1 hb2 hb3 hbr hb6 h6 hg36
        have hk0 : (0 : Int) ≤ (k.len : Int) := by omega
        have hk1 : (k.len : Int) < 6001 := by omega
        go_wp2_with fail
        clear x5 r0 r1 r2 r3 r4 r5 q0 q1 q2 q3 q4 q5 y0 y1 y2 y3 y4 y5
        generalize ((((((wr.setCell ⟨w.heap.size + 1, 0, none⟩ (.int .i64 kz)).setCell ⟨w.heap.size + 1, 1, none⟩ (.int .i64 ff)).setCell ⟨w.heap.size + 1, 2, none⟩ (.int .i64 tt)).setCell ⟨w.heap.size + 1, 3, none⟩ (.int .u64 uu)).setCell ⟨w.heap.size + 1, 4, none⟩ (.string ss)).setCell ⟨w.heap.size + 1, 5, none⟩ (.slice ya k.len yc)) = W6 at *
        have h6 := H6.out
        have d0 := cellB (j := 0) h6 rfl
        have d1 := cellB (j := 1) h6 rfl
        have d2 := cellB (j := 2) h6 rfl
        have d3 := cellB (j := 3) h6 rfl
        have d4 := cellB (j := 4) h6 rfl
        have d5 := cellB (j := 5) h6 rfl
        have hrow : RowF W6 (NewT w W6) (done.map (vtP who)) xs := HROW.out.keep (fun bb hg hl => by
          obtain ⟨p1, p2, cs, p3⟩ := hg
          have p4 : W6.heap[bb]? = some (Obj.cells cs TrT) := by
            rw [HG6.out.block bb (Array.getElem?_eq_some_iff.1 p3).1 (fun e => by cases e; omega)]; exact p3
          exact ⟨⟨by omega, cs, p4⟩, by rw [p4, p3]⟩)
        have hown6 : W6.ownsRow (w.heap.size + 3) TrT 6 (.slice ya k.len yc) k.len (xs ++ []) := by
          rw [List.append_nil]
          exact own_kept HOWN.out HG6.out (fun r e e' => by cases e; have := (own_type HOWN.out e').1; omega)
        refine bodyPost_ret (v := .agg #[.int .i64 kz, .int .i64 ff, .int .i64 tt, .int .u64 uu, .string ss, .slice ya k.len yc]) (by simp [results, Tryz.results31, go_sem, d0, d1, d2, d3, d4, d5]) rfl ⟨_, (by rw [HKZ.out]; rfl), ?_, HB6.out⟩
        have hfin := isK_row (G := NewT w W6) hown6 rfl (show (done.map (vtP who)).length ≤ k.len by rw [List.length_map, HDK.out]; exact Nat.le_refl _) hrow (fun b e => by
          obtain ⟨p1, cs, p2⟩ := own_type hown6 e
          exact ⟨by omega, cs, p2⟩)
        rw [List.length_map, HDK.out, show foOf (done.map (vtP who)) = mapF (vtT who) k by rw [HKA.out]; exact (foOf_map_vt who done).symm] at hfin
        exact hfin
theorem vt_all {who : Int} {N : Nat} (n : Nd) (k : Fo) : vtC who N n k := tree_all vt_step n k
theorem vt_any (who : Int) (n : Nd) (k : Fo) {w : World} {v : Value} {G : Nat → Prop} (hk : IsK w G v k) (hs : k.size ≤ 6000) : Calls Tryz.prog 31 #[.int .i64 who, .agg (treeA n v)] w (vtPost w who n k) :=
  vt_all n k w v (hk.keep fun b _ hl => ⟨hl, rfl⟩) (Nat.le_refl _) hs
end Go.Proofs.YtgaklaajbepfaaaGreatDoor
namespace Go.Proofs.YtgaklaajbepfaaaGreatDoor
open Go.RowKit Go.Maps
set_option linter.unusedVariables false

/-- What Swap makes of a kind. -/
def makeTK (who k f t : Int) : Int := if (k == 8 && t == who) = true then 9 else k
def vsT (who : Int) (n : Nd) : Nd := ⟨makeTK who n.kind n.frm n.to, n.frm, n.to, n.num, n.text, n.a, n.b⟩
def vsP (who : Int) (x : Nd × Fo) : Nd × Fo := (vsT who x.1, mapF (vsT who) x.2)
theorem foOf_map_vs (who : Int) : ∀ l : List (Nd × Fo), mapF (vsT who) (foOf l) = foOf (l.map (vsP who))
  | [] => rfl
  | x :: l => by simp only [foOf, mapF, List.map_cons, vsP, foOf_map_vs who l]
def vsPost (w : World) (who : Int) (n : Nd) (k : Fo) (e : Ending) (w' : World) : Prop := ∃ v, e = .returned (.agg (treeA (vsT who n) v)) ∧ IsK w' (NewT w w') v (mapF (vsT who) k) ∧ Below w.heap.size w w'
def vsC (who : Int) (N : Nat) (n : Nd) (k : Fo) : Prop := ∀ (w : World) (v : Value), IsK w (fun b => b < N) v k → N ≤ w.heap.size → k.size ≤ 6000 → Calls Tryz.prog 33 #[.int .i64 who, .agg (treeA n v)] w (vsPost w who n k)
set_option maxRecDepth 100000 in
set_option maxHeartbeats 25600000 in
theorem vs_step {who : Int} {N : Nat} (n : Nd) (k : Fo) (ih : AllF (vsC who N) k) : vsC who N n k := by
  intro w v hk hN hsz
  obtain ⟨i0, hi0, hz0, hz1, hz2⟩ := info_parts rowTree
  obtain ⟨av, cv, rfl, hx⟩ := hk.shape
  have hlk := k.len_le
  obtain ⟨kk, ff, tt, uu, ss, xa, xb⟩ := n
  have b1 := bZ w (.cells #[.int .i64 kk, .int .i64 ff, .int .i64 tt, .int .u64 uu, .string ss, .slice av k.len cv] TrT)
  have b2 := bZ (w.alloc (.cells #[.int .i64 kk, .int .i64 ff, .int .i64 tt, .int .u64 uu, .string ss, .slice av k.len cv] TrT)) (.cells #[.int .i64 0, .int .i64 0, .int .i64 0, .int .u64 0, .string ⟨#[]⟩, .slice none 0 0] TrT)
  have b3 := bZ ((w.alloc (.cells #[.int .i64 kk, .int .i64 ff, .int .i64 tt, .int .u64 uu, .string ss, .slice av k.len cv] TrT)).alloc (.cells #[.int .i64 0, .int .i64 0, .int .i64 0, .int .u64 0, .string ⟨#[]⟩, .slice none 0 0] TrT)) (.cells #[.int .i64 kk, .int .i64 ff, .int .i64 tt, .int .u64 uu, .string ss, .slice none 0 0] TrT)
  have b12 := b1.trans (b2.mono b1.size)
  have b123 := b12.trans (b3.mono b12.size)
  have h1 : (((w.alloc (.cells #[.int .i64 kk, .int .i64 ff, .int .i64 tt, .int .u64 uu, .string ss, .slice av k.len cv] TrT)).alloc (.cells #[.int .i64 0, .int .i64 0, .int .i64 0, .int .u64 0, .string ⟨#[]⟩, .slice none 0 0] TrT)).alloc (.cells #[.int .i64 kk, .int .i64 ff, .int .i64 tt, .int .u64 uu, .string ss, .slice none 0 0] TrT)).heap[w.heap.size]? = some (Obj.cells #[.int .i64 kk, .int .i64 ff, .int .i64 tt, .int .u64 uu, .string ss, .slice av k.len cv] TrT) := Hold.below b3 _ _ (Hold.below b2 _ _ (heap_alloc_new _ _))
  have h2 : (((w.alloc (.cells #[.int .i64 kk, .int .i64 ff, .int .i64 tt, .int .u64 uu, .string ss, .slice av k.len cv] TrT)).alloc (.cells #[.int .i64 0, .int .i64 0, .int .i64 0, .int .u64 0, .string ⟨#[]⟩, .slice none 0 0] TrT)).alloc (.cells #[.int .i64 kk, .int .i64 ff, .int .i64 tt, .int .u64 uu, .string ss, .slice none 0 0] TrT)).heap[w.heap.size + 1]? = some (Obj.cells #[.int .i64 0, .int .i64 0, .int .i64 0, .int .u64 0, .string ⟨#[]⟩, .slice none 0 0] TrT) := by
    have e : w.heap.size + 1 = (w.alloc (.cells #[.int .i64 kk, .int .i64 ff, .int .i64 tt, .int .u64 uu, .string ss, .slice av k.len cv] TrT)).heap.size := by simp
    rw [e]; exact Hold.below b3 _ _ (heap_alloc_new _ _)
  have h3 : (((w.alloc (.cells #[.int .i64 kk, .int .i64 ff, .int .i64 tt, .int .u64 uu, .string ss, .slice av k.len cv] TrT)).alloc (.cells #[.int .i64 0, .int .i64 0, .int .i64 0, .int .u64 0, .string ⟨#[]⟩, .slice none 0 0] TrT)).alloc (.cells #[.int .i64 kk, .int .i64 ff, .int .i64 tt, .int .u64 uu, .string ss, .slice none 0 0] TrT)).heap[w.heap.size + 2]? = some (Obj.cells #[.int .i64 kk, .int .i64 ff, .int .i64 tt, .int .u64 uu, .string ss, .slice none 0 0] TrT) := by
    have e : w.heap.size + 2 = ((w.alloc (.cells #[.int .i64 kk, .int .i64 ff, .int .i64 tt, .int .u64 uu, .string ss, .slice av k.len cv] TrT)).alloc (.cells #[.int .i64 0, .int .i64 0, .int .i64 0, .int .u64 0, .string ⟨#[]⟩, .slice none 0 0] TrT)).heap.size := by simp
    rw [e]; exact heap_alloc_new _ _
  have HX := Lib.hid hx
  have HS : Hid ((((w.alloc (.cells #[.int .i64 kk, .int .i64 ff, .int .i64 tt, .int .u64 uu, .string ss, .slice av k.len cv] TrT)).alloc (.cells #[.int .i64 0, .int .i64 0, .int .i64 0, .int .u64 0, .string ⟨#[]⟩, .slice none 0 0] TrT)).alloc (.cells #[.int .i64 kk, .int .i64 ff, .int .i64 tt, .int .u64 uu, .string ss, .slice none 0 0] TrT)).heap.size = w.heap.size + 3) := Lib.hid (by simp)
  have HI := Lib.hid ih
  have HB1 := Lib.hid h1
  have HB2 := Lib.hid h2
  have HB3 := Lib.hid h3
  have HA := Lib.hid b123
  clear hk hx ih b1 b2 b3 b12 b123 h1 h2 h3
  simp only [treeA] at *
  go_enter Tryz.func33, Tryz.ntmps33
  go_upto_region 3 with fail
  generalize (((w.alloc (.cells #[.int .i64 kk, .int .i64 ff, .int .i64 tt, .int .u64 uu, .string ss, .slice av k.len cv] TrT)).alloc (.cells #[.int .i64 0, .int .i64 0, .int .i64 0, .int .u64 0, .string ⟨#[]⟩, .slice none 0 0] TrT)).alloc (.cells #[.int .i64 kk, .int .i64 ff, .int .i64 tt, .int .u64 uu, .string ss, .slice none 0 0] TrT)) = W at *
  have p0 : W.cell? ⟨w.heap.size + 2, 0, none⟩ = some (.int .i64 kk) := cellB (j := 0) HB3.out rfl
  have p1 : W.cell? ⟨w.heap.size, 1, none⟩ = some (.int .i64 ff) := cellB (j := 1) HB1.out rfl
  have p2 : W.cell? ⟨w.heap.size, 2, none⟩ = some (.int .i64 tt) := cellB (j := 2) HB1.out rfl
  have p3 : W.frozen? ⟨w.heap.size + 2, 0, none⟩ = false := frozenB (j := 0) HB3.out
  go_cut [17] (fun s wx => W = wx ∧ s = .bool (kk == 8 && tt == who))
  case first =>
    by_cases h9 : kk = 8
    · have e9 : (kk == (8 : Int)) = true := by rw [h9]; rfl
      clear h9
      go_wp2_with fail
      go_meet
      exact ⟨by trivial, by rw [e9]; rfl⟩
    · have e9 : (kk == (8 : Int)) = false := by simpa using h9
      clear h9
      go_wp2_with fail
      go_meet
      exact ⟨by trivial, by rw [e9]; rfl⟩
  case rest =>
  obtain ⟨rfl, rfl⟩ := hcut
  have HZC : Hid (makeTK who kk ff tt = if (kk == 8 && tt == who) = true then 9 else kk) := Lib.hid rfl
  generalize (kk == 8 && tt == who) = cz at *
  go_upto_if 17 with fail
  go_cut [] (fun wx => wx.heap[w.heap.size]? = some (Obj.cells #[.int .i64 kk, .int .i64 ff, .int .i64 tt, .int .u64 uu, .string ss, .slice av k.len cv] TrT) ∧ wx.heap[w.heap.size + 1]? = some (Obj.cells #[.int .i64 0, .int .i64 0, .int .i64 0, .int .u64 0, .string ⟨#[]⟩, .slice none 0 0] TrT) ∧ wx.heap[w.heap.size + 2]? = some (Obj.cells #[.int .i64 (makeTK who kk ff tt), .int .i64 ff, .int .i64 tt, .int .u64 uu, .string ss, .slice none 0 0] TrT) ∧ Below w.heap.size w wx ∧ wx.heap.size = w.heap.size + 3)
  case first =>
    have HQ : Hid (∀ u : Value, (W.setCell ⟨w.heap.size + 2, 0, none⟩ u).heap[w.heap.size]? = some (Obj.cells #[.int .i64 kk, .int .i64 ff, .int .i64 tt, .int .u64 uu, .string ss, .slice av k.len cv] TrT) ∧ (W.setCell ⟨w.heap.size + 2, 0, none⟩ u).heap[w.heap.size + 1]? = some (Obj.cells #[.int .i64 0, .int .i64 0, .int .i64 0, .int .u64 0, .string ⟨#[]⟩, .slice none 0 0] TrT) ∧ Below w.heap.size w (W.setCell ⟨w.heap.size + 2, 0, none⟩ u) ∧ (W.setCell ⟨w.heap.size + 2, 0, none⟩ u).heap.size = w.heap.size + 3) := Lib.hid fun u => ⟨((grownBy_set W (w.heap.size + 2) 0 u).block w.heap.size (Array.getElem?_eq_some_iff.1 HB1.out).1 (fun e => by have := Option.some.inj e; omega)).trans HB1.out, ((grownBy_set W (w.heap.size + 2) 0 u).block (w.heap.size + 1) (Array.getElem?_eq_some_iff.1 HB2.out).1 (fun e => by have := Option.some.inj e; omega)).trans HB2.out, HA.out.setCell (p := ⟨w.heap.size + 2, 0, none⟩) (by simp) u, by simpa [World.setCell] using HS.out⟩
    cases cz with
    | true =>
      go_wp2_with fail
      go_meet
      exact ⟨(HQ.out _).1, (HQ.out _).2.1, by rw [HZC.out]; exact setCellB (j := 0) HB3.out, (HQ.out _).2.2.1, (HQ.out _).2.2.2⟩
    | false =>
      go_wp2_with fail
      go_meet
      exact ⟨HB1.out, HB2.out, by rw [HZC.out]; exact HB3.out, HA.out, HS.out⟩
  case rest =>
    obtain ⟨hb1', hb2', hb3', hbA, hbS⟩ := hcut
    clear HB1 HB2 HB3 HA HS p0 p1 p2 p3
    have HB1 := Lib.hid hb1'
    have HB2 := Lib.hid hb2'
    have HB3 := Lib.hid hb3'
    have HA := Lib.hid hbA
    have HS := Lib.hid hbS
    clear hb1' hb2' hb3' hbA hbS
    obtain ⟨kz, hkz⟩ : ∃ kz, kz = makeTK who kk ff tt := ⟨_, rfl⟩
    rw [← hkz] at HB3
    have HKZ := Lib.hid hkz
    clear hkz
    go_wp2_with fail
    go_loopw [6] (fun vi wr => ∃ (i : Nat) (r : Fo) (done : List (Nd × Fo)) (ya : Option Addr) (yc : Nat) (xs : List Value), vi = .int .i64 (i : Int) ∧ i + r.len = k.len ∧ done.length = i ∧ k = foApp done r ∧ AllF (vsC who N) r ∧ (0 < r.len → ∃ b o, av = some ⟨b, o, none⟩ ∧ b < N ∧ AtF w (fun b => b < N) r b (o + i * 6)) ∧ wr.heap[w.heap.size]? = some (Obj.cells #[.int .i64 kk, .int .i64 ff, .int .i64 tt, .int .u64 uu, .string ss, .slice av k.len cv] TrT) ∧ wr.heap[w.heap.size + 1]? = some (Obj.cells #[.int .i64 0, .int .i64 0, .int .i64 0, .int .u64 0, .string ⟨#[]⟩, .slice none 0 0] TrT) ∧ wr.heap[w.heap.size + 2]? = some (Obj.cells #[.int .i64 kz, .int .i64 ff, .int .i64 tt, .int .u64 uu, .string ss, .slice ya i yc] TrT) ∧ wr.ownsRow (w.heap.size + 3) TrT 6 (.slice ya i yc) i xs ∧ RowF wr (ButT (w.heap.size + 3) (Value.slice ya i yc).ownBlock wr) (done.map (vsP who)) xs ∧ Below w.heap.size w wr ∧ w.heap.size + 3 ≤ wr.heap.size) (fun v _ => k.len - (intOf v).toNat)
    case atStart => exact ⟨0, k, [], none, 0, [], rfl, by omega, rfl, rfl, HI.out, fun hp => by obtain ⟨b, o, q1, q2, q3⟩ := HX.out hp; exact ⟨b, o, q1, q2, by simpa using q3⟩, HB1.out, HB2.out, HB3.out, World.ownsRow_nil _ _ _ 6, rfl, HA.out, by rw [HS.out]; exact Nat.le_refl _⟩
    case round =>
      obtain ⟨i, r, done, ya, yc, xs, rfl, hi, hdl, hka, hall, hat, hb1, hb2, hb3, hown, hrow, hbr, hsz3⟩ := hrel
      have HBR := Lib.hid hbr
      have HBX := Lib.hid hb1
      have HBY := Lib.hid hb2
      have HBZ := Lib.hid hb3
      have HOWN := Lib.hid hown
      have HROW := Lib.hid hrow
      have HSZ3 := Lib.hid hsz3
      clear hown hrow HX HI
      by_cases hlt : 0 < r.len
      · obtain ⟨n', kd, rr, rfl⟩ := fo_pos hlt
        simp only [Fo.len] at hi
        obtain ⟨b, o, rfl, hbN, hat'⟩ := hat hlt
        obtain ⟨c0, c1, c2, c3, c4, v', c5, hk', hat2⟩ := hat'.cons
        obtain ⟨av2, cv2, rfl, _⟩ := hk'.shape
        have hbw : b < w.heap.size := Nat.lt_of_lt_of_le hbN hN
        have hkr := (hk'.below HBR.out).below (bd wr)
        have hkd : kd.size ≤ 6000 := by
          have h1 := foApp_size done (.cons n' kd rr)
          rw [← hka] at h1
          simp only [Fo.size] at h1
          omega
        have HK := Lib.hid (hall.1 wr.drew (.slice av2 kd.len cv2) hkr (Nat.le_trans hN (HBR.out.size)) hkd)
        have hilt : i < 6000 := by omega
        have HALL := Lib.hid hall.2
        have HAT := Lib.hid hat2
        have HKA := Lib.hid (show k = foApp (done ++ [(n', kd)]) rr by rw [foApp_snoc]; exact hka)
        have e0 := bcellAt HBR.out c0
        have e1 := bcellAt HBR.out c1
        have e2 := bcellAt HBR.out c2
        have e3 := bcellAt HBR.out c3
        have e4 := bcellAt HBR.out c4
        have e5 := bcellAt HBR.out c5
        clear hall hat2 hat hat' hk' hkr hkd hka c0 c1 c2 c3 c4 c5 hbr
        obtain ⟨k2, f2, t2, u2, s2, y2, z2⟩ := n'
        simp only [treeA] at *
        have x5 := cellB (j := 5) hb1 rfl
        have y5 := cellB (j := 5) hb3 rfl
        clear hb1 hb2 hb3
        have hi0' : (0 : Int) ≤ (i : Int) := by omega
        have hi1 : (i : Int) < (k.len : Int) := by omega
        go_wp2_with fail
        have hfk : ∀ V : World, (∀ (b o : Nat) (u : Value), wr.cell? ⟨b, o, none⟩ = some u → b < w.heap.size ∨ b = w.heap.size ∨ b = w.heap.size + 2 → V.cell? ⟨b, o, none⟩ = some u) → V.cell? ⟨w.heap.size + 2, 5, none⟩ = some (.slice ya i yc) ∧ V.cell? ⟨w.heap.size, 5, none⟩ = some (.slice (some ⟨b, o, none⟩) k.len cv) ∧ V.cell? ⟨b, o + i * 6, none⟩ = some (.int .i64 k2) ∧ V.cell? ⟨b, o + i * 6 + 1, none⟩ = some (.int .i64 f2) ∧ V.cell? ⟨b, o + i * 6 + 2, none⟩ = some (.int .i64 t2) ∧ V.cell? ⟨b, o + i * 6 + 3, none⟩ = some (.int .u64 u2) ∧ V.cell? ⟨b, o + i * 6 + 4, none⟩ = some (.string s2) ∧ V.cell? ⟨b, o + i * 6 + 5, none⟩ = some (.slice av2 kd.len cv2) := fun V hV => ⟨hV _ _ _ y5 (by omega), hV _ _ _ x5 (by omega), hV _ _ _ e0 (by omega), hV _ _ _ e1 (by omega), hV _ _ _ e2 (by omega), hV _ _ _ e3 (by omega), hV _ _ _ e4 (by omega), hV _ _ _ e5 (by omega)⟩
        have HFK := Lib.hid hfk
        have hF0 := HFK.out wr.drew (fun b o u h _ => bcellAt (bd wr) h)
        clear hfk e0 e1 e2 e3 e4 e5 x5 y5
        refine lexg_start [0, 1, 2, 3, 4, 5, 6, 7, 8, 9, 10, 11, 12] 12 (F := fun W => W.cell? ⟨w.heap.size + 2, 5, none⟩ = some (.slice ya i yc) ∧ W.cell? ⟨w.heap.size, 5, none⟩ = some (.slice (some ⟨b, o, none⟩) k.len cv) ∧ W.cell? ⟨b, o + i * 6, none⟩ = some (.int .i64 k2) ∧ W.cell? ⟨b, o + i * 6 + 1, none⟩ = some (.int .i64 f2) ∧ W.cell? ⟨b, o + i * 6 + 2, none⟩ = some (.int .i64 t2) ∧ W.cell? ⟨b, o + i * 6 + 3, none⟩ = some (.int .u64 u2) ∧ W.cell? ⟨b, o + i * 6 + 4, none⟩ = some (.string s2) ∧ W.cell? ⟨b, o + i * 6 + 5, none⟩ = some (.slice av2 kd.len cv2)) (by kernel_rfl) ?_
        simp only [inOrder, List.filterMap, List.getElem?_cons_succ, List.getElem?_cons_zero]
        refine lexg_take (i := 0) (v := ?_) rfl (by decide) (by kernel_rfl) (by kernel_rfl) (by kernel_rfl) (by kernel_rfl) (by rfl) hF0 ?_ ?_
        rotate_left
        · ((intro W hW; obtain ⟨k0, k1, k3, k4, k5, k6, k7, k8⟩ := hW; go_simp) <;> with_reducible rfl)
        simp only [Act.put, List.setIfInBounds_toArray, List.set_cons_zero, List.set_cons_succ]
        refine lexg_take (i := 1) (v := ?_) rfl (by decide) (by kernel_rfl) (by kernel_rfl) (by kernel_rfl) (by kernel_rfl) (by rfl) hF0 ?_ ?_
        rotate_left
        · ((intro W hW; obtain ⟨k0, k1, k3, k4, k5, k6, k7, k8⟩ := hW; go_simp) <;> with_reducible rfl)
        simp only [Act.put, List.setIfInBounds_toArray, List.set_cons_zero, List.set_cons_succ]
        refine lexg_take (i := 2) (v := ?_) rfl (by decide) (by kernel_rfl) (by kernel_rfl) (by kernel_rfl) (by kernel_rfl) (by rfl) hF0 ?_ ?_
        rotate_left
        · ((intro W hW; obtain ⟨k0, k1, k3, k4, k5, k6, k7, k8⟩ := hW; go_simp) <;> with_reducible rfl)
        simp only [Act.put, List.setIfInBounds_toArray, List.set_cons_zero, List.set_cons_succ]
        refine lexg_take (i := 3) (v := ?_) rfl (by decide) (by kernel_rfl) (by kernel_rfl) (by kernel_rfl) (by kernel_rfl) (by rfl) hF0 ?_ ?_
        rotate_left
        · ((intro W hW; obtain ⟨k0, k1, k3, k4, k5, k6, k7, k8⟩ := hW; go_simp) <;> with_reducible rfl)
        simp only [Act.put, List.setIfInBounds_toArray, List.set_cons_zero, List.set_cons_succ]
        refine lexg_take (i := 4) (v := ?_) rfl (by decide) (by kernel_rfl) (by kernel_rfl) (by kernel_rfl) (by kernel_rfl) (by rfl) hF0 ?_ ?_
        rotate_left
        · ((intro W hW; obtain ⟨k0, k1, k3, k4, k5, k6, k7, k8⟩ := hW; go_simp) <;> with_reducible rfl)
        simp only [Act.put, List.setIfInBounds_toArray, List.set_cons_zero, List.set_cons_succ]
        refine lexg_take (i := 5) (v := ?_) rfl (by decide) (by kernel_rfl) (by kernel_rfl) (by kernel_rfl) (by kernel_rfl) (by rfl) hF0 ?_ ?_
        rotate_left
        · ((intro W hW; obtain ⟨k0, k1, k3, k4, k5, k6, k7, k8⟩ := hW; go_simp) <;> with_reducible rfl)
        simp only [Act.put, List.setIfInBounds_toArray, List.set_cons_zero, List.set_cons_succ]
        refine lexg_take (i := 6) (v := ?_) rfl (by decide) (by kernel_rfl) (by kernel_rfl) (by kernel_rfl) (by kernel_rfl) (by rfl) hF0 ?_ ?_
        rotate_left
        · ((intro W hW; obtain ⟨k0, k1, k3, k4, k5, k6, k7, k8⟩ := hW; go_simp) <;> with_reducible rfl)
        simp only [Act.put, List.setIfInBounds_toArray, List.set_cons_zero, List.set_cons_succ]
        refine lexg_take (i := 7) (v := ?_) rfl (by decide) (by kernel_rfl) (by kernel_rfl) (by kernel_rfl) (by kernel_rfl) (by rfl) hF0 ?_ ?_
        rotate_left
        · ((intro W hW; obtain ⟨k0, k1, k3, k4, k5, k6, k7, k8⟩ := hW; go_simp) <;> with_reducible rfl)
        simp only [Act.put, List.setIfInBounds_toArray, List.set_cons_zero, List.set_cons_succ]
        refine lexg_call (i := 8) rfl (by kernel_rfl) (by rfl) ?_ _ HK.out ?_
        · go_simp
        rintro e w1 ⟨v1, rfl, hv1, u1⟩
        obtain ⟨va, vc, hva, _⟩ := hv1.shape
        rw [mapF_len] at hva
        subst hva
        have bA := bmore (bd wr) u1
        refine ⟨_, rfl, fun _ => HFK.out w1 (fun b o u h _ => bcellAt bA h), ?_⟩
        simp only [treeA, vsT, Act.put, List.setIfInBounds_toArray, List.set_cons_zero, List.set_cons_succ]
        have hszA := bA.size
        refine lexg_do (i := 9) rfl (by kernel_rfl) (by rfl) (fun K hK => ?_)
        go_simp
        have bC := bZ w1 (.cells #[.int .i64 (makeTK who k2 f2 t2), .int .i64 f2, .int .i64 t2, .int .u64 u2, .string s2, .slice va kd.len vc] 62)
        have bAC := bmore bA bC
        have hownC := own_hold HOWN.out (Hold.below bAC)
        have HBAC := Lib.hid bAC
        have HV1 := Lib.hid hv1
        have HBC := Lib.hid bC
        have HBA := Lib.hid bA
        refine hK _ _ ⟨fun _ => HFK.out _ (fun b o u h _ => bcellAt bAC h), ?_⟩
        clear hK K
        refine lexg_do (i := 10) rfl (by kernel_rfl) (by rfl) (fun K hK => ?_)
        refine wp_append_at _ _ _ 22 rfl (w.heap.size + 3) TrT i0 (.agg #[.int .i64 0, .int .i64 0, .int .i64 0, .int .u64 0, .string ⟨#[]⟩, .slice none 0 0]) 6 72 Tryz.underlying22 hi0 hz0 hz1 hz2 rfl (by decide) (.slice ya i yc) i xs rfl hownC ⟨w1.heap.size, 0, none⟩ 1 1 [.int .i64 (makeTK who k2 f2 t2), .int .i64 f2, .int .i64 t2, .int .u64 u2, .string s2, .slice va kd.len vc] rfl (by decide) rfl (news6 w1 _ _ _ _ _ _ _) (by simp [Value.oneCell']) (by unfold maxLen; omega) (by omega) (by have := HSZ3.out; have := bC.size; omega) ?_
        intro v3 w3 hown3 hg3 hp3
        obtain ⟨za, zc, rfl⟩ := (row_of_own hown3).shape
        have hyo : ∀ g, (Value.slice ya i yc).ownBlock = some g → w.heap.size + 3 ≤ g ∧ g < wr.heap.size := fun g e => by
          obtain ⟨hB, cur, hc⟩ := own_type HOWN.out e
          exact ⟨hB, (Array.getElem?_eq_some_iff.1 hc).1⟩
        have hkb : ∀ (b : Nat) (u : Obj), wr.heap[b]? = some u → (Value.slice ya i yc).ownBlock ≠ some b → w3.heap[b]? = some u := fun b u h hn => by
          have hl := (Array.getElem?_eq_some_iff.1 h).1
          rw [hg3.block b (Nat.lt_of_lt_of_le hl HBAC.out.size) (fun e => hn e.symm), HBAC.out.block b hl]; exact h
        have hkb1 : ∀ (b : Nat) (u : Obj), w1.heap[b]? = some u → wr.heap.size ≤ b → w3.heap[b]? = some u := fun b u h hn => by
          have hl := (Array.getElem?_eq_some_iff.1 h).1
          rw [hg3.block b (Nat.lt_of_lt_of_le hl HBC.out.size) (fun e => by have := (hyo b e.symm).2; omega), HBC.out.block b hl]; exact h
        have hz3 := hkb _ _ HBZ.out (fun e => by have := (hyo _ e).1; omega)
        have hF3 := HFK.out w3 (fun b o u h hb => by
          have hl := World.block_lt_of_cell? wr _ h
          rw [cell_of_heap (show w3.heap[b]? = wr.heap[b]? from by
            rw [hg3.block b (Nat.lt_of_lt_of_le hl HBAC.out.size) (fun e => by have := (hyo _ e.symm).1; omega), HBAC.out.block b hl])]
          exact h)
        have HKB := Lib.hid hkb
        have HKB1 := Lib.hid hkb1
        have HYO := Lib.hid hyo
        have HG3 := Lib.hid hg3
        have HP3 := Lib.hid hp3
        have HOWN3 := Lib.hid hown3
        have HZ3 := Lib.hid hz3
        clear hkb hkb1 hyo hg3 hp3 hown3 hownC bA bC bAC hv1 u1
        refine hK _ _ ⟨fun _ => hF3, ?_⟩
        clear hK K
        try simp only [Act.put, List.setIfInBounds_toArray, List.set_cons_zero, List.set_cons_succ]
        refine lexg_take (i := 11) (v := ?_) rfl (by decide) (by kernel_rfl) (by kernel_rfl) (by kernel_rfl) (by kernel_rfl) (by rfl) hF3 ?_ ?_
        rotate_left
        · ((intro W hW; obtain ⟨k0, k1, k3, k4, k5, k6, k7, k8⟩ := hW; go_simp) <;> with_reducible rfl)
        simp only [Act.put, List.setIfInBounds_toArray, List.set_cons_zero, List.set_cons_succ]
        have x5 := cellB (j := 5) hz3 rfl
        have f5 := frozenB (j := 5) hz3
        refine lexg_do (i := 12) rfl (by kernel_rfl) (by rfl) (fun K hK => ?_)
        go_simp
        have hz4 := setCellB (j := 5) (u := .slice za (i + 1) zc) hz3
        have HZ4 := Lib.hid hz4
        have HGS := Lib.hid (grownBy_set w3 (w.heap.size + 2) 5 (.slice za (i + 1) zc))
        refine hK _ _ ⟨fun h => absurd rfl h, ?_⟩
        clear hK K x5 f5 hF3 hF0 hz3 hz4
        refine lexg_done (by kernel_rfl) ?_
        generalize (w3.setCell ⟨w.heap.size + 2, 5, none⟩ (.slice za (i + 1) zc)) = w4 at *
        go_wp2_with fail
        have hyo3 : ∀ g, (Value.slice za (i + 1) zc).ownBlock = some g → w.heap.size + 3 ≤ g := fun g e => (own_type HOWN3.out e).1
        have h34 : ∀ (b : Nat) (u : Obj), w3.heap[b]? = some u → b ≠ w.heap.size + 2 → w4.heap[b]? = some u := fun b u h hn => by
          rw [HGS.out.block b (Array.getElem?_eq_some_iff.1 h).1 (fun e => hn (by cases e; rfl))]; exact h
        have hb4 : Below w.heap.size w w4 := ((HBR.out.trans (HBAC.out.mono (by omega))).grown HG3.out (by have := HBAC.out.size; omega) (fun g e => by have := (HYO.out g e).1; omega)).grown HGS.out (by have := HG3.out.size; have := HBAC.out.size; omega) (fun g e => by cases e; omega)
        have hsz4 : w.heap.size + 3 ≤ w4.heap.size := by have := HG3.out.size; have := HBAC.out.size; have := HGS.out.size; have := HSZ3.out; omega
        have hrow4 : RowF w4 (ButT (w.heap.size + 3) (Value.slice za (i + 1) zc).ownBlock w4) (done.map (vsP who)) xs := HROW.out.keep (fun bb hg hl => by
          obtain ⟨q1, q2, cs, q3⟩ := hg
          have q4 := h34 _ _ (HKB.out _ _ q3 q2) (by omega)
          refine ⟨⟨q1, fun e => ?_, cs, q4⟩, by rw [q4, q3]⟩
          rcases HP3.out with h | h
          · exact q2 (h.symm.trans e)
          · rw [h] at e; cases e; have := HBAC.out.size; omega)
        have hkid4 : IsK w4 (ButT (w.heap.size + 3) (Value.slice za (i + 1) zc).ownBlock w4) (.slice va kd.len vc) (mapF (vsT who) kd) := HV1.out.keep (fun bb hg hl => by
          obtain ⟨q1, cs, q3⟩ := hg
          have q1' : wr.heap.size ≤ bb := q1
          have q4 := h34 _ _ (HKB1.out _ _ q3 q1') (by have := HSZ3.out; omega)
          refine ⟨⟨by have := HSZ3.out; omega, fun e => ?_, cs, q4⟩, by rw [q4, q3]⟩
          rcases HP3.out with h | h
          · have := (HYO.out bb (h.symm.trans e)).2; omega
          · rw [h] at e; cases e; have := HBC.out.size; omega)
        have hwa : w.heap.size < w3.heap.size ∧ w.heap.size + 1 < w3.heap.size := by have := HG3.out.size; have := HBAC.out.size; have := HSZ3.out; omega
        go_roundw
        case rel => exact ⟨i + 1, rr, done ++ [(⟨k2, f2, t2, u2, s2, y2, z2⟩, kd)], za, zc, _, by go_num, by omega, by simp [hdl], HKA.out, HALL.out, fun _ => ⟨b, o, rfl, hbN, by rw [show o + (i + 1) * 6 = o + i * 6 + 6 by omega]; exact HAT.out⟩, h34 _ _ (HKB.out _ _ HBX.out (fun e => by have := (HYO.out _ e).1; omega)) (by omega), h34 _ _ (HKB.out _ _ HBY.out (fun e => by have := (HYO.out _ e).1; omega)) (by omega), HZ4.out, own_kept HOWN3.out HGS.out (fun r e e' => by cases e; have := hyo3 _ e'; omega), by rw [List.map_append]; exact RowF.snoc (n := vsT who ⟨k2, f2, t2, u2, s2, y2, z2⟩) hkid4 hrow4, hb4, hsz4⟩
        case measure => simp [intOf]; omega
      · obtain rfl := fo_nil (show r.len = 0 by omega)
        simp only [Fo.len, Nat.add_zero] at hi
        rw [foApp_nil] at hka
        have hdk : done.length = k.len := by omega
        have HKA := Lib.hid hka
        have HDK := Lib.hid hdk
        subst hi
        clear hka hall hat hlt hdl hdk
        have x5 := cellB (j := 5) hb1 rfl
        have r0 := cellB (j := 0) hb2 rfl
        have q0 := frozenB (j := 0) hb2
        have r1 := cellB (j := 1) hb2 rfl
        have q1 := frozenB (j := 1) hb2
        have r2 := cellB (j := 2) hb2 rfl
        have q2 := frozenB (j := 2) hb2
        have r3 := cellB (j := 3) hb2 rfl
        have q3 := frozenB (j := 3) hb2
        have r4 := cellB (j := 4) hb2 rfl
        have q4 := frozenB (j := 4) hb2
        have r5 := cellB (j := 5) hb2 rfl
        have q5 := frozenB (j := 5) hb2
        have y0 := cellB (j := 0) hb3 rfl
        have y1 := cellB (j := 1) hb3 rfl
        have y2 := cellB (j := 2) hb3 rfl
        have y3 := cellB (j := 3) hb3 rfl
        have y4 := cellB (j := 4) hb3 rfl
        have y5 := cellB (j := 5) hb3 rfl
        have hb6 : Below w.heap.size w ((((((wr.setCell ⟨w.heap.size + 1, 0, none⟩ (.int .i64 kz)).setCell ⟨w.heap.size + 1, 1, none⟩ (.int .i64 ff)).setCell ⟨w.heap.size + 1, 2, none⟩ (.int .i64 tt)).setCell ⟨w.heap.size + 1, 3, none⟩ (.int .u64 uu)).setCell ⟨w.heap.size + 1, 4, none⟩ (.string ss)).setCell ⟨w.heap.size + 1, 5, none⟩ (.slice ya k.len yc)) := ((((((hbr.setCell (p := ⟨w.heap.size + 1, 0, none⟩) (Nat.le_succ _) _).setCell (p := ⟨w.heap.size + 1, 1, none⟩) (Nat.le_succ _) _).setCell (p := ⟨w.heap.size + 1, 2, none⟩) (Nat.le_succ _) _).setCell (p := ⟨w.heap.size + 1, 3, none⟩) (Nat.le_succ _) _).setCell (p := ⟨w.heap.size + 1, 4, none⟩) (Nat.le_succ _) _).setCell (p := ⟨w.heap.size + 1, 5, none⟩) (Nat.le_succ _) _)
        have h6 : ((((((wr.setCell ⟨w.heap.size + 1, 0, none⟩ (.int .i64 kz)).setCell ⟨w.heap.size + 1, 1, none⟩ (.int .i64 ff)).setCell ⟨w.heap.size + 1, 2, none⟩ (.int .i64 tt)).setCell ⟨w.heap.size + 1, 3, none⟩ (.int .u64 uu)).setCell ⟨w.heap.size + 1, 4, none⟩ (.string ss)).setCell ⟨w.heap.size + 1, 5, none⟩ (.slice ya k.len yc)).heap[w.heap.size + 1]? = some (Obj.cells #[.int .i64 kz, .int .i64 ff, .int .i64 tt, .int .u64 uu, .string ss, .slice ya k.len yc] TrT) := (setCellB (j := 5) (u := .slice ya k.len yc) (setCellB (j := 4) (u := .string ss) (setCellB (j := 3) (u := .int .u64 uu) (setCellB (j := 2) (u := .int .i64 tt) (setCellB (j := 1) (u := .int .i64 ff) (setCellB (j := 0) (u := .int .i64 kz) hb2))))))
        have hg36 : wr.grownBy ((((((wr.setCell ⟨w.heap.size + 1, 0, none⟩ (.int .i64 kz)).setCell ⟨w.heap.size + 1, 1, none⟩ (.int .i64 ff)).setCell ⟨w.heap.size + 1, 2, none⟩ (.int .i64 tt)).setCell ⟨w.heap.size + 1, 3, none⟩ (.int .u64 uu)).setCell ⟨w.heap.size + 1, 4, none⟩ (.string ss)).setCell ⟨w.heap.size + 1, 5, none⟩ (.slice ya k.len yc)) (some (w.heap.size + 1)) := ((((((grownBy_set _ _ _ _).trans (grownBy_set _ _ _ _)).trans (grownBy_set _ _ _ _)).trans (grownBy_set _ _ _ _)).trans (grownBy_set _ _ _ _)).trans (grownBy_set _ _ _ _))
        have HB6 := Lib.hid hb6
        have H6 := Lib.hid h6
        have HG6 := Lib.hid hg36
        clear hb1 hb2 hb3 hbr hb6 h6 hg36
        have hk0 : (0 : Int) ≤ (k.len : Int) := by omega
        have hk1 : (k.len : Int) < 6001 := by omega
        go_wp2_with fail
        clear x5 r0 r1 r2 r3 r4 r5 q0 q1 q2 q3 q4 q5 y0 y1 y2 y3 y4 y5
        generalize ((((((wr.setCell ⟨w.heap.size + 1, 0, none⟩ (.int .i64 kz)).setCell ⟨w.heap.size + 1, 1, none⟩ (.int .i64 ff)).setCell ⟨w.heap.size + 1, 2, none⟩ (.int .i64 tt)).setCell ⟨w.heap.size + 1, 3, none⟩ (.int .u64 uu)).setCell ⟨w.heap.size + 1, 4, none⟩ (.string ss)).setCell ⟨w.heap.size + 1, 5, none⟩ (.slice ya k.len yc)) = W6 at *
        have h6 := H6.out
        have d0 := cellB (j := 0) h6 rfl
        have d1 := cellB (j := 1) h6 rfl
        have d2 := cellB (j := 2) h6 rfl
        have d3 := cellB (j := 3) h6 rfl
        have d4 := cellB (j := 4) h6 rfl
        have d5 := cellB (j := 5) h6 rfl
        have hrow : RowF W6 (NewT w W6) (done.map (vsP who)) xs := HROW.out.keep (fun bb hg hl => by
          obtain ⟨p1, p2, cs, p3⟩ := hg
          have p4 : W6.heap[bb]? = some (Obj.cells cs TrT) := by
            rw [HG6.out.block bb (Array.getElem?_eq_some_iff.1 p3).1 (fun e => by cases e; omega)]; exact p3
          exact ⟨⟨by omega, cs, p4⟩, by rw [p4, p3]⟩)
        have hown6 : W6.ownsRow (w.heap.size + 3) TrT 6 (.slice ya k.len yc) k.len (xs ++ []) := by
          rw [List.append_nil]
          exact own_kept HOWN.out HG6.out (fun r e e' => by cases e; have := (own_type HOWN.out e').1; omega)
        refine bodyPost_ret (v := .agg #[.int .i64 kz, .int .i64 ff, .int .i64 tt, .int .u64 uu, .string ss, .slice ya k.len yc]) (by simp [results, Tryz.results33, go_sem, d0, d1, d2, d3, d4, d5]) rfl ⟨_, (by rw [HKZ.out]; rfl), ?_, HB6.out⟩
        have hfin := isK_row (G := NewT w W6) hown6 rfl (show (done.map (vsP who)).length ≤ k.len by rw [List.length_map, HDK.out]; exact Nat.le_refl _) hrow (fun b e => by
          obtain ⟨p1, cs, p2⟩ := own_type hown6 e
          exact ⟨by omega, cs, p2⟩)
        rw [List.length_map, HDK.out, show foOf (done.map (vsP who)) = mapF (vsT who) k by rw [HKA.out]; exact (foOf_map_vs who done).symm] at hfin
        exact hfin
theorem vs_all {who : Int} {N : Nat} (n : Nd) (k : Fo) : vsC who N n k := tree_all vs_step n k
theorem vs_any (who : Int) (n : Nd) (k : Fo) {w : World} {v : Value} {G : Nat → Prop} (hk : IsK w G v k) (hs : k.size ≤ 6000) : Calls Tryz.prog 33 #[.int .i64 who, .agg (treeA n v)] w (vsPost w who n k) :=
  vs_all n k w v (hk.keep fun b _ hl => ⟨hl, rfl⟩) (Nat.le_refl _) hs
end Go.Proofs.YtgaklaajbepfaaaGreatDoor
namespace Go.Proofs.YtgaklaajbepfaaaGreatDoor
open Go.RowKit Go.Maps Go.Shelf
set_option linter.unusedVariables false

/-- Nodes of a pool are each there once. -/
theorem Ok.at_inj {p : Pl} (h : Ok p) : ∀ {x y : Int}, inP p x = true → inP p y = true → (atP p x).1 = (atP p y).1 → x = y := by
  induction h with
  | nil => intro x y hx; simp [inP] at hx; omega
  | @add p n hp he hn hl ih =>
    intro x y hx hy hxy
    have hnew : ∀ t : Int, inP (addP p n) t = true → ¬ inP p t = true → t = (p.length : Int) + 1 := fun t h1 h2 => by
      unfold inP at h1 h2
      unfold addP at h1
      simp at h1 h2
      omega
    have hat : ∀ t : Int, inP (addP p n) t = true → ¬ inP p t = true → (atP (addP p n) t).1 = n := fun t h1 h2 => by
      have := hnew t h1 h2
      unfold atP
      rw [if_pos h1, this, addP]
      simp [List.getD]
    have hold : ∀ t : Int, inP p t = true → (atP (addP p n) t).1 ≠ n := fun t h1 => by
      rw [addP, atP_append h1]
      obtain ⟨i, hi, _, e⟩ := atP_get h1
      rw [e]
      exact numP_zero.1 hn _ (List.getElem_mem hi)
    by_cases h1 : inP p x = true
    · by_cases h2 : inP p y = true
      · rw [addP, atP_append h1, atP_append h2] at hxy
        exact ih h1 h2 hxy
      · rw [hat y hy h2] at hxy; exact absurd hxy (hold x h1)
    · by_cases h2 : inP p y = true
      · rw [hat x hx h1] at hxy; exact absurd hxy.symm (hold y h2)
      · rw [hnew x hx h1, hnew y hy h2]
/-- What an observer sees of a node itself. -/
def seeN (who : Int) (n : Nd) : Nd := kdN (seeK who n) (abN n 0 0)
theorem seeK_of (who k f t u : Int) (s : ByteArray) (a b : Int) : seeK who ⟨k, f, t, u, s, a, b⟩ = if (twoK k && !tellK who f t) = true then 8 else k := by
  unfold seeK veilB tellB likeB tellK twoK
  show (if ((k == 8 || k == 9) && !((k == 8 || k == 9) && (who == f || (who == t || who == 2)))) = true then (8 : Int) else k) = _
  cases (k == 8 || k == 9) <;> cases (who == f || (who == t || who == 2)) <;> rfl
theorem sameB_see {who : Int} {x y : Nd} : sameB who x y = true ↔ seeN who x = seeN who y := by
  obtain ⟨k, f, t, u, s, a, b⟩ := x
  obtain ⟨k2, f2, t2, u2, s2, a2, b2⟩ := y
  unfold seeN kdN abN
  rw [seeK_of, seeK_of]
  unfold sameB sameN
  rw [decide_eq_true_eq]
  simp only [Nd.mk.injEq, and_true]
  constructor
  · rintro ⟨h1, rfl, rfl, rfl, rfl⟩
    refine ⟨?_, rfl, rfl, rfl, rfl⟩
    unfold veilB tellB likeB at h1
    simp only at h1
    unfold twoK tellK
    cases h3 : (who == f || (who == t || who == 2)) <;> cases h4 : (k == 8 || k == 9) <;> cases h5 : (k2 == 8 || k2 == 9) <;> rw [h3, h4, h5] at h1 <;> simp at h1 ⊢ <;> (try (subst h1)) <;> simp_all
  · rintro ⟨h1, rfl, rfl, rfl, rfl⟩
    refine ⟨?_, rfl, rfl, rfl, rfl⟩
    unfold veilB tellB likeB
    simp only
    unfold twoK tellK at h1
    cases h3 : (who == f || (who == t || who == 2)) <;> cases h4 : (k == 8 || k == 9) <;> cases h5 : (k2 == 8 || k2 == 9) <;> rw [h3, h4, h5] at h1 <;> simp at h1 ⊢ <;> (try (subst h1)) <;> simp_all
theorem sameB_refl (who : Int) (x : Nd) : sameB who x x = true := sameB_see.2 rfl
theorem sameB_symm {who : Int} {x y : Nd} (h : sameB who x y = true) : sameB who y x = true := sameB_see.2 (sameB_see.1 h).symm
theorem sameB_trans {who : Int} {x y z : Nd} (h : sameB who x y = true) (k : sameB who y z = true) : sameB who x z = true := sameB_see.2 ((sameB_see.1 h).trans (sameB_see.1 k))
theorem Bij.refl {p : Pl} (hp : Ok p) (who : Int) : Bij p who (fun x y => x = y ∧ (x = 0 ∨ inP p x = true)) := by
  refine ⟨fun a b b' h k => h.1.symm.trans k.1, fun a a' b h k => h.1.trans k.1.symm, ⟨rfl, .inl rfl⟩, ?_⟩
  rintro a b ⟨rfl, h⟩
  rcases h with h | h
  · exact .inl ⟨h, h⟩
  · obtain ⟨ka, kb⟩ := kid_less hp h
    exact .inr ⟨h, h, sameB_refl _ _, ⟨rfl, ka.imp id (·.1)⟩, ⟨rfl, kb.imp id (·.1)⟩⟩
theorem Bij.symm {p : Pl} {who : Int} {R : Int → Int → Prop} (h : Bij p who R) : Bij p who (fun x y => R y x) :=
  ⟨fun a b b' h1 h2 => h.inj _ _ _ h1 h2, fun a a' b h1 h2 => h.fn _ _ _ h1 h2, h.zero, fun a b hab => (h.step b a hab).imp (fun e => ⟨e.2, e.1⟩) fun ⟨h1, h2, h3, h4, h5⟩ => ⟨h2, h1, sameB_symm h3, h4, h5⟩⟩
theorem Bij.trans {p : Pl} {who : Int} {R S : Int → Int → Prop} (h : Bij p who R) (k : Bij p who S) : Bij p who (fun x z => ∃ y, R x y ∧ S y z) := by
  refine ⟨?_, ?_, ⟨0, h.zero, k.zero⟩, ?_⟩
  · rintro a b b' ⟨y, h1, h2⟩ ⟨y', h3, h4⟩
    obtain rfl := h.fn _ _ _ h1 h3
    exact k.fn _ _ _ h2 h4
  · rintro a a' b ⟨y, h1, h2⟩ ⟨y', h3, h4⟩
    obtain rfl := k.inj _ _ _ h2 h4
    exact h.inj _ _ _ h1 h3
  · rintro a c ⟨y, h1, h2⟩
    rcases h.step _ _ h1 with ⟨rfl, rfl⟩ | ⟨a1, a2, a3, a4, a5⟩
    · exact .inl ⟨rfl, (k.fn _ _ _ k.zero h2).symm⟩
    · rcases k.step _ _ h2 with ⟨rfl, _⟩ | ⟨b1, b2, b3, b4, b5⟩
      · rw [inP_zero] at a2; cases a2
      · exact .inr ⟨a1, b2, sameB_trans a3 b3, ⟨_, a4, b4⟩, ⟨_, a5, b5⟩⟩
theorem Bij.more {p : Pl} {who : Int} {R : Int → Int → Prop} (h : Bij p who R) (e : Pl) : Bij (p ++ e) who R :=
  ⟨h.fn, h.inj, h.zero, fun a b hab => (h.step a b hab).imp id fun ⟨h1, h2, h3, h4, h5⟩ => ⟨inP_le h1 (by simp), inP_le h2 (by simp), by rw [atP_append h1, atP_append h2]; exact h3, by rw [atP_append h1, atP_append h2]; exact h4, by rw [atP_append h1, atP_append h2]; exact h5⟩⟩
theorem AlikeP.refl_iff {p : Pl} (hp : Ok p) {who : Int} {l : List Int} : AlikeP p who l l ↔ nameB who = true ∧ ∀ x ∈ l, inP p x = true :=
  ⟨fun h => ⟨h.1, h.2.1⟩, fun h => ⟨h.1, h.2, h.2, rfl, _, Bij.refl hp who, fun i h1 h2 => ⟨rfl, .inr (h.2 _ (List.getElem_mem h1))⟩⟩⟩
theorem AlikeP.symm {p : Pl} {who : Int} {l m : List Int} (h : AlikeP p who l m) : AlikeP p who m l := by
  obtain ⟨h1, h2, h3, h4, R, h5, h6⟩ := h
  exact ⟨h1, h3, h2, h4.symm, _, h5.symm, fun i a b => h6 i b a⟩
theorem AlikeP.comm {p : Pl} {who : Int} {l m : List Int} : AlikeP p who l m ↔ AlikeP p who m l := ⟨AlikeP.symm, AlikeP.symm⟩
theorem AlikeP.trans {p : Pl} {who : Int} {l m n : List Int} (h : AlikeP p who l m) (k : AlikeP p who m n) : AlikeP p who l n := by
  obtain ⟨h1, h2, h3, h4, R, h5, h6⟩ := h
  obtain ⟨k1, k2, k3, k4, S, k5, k6⟩ := k
  exact ⟨h1, h2, k3, h4.trans k4, _, h5.trans k5, fun i a b => ⟨m[i]'(by omega), h6 i a (by omega), k6 i (by omega) b⟩⟩
theorem AlikeP.take {p : Pl} {who : Int} {l m : List Int} (h : AlikeP p who l m) (i : Nat) : AlikeP p who (l.take i) (m.take i) := by
  obtain ⟨h1, h2, h3, h4, R, h5, h6⟩ := h
  refine ⟨h1, fun x hx => h2 x (List.mem_of_mem_take hx), fun x hx => h3 x (List.mem_of_mem_take hx), by simp [h4], R, h5, fun j a b => ?_⟩
  rw [List.getElem_take, List.getElem_take]
  exact h6 j _ _
theorem AlikeP.more {p : Pl} {who : Int} {l m : List Int} (h : AlikeP p who l m) (e : Pl) : AlikeP (p ++ e) who l m := by
  obtain ⟨h1, h2, h3, h4, R, h5, h6⟩ := h
  exact ⟨h1, fun x hx => inP_le (h2 x hx) (by simp), fun x hx => inP_le (h3 x hx) (by simp), h4, R, h5.more e, h6⟩
theorem seeK_two (n : Nd) : seeK 2 n = n.kind := by
  unfold seeK
  rw [if_neg]
  unfold veilB tellB
  cases likeB n <;> simp
/-- The notary tells all. -/
theorem Bij.notary {p : Pl} (hp : Ok p) {R : Int → Int → Prop} (h : Bij p 2 R) : ∀ (k : Nat) (x y : Int), x.toNat < k → R x y → x = y
  | 0, _, _, h, _ => absurd h (Nat.not_lt_zero _)
  | k + 1, x, y, hk, hxy => by
    rcases h.step x y hxy with ⟨rfl, rfl⟩ | ⟨h1, h2, h3, h4, h5⟩
    · rfl
    · obtain ⟨ka, kb⟩ := kid_less hp h1
      have hx1 : 1 ≤ x := by unfold inP at h1; simp at h1; omega
      have ea : (atP p x).1.a = (atP p y).1.a := h.notary hp k _ _ (by rcases ka with e | e <;> omega) h4
      have eb : (atP p x).1.b = (atP p y).1.b := h.notary hp k _ _ (by rcases kb with e | e <;> omega) h5
      have e := sameB_see.1 h3
      refine hp.at_inj h1 h2 ?_
      revert e ea eb
      generalize (atP p x).1 = n
      generalize (atP p y).1 = n2
      obtain ⟨k, f, t, u, s, a, b⟩ := n
      obtain ⟨k2, f2, t2, u2, s2, a2, b2⟩ := n2
      unfold seeN kdN abN
      rw [seeK_two, seeK_two]
      simp only [Nd.mk.injEq]
      rintro rfl rfl ⟨rfl, rfl, rfl, rfl, rfl, _, _⟩
      exact ⟨rfl, rfl, rfl, rfl, rfl, rfl, rfl⟩
theorem AlikeP.notary {p : Pl} (hp : Ok p) {l m : List Int} : AlikeP p 2 l m ↔ (∀ x ∈ l, inP p x = true) ∧ l = m := by
  constructor
  · rintro ⟨h1, h2, h3, h4, R, h5, h6⟩
    exact ⟨h2, List.ext_getElem h4 fun i a b => h5.notary hp _ _ _ (Nat.lt_succ_self _) (h6 i a b)⟩
  · rintro ⟨h1, rfl⟩
    exact (AlikeP.refl_iff hp).2 ⟨by decide, h1⟩
/-- Terms that correspond have one view. -/
theorem Bij.view {q p1 p2 : Pl} {who : Int} {T1 T2 : Int} {m1 m2 : Int → Option Int} (hq : Ok q) {R : Int → Int → Prop} (h : Bij q who R) (h1 : Anew (seeK who) q T1 p1 m1) (h2 : Anew (seeK who) p1 T2 p2 m2) : ∀ (k : Nat) (x y u v : Int), x.toNat < k → R x y → m1 x = some u → m2 y = some v → u = v
  | 0, _, _, _, _, h, _, _, _ => absurd h (Nat.not_lt_zero _)
  | k + 1, x, y, u, v, hk, hxy, hu, hv => by
    rcases h1.at_ _ _ hu with ⟨rfl, rfl⟩ | ⟨a1, a2, a3, ⟨xa, xb, a4, a5, a6⟩, _⟩
    · obtain rfl := h.fn _ _ _ h.zero hxy
      rw [h2.zero] at hv; exact Option.some.inj hv
    · rcases h.step x y hxy with ⟨rfl, _⟩ | ⟨b1, b2, b3, b4, b5⟩
      · rw [inP_zero] at a1; cases a1
      · obtain ⟨e1, rfl⟩ := h1.ext
        obtain ⟨e2, rfl⟩ := h2.ext
        rcases h2.at_ _ _ hv with ⟨rfl, _⟩ | ⟨c1, c2, c3, ⟨ya, yb, c4, c5, c6⟩, _⟩
        · rw [inP_zero] at b2; cases b2
        · rw [atP_append b2] at c4 c5 c6
          obtain ⟨ka, kb⟩ := kid_less hq a1
          have hx1 : 1 ≤ x := by unfold inP at a1; simp at a1; omega
          have ea : xa = ya := h.view hq h1 h2 k _ _ _ _ (by rcases ka with e | e <;> omega) b4 a4 c4
          have eb : xb = yb := h.view hq h1 h2 k _ _ _ _ (by rcases kb with e | e <;> omega) b5 a5 c5
          refine h2.ok.at_inj (inP_le a3 (by simp)) c3 ?_
          rw [atP_append a3, a6, c6, ea, eb]
          have e := sameB_see.1 b3
          revert e
          generalize (atP q x).1 = n
          generalize (atP q y).1 = n2
          unfold seeN kdN abN
          simp only [Nd.mk.injEq]
          rintro ⟨h1, h2, h3, h4, h5, _, _⟩
          have hs : ∀ (n : Nd) (a b : Int), seeK who n = seeK who ⟨n.kind, n.frm, n.to, n.num, n.text, a, b⟩ := fun n a b => by obtain ⟨k, f, t, u, s, a', b'⟩ := n; rw [seeK_of, seeK_of]
          exact ⟨h1, h2, h3, h4, h5, trivial, trivial⟩
end Go.Proofs.YtgaklaajbepfaaaGreatDoor
namespace Go.Proofs.YtgaklaajbepfaaaGreatDoor
open Go.RowKit Go.Maps Go.Shelf
set_option linter.unusedVariables false

theorem over_closed {p : Pl} {S : Int → Prop} (hS : ∀ x, S x → inP p x = true → S (atP p x).1.a ∧ S (atP p x).1.b) : ∀ (f : Nat) (t : Int) (acc : List Int), S t → ∀ x ∈ over p f t acc, x ∈ acc ∨ (S x ∧ inP p x = true)
  | 0, _, _, _, _, h => .inl h
  | f + 1, t, acc, ht, x, h => by
    by_cases hc : inP p t = true ∧ t ∉ acc
    · rw [over_in p f hc.1 hc.2] at h
      obtain ⟨ka, kb⟩ := hS t ht hc.1
      rcases List.mem_append.1 h with h | h
      · rcases over_closed hS f _ _ kb x h with h | h
        · exact over_closed hS f _ _ ka x h
        · exact .inr h
      · obtain rfl : x = t := by simpa using h
        exact .inr ⟨ht, hc.1⟩
    · rw [over_out p _ hc] at h; exact .inl h
theorem subs_closed {p : Pl} {S : Int → Prop} (hS : ∀ x, S x → inP p x = true → S (atP p x).1.a ∧ S (atP p x).1.b) {t : Int} (ht : S t) : ∀ x ∈ subs p t, S x ∧ inP p x = true := fun x hx => by
  rcases over_closed hS _ _ _ ht x hx with h | h
  · cases h
  · exact h
theorem subs_kids {q : Pl} (hq : Ok q) {t x : Int} (h : x ∈ subs q t) : ((atP q x).1.a = 0 ∨ (atP q x).1.a ∈ subs q t) ∧ ((atP q x).1.b = 0 ∨ (atP q x).1.b ∈ subs q t) := by
  obtain ⟨pre, suf, e⟩ := List.append_of_mem h
  obtain ⟨_, h1, h2⟩ := subs_cl hq t pre x suf e
  rw [e]
  exact ⟨h1.imp id fun h => List.mem_append_left _ h, h2.imp id fun h => List.mem_append_left _ h⟩
theorem Anew.out {kf : Nd → Int} {q : Pl} {T : Int} {p : Pl} {m : Int → Option Int} (h : Anew kf q T p m) {x : Int} (hx : m x = some 0) : x = 0 := by
  rcases h.at_ x 0 hx with ⟨h, _⟩ | ⟨_, _, h, _⟩
  · exact h
  · rw [inP_zero] at h; cases h
/-- What is made anew, where no two become one and nothing of it can be told, corresponds to what it was made of. -/
theorem anew_bij {kf : Nd → Int} {q : Pl} {T : Int} {p : Pl} {m : Int → Option Int} {who : Int} (hq : Ok q) (hA : Anew kf q T p m) (t : Int) (hinj : ∀ x y u, x ∈ subs q t → y ∈ subs q t → m x = some u → m y = some u → x = y) (hsame : ∀ x ∈ subs q t, ∀ a b, sameB who (atP q x).1 (kdN (kf (atP q x).1) (abN (atP q x).1 a b)) = true) : Bij p who (fun x y => m x = some y ∧ (x = 0 ∨ x ∈ subs q t)) := by
  refine ⟨fun a b b' h h' => Option.some.inj (h.1.symm.trans h'.1), ?_, ⟨hA.zero, .inl rfl⟩, ?_⟩
  · rintro a a' b ⟨h1, h2⟩ ⟨k1, k2⟩
    rcases h2 with rfl | h2
    · rw [hA.zero] at h1
      rw [← Option.some.inj h1] at k1
      exact (hA.out k1).symm
    · rcases k2 with rfl | k2
      · rw [hA.zero] at k1
        rw [← Option.some.inj k1] at h1
        exact hA.out h1
      · exact hinj _ _ _ h2 k2 h1 k1
  · rintro a b ⟨h1, h2⟩
    rcases hA.at_ a b h1 with h | ⟨g1, g2, g3, ⟨x, y, g4, g5, g6⟩, _⟩
    · exact .inl h
    · have ha : a ∈ subs q t := by
        rcases h2 with rfl | h2
        · rw [inP_zero] at g1; cases g1
        · exact h2
      obtain ⟨e, he⟩ := hA.ext
      obtain ⟨ka, kb⟩ := subs_kids hq ha
      have hat : atP p a = atP q a := by rw [he]; exact atP_append g1
      refine .inr ⟨by rw [he]; exact inP_le g1 (by simp), g3, ?_, ?_, ?_⟩
      · rw [hat, g6]; exact hsame a ha x y
      · rw [hat, g6]; exact ⟨g4, ka⟩
      · rw [hat, g6]; exact ⟨g5, kb⟩
theorem anew_alike {kf : Nd → Int} {q : Pl} {T : Int} {p : Pl} {m : Int → Option Int} {who : Int} (hq : Ok q) (hA : Anew kf q T p m) {t s : Int} (hin : inP q t = true) (hm : m t = some s) (hn : nameB who = true) (hinj : ∀ x y u, x ∈ subs q t → y ∈ subs q t → m x = some u → m y = some u → x = y) (hsame : ∀ x ∈ subs q t, ∀ a b, sameB who (atP q x).1 (kdN (kf (atP q x).1) (abN (atP q x).1 a b)) = true) : AlikeP p who [t] [s] := by
  obtain ⟨e, he⟩ := hA.ext
  refine ⟨hn, fun x hx => ?_, fun x hx => ?_, rfl, _, anew_bij hq hA t hinj hsame, fun i h1 h2 => ?_⟩
  · obtain rfl : x = t := by simpa using hx
    rw [he]; exact inP_le hin (by simp)
  · obtain rfl : x = s := by simpa using hx
    rcases hA.at_ _ _ hm with ⟨rfl, _⟩ | ⟨_, _, h, _⟩
    · rw [inP_zero] at hin; cases hin
    · exact h
  · simp only [List.length_cons, List.length_nil] at h1
    obtain rfl : i = 0 := by omega
    exact ⟨hm, .inr (subs_has hin)⟩
theorem makeK_prom {at' : Int} {n : Nd} {a b : Int} : promB (kdN (makeK at' n) (abN n a b)) at' = false := by
  obtain ⟨k, f, t, u, s, x, y⟩ := n
  unfold makeK promB kdN abN
  simp only
  cases h : (k == 8 && t == at')
  · rw [if_neg (by simp)]; exact h
  · rw [if_pos rfl]; rfl
/-- No promise to him is left in what was made. -/
theorem swap_none {q p : Pl} {at' T : Int} {m : Int → Option Int} (hA : Anew (makeK at') q T p m) {t s : Int} (hm : m t = some s) : promL p at' (subs p s) = [] := by
  unfold promL
  rw [List.filter_eq_nil_iff]
  have hc := subs_closed (p := p) (S := fun x => ∃ k, m k = some x) (fun x ⟨k, hk⟩ hx => by
    rcases hA.at_ k x hk with ⟨_, rfl⟩ | ⟨_, _, _, ⟨y, z, g4, g5, g6⟩, _⟩
    · rw [inP_zero] at hx; cases hx
    · rw [g6]; exact ⟨⟨_, g4⟩, ⟨_, g5⟩⟩) (t := s) ⟨t, hm⟩
  intro x hx
  obtain ⟨⟨k, hk⟩, hin⟩ := hc x hx
  rcases hA.at_ k x hk with ⟨_, rfl⟩ | ⟨_, _, _, ⟨y, z, g4, g5, g6⟩, _⟩
  · rw [inP_zero] at hin; cases hin
  · rw [g6, makeK_prom]; decide
/-- What the statement asks of each subterm. -/
def FreeOk (at' who : Int) (n : Nd) : Prop := ¬ (n.to = at' ∧ (n.kind = 9 ∨ (n.kind = 8 ∧ n.frm = who)))
theorem makeK_inj {at' who : Int} {n n' : Nd} {a b : Int} (h : FreeOk at' who n) (h' : FreeOk at' who n') (e : kdN (makeK at' n) (abN n a b) = kdN (makeK at' n') (abN n' a b)) : n.kind = n'.kind ∧ n.frm = n'.frm ∧ n.to = n'.to ∧ n.num = n'.num ∧ n.text = n'.text := by
  obtain ⟨k, f, t, u, s, x, y⟩ := n
  obtain ⟨k2, f2, t2, u2, s2, x2, y2⟩ := n'
  unfold kdN abN at e
  simp only [Nd.mk.injEq] at e
  obtain ⟨e1, rfl, rfl, rfl, rfl, _, _⟩ := e
  refine ⟨?_, rfl, rfl, rfl, rfl⟩
  unfold makeK promB at e1
  unfold FreeOk at h h'
  simp only [Bool.and_eq_true, beq_iff_eq] at e1 h h' ⊢
  by_cases c1 : k = 8 ∧ t = at'
  · rw [if_pos c1] at e1
    by_cases c2 : k2 = 8 ∧ t = at'
    · omega
    · rw [if_neg c2] at e1
      exact absurd ⟨c1.2, .inl e1.symm⟩ h'
  · rw [if_neg c1] at e1
    by_cases c2 : k2 = 8 ∧ t = at'
    · rw [if_pos c2] at e1
      exact absurd ⟨c2.2, .inl e1⟩ h
    · rw [if_neg c2] at e1; exact e1
theorem makeK_same {at' who : Int} {n : Nd} (h : FreeOk at' who n) (h1 : who ≠ at') (h2 : who ≠ 2) (a b : Int) : sameB who n (kdN (makeK at' n) (abN n a b)) = true := by
  rw [sameB_see]
  obtain ⟨k, f, t, u, s, x, y⟩ := n
  unfold FreeOk at h
  simp only at h
  unfold seeN
  have e : kdN (makeK at' ⟨k, f, t, u, s, x, y⟩) (abN ⟨k, f, t, u, s, x, y⟩ a b) = ⟨makeK at' ⟨k, f, t, u, s, x, y⟩, f, t, u, s, a, b⟩ := rfl
  rw [e]
  unfold kdN abN
  simp only [Nd.mk.injEq, and_true]
  rw [seeK_of, seeK_of]
  unfold makeK promB
  simp only
  by_cases c : (k == 8 && t == at') = true
  · rw [if_pos c]
    simp only [Bool.and_eq_true, beq_iff_eq] at c
    obtain ⟨rfl, rfl⟩ := c
    have hf : who ≠ f := fun e => h ⟨rfl, .inr ⟨rfl, e.symm⟩⟩
    have ht : tellK who f t = false := by
      unfold tellK
      rw [ebF hf, ebF h1, ebF h2]; rfl
    rw [ht]; rfl
  · rw [if_neg c]
theorem swap_alike {q p : Pl} {at' T who : Int} {m : Int → Option Int} (hq : Ok q) (hA : Anew (makeK at') q T p m) {t s : Int} (hin : inP q t = true) (hm : m t = some s) (hn : nameB who = true) (h1 : who ≠ at') (h2 : who ≠ 2) (hf : ∀ x ∈ subs q t, FreeOk at' who (atP q x).1) : AlikeP p who [t] [s] := by
  have hinj : ∀ (k : Nat) (x y u : Int), x.toNat < k → x ∈ subs q t → y ∈ subs q t → m x = some u → m y = some u → x = y := by
    intro k
    induction k with
    | zero => intro x y u h; exact absurd h (Nat.not_lt_zero _)
    | succ k ih =>
      intro x y u hk hx hy hxu hyu
      have hxi := subs_in hq hx
      have hyi := subs_in hq hy
      rcases hA.at_ _ _ hxu with ⟨rfl, _⟩ | ⟨_, _, _, ⟨xa, xb, a4, a5, a6⟩, _⟩
      · rw [inP_zero] at hxi; cases hxi
      rcases hA.at_ _ _ hyu with ⟨rfl, _⟩ | ⟨_, _, _, ⟨ya, yb, b4, b5, b6⟩, _⟩
      · rw [inP_zero] at hyi; cases hyi
      have e := a6.symm.trans b6
      have e2 : xa = ya ∧ xb = yb := by
        unfold kdN abN at e
        simp only [Nd.mk.injEq] at e
        exact ⟨e.2.2.2.2.2.1, e.2.2.2.2.2.2⟩
      obtain ⟨rfl, rfl⟩ := e2
      have hx1 : 1 ≤ x := by unfold inP at hxi; simp at hxi; omega
      obtain ⟨la, lb⟩ := kid_less hq hxi
      obtain ⟨sa, sb⟩ := subs_kids hq hx
      obtain ⟨ta, tb⟩ := subs_kids hq hy
      have kid : ∀ a b v : Int, (a = 0 ∨ (inP q a = true ∧ a < x)) → (a = 0 ∨ a ∈ subs q t) → (b = 0 ∨ b ∈ subs q t) → m a = some v → m b = some v → a = b := fun a b v l1 l2 l3 l4 l5 => by
        rcases l2 with rfl | l2
        · rw [hA.zero] at l4
          rw [← Option.some.inj l4] at l5
          exact (hA.out l5).symm
        · rcases l3 with rfl | l3
          · rw [hA.zero] at l5
            rw [← Option.some.inj l5] at l4
            exact hA.out l4
          · refine ih a b v ?_ l2 l3 l4 l5
            rcases l1 with rfl | l1
            · omega
            · have := subs_in hq l2
              unfold inP at this
              simp at this
              omega
      have ea := kid _ _ _ la sa ta a4 b4
      have eb := kid _ _ _ lb sb tb a5 b5
      obtain ⟨c1, c2, c3, c4, c5⟩ := makeK_inj (hf x hx) (hf y hy) e
      refine hq.at_inj hxi hyi ?_
      revert c1 c2 c3 c4 c5 ea eb
      generalize (atP q x).1 = n
      generalize (atP q y).1 = n2
      obtain ⟨k, f, t, u, s, a, b⟩ := n
      obtain ⟨k2, f2, t2, u2, s2, a2, b2⟩ := n2
      simp only [Nd.mk.injEq]
      rintro rfl rfl rfl rfl rfl rfl rfl
      exact ⟨rfl, rfl, rfl, rfl, rfl, rfl, rfl⟩
  exact anew_alike hq hA hin hm hn (fun x y u => hinj _ x y u (Nat.lt_succ_self _)) (fun x hx a b => makeK_same (hf x hx) h1 h2 a b)
end Go.Proofs.YtgaklaajbepfaaaGreatDoor
namespace Go.Proofs.YtgaklaajbepfaaaGreatDoor
open Go.RowKit Go.Maps Go.Shelf
set_option linter.unusedVariables false

theorem seeK_idem (who : Int) (n : Nd) (a b : Int) : seeK who (kdN (seeK who n) (abN n a b)) = seeK who n := by
  obtain ⟨k, f, t, u, s, x, y⟩ := n
  have e : kdN (seeK who ⟨k, f, t, u, s, x, y⟩) (abN ⟨k, f, t, u, s, x, y⟩ a b) = ⟨seeK who ⟨k, f, t, u, s, x, y⟩, f, t, u, s, a, b⟩ := rfl
  rw [e, seeK_of, seeK_of]
  by_cases c : (twoK k && !tellK who f t) = true
  · rw [if_pos c]
    have c2 : (twoK 8 && !tellK who f t) = true := by
      simp only [Bool.and_eq_true] at c ⊢; exact ⟨rfl, c.2⟩
    rw [if_pos c2]
  · rw [if_neg c, if_neg c]
theorem see_same (who : Int) (n : Nd) (a b : Int) : sameB who n (kdN (seeK who n) (abN n a b)) = true := by
  rw [sameB_see]
  unfold seeN
  rw [seeK_idem]
  obtain ⟨k, f, t, u, s, x, y⟩ := n
  rfl
/-- A view's view is the view. -/
theorem view_again {q p1 p2 : Pl} {who : Int} {T1 T2 : Int} {m1 m2 : Int → Option Int} (h1 : Anew (seeK who) q T1 p1 m1) (h2 : Anew (seeK who) p1 T2 p2 m2) : ∀ (n : Nat) (k x y : Int), x.toNat < n → m1 k = some x → m2 x = some y → y = x
  | 0, _, _, _, h, _, _ => absurd h (Nat.not_lt_zero _)
  | n + 1, k, x, y, hn, hk, hx => by
    rcases h2.at_ _ _ hx with ⟨rfl, rfl⟩ | ⟨a1, a2, a3, ⟨xa, xb, a4, a5, a6⟩, _⟩
    · rfl
    · rcases h1.at_ _ _ hk with ⟨_, rfl⟩ | ⟨b1, b2, b3, ⟨ka, kb, b4, b5, b6⟩, _⟩
      · rw [inP_zero] at a1; cases a1
      · have hx1 : 1 ≤ x := by unfold inP at a1; simp at a1; omega
        obtain ⟨la, lb⟩ := kid_less h1.ok a1
        have ea : (atP p1 x).1.a = ka := by rw [b6]; rfl
        have eb : (atP p1 x).1.b = kb := by rw [b6]; rfl
        rw [ea] at la a4
        rw [eb] at lb a5
        have fa : xa = ka := view_again h1 h2 n _ _ _ (by rcases la with e | e <;> omega) b4 a4
        have fb : xb = kb := view_again h1 h2 n _ _ _ (by rcases lb with e | e <;> omega) b5 a5
        obtain ⟨e2, he2⟩ := h2.ext
        refine h2.ok.at_inj a3 (by rw [he2]; exact inP_le a1 (by simp)) ?_
        rw [a6, show atP p2 x = atP p1 x by rw [he2]; exact atP_append a1, fa, fb, b6, seeK_idem]
        rfl
theorem seeTK_eq (who : Int) (n : Nd) : seeK who n = seeTK who n.kind n.frm n.to := by
  obtain ⟨k, f, t, u, s, x, y⟩ := n
  rw [seeK_of]
  unfold seeTK twoK
  simp only
  cases tellK who f t
  · by_cases h8 : k = 8
    · subst h8; rfl
    · by_cases h9 : k = 9
      · subst h9; rfl
      · rw [ebF h8, ebF h9]; rfl
  · simp
theorem kids_see (who k f t : Int) : kidsN (seeTK who k f t) = kidsN k := by
  unfold seeTK
  by_cases h : (k == 9 && !tellK who f t) = true
  · rw [if_pos h]
    simp only [Bool.and_eq_true, beq_iff_eq] at h
    rw [h.1]; decide
  · rw [if_neg h]
theorem rep_map {q p : Pl} {who T : Int} {m : Int → Option Int} (hA : Anew (seeK who) q T p m) : ∀ (f : Fo) (ts us : List Int), RepF q ts f → ts.map m = us.map some → RepF p us (mapF (vtT who) f)
  | .nil, [], us, _, hm => by
    have : us = [] := by
      cases us with
      | nil => rfl
      | cons a l => simp at hm
    subst this
    exact trivial
  | .nil, _ :: _, _, h, _ => h.elim
  | .cons n k r, [], _, h, _ => h.elim
  | .cons n k r, t :: ts, us, h, hm => by
    obtain ⟨h1, ⟨ka, h2, h3, h4⟩, h5⟩ := h
    cases us with
    | nil => simp at hm
    | cons u us =>
      simp only [List.map_cons, List.cons.injEq] at hm
      obtain ⟨hm1, hm2⟩ := hm
      refine ⟨?_, ?_, rep_map hA r ts us h5 hm2⟩
      · rcases hA.at_ _ _ hm1 with ⟨rfl, _⟩ | ⟨_, _, g, _⟩
        · rw [inP_zero] at h1; cases h1
        · exact g
      · rcases hA.at_ _ _ hm1 with ⟨rfl, _⟩ | ⟨_, _, _, ⟨x, y, g4, g5, g6⟩, _⟩
        · rw [inP_zero] at h1; cases h1
        have hk2 := kidsN_le n.kind
        have hkind : ∀ ka', (ka'.getD 0 0 = x ∧ ka'.getD 1 0 = y) → (atP p u).1 = nodeOf (vtT who n) ka' := fun ka' e => by
          rw [g6, seeTK_eq, h4]
          unfold nodeOf vtT kdN abN
          simp only [e.1, e.2]
        rw [h4] at g4 g5
        simp only [nodeOf] at g4 g5
        match ka, h3 with
        | [], h3 =>
          simp only [List.getD_nil] at g4 g5
          rw [hA.zero] at g4 g5
          refine ⟨[], rep_map hA k [] [] h2 rfl, by rw [show (vtT who n).kind = seeTK who n.kind n.frm n.to from rfl, kids_see]; exact h3, hkind _ ⟨?_, ?_⟩⟩
          · simpa using Option.some.inj g4
          · simpa using Option.some.inj g5
        | [a], h3 =>
          simp only [List.getD_cons_zero, List.getD_cons_succ, List.getD_nil] at g4 g5
          rw [hA.zero] at g5
          refine ⟨[x], rep_map hA k [a] [x] h2 (by simp [g4]), by rw [show (vtT who n).kind = seeTK who n.kind n.frm n.to from rfl, kids_see]; exact h3, hkind _ ⟨by simp, ?_⟩⟩
          simpa using Option.some.inj g5
        | [a, b], h3 =>
          simp only [List.getD_cons_zero, List.getD_cons_succ] at g4 g5
          exact ⟨[x, y], rep_map hA k [a, b] [x, y] h2 (by simp [g4, g5]), by rw [show (vtT who n).kind = seeTK who n.kind n.frm n.to from rfl, kids_see]; exact h3, hkind _ ⟨by simp, by simp⟩⟩
        | _ :: _ :: _ :: _, h3 => simp only [List.length_cons] at h3; omega
theorem mapF_bare (who : Int) : ∀ {f : Fo}, Bare f → Bare (mapF (vtT who) f)
  | .nil, _ => trivial
  | .cons n k r, h => ⟨h.1, h.2.1, mapF_bare who h.2.2.1, mapF_bare who h.2.2.2⟩
/-- Terms with one view have trees with one view. -/
theorem view_trees {q p : Pl} {who T : Int} {m : Int → Option Int} (hA : Anew (seeK who) q T p m) {x y u : Int} {n1 n2 : Nd} {k1 k2 : Fo} (h1 : RepF q [x] (.cons n1 k1 .nil)) (h2 : RepF q [y] (.cons n2 k2 .nil)) (b1 : Bare (.cons n1 k1 .nil)) (b2 : Bare (.cons n2 k2 .nil)) (hx : m x = some u) (hy : m y = some u) : vtT who n1 = vtT who n2 ∧ mapF (vtT who) k1 = mapF (vtT who) k2 := by
  have e := RepF.tree (rep_map hA _ _ [u] h1 (by simp [hx])) (rep_map hA _ _ [u] h2 (by simp [hy])) (mapF_bare who b1) (mapF_bare who b2)
  simp only [mapF, Fo.cons.injEq, and_true] at e
  exact e
theorem view_alike {q p : Pl} {who T : Int} {m : Int → Option Int} (hq : Ok q) (hA : Anew (seeK who) q T p m) {t v : Int} (hin : inP q t = true) (hm : m t = some v) (hn : nameB who = true) (hd : ∀ a b (ha : a < (subs q t).length) (hb : b < (subs q t).length), b < a → ∀ u, m (subs q t)[a] = some u → m (subs q t)[b] ≠ some u) : AlikeP p who [t] [v] := by
  refine anew_alike hq hA hin hm hn (fun x y u hx hy hxu hyu => ?_) (fun x _ a b => see_same who _ a b)
  obtain ⟨i, hi, rfl⟩ := List.getElem_of_mem hx
  obtain ⟨j, hj, rfl⟩ := List.getElem_of_mem hy
  rcases Nat.lt_trichotomy i j with h | h | h
  · exact absurd hxu (hd j i hj hi h u hyu)
  · subst h; rfl
  · exact absurd hyu (hd i j hi hj h u hxu)
end Go.Proofs.YtgaklaajbepfaaaGreatDoor
namespace Go.Proofs.YtgaklaajbepfaaaGreatDoor
open Go.RowKit Go.Maps Go.Shelf
set_option linter.unusedVariables false

theorem hold_rowT {w w' : World} {base n size : Nat} {e T : TypeId} {v : Value} {xs : List Value} (ho : w.ownsRow base e size v n xs) (hg : w.grownBy w' v.ownBlock) (hT : T ≠ e) : Hold T w w' := fun b cs hb => by
  rw [hg.block b (Array.getElem?_eq_some_iff.1 hb).1 (fun e' => by
    obtain ⟨_, cur, hc⟩ := own_type ho e'.symm
    rw [hb] at hc
    simp only [Option.some.injEq, Obj.cells.injEq] at hc
    exact hT hc.2.1)]
  exact hb
theorem map_rowT {w w' : World} {base n size j : Nat} {e : TypeId} {v : Value} {xs : List Value} {es : Array MapEntry} {c : Nat} (ho : w.ownsRow base e size v n xs) (hg : w.grownBy w' v.ownBlock) (hm : w.heap[j]? = some (.map es c)) : w'.heap[j]? = some (.map es c) := by
  rw [hg.block j (Array.getElem?_eq_some_iff.1 hm).1 (fun e' => by
    obtain ⟨_, cur, hc⟩ := own_type ho e'.symm
    rw [hm] at hc
    cases hc)]
  exact hm
theorem ReG.app {w x y : World} {B b mb : Nat} {row : Option Nat} (hB : B ≤ w.heap.size) (h : ReG w B b mb x) (g : x.grownBy y row) (hr : ∀ k, row = some k → w.heap.size ≤ k) : ReG w B b mb y := by
  have hs := h.below.size
  refine ⟨h.below.grown g (Nat.le_trans hB hs) (fun k e => Nat.le_trans hB (hr k e)), fun T h1 h2 k u hk => ?_, fun j h1 h2 es c hm => ?_⟩
  · have hl := (Array.getElem?_eq_some_iff.1 hk).1
    rw [g.block k (Nat.lt_of_lt_of_le hl hs) (fun e => by have := hr k e.symm; omega)]
    exact h.hold T h1 h2 k u hk
  · have hl := (Array.getElem?_eq_some_iff.1 hm).1
    rw [g.block j (Nat.lt_of_lt_of_le hl hs) (fun e => by have := hr j e.symm; omega)]
    exact h.maps j h1 h2 es c hm
/-- What Frame answers where all is well. -/
def FramePost (w : World) (B a b : Nat) (v : Value) (who : Int) (q : Pl) (l : List Int) (e : Ending) (w' : World) : Prop :=
  ∃ (lv : Value) (fs : List Int) (v' : Value) (p' : Pl) (m' : Int → Option Int), e = .returned (.tuple #[lv, .int .i64 0]) ∧ w'.ownsRow w.heap.size TermT 1 lv fs.length (ints fs) ∧ fs.length = l.length ∧ (∀ i (h : i < l.length) (h' : i < fs.length), m' l[i] = some fs[i]) ∧ IsPool w' B a b v' p' ∧ Anew (seeK who) q (q.length : Int) p' m' ∧ ReG w B b w.heap.size w' ∧ (∀ k, k < w.heap.size → k ≠ a → k ≠ b → v.ownBlock ≠ some k → w'.heap[k]? = w.heap[k]?) ∧ (v'.ownBlock = v.ownBlock ∨ ∃ g, v'.ownBlock = some g ∧ w.heap.size ≤ g)
set_option maxRecDepth 100000 in
set_option maxHeartbeats 6400000 in
theorem frame_bad {w : World} {B a b : Nat} {v : Value} {p : Pl} (h : IsPool w B a b v p) (who : Int) {vl : Value} {l : List Int} (hl : Row w 1 vl l.length (ints l)) (hll : l.length ≤ 1000000) (hr : rfsP p who l ≠ 0) : Calls Tryz.prog 35 #[.pointer (some ⟨a, 0, none⟩), .int .i64 who, vl] w fun e w' => e = .returned (.tuple #[.slice none 0 0, .int .i64 (rfsP p who l)]) ∧ Below w.heap.size w w' := by
  have RF := Lib.hid (refuse_any h who hl hll)
  obtain ⟨la, lc, rfl⟩ := hl.shape
  have hne : (rfsP p who l != 0) = true := by rw [bne, ebF hr]; rfl
  generalize rfsP p who l = r at *
  clear h hr hl
  go_enter Tryz.func35, Tryz.ntmps35
  go_wp2_with fail
  refine RF.out.mono ?_
  rintro e w2 ⟨rfl, u2⟩
  have HB2 := Lib.hid u2
  clear u2 RF
  go_wp2_with fail
  go_returns
  exact ⟨rfl, HB2.out⟩
set_option maxRecDepth 100000 in
set_option maxHeartbeats 25600000 in
theorem frame_any {w w0 : World} {B a b bl : Nat} {v : Value} {p : Pl} (hL : Laid w0) (hB : w0.heap.size ≤ B) (hw : Below w0.heap.size w0 w) (h : IsPool w B a b v p) (who : Int) {vl : Value} {l : List Int} (hl : w.ownsRow bl TermT 1 vl l.length (ints l)) (hll : l.length ≤ 1000000) (hr0 : rfsP p who l = 0) (hroom : p.length + p.length ≤ 65536) : Calls Tryz.prog 35 #[.pointer (some ⟨a, 0, none⟩), .int .i64 who, vl] w (FramePost w B a b v who p l) := by
  have RF := Lib.hid (refuse_any h who (row_of_own hl) hll)
  rw [hr0] at RF
  have HNI := Lib.hid (rfs_zero.1 hr0)
  have HP := Lib.hid h
  have HW := Lib.hid hw
  have HLO := Lib.hid hl
  obtain ⟨la, lc, rfl⟩ := (row_of_own hl).shape
  have HRE := Lib.hid (fun (ab pb kb rb mb ob : Nat) (h1 : mb ≠ b) (h2 : B ≤ mb) (t : Int) (hin : inP p t = true) => re_all (ab := ab) (pb := pb) (kb := kb) (rb := rb) (ob := ob) (mb := mb) (a := a) (T := (p.length : Int)) h.ok hL hB (seeF who) (by omega) (by omega) h1 h2 _ t (Nat.lt_succ_self _) (.inr hin) (by unfold inP at hin; simp at hin; omega))
  have HST := Lib.hid (Anew.start (seeK who) h.ok (p.length : Int))
  clear h hL hw hr0 hroom hl
  go_enter Tryz.func35, Tryz.ntmps35
  go_wp2_with fail
  refine RF.out.mono ?_
  rintro e w2 ⟨rfl, u2⟩
  have HB2 := Lib.hid u2
  clear u2 RF
  go_wp2_with fail
  refine (seenBy_any w2 who).mono ?_
  rintro e w3 ⟨rfl, ho, u3⟩
  have HO3 := Lib.hid ho
  have HB3 := Lib.hid (bmore HB2.out u3)
  have hs3 : w.heap.size ≤ w3.heap.size := HB3.out.size
  clear ho u3
  generalize w2.heap.size = ob at *
  go_wp2_with fail
  refine (remaking_any w3 a _ ob (p.length : Int)).mono ?_
  rintro e w4 ⟨ab, pb, kb, rb, mb, rfl, hre, hanm, hmb, u4⟩
  have HO4 := Lib.hid (Hold.below u4 _ _ HO3.out)
  have HB4 := Lib.hid (bmore HB3.out u4)
  have hmbw : w.heap.size ≤ mb := Nat.le_trans hs3 hmb
  have hbw : b < w.heap.size := by obtain ⟨D, ho, _⟩ := HP.out.dict; exact ho.lt
  have hBw : B ≤ w.heap.size := Nat.le_trans HP.out.ga (Nat.le_of_lt HP.out.lt)
  have HR4 := Lib.hid hre
  have HA4 := Lib.hid hanm
  have HC := Lib.hid (fun (t : Int) (hin : inP p t = true) => HRE.out ab pb kb rb mb ob (by omega) (Nat.le_trans hBw hmbw) t hin)
  have HMB := Lib.hid hmbw
  have HBW := Lib.hid hBw
  have HG4 := Lib.hid (ReG.of (b := b) (mb := mb) hBw HB4.out)
  have HF4 := Lib.hid (ReF.of (a := a) (b := b) (mb := mb) (v := v) HB4.out)
  have HP4 := Lib.hid (HP.out.below HB4.out)
  have HL4 := Lib.hid (own_hold HLO.out (Hold.below HB4.out))
  have HLB : Hid (∀ r, (Value.slice la l.length lc).ownBlock = some r → r < w.heap.size) := Lib.hid fun r e => by
    obtain ⟨_, cur, hc⟩ := own_type HLO.out e
    exact (Array.getElem?_eq_some_iff.1 hc).1
  clear hre hanm hmb u4 HRE hbw hBw hmbw
  have eg := enters_of Tryz.func107 (by kernel_rfl) rfl
  obtain ⟨wo, hwo⟩ : ∃ wo, wo = w4 := ⟨_, rfl⟩
  go_wp2_with fail
  go_loopw [10, 28] (fun v10 v28 wr => ∃ (i : Nat) (fs : List Int) (v' : Value) (p' : Pl) (m' : Int → Option Int), v28 = .int .i64 (i : Int) ∧ i ≤ l.length ∧ fs.length = i ∧ wr.ownsRow w.heap.size TermT 1 v10 fs.length (ints fs) ∧ (∀ j (h : j < l.length) (h' : j < fs.length), m' l[j] = some fs[j]) ∧ IsPool wr B a b v' p' ∧ Anew (seeK who) p (p.length : Int) p' m' ∧ AnM wr mb (p.length : Int) m' ∧ IsRe wr ab pb kb rb mb a (.func (.func 108) #[] #[.pointer (some ⟨ob, 0, none⟩)]) ∧ wr.heap[ob]? = some (Obj.cells #[.int .i64 who] WhoT) ∧ wr.ownsRow bl TermT 1 (.slice la l.length lc) l.length (ints l) ∧ ReG w B b mb wr ∧ ReF w a b mb v wr v') (fun _ v _ => l.length - (intOf v).toNat)
  case atStart => exact ⟨0, [], v, p, _, rfl, Nat.zero_le _, rfl, World.ownsRow_nil _ _ _ 1, fun j _ h => absurd h (Nat.not_lt_zero _), HP4.out, HST.out, HA4.out, HR4.out, HO4.out, HL4.out, HG4.out, HF4.out⟩
  case round =>
    clear HP4 HA4 HR4 HO4 HL4 HG4 HF4
    obtain ⟨i, fs, v', p', m', rfl, hi, hfl, hown, hval, hp, ha, hm, hre, hob, hlo, hg, hrf⟩ := hrel
    have HRF := Lib.hid hrf
    clear hrf
    have HFL := Lib.hid hfl
    have HO := Lib.hid hown
    have HV := Lib.hid hval
    have HPW := Lib.hid hp
    have HAN := Lib.hid ha
    have HM := Lib.hid hm
    have HR := Lib.hid hre
    have HOB := Lib.hid hob
    have HLR := Lib.hid hlo
    have HG := Lib.hid hg
    obtain ⟨oa, oc, rfl⟩ := (row_of_own hown).shape
    clear hfl hown hval hp ha hm hre hob hg
    by_cases hlt : i < l.length
    · obtain ⟨la', lc', es, hsx⟩ := (row_of_own hlo).at
      obtain ⟨rfl, rfl⟩ : la = la' ∧ lc = lc' := by
        simp only [Value.slice.injEq, true_and] at es; exact ⟨es.1, es.2⟩
      obtain ⟨lb, lo, rfl, ql⟩ := hsx (by omega)
      have cl := ql i _ (ints_at l i hlt)
      have hi0 : (0 : Int) ≤ (i : Int) := by omega
      have hi1 : (i : Int) < (l.length : Int) := by omega
      have CC := Lib.hid (HC.out l[i] (HNI.out.2 _ (List.getElem_mem hlt)) wr v' p' m' (HW.out.trans (HG.out.below.mono hB)) HPW.out HR.out HOB.out HAN.out HM.out)
      have HVX : Hid (∀ (m2 : Int → Option Int) (u : Int), (∀ x z, m' x = some z → m2 x = some z) → m2 l[i] = some u → ∀ j (h : j < l.length) (h' : j < (fs ++ [u]).length), m2 l[j] = some (fs ++ [u])[j]) := Lib.hid fun m2 u h1 h2 j h h' => by
        rcases Nat.lt_or_ge j fs.length with hj | hj
        · rw [List.getElem_append_left hj]; exact h1 _ _ (HV.out j h hj)
        · have hfl := HFL.out
          simp only [List.length_append, List.length_cons, List.length_nil] at h'
          obtain rfl : j = i := by omega
          rw [List.getElem_append_right (by omega)]
          simp only [hfl, Nat.sub_self, List.getElem_cons_zero]
          exact h2
      generalize l[i] = x at *
      clear ql hsx es hlo
      have hfl6 : fs.length ≤ 1000000 := by have := HFL.out; omega
      go_wp2_with fail
      refine CC.out.mono ?_
      rintro e w5 ⟨u, v5, p5, m5, rfl, hp5, ha5, hm5, hu5, hs5, _, g5, f5⟩
      have HP5 := Lib.hid hp5
      have HA5 := Lib.hid ha5
      have HM5 := Lib.hid hm5
      have HR5 := Lib.hid (HR.out.hold g5.hold)
      have HOB5 := Lib.hid (g5.hold WhoT (by decide) (by decide) _ _ HOB.out)
      have HLR5 := Lib.hid (own_hold HLR.out (g5.hold TermT (by decide) (by decide)))
      have HO5 := Lib.hid (own_hold HO.out (g5.hold TermT (by decide) (by decide)))
      have HG5 := Lib.hid (HG.out.trans g5)
      have HF5 := Lib.hid (HRF.out.trans f5)
      have HVN := Lib.hid (HVX.out m5 u hs5 hu5)
      clear hp5 ha5 hm5 hu5 hs5 g5 f5 CC HP HPW HM HR HOB HLR HO HG HVX HV HAN cl
      have bx := bA0 w5 (.cells #[.int .i64 u] TermT)
      have HBX := Lib.hid bx
      have HO6 := Lib.hid (own_hold HO5.out (Hold.below bx))
      have HSZ : Hid (w.heap.size ≤ (w5.alloc (.cells #[.int .i64 u] TermT)).heap.size) := Lib.hid (Nat.le_trans HG5.out.below.size bx.size)
      clear bx
      go_wp2_with (at_builtin; refine wpList_append_term rfl _ _ rfl w.heap.size (.slice oa fs.length oc) fs rfl HO6.out _ u rfl (cellB (j := 0) (heap_alloc_new w5 _) rfl) hfl6 HSZ.out ?_)
      intro v7 w7 hown7 hg7
      obtain ⟨va, vc, rfl⟩ := (row_of_own hown7).shape
      have HO7 := Lib.hid hown7
      have HH7 : Hid (∀ T, T ≠ TermT → Hold T w5 w7) := Lib.hid fun T hT => (Hold.below HBX.out).trans (hold_rowT HO6.out hg7 hT)
      have HM7 : Hid (∀ j es c, w5.heap[j]? = some (Obj.map es c) → w7.heap[j]? = some (Obj.map es c)) := Lib.hid fun j es c hm => map_rowT HO6.out hg7 (by rw [HBX.out.block j (Array.getElem?_eq_some_iff.1 hm).1]; exact hm)
      have HLR7 := Lib.hid (own_kept (own_hold HLR5.out (Hold.below HBX.out)) hg7 (fun r e e' => by
        have h1 := HLB.out r e'
        have h2 := (own_type HO6.out e).1
        omega))
      have HG7 := Lib.hid (ReG.app HBW.out (HG5.out.trans (ReG.of (Nat.le_trans HBW.out HG5.out.below.size) HBX.out)) hg7 (fun k e => (own_type HO6.out e).1))
      have HF7 : Hid (ReF w a b mb v w7 v5) := Lib.hid ⟨Nat.le_trans HF5.out.size (Nat.le_trans HBX.out.size hg7.size), fun k h1 h2 h3 h4 h5 => by
        rw [hg7.block k (Nat.lt_of_lt_of_le h1 (Nat.le_trans HF5.out.size HBX.out.size)) (fun e => by have := (own_type HO6.out e.symm).1; omega), HBX.out.block k (Nat.lt_of_lt_of_le h1 HF5.out.size)]
        exact HF5.out.blk k h1 h2 h3 h4 h5, HF5.out.own⟩
      have HP7 := Lib.hid (HP5.out.heldV (HH7.out _ (by decide)) (HH7.out _ (by decide)) (fun es c hm => HM7.out _ es c hm))
      have HA7 := Lib.hid (HM5.out.same (fun es c hm => HM7.out _ es c hm))
      have HR7 : Hid (IsRe w7 ab pb kb rb mb a (.func (.func 108) #[] #[.pointer (some ⟨ob, 0, none⟩)])) := Lib.hid ⟨HH7.out _ (by decide) _ _ HR5.out.an, HH7.out _ (by decide) _ _ HR5.out.pl, HH7.out _ (by decide) _ _ HR5.out.kd, HH7.out _ (by decide) _ _ HR5.out.re⟩
      have HOB7 := Lib.hid (HH7.out WhoT (by decide) _ _ HOB5.out)
      clear hown7 hg7 HBX HO6 HSZ HH7 HM7 HP5 HM5 HR5 HOB5 HLR5 HO5 HG5
      go_wp2_with fail
      go_roundw
      case rel => exact ⟨i + 1, fs ++ [u], v5, p5, m5, by go_num, by omega, by rw [List.length_append, HFL.out]; rfl, by rw [List.length_append]; exact HO7.out, HVN.out, HP7.out, HA5.out, HA7.out, HR7.out, HOB7.out, HLR7.out, HG7.out, HF7.out⟩
      case measure => simp [intOf] <;> omega
    · obtain rfl : i = l.length := by omega
      clear hlt
      have HF : Hid (FramePost w B a b v who p l (.returned (.tuple #[.slice oa fs.length oc, .int .i64 0])) wr) := Lib.hid ⟨_, fs, v', p', m', rfl, HO.out, HFL.out, HV.out, HPW.out, HAN.out, HG.out.fresh HMB.out (Nat.le_refl _), fun k h1 h2 h3 h4 => HRF.out.blk k h1 h2 h3 (by have := HMB.out; omega) h4, HRF.out.own⟩
      clear hlo
      go_wp2_with fail
      go_returns
      exact HF.out
end Go.Proofs.YtgaklaajbepfaaaGreatDoor
namespace Go.Proofs.YtgaklaajbepfaaaGreatDoor
open Go.RowKit Go.Maps Go.Shelf
set_option linter.unusedVariables false

abbrev CtT : TypeId := 129
theorem zeroIV (w : World) : (zeroValue WhoT).run Tryz.prog w = .ok (.int .i64 0) w := by kernel_rfl
theorem rowIV : (Tryz.prog.info? WhoT).map (fun i => (i.zero, i.size, i.bytes)) = some (some (.int .i64 0), 1, 8) := by kernel_rfl
/-- append of one int to a list of the call's own. -/
theorem wpList_append_i1 {w : World} {ops : Array Oper} {rest : List Oper} {o : Oper} {a : Act} {Q : Exit → Act → World → Prop} (hg : o.guard = none) (s x : Operand)
    (ho : o.op = .call { callee := .builtin .append, args := #[s, x], argTypes := #[52, 52] })
    (base : Nat) (v : Value) (xs : List Int) (hs : a.eval s = v) (hown : w.ownsRow base WhoT 1 v xs.length (ints xs)) (b : Nat) (t : Int) (hx : a.eval x = .slice (some ⟨b, 0, none⟩) 1 1) (hb : w.cell? ⟨b, 0, none⟩ = some (.int .i64 t))
    (hlen : xs.length ≤ 1000000) (hbase : base ≤ w.heap.size)
    (h : ∀ v' w', w'.ownsRow base WhoT 1 v' (xs ++ [t]).length (ints (xs ++ [t])) → w.grownBy w' v.ownBlock → wpList Tryz.prog ops Q rest (a.put o.dst v') w') : wpList Tryz.prog ops Q (o :: rest) a w := by
  obtain ⟨i0, hi, hz0, hz1, hz2⟩ := info_parts rowIV
  refine wpList_plain hg fun K hK => ?_
  refine wp_append_own w s x 52 ho base WhoT i0 (.int .i64 0) 1 8 Tryz.underlying52 hi hz0 hz1 hz2 rfl (by decide) v _ _ hs hown ⟨b, 0, none⟩ 1 1 [.int .i64 t] hx rfl (fun j u hj => by
    cases j with
    | zero => simp at hj; subst hj; exact hb
    | succ j => simp at hj) (by simp; rfl) (by unfold maxLen; omega) (by omega) hbase ?_
  intro v' w' h6 h7 _
  exact hK _ _ (h v' w' (by simpa [ints] using h6) h7)
/-- A map from terms to numbers, in memory. -/
def CtM (w : World) (mb n : Nat) (m : Int → Option Int) : Prop :=
  ∃ D : DataW Unit, w.ownsMap Tryz.prog TermT (plainElem Tryz.prog WhoT) mb n D ∧ ∀ x, i64R x → Maps.has D (.int .i64 x) = (m x).isSome ∧ D.atKey (.int .i64 x) (.lit (.int .i64 0)) = .lit (.int .i64 ((m x).getD 0))
section
variable {w w' : World} {mb n : Nat} {m : Int → Option Int} {x : Int}
theorem CtM.same (h : CtM w mb n m) (hs : ∀ es c, w.heap[mb]? = some (.map es c) → w'.heap[mb]? = some (.map es c)) : CtM w' mb n m := by
  obtain ⟨D, ⟨es, c, hb, r⟩, h2⟩ := h
  exact ⟨D, ⟨es, c, hs _ _ hb, r⟩, h2⟩
theorem CtM.lt (h : CtM w mb n m) : mb < w.heap.size := by
  obtain ⟨D, ⟨es, c, hb, r⟩, h2⟩ := h
  exact (Array.getElem?_eq_some_iff.1 hb).1
theorem CtM.made (w : World) : CtM (w.alloc (.map #[] 0)) w.heap.size 0 (fun _ => none) := by
  have hmade : (w.alloc (.map #[] 0)).ownsMap Tryz.prog TermT (plainElem (H := Unit) Tryz.prog WhoT) w.heap.size 0 _ := World.ownsMap_made w _ _ _
  exact ⟨_, hmade, fun x hx => ⟨rfl, rfl⟩⟩
theorem CtM.look (h : CtM w mb n m) (hx : i64R x) : (Instr.lookup CtT (.map (some mb)) (.int .i64 x) true).run Tryz.prog w = .ok (.tuple #[.int .i64 ((m x).getD 0), .bool (m x).isSome]) w := by
  obtain ⟨D, h1, h2⟩ := h
  obtain ⟨v, ps, hr, hv⟩ := h1.look_ok lawT Tryz.underlying129 (zeroIV w) (plainElem_int Tryz.underlying3 (by decide)) (keyT hx)
  obtain ⟨z, rfl, h3, _⟩ := plainElem_int_inv Tryz.underlying3 hv
  rw [(h2 x hx).2] at h3
  simp at h3
  obtain ⟨rfl, _⟩ := h3
  rw [hr, (h2 x hx).1]
theorem CtM.look1 (h : CtM w mb n m) (hx : i64R x) : (Instr.lookup CtT (.map (some mb)) (.int .i64 x) false).run Tryz.prog w = .ok (.int .i64 ((m x).getD 0)) w := by
  obtain ⟨D, h1, h2⟩ := h
  obtain ⟨v, ps, hr, hv⟩ := h1.lookup lawT Tryz.underlying129 (zeroIV w) (plainElem_int Tryz.underlying3 (by decide)) (keyT hx)
  obtain ⟨z, rfl, h3, _⟩ := plainElem_int_inv Tryz.underlying3 hv
  rw [(h2 x hx).2] at h3
  simp at h3
  obtain ⟨rfl, _⟩ := h3
  rw [hr]
theorem CtM.put (h : CtM w mb n m) (hn : n < maxLen) (hx : i64R x) {u : Int} (hu : i64R u) : ∃ w', (Instr.mapUpdate CtT (.map (some mb)) (.int .i64 x) (.int .i64 u)).run Tryz.prog w = .ok () w' ∧ CtM w' mb (n + 1) (updO m x u) ∧ w.grownBy w' (some mb) := by
  obtain ⟨D, h1, h2⟩ := h
  obtain ⟨w', r1, r2, r3⟩ := h1.update lawT Tryz.underlying129 hn (keyT hx) (plainElem_int Tryz.underlying3 (wf_i64 hu))
  have hm := h1.isMap
  refine ⟨w', r1, ⟨_, r2, fun y hy => ?_⟩, r3⟩
  unfold updO
  by_cases e : y = x
  · subst e
    rw [has_put_same hm (lawT.key (keyT hy)), atKey_put_same hm (lawT.key (keyT hy)), if_pos rfl]; exact ⟨rfl, rfl⟩
  · rw [has_put_other (fun e' => e (by simpa using e')), atKey_put_other (fun e' => e (by simpa using e')), if_neg e]
    exact h2 y hy
end
theorem idx_first : ∀ (l : List Int) (i : Nat) (h : i < l.length), l[i] ∉ l.take i → l.idxOf l[i] = i
  | [], _, h, _ => absurd h (Nat.not_lt_zero _)
  | a :: l, 0, _, _ => by simp
  | a :: l, i + 1, h, hn => by
    have hl' : i < l.length := by simpa using h
    simp only [List.getElem_cons_succ, List.take_succ_cons, List.mem_cons, not_or] at hn ⊢
    rw [List.idxOf_cons]
    have e : (a == l[i]) = false := by simpa using fun e => hn.1 e.symm
    rw [e]
    simp only [cond_false]
    rw [idx_first l i hl' hn.2]
/-- Where each stands first. -/
def clsL (fs : List Int) (i : Nat) : List Int := (fs.take i).map fun x => (fs.idxOf x : Int)
def clsM (fs : List Int) (i : Nat) : Int → Option Int := fun x => if x ∈ fs.take i then some (fs.idxOf x : Int) else none
theorem clsL_succ (fs : List Int) {i : Nat} (h : i < fs.length) : clsL fs (i + 1) = clsL fs i ++ [(fs.idxOf fs[i] : Int)] := by
  unfold clsL
  rw [List.take_add_one, List.getElem?_eq_getElem h, Option.toList_some, List.map_append]; rfl
theorem clsM_old {fs : List Int} {i : Nat} (h : i < fs.length) (hm : fs[i] ∈ fs.take i) : clsM fs (i + 1) = clsM fs i := by
  funext x
  unfold clsM
  have : x ∈ fs.take (i + 1) ↔ x ∈ fs.take i := by
    rw [List.take_add_one, List.getElem?_eq_getElem h, Option.toList_some, List.mem_append, List.mem_singleton]
    exact ⟨fun g => g.elim id (fun e => e ▸ hm), .inl⟩
  simp only [this]
theorem clsM_new {fs : List Int} {i : Nat} (h : i < fs.length) (hm : fs[i] ∉ fs.take i) : clsM fs (i + 1) = updO (clsM fs i) fs[i] (i : Int) := by
  funext x
  unfold clsM updO
  have : x ∈ fs.take (i + 1) ↔ x ∈ fs.take i ∨ x = fs[i] := by
    rw [List.take_add_one, List.getElem?_eq_getElem h, Option.toList_some, List.mem_append, List.mem_singleton]
  by_cases e : x = fs[i]
  · rw [if_pos e, if_pos (this.2 (.inr e)), e, idx_first fs i h hm]
  · rw [if_neg e]
    by_cases e2 : x ∈ fs.take i
    · rw [if_pos (this.2 (.inl e2))]; simp only [if_pos e2]
    · rw [if_neg (fun g => (this.1 g).elim e2 e)]; simp only [if_neg e2]
theorem frame_i64 {who : Int} {q p' : Pl} {T : Int} {m' : Int → Option Int} (hA : Anew (seeK who) q T p' m') {x u : Int} (h : m' x = some u) : i64R u := by
  have hl := hA.ok.len
  rcases hA.at_ _ _ h with ⟨_, rfl⟩ | ⟨_, _, h, _⟩
  · unfold i64R; omega
  · unfold inP at h; simp at h; unfold i64R; omega
def ClassPost (w : World) (B a b : Nat) (v : Value) (who : Int) (q : Pl) (l : List Int) (e : Ending) (w' : World) : Prop :=
  ∃ (cv : Value) (fs : List Int) (p' : Pl) (m' : Int → Option Int), e = .returned (.tuple #[cv, .int .i64 0]) ∧ w'.ownsRow w.heap.size WhoT 1 cv (clsL fs fs.length).length (ints (clsL fs fs.length)) ∧ fs.length = l.length ∧ (∀ i (h : i < l.length) (h' : i < fs.length), m' l[i] = some fs[i]) ∧ Anew (seeK who) q (q.length : Int) p' m' ∧ ReG w B b w.heap.size w' ∧ (∀ k, k < w.heap.size → k ≠ a → k ≠ b → v.ownBlock ≠ some k → w'.heap[k]? = w.heap[k]?)
set_option maxRecDepth 100000 in
set_option maxHeartbeats 6400000 in
theorem classes_bad {w : World} {B a b : Nat} {v : Value} {p : Pl} (h : IsPool w B a b v p) (who : Int) {vl : Value} {l : List Int} (hl : Row w 1 vl l.length (ints l)) (hll : l.length ≤ 1000000) (hr : rfsP p who l ≠ 0) : Calls Tryz.prog 36 #[.pointer (some ⟨a, 0, none⟩), .int .i64 who, vl] w fun e w' => e = .returned (.tuple #[.slice none 0 0, .int .i64 (rfsP p who l)]) ∧ Below w.heap.size w w' := by
  have RF := Lib.hid (frame_bad h who hl hll hr)
  obtain ⟨la, lc, rfl⟩ := hl.shape
  have hne : (rfsP p who l != 0) = true := by rw [bne, ebF hr]; rfl
  generalize rfsP p who l = r at *
  clear h hr hl
  go_enter Tryz.func36, Tryz.ntmps36
  go_wp2_with fail
  refine RF.out.mono ?_
  rintro e w2 ⟨rfl, u2⟩
  have HB2 := Lib.hid u2
  clear u2 RF
  go_wp2_with fail
  go_returns
  exact ⟨rfl, HB2.out⟩
set_option maxRecDepth 100000 in
set_option maxHeartbeats 25600000 in
theorem classes_any {w w0 : World} {B a b bl : Nat} {v : Value} {p : Pl} (hL : Laid w0) (hB : w0.heap.size ≤ B) (hw : Below w0.heap.size w0 w) (h : IsPool w B a b v p) (who : Int) {vl : Value} {l : List Int} (hl : w.ownsRow bl TermT 1 vl l.length (ints l)) (hll : l.length ≤ 1000000) (hr0 : rfsP p who l = 0) (hroom : p.length + p.length ≤ 65536) : Calls Tryz.prog 36 #[.pointer (some ⟨a, 0, none⟩), .int .i64 who, vl] w (ClassPost w B a b v who p l) := by
  have hmm := @run_makeMap Tryz.prog
  have FR := Lib.hid (frame_any hL hB hw h who hl hll hr0 hroom)
  have HBW : Hid (B ≤ w.heap.size) := Lib.hid (Nat.le_trans h.ga (Nat.le_of_lt h.lt))
  obtain ⟨la, lc, rfl⟩ := (row_of_own hl).shape
  clear h hL hw hr0 hroom hl hB
  go_enter Tryz.func36, Tryz.ntmps36
  go_wp2_with fail
  refine FR.out.mono ?_
  rintro e w2 ⟨fv, fs, v', p', m', rfl, hrow, hfl, hval, hp, ha, hg, hfr, _⟩
  have HG := Lib.hid hg
  have HFR := Lib.hid hfr
  clear hfr
  have HFL := Lib.hid hfl
  have HV := Lib.hid hval
  have HA := Lib.hid ha
  have HRW := Lib.hid (row_of_own hrow)
  have H64 : Hid (∀ i (h : i < fs.length), i64R fs[i]) := Lib.hid fun i h => frame_i64 ha (hval i (by omega) h)
  obtain ⟨fa, fc, rfl, hfx⟩ := (row_of_own hrow).at
  have HFX := Lib.hid hfx
  have hfl6 : fs.length ≤ 1000000 := by omega
  have HM0 := Lib.hid (CtM.made w2)
  have HB0 := Lib.hid (bA0 w2 (.map #[] 0))
  clear hg hfl hval hp ha hrow hfx FR
  obtain ⟨wo, hwo⟩ : ∃ wo, wo = w2 := ⟨_, rfl⟩
  go_wp2_with fail
  clear hmm
  go_loopw [11, 29] (fun v11 v29 wr => ∃ (i n : Nat), v29 = .int .i64 (i : Int) ∧ i ≤ fs.length ∧ n ≤ i ∧ wr.ownsRow w2.heap.size WhoT 1 v11 (clsL fs i).length (ints (clsL fs i)) ∧ CtM wr w2.heap.size n (clsM fs i) ∧ Below w2.heap.size w2 wr) (fun _ v _ => fs.length - (intOf v).toNat)
  case atStart => exact ⟨0, 0, rfl, Nat.zero_le _, Nat.le_refl _, World.ownsRow_nil _ _ _ 1, (by
    have e : clsM fs 0 = fun _ => none := by funext x; unfold clsM; simp
    rw [e]; exact HM0.out), HB0.out⟩
  case round =>
    clear HM0 HB0
    obtain ⟨i, n, rfl, hi, hn, hown, hm, hb⟩ := hrel
    have HO := Lib.hid hown
    have HM := Lib.hid hm
    have HB := Lib.hid hb
    have HN := Lib.hid hn
    obtain ⟨oa, oc, rfl⟩ := (row_of_own hown).shape
    clear hown hm hn
    by_cases hlt : i < fs.length
    · obtain ⟨lb, lo, rfl, ql⟩ := HFX.out (by omega)
      have cl := bcellAt hb (ql i _ (ints_at fs i hlt))
      have hi0 : (0 : Int) ≤ (i : Int) := by omega
      have hi1 : (i : Int) < (fs.length : Int) := by omega
      have hx64 := H64.out i hlt
      have hlk := HM.out.look hx64
      have HLS := Lib.hid (clsL_succ fs hlt)
      have HCL : Hid ((clsL fs i).length = i) := Lib.hid (by unfold clsL; rw [List.length_map, List.length_take]; omega)
      have hcl6 : (clsL fs i).length ≤ 1000000 := by have := HCL.out; omega
      by_cases hmem : fs[i] ∈ fs.take i
      · have hmv : clsM fs i fs[i] = some (fs.idxOf fs[i] : Int) := by unfold clsM; rw [if_pos hmem]
        have HMN := Lib.hid (clsM_old hlt hmem)
        have hl1 := HM.out.look1 hx64
        rw [hmv] at hlk hl1
        simp only [Option.getD_some, Option.isSome_some] at hlk hl1
        generalize fs.idxOf fs[i] = ix at *
        generalize fs[i] = x at *
        clear hmem hmv ql hx64
        have bx := bA0 wr (.cells #[.int .i64 (ix : Int)] WhoT)
        have HBX := Lib.hid bx
        have HO6 := Lib.hid (own_hold HO.out (Hold.below bx))
        have HSZ : Hid (w2.heap.size ≤ (wr.alloc (.cells #[.int .i64 (ix : Int)] WhoT)).heap.size) := Lib.hid (Nat.le_trans hb.size bx.size)
        clear bx hb
        go_wp2_with (at_builtin; refine wpList_append_i1 rfl _ _ rfl w2.heap.size (.slice oa (clsL fs i).length oc) (clsL fs i) rfl HO6.out _ (ix : Int) rfl (cellB (j := 0) (heap_alloc_new wr _) rfl) hcl6 HSZ.out ?_)
        intro v7 w7 hown7 hg7
        obtain ⟨va, vc, rfl⟩ := (row_of_own hown7).shape
        have HB7 := Lib.hid (((HB.out.trans (HBX.out.mono HB.out.size))).trans (grown_below hg7 HSZ.out (fun k e => (own_type HO6.out e).1)))
        have HM7 := Lib.hid (HM.out.same (fun es c hm => map_rowT HO6.out hg7 (by rw [HBX.out.block _ (Array.getElem?_eq_some_iff.1 hm).1]; exact hm)))
        rw [← HMN.out] at HM7
        have HO7 := Lib.hid hown7
        clear hown7 hg7 HBX HO6 HSZ hlk hl1 cl
        go_wp2_with fail
        go_roundw
        case rel => exact ⟨i + 1, n, by go_num, by omega, by have := HN.out; omega, by rw [HLS.out, List.length_append]; exact HO7.out, HM7.out, HB7.out⟩
        case measure => simp [intOf] <;> omega
      · have hmv : clsM fs i fs[i] = none := by unfold clsM; rw [if_neg hmem]
        have HMN := Lib.hid (clsM_new hlt hmem)
        have hix := idx_first fs i hlt hmem
        obtain ⟨w5, hup, hm5, hg5⟩ := HM.out.put (x := fs[i]) (u := (i : Int)) (by have := HN.out; unfold maxLen; omega) hx64 (by unfold i64R; omega)
        rw [← HMN.out] at hm5
        have hl1 := hm5.look1 hx64
        have hmv5 : clsM fs (i + 1) fs[i] = some (i : Int) := by rw [HMN.out]; unfold updO; rw [if_pos rfl]
        rw [hmv5] at hl1
        rw [hmv] at hlk
        rw [hix] at HLS
        simp only [Option.getD_none, Option.isSome_none, Option.getD_some] at hlk hl1
        generalize fs[i] = x at *
        have hmbs := HM.out.lt
        have HH5 : Hid (∀ T, Hold T wr w5) := Lib.hid fun T bb cs hbb => by
          have hl9 := (Array.getElem?_eq_some_iff.1 hbb).1
          rw [hg5.block bb hl9 (fun e => by
            obtain ⟨D, ⟨es, c, hmm, _⟩, _⟩ := HM.out
            cases e
            rw [hbb] at hmm
            cases hmm)]
          exact hbb
        have HB5 := Lib.hid (HB.out.trans (grown_below hg5 HB.out.size (fun k e => by cases e; exact Nat.le_refl _)))
        have HM5 := Lib.hid hm5
        clear hmem hmv hmv5 ql hx64 hix hm5 hg5 hmbs
        have bx := bA0 w5 (.cells #[.int .i64 (i : Int)] WhoT)
        have HBX := Lib.hid bx
        have HO6 := Lib.hid (own_hold (own_hold HO.out (HH5.out _)) (Hold.below bx))
        have HSZ : Hid (w2.heap.size ≤ (w5.alloc (.cells #[.int .i64 (i : Int)] WhoT)).heap.size) := Lib.hid (Nat.le_trans HB5.out.size bx.size)
        clear bx hb
        go_wp2_with (at_builtin; refine wpList_append_i1 rfl _ _ rfl w2.heap.size (.slice oa (clsL fs i).length oc) (clsL fs i) rfl HO6.out _ (i : Int) rfl (cellB (j := 0) (heap_alloc_new w5 _) rfl) hcl6 HSZ.out ?_)
        intro v7 w7 hown7 hg7
        obtain ⟨va, vc, rfl⟩ := (row_of_own hown7).shape
        have HB7 := Lib.hid (((HB5.out.trans (HBX.out.mono HB5.out.size))).trans (grown_below hg7 HSZ.out (fun k e => (own_type HO6.out e).1)))
        have HM7 := Lib.hid (HM5.out.same (fun es c hm => map_rowT HO6.out hg7 (by rw [HBX.out.block _ (Array.getElem?_eq_some_iff.1 hm).1]; exact hm)))
        have HO7 := Lib.hid hown7
        clear hown7 hg7 HBX HO6 HSZ hlk hl1 cl hup
        go_wp2_with fail
        go_roundw
        case rel => exact ⟨i + 1, n + 1, by go_num, by omega, by have := HN.out; omega, by rw [HLS.out, List.length_append]; exact HO7.out, HM7.out, HB7.out⟩
        case measure => simp [intOf] <;> omega
    · obtain rfl : i = fs.length := by omega
      clear hlt
      have HF : Hid (ClassPost w B a b v who p l (.returned (.tuple #[.slice oa (clsL fs fs.length).length oc, .int .i64 0])) wr) := Lib.hid ⟨_, fs, p', m', rfl, own_base HO.out HG.out.below.size, HFL.out, HV.out, HA.out, HG.out.trans (ReG.of (Nat.le_trans HBW.out HG.out.below.size) HB.out), fun k h1 h2 h3 h4 => (HB.out.block k (Nat.lt_of_lt_of_le h1 HG.out.below.size)).trans (HFR.out k h1 h2 h3 h4)⟩
      clear hb
      go_wp2_with fail
      go_returns
      exact HF.out
end Go.Proofs.YtgaklaajbepfaaaGreatDoor
namespace Go.Proofs.YtgaklaajbepfaaaGreatDoor
open Go.RowKit Go.Maps Go.Shelf
set_option linter.unusedVariables false

theorem AtF.nth {w : World} {G : Nat → Prop} {b : Nat} : ∀ (l : List (Nd × Fo)) (off i : Nat) (h : i < l.length), AtF w G (foOf l) b off → AtF w G (.cons l[i].1 l[i].2 .nil) b (off + i * 6)
  | [], _, _, h, _ => absurd h (Nat.not_lt_zero _)
  | x :: l, off, 0, _, ha => by
    obtain ⟨c0, c1, _⟩ := ha
    exact ⟨c0, c1, trivial⟩
  | x :: l, off, i + 1, h, ha => by
    obtain ⟨_, _, c2⟩ := ha
    have h' : i < l.length := by simpa using h
    have := AtF.nth l (off + 6) i h' c2
    rw [show off + (i + 1) * 6 = off + 6 + i * 6 by omega]
    exact this
/-- Where a tree with its view stands first. -/
def FirstV (who : Int) (l : List (Nd × Fo)) (i k : Nat) : Prop := k ≤ i ∧ (∀ (h : k < l.length) (h' : i < l.length), vtP who l[k] = vtP who l[i]) ∧ ∀ j (h : j < l.length) (h' : i < l.length), j < k → vtP who l[j] ≠ vtP who l[i]
set_option maxRecDepth 100000 in
set_option maxHeartbeats 25600000 in
theorem rclasses_any {w : World} (who : Int) {l : List (Nd × Fo)} {v : Value} {G : Nat → Prop} (hk : IsK w G v (foOf l)) (hok : ∀ i (h : i < l.length), OkF (.cons l[i].1 l[i].2 .nil) ∧ l[i].2.size ≤ 6000) (hll : l.length ≤ 1000000) : Calls Tryz.prog 37 #[.int .i64 who, v] w fun e w' => ∃ (kv : Value) (ks : List Int), e = .returned kv ∧ w'.ownsRow w.heap.size WhoT 1 kv ks.length (ints ks) ∧ ks.length = l.length ∧ (∀ i (h : i < ks.length), ∃ k : Nat, ks[i] = (k : Int) ∧ FirstV who l i k) ∧ Below w.heap.size w w' := by
  obtain ⟨la, lc, rfl, hx⟩ := hk.shape
  rw [foOf_len] at hx ⊢
  have HX := Lib.hid hx
  have HOK := Lib.hid hok
  clear hk hx hok
  obtain ⟨wo, hwo⟩ : ∃ wo, wo = w := ⟨_, rfl⟩
  go_enter Tryz.func37, Tryz.ntmps37
  go_wp2_with fail
  go_loopw [5, 6] (fun v5 v6 wr => ∃ (i : Nat) (ks : List Int), v6 = .int .i64 (i : Int) ∧ i ≤ l.length ∧ ks.length = i ∧ wr.ownsRow w.heap.size WhoT 1 v5 ks.length (ints ks) ∧ (∀ j (h : j < ks.length), ∃ k : Nat, ks[j] = (k : Int) ∧ FirstV who l j k) ∧ Below w.heap.size w wr) (fun _ v _ => l.length - (intOf v).toNat)
  case atStart => exact ⟨0, [], rfl, Nat.zero_le _, rfl, World.ownsRow_nil _ _ _ 1, fun j h => absurd h (Nat.not_lt_zero _), Below.refl _ _⟩
  case round =>
    obtain ⟨i, ks, rfl, hi, hkl, hown, hks, hb⟩ := hrel
    have HKL := Lib.hid hkl
    have HO := Lib.hid hown
    have HKS := Lib.hid hks
    have HB := Lib.hid hb
    obtain ⟨oa, oc, rfl⟩ := (row_of_own hown).shape
    clear hkl hown hks hb
    by_cases hlt : i < l.length
    · obtain ⟨wn, hwn⟩ : ∃ wn, wn = wr := ⟨_, rfl⟩
      have HWN := Lib.hid hwn
      clear hwn
      go_wp2_with fail
      go_loopw [7] (fun v7 wr => ∃ k : Nat, v7 = .int .i64 (k : Int) ∧ k ≤ i ∧ (∀ j (h : j < l.length), j < k → vtP who l[j] ≠ vtP who l[i]) ∧ wr.ownsRow w.heap.size WhoT 1 (.slice oa ks.length oc) ks.length (ints ks) ∧ Below w.heap.size w wr) (fun v _ => i + 1 - (intOf v).toNat)
      case atStart => exact ⟨0, rfl, Nat.zero_le _, fun j _ h => absurd h (Nat.not_lt_zero _), HO.out, HB.out⟩
      case round =>
        clear HO HB
        obtain ⟨k, rfl, hk, hj, hown, hb⟩ := hrel
        have HJ := Lib.hid hj
        have HO := Lib.hid hown
        have HB := Lib.hid hb
        clear hj hown hb
        have hkl : k < l.length := by omega
        obtain ⟨b, o, rfl, hG, hat⟩ := HX.out (by omega)
        have a1 := AtF.nth l o k hkl (hat.below HB.out)
        have a2 := AtF.nth l o i hlt (hat.below HB.out)
        have HJN : Hid (vtP who l[k] ≠ vtP who l[i] → ∀ j (h : j < l.length), j < k + 1 → vtP who l[j] ≠ vtP who l[i]) := Lib.hid fun e j h hjk => by
          rcases Nat.lt_or_ge j k with h4 | h4
          · exact HJ.out j h h4
          · obtain rfl : j = k := by omega
            exact e
        have HFN : Hid (vtP who l[k] = vtP who l[i] → ∀ j (h : j < (ks ++ [(k : Int)]).length), ∃ m : Nat, (ks ++ [(k : Int)])[j] = (m : Int) ∧ FirstV who l j m) := Lib.hid fun e j h => by
          have h9 := HKL.out
          rcases Nat.lt_or_ge j ks.length with h4 | h4
          · rw [List.getElem_append_left h4]; exact HKS.out j h4
          · simp only [List.length_append, List.length_cons, List.length_nil] at h
            obtain rfl : j = i := by omega
            rw [List.getElem_append_right (by omega)]
            refine ⟨k, by simp [h9], hk, fun _ _ => e, fun j' h1 h2 h3 => HJ.out j' h1 h3⟩
        have HNE : Hid (vtP who l[k] ≠ vtP who l[i] → k ≠ i) := Lib.hid fun e h => e (by subst h; rfl)
        have ok1 := HOK.out k hkl
        have ok2 := HOK.out i hlt
        have hki0 : (0 : Int) ≤ (k : Int) := by omega
        have hki1 : (k : Int) < (l.length : Int) := by omega
        have hii0 : (0 : Int) ≤ (i : Int) := by omega
        have hii1 : (i : Int) < (l.length : Int) := by omega
        generalize l[k] = X at *
        generalize l[i] = Y at *
        obtain ⟨⟨xk, xf, xt, xu, xs, x0, x1⟩, xk2⟩ := X
        obtain ⟨⟨yk, yf, yt, yu, ys, y0, y1⟩, yk2⟩ := Y
        obtain ⟨p0, p1, p2, p3, p4, vx, p5, hkx, _⟩ := a1.cons
        obtain ⟨r0, r1, r2, r3, r4, vy, r5, hky, _⟩ := a2.cons
        obtain ⟨xa, xc, rfl, _⟩ := hkx.shape
        obtain ⟨ya, yc, rfl, _⟩ := hky.shape
        have HPP := Lib.hid (And.intro p0 (And.intro p1 (And.intro p2 (And.intro p3 (And.intro p4 p5)))))
        have HRR := Lib.hid (And.intro r0 (And.intro r1 (And.intro r2 (And.intro r3 (And.intro r4 r5)))))
        have HKP : Hid (∀ V : World, Below wr.heap.size wr V → V.cell? ⟨b, o + k * 6, none⟩ = some (.int .i64 xk) ∧ V.cell? ⟨b, o + k * 6 + 1, none⟩ = some (.int .i64 xf) ∧ V.cell? ⟨b, o + k * 6 + 2, none⟩ = some (.int .i64 xt) ∧ V.cell? ⟨b, o + k * 6 + 3, none⟩ = some (.int .u64 xu) ∧ V.cell? ⟨b, o + k * 6 + 4, none⟩ = some (.string xs) ∧ V.cell? ⟨b, o + k * 6 + 5, none⟩ = some (.slice xa xk2.len xc) ∧ V.cell? ⟨b, o + i * 6, none⟩ = some (.int .i64 yk) ∧ V.cell? ⟨b, o + i * 6 + 1, none⟩ = some (.int .i64 yf) ∧ V.cell? ⟨b, o + i * 6 + 2, none⟩ = some (.int .i64 yt) ∧ V.cell? ⟨b, o + i * 6 + 3, none⟩ = some (.int .u64 yu) ∧ V.cell? ⟨b, o + i * 6 + 4, none⟩ = some (.string ys) ∧ V.cell? ⟨b, o + i * 6 + 5, none⟩ = some (.slice ya yk2.len yc)) := Lib.hid fun V h => ⟨bcellAt h HPP.out.1, bcellAt h HPP.out.2.1, bcellAt h HPP.out.2.2.1, bcellAt h HPP.out.2.2.2.1, bcellAt h HPP.out.2.2.2.2.1, bcellAt h HPP.out.2.2.2.2.2, bcellAt h HRR.out.1, bcellAt h HRR.out.2.1, bcellAt h HRR.out.2.2.1, bcellAt h HRR.out.2.2.2.1, bcellAt h HRR.out.2.2.2.2.1, bcellAt h HRR.out.2.2.2.2.2⟩
        have vt1 := vt_any who ⟨xk, xf, xt, xu, xs, x0, x1⟩ xk2 (hkx.below (bd wr)) ok1.2
        simp only [treeA] at vt1
        have VT1 := Lib.hid vt1
        have vt2 : ∀ V : World, Below wr.heap.size wr V → Calls Tryz.prog 31 #[.int .i64 who, .agg (treeA ⟨yk, yf, yt, yu, ys, y0, y1⟩ (.slice ya yk2.len yc))] V (vtPost V who ⟨yk, yf, yt, yu, ys, y0, y1⟩ yk2) := fun V hV => vt_any who ⟨yk, yf, yt, yu, ys, y0, y1⟩ yk2 (hky.below hV) ok2.2
        simp only [treeA] at vt2
        have HVT2 := Lib.hid vt2
        have HXO : Hid (((vtT who ⟨xk, xf, xt, xu, xs, x0, x1⟩).a = 0 ∧ (vtT who ⟨xk, xf, xt, xu, xs, x0, x1⟩).b = 0) ∧ Bare xk2) := Lib.hid ⟨⟨ok1.1.2.1, ok1.1.2.2.1⟩, OkF.bare ok1.1.2.2.2.1⟩
        have HYO : Hid (((vtT who ⟨yk, yf, yt, yu, ys, y0, y1⟩).a = 0 ∧ (vtT who ⟨yk, yf, yt, yu, ys, y0, y1⟩).b = 0) ∧ Bare yk2) := Lib.hid ⟨⟨ok2.1.2.1, ok2.1.2.2.1⟩, OkF.bare ok2.1.2.2.2.1⟩
        clear p0 p1 p2 p3 p4 p5 r0 r1 r2 r3 r4 r5 hkx hky a1 a2 hat vt1 vt2 ok1 ok2
        go_upto_region 6 with fail
        refine lex_start [0, 1, 2, 3, 4, 6, 7, 8, 9, 10, 5, 11, 12, 13] (S := (fun V : World => V.cell? ⟨b, o + k * 6, none⟩ = some (.int .i64 xk) ∧ V.cell? ⟨b, o + k * 6 + 1, none⟩ = some (.int .i64 xf) ∧ V.cell? ⟨b, o + k * 6 + 2, none⟩ = some (.int .i64 xt) ∧ V.cell? ⟨b, o + k * 6 + 3, none⟩ = some (.int .u64 xu) ∧ V.cell? ⟨b, o + k * 6 + 4, none⟩ = some (.string xs) ∧ V.cell? ⟨b, o + k * 6 + 5, none⟩ = some (.slice xa xk2.len xc) ∧ V.cell? ⟨b, o + i * 6, none⟩ = some (.int .i64 yk) ∧ V.cell? ⟨b, o + i * 6 + 1, none⟩ = some (.int .i64 yf) ∧ V.cell? ⟨b, o + i * 6 + 2, none⟩ = some (.int .i64 yt) ∧ V.cell? ⟨b, o + i * 6 + 3, none⟩ = some (.int .u64 yu) ∧ V.cell? ⟨b, o + i * 6 + 4, none⟩ = some (.string ys) ∧ V.cell? ⟨b, o + i * 6 + 5, none⟩ = some (.slice ya yk2.len yc))) (by kernel_rfl) (HKP.out _ (bd wr)) (fun hS => ?_)
        clear hS
        simp only [inOrder, List.filterMap, List.getElem?_cons_succ, List.getElem?_cons_zero]
        refine lex_take (i := 0) (v := ?_) rfl (by kernel_rfl) (by kernel_rfl) (by kernel_rfl) (by rfl) (HKP.out _ (bd wr)) ?_ ?_
        rotate_left
        · ((intro W hW; obtain ⟨k0, k1, k2, k3, k4, k5, k6, k7, k8, k9, k10, k11⟩ := hW; go_simp) <;> with_reducible rfl)
        simp only [Act.put, List.setIfInBounds_toArray, List.set_cons_zero, List.set_cons_succ]
        refine lex_take (i := 1) (v := ?_) rfl (by kernel_rfl) (by kernel_rfl) (by kernel_rfl) (by rfl) (HKP.out _ (bd wr)) ?_ ?_
        rotate_left
        · ((intro W hW; obtain ⟨k0, k1, k2, k3, k4, k5, k6, k7, k8, k9, k10, k11⟩ := hW; go_simp) <;> with_reducible rfl)
        simp only [Act.put, List.setIfInBounds_toArray, List.set_cons_zero, List.set_cons_succ]
        refine lex_take (i := 2) (v := ?_) rfl (by kernel_rfl) (by kernel_rfl) (by kernel_rfl) (by rfl) (HKP.out _ (bd wr)) ?_ ?_
        rotate_left
        · ((intro W hW; obtain ⟨k0, k1, k2, k3, k4, k5, k6, k7, k8, k9, k10, k11⟩ := hW; go_simp) <;> with_reducible rfl)
        simp only [Act.put, List.setIfInBounds_toArray, List.set_cons_zero, List.set_cons_succ]
        refine lex_take (i := 3) (v := ?_) rfl (by kernel_rfl) (by kernel_rfl) (by kernel_rfl) (by rfl) (HKP.out _ (bd wr)) ?_ ?_
        rotate_left
        · ((intro W hW; obtain ⟨k0, k1, k2, k3, k4, k5, k6, k7, k8, k9, k10, k11⟩ := hW; go_simp) <;> with_reducible rfl)
        simp only [Act.put, List.setIfInBounds_toArray, List.set_cons_zero, List.set_cons_succ]
        refine lex_take (i := 4) (v := ?_) rfl (by kernel_rfl) (by kernel_rfl) (by kernel_rfl) (by rfl) (HKP.out _ (bd wr)) ?_ ?_
        rotate_left
        · ((intro W hW; obtain ⟨k0, k1, k2, k3, k4, k5, k6, k7, k8, k9, k10, k11⟩ := hW; go_simp) <;> with_reducible rfl)
        simp only [Act.put, List.setIfInBounds_toArray, List.set_cons_zero, List.set_cons_succ]
        refine lex_take (i := 6) (v := ?_) rfl (by kernel_rfl) (by kernel_rfl) (by kernel_rfl) (by rfl) (HKP.out _ (bd wr)) ?_ ?_
        rotate_left
        · ((intro W hW; obtain ⟨k0, k1, k2, k3, k4, k5, k6, k7, k8, k9, k10, k11⟩ := hW; go_simp) <;> with_reducible rfl)
        simp only [Act.put, List.setIfInBounds_toArray, List.set_cons_zero, List.set_cons_succ]
        refine lex_take (i := 7) (v := ?_) rfl (by kernel_rfl) (by kernel_rfl) (by kernel_rfl) (by rfl) (HKP.out _ (bd wr)) ?_ ?_
        rotate_left
        · ((intro W hW; obtain ⟨k0, k1, k2, k3, k4, k5, k6, k7, k8, k9, k10, k11⟩ := hW; go_simp) <;> with_reducible rfl)
        simp only [Act.put, List.setIfInBounds_toArray, List.set_cons_zero, List.set_cons_succ]
        refine lex_take (i := 8) (v := ?_) rfl (by kernel_rfl) (by kernel_rfl) (by kernel_rfl) (by rfl) (HKP.out _ (bd wr)) ?_ ?_
        rotate_left
        · ((intro W hW; obtain ⟨k0, k1, k2, k3, k4, k5, k6, k7, k8, k9, k10, k11⟩ := hW; go_simp) <;> with_reducible rfl)
        simp only [Act.put, List.setIfInBounds_toArray, List.set_cons_zero, List.set_cons_succ]
        refine lex_take (i := 9) (v := ?_) rfl (by kernel_rfl) (by kernel_rfl) (by kernel_rfl) (by rfl) (HKP.out _ (bd wr)) ?_ ?_
        rotate_left
        · ((intro W hW; obtain ⟨k0, k1, k2, k3, k4, k5, k6, k7, k8, k9, k10, k11⟩ := hW; go_simp) <;> with_reducible rfl)
        simp only [Act.put, List.setIfInBounds_toArray, List.set_cons_zero, List.set_cons_succ]
        refine lex_take (i := 10) (v := ?_) rfl (by kernel_rfl) (by kernel_rfl) (by kernel_rfl) (by rfl) (HKP.out _ (bd wr)) ?_ ?_
        rotate_left
        · ((intro W hW; obtain ⟨k0, k1, k2, k3, k4, k5, k6, k7, k8, k9, k10, k11⟩ := hW; go_simp) <;> with_reducible rfl)
        simp only [Act.put, List.setIfInBounds_toArray, List.set_cons_zero, List.set_cons_succ]
        refine lex_call (i := 5) rfl (by kernel_rfl) (by rfl) ?_ _ VT1.out ?_
        · go_simp
        rintro e w1' ⟨q1, rfl, hq1, b1⟩
        have V1 := Lib.hid (bmore (bd wr) b1)
        have HQ1 := Lib.hid hq1
        have VT2 := Lib.hid (HVT2.out _ V1.out)
        clear b1 hq1 VT1 HVT2
        refine ⟨_, rfl, (fun V : World => V.cell? ⟨b, o + k * 6, none⟩ = some (.int .i64 xk) ∧ V.cell? ⟨b, o + k * 6 + 1, none⟩ = some (.int .i64 xf) ∧ V.cell? ⟨b, o + k * 6 + 2, none⟩ = some (.int .i64 xt) ∧ V.cell? ⟨b, o + k * 6 + 3, none⟩ = some (.int .u64 xu) ∧ V.cell? ⟨b, o + k * 6 + 4, none⟩ = some (.string xs) ∧ V.cell? ⟨b, o + k * 6 + 5, none⟩ = some (.slice xa xk2.len xc) ∧ V.cell? ⟨b, o + i * 6, none⟩ = some (.int .i64 yk) ∧ V.cell? ⟨b, o + i * 6 + 1, none⟩ = some (.int .i64 yf) ∧ V.cell? ⟨b, o + i * 6 + 2, none⟩ = some (.int .i64 yt) ∧ V.cell? ⟨b, o + i * 6 + 3, none⟩ = some (.int .u64 yu) ∧ V.cell? ⟨b, o + i * 6 + 4, none⟩ = some (.string ys) ∧ V.cell? ⟨b, o + i * 6 + 5, none⟩ = some (.slice ya yk2.len yc)), fun W h => h, (HKP.out _ V1.out), ?_⟩
        simp only [Act.put, List.setIfInBounds_toArray, List.set_cons_zero, List.set_cons_succ]
        refine lex_call (i := 11) rfl (by kernel_rfl) (by rfl) ?_ _ VT2.out ?_
        · go_simp
        rintro e w2' ⟨q2, rfl, hq2, b2⟩
        have V2 := Lib.hid (bmore V1.out b2)
        have SA := Lib.hid (same_any (G := NewT wr.drew w1') (G' := NewT w1' w2') (vtT who ⟨xk, xf, xt, xu, xs, x0, x1⟩) (mapF (vtT who) xk2) (vtT who ⟨yk, yf, yt, yu, ys, y0, y1⟩) (mapF (vtT who) yk2) w2' q1 q2 (HQ1.out.below b2) hq2 HXO.out.1 HYO.out.1 (mapF_bare who HXO.out.2) (mapF_bare who HYO.out.2))
        generalize hdd : decide (vtT who ⟨xk, xf, xt, xu, xs, x0, x1⟩ = vtT who ⟨yk, yf, yt, yu, ys, y0, y1⟩ ∧ mapF (vtT who) xk2 = mapF (vtT who) yk2) = dd at *
        have HDD := Lib.hid hdd
        clear hdd b2 hq2 VT2 HQ1 V1
        refine ⟨_, rfl, (fun V : World => V.cell? ⟨b, o + k * 6, none⟩ = some (.int .i64 xk) ∧ V.cell? ⟨b, o + k * 6 + 1, none⟩ = some (.int .i64 xf) ∧ V.cell? ⟨b, o + k * 6 + 2, none⟩ = some (.int .i64 xt) ∧ V.cell? ⟨b, o + k * 6 + 3, none⟩ = some (.int .u64 xu) ∧ V.cell? ⟨b, o + k * 6 + 4, none⟩ = some (.string xs) ∧ V.cell? ⟨b, o + k * 6 + 5, none⟩ = some (.slice xa xk2.len xc) ∧ V.cell? ⟨b, o + i * 6, none⟩ = some (.int .i64 yk) ∧ V.cell? ⟨b, o + i * 6 + 1, none⟩ = some (.int .i64 yf) ∧ V.cell? ⟨b, o + i * 6 + 2, none⟩ = some (.int .i64 yt) ∧ V.cell? ⟨b, o + i * 6 + 3, none⟩ = some (.int .u64 yu) ∧ V.cell? ⟨b, o + i * 6 + 4, none⟩ = some (.string ys) ∧ V.cell? ⟨b, o + i * 6 + 5, none⟩ = some (.slice ya yk2.len yc)), fun W h => h, (HKP.out _ V2.out), ?_⟩
        simp only [Act.put, List.setIfInBounds_toArray, List.set_cons_zero, List.set_cons_succ]
        refine lex_call (i := 12) rfl (by kernel_rfl) (by rfl) ?_ _ SA.out ?_
        · go_simp
        rintro e w3' ⟨rfl, b3⟩
        have V3 := Lib.hid (bmore V2.out b3)
        clear b3 SA V2
        refine ⟨_, rfl, (fun V : World => V.cell? ⟨b, o + k * 6, none⟩ = some (.int .i64 xk) ∧ V.cell? ⟨b, o + k * 6 + 1, none⟩ = some (.int .i64 xf) ∧ V.cell? ⟨b, o + k * 6 + 2, none⟩ = some (.int .i64 xt) ∧ V.cell? ⟨b, o + k * 6 + 3, none⟩ = some (.int .u64 xu) ∧ V.cell? ⟨b, o + k * 6 + 4, none⟩ = some (.string xs) ∧ V.cell? ⟨b, o + k * 6 + 5, none⟩ = some (.slice xa xk2.len xc) ∧ V.cell? ⟨b, o + i * 6, none⟩ = some (.int .i64 yk) ∧ V.cell? ⟨b, o + i * 6 + 1, none⟩ = some (.int .i64 yf) ∧ V.cell? ⟨b, o + i * 6 + 2, none⟩ = some (.int .i64 yt) ∧ V.cell? ⟨b, o + i * 6 + 3, none⟩ = some (.int .u64 yu) ∧ V.cell? ⟨b, o + i * 6 + 4, none⟩ = some (.string ys) ∧ V.cell? ⟨b, o + i * 6 + 5, none⟩ = some (.slice ya yk2.len yc)), fun W h => h, (HKP.out _ V3.out), ?_⟩
        simp only [Act.put, List.setIfInBounds_toArray, List.set_cons_zero, List.set_cons_succ]
        refine lex_take (i := 13) (v := ?_) rfl (by kernel_rfl) (by kernel_rfl) (by kernel_rfl) (by rfl) (HKP.out _ V3.out) ?_ ?_
        rotate_left
        · ((intro W hW; obtain ⟨k0, k1, k2, k3, k4, k5, k6, k7, k8, k9, k10, k11⟩ := hW; go_simp) <;> with_reducible rfl)
        simp only [Act.put, List.setIfInBounds_toArray, List.set_cons_zero, List.set_cons_succ]
        refine lex_done (by kernel_rfl) ?_
        have HB3 := Lib.hid (HB.out.trans (V3.out.mono HB.out.size))
        have HO3 := Lib.hid (own_hold HO.out (Hold.below V3.out))
        clear HKP V3 HXO HYO HPP HRR HO HB
        cases dd with
        | false =>
          have hne : vtP who (⟨xk, xf, xt, xu, xs, x0, x1⟩, xk2) ≠ vtP who (⟨yk, yf, yt, yu, ys, y0, y1⟩, yk2) := fun e => by
            have e2 := Prod.mk.inj e
            exact absurd e2 (of_decide_eq_false HDD.out)
          have hkne := HNE.out hne
          have HN := Lib.hid (HJN.out hne)
          clear hne
          go_wp2_with fail
          go_roundw
          case rel => exact ⟨k + 1, by go_num, by omega, HN.out, HO3.out, HB3.out⟩
          case measure => simp [intOf] <;> omega
        | true =>
          have heq : vtP who (⟨xk, xf, xt, xu, xs, x0, x1⟩, xk2) = vtP who (⟨yk, yf, yt, yu, ys, y0, y1⟩, yk2) := by
            have h9 := of_decide_eq_true HDD.out
            unfold vtP
            simp only
            rw [h9.1, h9.2]
          have HN := Lib.hid (HFN.out heq)
          clear heq
          have hks6 : ks.length ≤ 1000000 := by have := HKL.out; omega
          have bx := bA0 w3' (.cells #[.int .i64 (k : Int)] WhoT)
          have HBX := Lib.hid bx
          have HO6 := Lib.hid (own_hold HO3.out (Hold.below bx))
          have HSZ : Hid (w.heap.size ≤ (w3'.alloc (.cells #[.int .i64 (k : Int)] WhoT)).heap.size) := Lib.hid (Nat.le_trans HB3.out.size bx.size)
          clear bx
          go_wp2_with (at_builtin; refine wpList_append_i1 rfl _ _ rfl w.heap.size (.slice oa ks.length oc) ks rfl HO6.out _ (k : Int) rfl (cellB (j := 0) (heap_alloc_new w3' _) rfl) hks6 HSZ.out ?_)
          intro v7 w7 hown7 hg7
          obtain ⟨va, vc, rfl⟩ := (row_of_own hown7).shape
          have HB7 := Lib.hid (((HB3.out.trans (HBX.out.mono HB3.out.size))).trans (grown_below hg7 HSZ.out (fun k e => (own_type HO6.out e).1)))
          have HO7 := Lib.hid hown7
          clear hown7 hg7 HBX HO6 HSZ
          go_wp2_with fail
          go_roundw
          case rel => exact ⟨i + 1, ks ++ [(k : Int)], by go_num, by omega, by rw [List.length_append, HKL.out]; rfl, by rw [List.length_append]; exact HO7.out, HN.out, HB7.out⟩
          case measure => simp [intOf] <;> omega
    · obtain rfl : i = l.length := by omega
      clear hlt
      go_wp2_with fail
      go_returns
      exact ⟨.slice oa ks.length oc, ks, rfl, HO.out, HKL.out, HKS.out, HB.out⟩
end Go.Proofs.YtgaklaajbepfaaaGreatDoor
namespace Go.Proofs.YtgaklaajbepfaaaGreatDoor
open Go.RowKit Go.Maps Go.Shelf
set_option linter.unusedVariables false

theorem own_stay {w w' : World} {base n size : Nat} {e : TypeId} {v : Value} {xs : List Value} (h : w.ownsRow base e size v n xs) (h3 : ∀ g, v.ownBlock = some g → w'.heap[g]? = w.heap[g]?) : w'.ownsRow base e size v n xs := by
  obtain ⟨h1, h2⟩ := h
  refine ⟨h1, ?_⟩
  rcases h2 with h2 | ⟨g, cap, cur, rfl, hb, hg, rest⟩
  · exact .inl h2
  · exact .inr ⟨g, cap, cur, rfl, hb, by rw [h3 g rfl]; exact hg, rest⟩
theorem IsPool.stay {w w' : World} {B a b : Nat} {v : Value} {p : Pl} (h : IsPool w B a b v p) (h1 : w'.heap[a]? = w.heap[a]?) (h2 : w'.heap[b]? = w.heap[b]?) (h3 : ∀ g, v.ownBlock = some g → w'.heap[g]? = w.heap[g]?) : IsPool w' B a b v p := by
  obtain ⟨D, ⟨es, c, hm, r⟩, hd⟩ := h.dict
  exact ⟨by rw [h1]; exact h.lay, h.ga, h.gb, own_stay h.row h3, ⟨D, ⟨es, c, by rw [h2]; exact hm, r⟩, hd⟩, h.ok, h.nok⟩
theorem IsPool.lts {w : World} {B a b : Nat} {v : Value} {p : Pl} (h : IsPool w B a b v p) : a < w.heap.size ∧ b < w.heap.size ∧ ∀ g, v.ownBlock = some g → B ≤ g ∧ g < w.heap.size := by
  obtain ⟨D, ho, _⟩ := h.dict
  refine ⟨h.lt, ho.lt, fun g e => ?_⟩
  obtain ⟨hB, cur, hc⟩ := own_type h.row e
  exact ⟨hB, (Array.getElem?_eq_some_iff.1 hc).1⟩
/-- The place of the first that is alike: by terms and by trees the same. -/
theorem first_same {q p' : Pl} {who T : Int} {m : Int → Option Int} (hA : Anew (seeK who) q T p' m) {l fs : List Int} {gs : List (Nd × Fo)} (hfl : fs.length = l.length) (hgl : gs.length = l.length) (hv : ∀ i (h : i < l.length) (h' : i < fs.length), m l[i] = some fs[i]) (hg : ∀ i (h : i < l.length) (h' : i < gs.length), RepF q [l[i]] (.cons gs[i].1 gs[i].2 .nil) ∧ Bare (.cons gs[i].1 gs[i].2 .nil)) {i k : Nat} (hi : i < l.length) (hk : FirstV who gs i k) : (fs.idxOf (fs[i]'(by omega)) : Int) = (k : Int) := by
  obtain ⟨h1, h2, h3⟩ := hk
  have hki : k < l.length := by omega
  -- terms with one view are one term, and so their trees
  have iff1 : ∀ a b (ha : a < l.length) (hb : b < l.length), vtP who (gs[a]'(by omega)) = vtP who (gs[b]'(by omega)) ↔ fs[a]'(by omega) = fs[b]'(by omega) := fun a b ha hb => by
    obtain ⟨r1, b1⟩ := hg a ha (by omega)
    obtain ⟨r2, b2⟩ := hg b hb (by omega)
    have m1 := hv a ha (by omega)
    have m2 := hv b hb (by omega)
    constructor
    · intro e
      have t1 := rep_map hA _ _ [fs[a]'(by omega)] r1 (by simp [m1])
      have t2 := rep_map hA _ _ [fs[b]'(by omega)] r2 (by simp [m2])
      unfold vtP at e
      obtain ⟨e1, e2⟩ := Prod.mk.inj e
      simp only [mapF] at t1 t2
      rw [e1, e2] at t1
      have := RepF.term hA.ok t1 t2
      simpa using this
    · intro e
      rw [e] at m1
      obtain ⟨e1, e2⟩ := view_trees hA r1 r2 b1 b2 m1 m2
      unfold vtP
      rw [e1, e2]
  have heq : fs[k]'(by omega) = fs[i]'(by omega) := (iff1 k i hki hi).1 (h2 (by omega) (by omega))
  have hne : ∀ j (h : j < k), fs[j]'(by omega) ≠ fs[i]'(by omega) := fun j h e => h3 j (by omega) (by omega) h ((iff1 j i (by omega) hi).2 e)
  have hx := idx_first fs k (by omega) (fun hm => by
    obtain ⟨j, hj, e⟩ := List.getElem_of_mem hm
    rw [List.length_take] at hj
    rw [List.getElem_take] at e
    exact hne j (by omega) (e.trans heq))
  rw [← heq, hx]
end Go.Proofs.YtgaklaajbepfaaaGreatDoor
namespace Go.Proofs.YtgaklaajbepfaaaGreatDoor
open Go.RowKit Go.Maps
set_option linter.unusedVariables false

theorem own_ltT {w : World} {base n size : Nat} {e : TypeId} {v : Value} {xs : List Value} (h : w.ownsRow base e size v n xs) : ∀ r, v.ownBlock = some r → r < w.heap.size := fun r hr => by
  obtain ⟨_, cur, hc⟩ := own_type h hr
  exact (Array.getElem?_eq_some_iff.1 hc).1
theorem own_empty {w : World} {b : Nat} (hb : w.heap[b]? = some (Obj.cells #[] TermT)) : w.ownsRow b TermT 1 (.slice (some ⟨b, 0, none⟩) 0 0) 0 [] := by
  refine ⟨rfl, .inr ⟨b, 0, #[], rfl, Nat.le_refl _, hb, Nat.le_refl _, by unfold maxLen; omega, rfl, rfl⟩⟩
theorem wp_append_tm {w : World} {o : Oper} {a : Act} {K : Act → World → Prop} {Q : Exit → Act → World → Prop} (s x : Operand)
    (ho : o.op = .call { callee := .builtin .append, args := #[s, x], argTypes := #[SlTT, SlTT] })
    (b : Nat) (hs : a.eval s = .slice (some ⟨b, 0, none⟩) 0 0) (hb : w.heap[b]? = some (Obj.cells #[] TermT)) (vx : Value) (l : List Int) (hx : a.eval x = vx) (hrd : Row w 1 vx l.length (ints l))
    (hlen : l.length ≤ 1000000)
    (h : ∀ v' w', w'.ownsRow b TermT 1 v' l.length (ints l) → w.grownBy w' (some b) → (v'.ownBlock = some b ∨ v'.ownBlock = some w.heap.size) → K (a.put o.dst v') w') : Oper.wp Tryz.prog o a w K Q := by
  obtain ⟨i0, hi, hz0, hz1, hz2⟩ := info_parts rowTT
  have hbl : b < w.heap.size := (Array.getElem?_eq_some_iff.1 hb).1
  rcases hrd with ⟨hl, ⟨rfl, h0⟩ | ⟨c, off, cap, rfl, h1, h2, h3, h4⟩⟩
  · obtain rfl : l = [] := List.eq_nil_of_length_eq_zero h0
    have hrun := run_append_owned_none (P := Tryz.prog) (w := w) b SlTT o.type TermT i0 1 Tryz.underlying23 hi _ _ _ (own_empty hb)
    unfold Oper.wp
    simp [execOp, ho, resolve, invoke, builtin, hs, hx, hrun, Result.andThen]
    exact h _ w (own_empty hb) ⟨rfl, rfl, rfl, Nat.le_refl _, fun _ _ _ => rfl⟩ (.inl rfl)
  · obtain ⟨v', w', hr, g2, g3, g4, g5⟩ := run_append_own_at (P := Tryz.prog) w b SlTT o.type TermT i0 (.int .i64 0) 1 8 Tryz.underlying23 hi hz0 hz1 hz2 rfl (by decide) _ 0 [] (own_empty hb) ⟨c, off, none⟩ l.length cap (ints l) (by simp [ints]) (fun j u hj => by have := h4 j u hj; by_cases h0 : j = 0 <;> simp_all [Addr.add]) (ints_oneCellT l) (by unfold maxLen; omega) (by omega) (by omega)
    unfold Oper.wp execOp
    simp only [ho, resolve, invoke, builtin, Sem.run_bind, Sem.run_pure, Result.andThen_ok, List.map_toArray, List.map_cons, List.map_nil, hs, hx, hr]
    exact h v' w' (by simpa using g2) g3 g5
end Go.Proofs.YtgaklaajbepfaaaGreatDoor
namespace Go.Proofs.YtgaklaajbepfaaaGreatDoor
open Go.RowKit Go.Maps
set_option linter.unusedVariables false

theorem tree_app {w7 wr w8 wC w9 : World} {n : Nd} {k : Fo} {gs : List (Nd × Fo)} {xs : List Value} {v vk v9 : Value} {N : Nat} (hown : wr.ownsRow w7.heap.size TrT 6 v N xs) (hrow : RowF wr (ButT w7.heap.size v.ownBlock wr) gs xs) (hb : Below w7.heap.size w7 wr) (u8 : Below wr.heap.size wr w8) (bC : Below w8.heap.size w8 wC) (hkk : IsK w8 (NewT wr w8) vk k) (hown9 : w9.ownsRow w7.heap.size TrT 6 v9 (N + 1) (xs ++ six n vk)) (hg9 : wC.grownBy w9 v.ownBlock) (hp9 : v9.ownBlock = v.ownBlock ∨ v9.ownBlock = some wC.heap.size) :
    w9.ownsRow w7.heap.size TrT 6 v9 (N + 1) (xs ++ six n vk) ∧ RowF w9 (ButT w7.heap.size v9.ownBlock w9) (gs ++ [(n, k)]) (xs ++ six n vk) ∧ Below w7.heap.size w7 w9 := by
  have hyo : ∀ g, v.ownBlock = some g → w7.heap.size ≤ g ∧ g < wr.heap.size := fun g e => by
    obtain ⟨hB, cur, hc⟩ := own_type hown e
    exact ⟨hB, (Array.getElem?_eq_some_iff.1 hc).1⟩
  have hbw : w7.heap.size ≤ wr.heap.size := hb.size
  have hkb : ∀ (b : Nat) (u : Obj), wr.heap[b]? = some u → v.ownBlock ≠ some b → w9.heap[b]? = some u := fun b u h hn => by
    have hl := (Array.getElem?_eq_some_iff.1 h).1
    rw [hg9.block b (Nat.lt_of_lt_of_le hl (Nat.le_trans u8.size bC.size)) (fun e => hn e.symm), bC.block b (Nat.lt_of_lt_of_le hl u8.size), u8.block b hl]; exact h
  have hkb1 : ∀ (b : Nat) (u : Obj), w8.heap[b]? = some u → wr.heap.size ≤ b → w9.heap[b]? = some u := fun b u h hn => by
    have hl := (Array.getElem?_eq_some_iff.1 h).1
    rw [hg9.block b (Nat.lt_of_lt_of_le hl bC.size) (fun e => by have := (hyo b e.symm).2; omega), bC.block b hl]; exact h
  refine ⟨hown9, RowF.snoc (n := n) (hkk.keep fun bb hg hl => ?_) (hrow.keep fun bb hg hl => ?_), (((hb.trans (u8.mono hbw)).trans (bC.mono (Nat.le_trans hbw u8.size)))).grown hg9 (Nat.le_trans hbw (Nat.le_trans u8.size bC.size)) (fun g e => (hyo g e).1)⟩
  · obtain ⟨q1, cs, q3⟩ := hg
    have q1' : wr.heap.size ≤ bb := q1
    have q4 := hkb1 _ _ q3 q1'
    refine ⟨⟨by omega, fun e => ?_, cs, q4⟩, by rw [q4, q3]⟩
    rcases hp9 with h | h
    · have := (hyo bb (h.symm.trans e)).2; omega
    · rw [h] at e; cases e
      have := (Array.getElem?_eq_some_iff.1 q3).1
      have := bC.size
      omega
  · obtain ⟨q1, q2, cs, q3⟩ := hg
    have q4 := hkb _ _ q3 q2
    refine ⟨⟨q1, fun e => ?_, cs, q4⟩, by rw [q4, q3]⟩
    rcases hp9 with h | h
    · exact q2 (h.symm.trans e)
    · rw [h] at e; cases e
      have := (Array.getElem?_eq_some_iff.1 q3).1
      have := u8.size
      have := bC.size
      omega
end Go.Proofs.YtgaklaajbepfaaaGreatDoor
namespace Go.Proofs.YtgaklaajbepfaaaGreatDoor
open Go.ChangeShapes Go.WideShapes Go.ChangeAt Go.WideMaps Go.WideElems Go.RowKit
set_option linter.unusedVariables false

abbrev laidL : List (String × DataW Unit) := [("escrow/term.shapes", Rows.laid_escrow_term_shapes)]
def shD (k : Nat) : DataW Unit := .agg [.lit (.bool (namedB (k : Int))), .lit (.bool (twoB (k : Int))), .lit (.bool ((k : Int) == 2)), .lit (.bool ((k : Int) == 3)), .lit (.int .i64 (kidsN (k : Int) : Int))]
theorem datum_eq : (Rows.laid_escrow_term_shapes (H := Unit)) = .agg ((List.range 10).map shD) := by kernel_rfl
theorem gShapes : Tryz.prog.globalNamed "escrow/term.shapes" = some 0 := by kernel_rfl
theorem tShapes : (Tryz.prog.globals[0]?).map (·.type) = some 166 := by kernel_rfl

set_option maxRecDepth 100000 in
theorem trod_shape {H : Type} {enc : TypeId × Value → H} {W : World} {base fuel : Nat} {sp : Nat → Bool} {held : Bool} {cs : List Value} {x : DataW H × List MemPlace} {b0 b1 b2 b3 : Bool} {m : Int}
    (ht : DataW.trod enc Tryz.prog W base sp held fuel ShT cs = some x) (hx : x.1 = .agg [.lit (.bool b0), .lit (.bool b1), .lit (.bool b2), .lit (.bool b3), .lit (.int .i64 m)]) :
    cs = [.bool b0, .bool b1, .bool b2, .bool b3, .int .i64 m] := by
  obtain ⟨ys, k, _, hxx, hl, hyl, hfld⟩ := DataW.trod_struct Tryz.underlying126 ht
  rw [hxx] at hx
  have c5 : Tryz.prog.cellsOf 126 = 5 := by kernel_rfl
  have cb : Tryz.prog.cellsOf 4 = 1 := by kernel_rfl
  have ci : Tryz.prog.cellsOf 3 = 1 := by kernel_rfl
  rw [c5] at hl
  match cs, hl with
  | [u0, u1, u2, u3, u4], _ =>
    have f0 : DataW.trod enc Tryz.prog W base sp held k 4 (([u0, u1, u2, u3, u4].drop 0).take (Tryz.prog.cellsOf 4)) = ys[0]? := hfld 0 _ rfl
    have f1 : DataW.trod enc Tryz.prog W base sp held k 4 (([u0, u1, u2, u3, u4].drop 1).take (Tryz.prog.cellsOf 4)) = ys[1]? := hfld 1 _ rfl
    have f2 : DataW.trod enc Tryz.prog W base sp held k 4 (([u0, u1, u2, u3, u4].drop 2).take (Tryz.prog.cellsOf 4)) = ys[2]? := hfld 2 _ rfl
    have f3 : DataW.trod enc Tryz.prog W base sp held k 4 (([u0, u1, u2, u3, u4].drop 3).take (Tryz.prog.cellsOf 4)) = ys[3]? := hfld 3 _ rfl
    have f4 : DataW.trod enc Tryz.prog W base sp held k 3 (([u0, u1, u2, u3, u4].drop 4).take (Tryz.prog.cellsOf 3)) = ys[4]? := hfld 4 _ rfl
    rw [cb] at f0 f1 f2 f3
    rw [ci] at f4
    simp only [List.drop_zero, List.drop_succ_cons, List.take_succ_cons, List.take_zero] at f0 f1 f2 f3 f4
    match ys, hyl with
    | [y0, y1, y2, y3, y4], _ =>
      simp only [List.map_cons, List.map_nil, DataW.agg.injEq, List.cons.injEq, and_true] at hx
      obtain ⟨h0, h1, h2, h3, h4⟩ := hx
      obtain ⟨v0, e0, w0⟩ := DataW.trod_bool Tryz.underlying4 (show DataW.trod enc Tryz.prog W base sp held k 4 [u0] = some y0 from f0)
      obtain ⟨v1, e1, w1⟩ := DataW.trod_bool Tryz.underlying4 (show DataW.trod enc Tryz.prog W base sp held k 4 [u1] = some y1 from f1)
      obtain ⟨v2, e2, w2⟩ := DataW.trod_bool Tryz.underlying4 (show DataW.trod enc Tryz.prog W base sp held k 4 [u2] = some y2 from f2)
      obtain ⟨v3, e3, w3⟩ := DataW.trod_bool Tryz.underlying4 (show DataW.trod enc Tryz.prog W base sp held k 4 [u3] = some y3 from f3)
      obtain ⟨v4, e4, w4, _⟩ := DataW.trod_int Tryz.underlying3 (show DataW.trod enc Tryz.prog W base sp held k 3 [u4] = some y4 from f4)
      rw [w0] at h0
      rw [w1] at h1
      rw [w2] at h2
      rw [w3] at h3
      rw [w4] at h4
      simp only [DataW.lit.injEq, Lit.bool.injEq, Lit.int.injEq, true_and] at h0 h1 h2 h3 h4
      simp only [List.cons.injEq, and_true] at e0 e1 e2 e3 e4
      rw [e0, e1, e2, e3, e4, h0, h1, h2, h3, h4]

theorem at_of_take {L : List Value} {n : Nat} {a0 a1 a2 a3 a4 : Value} (h : (L.drop n).take 5 = [a0, a1, a2, a3, a4]) : L[n]? = some a0 ∧ L[n + 1]? = some a1 ∧ L[n + 2]? = some a2 ∧ L[n + 3]? = some a3 ∧ L[n + 4]? = some a4 := by
  have g : ∀ j, j < 5 → L[n + j]? = [a0, a1, a2, a3, a4][j]? := fun j hj => by
    rw [← h, List.getElem?_take, if_pos hj, List.getElem?_drop]
  exact ⟨g 0 (by decide), g 1 (by decide), g 2 (by decide), g 3 (by decide), g 4 (by decide)⟩

set_option maxRecDepth 100000 in
theorem of_laid {W : World} (h : laidMetH Tryz.prog laidL W) : Laid W := by
  rw [MakeChecks.laidMetH_plain _ _ _ (by kernel_rfl)] at h
  obtain ⟨ps, ⟨g0, t0, cs0, f0, p0, q0, hg0, ht0, hv0, hd0, _, _⟩, _, _⟩ := h
  obtain rfl := Option.some.inj (gShapes.symm.trans hg0)
  obtain rfl := Option.some.inj (tShapes.symm.trans ht0)
  rw [datum_eq] at hd0
  obtain ⟨xs, m, _, hx, _, hn, hel⟩ := DataW.trod_array Tryz.underlying166 hd0
  have c5 : Tryz.prog.cellsOf 126 = 5 := by kernel_rfl
  simp only [Prod.mk.injEq, DataW.agg.injEq] at hx
  intro k hk
  have hek := hel k hk
  rw [c5] at hek
  have hxk : xs[k]? = some (xs[k]'(by omega)) := List.getElem?_eq_getElem (by omega)
  rw [hxk] at hek
  have hd : (xs[k]'(by omega)).1 = shD k := by
    have := congrArg (fun l => l[k]?) hx.1
    simp only [List.getElem?_map, hxk, Option.map_some, List.getElem?_range hk] at this
    exact (Option.some.inj this).symm
  have hc := trod_shape hek hd
  obtain ⟨a0, a1, a2, a3, a4⟩ := at_of_take hc
  refine ⟨?_, ?_, ?_, ?_, ?_⟩
  · rw [World.var?_cell hg0 hv0, ← a0]; simp
  · rw [World.var?_cell hg0 hv0, ← a1]; simp
  · rw [World.var?_cell hg0 hv0, ← a2]; simp
  · rw [World.var?_cell hg0 hv0, ← a3]; simp
  · rw [World.var?_cell hg0 hv0, ← a4]; simp

/-- The door's own heap meets the condition: three closed facts. -/
theorem door_met (os : Os) (args : Array Value) : laidMetH Tryz.prog laidL ((World.doorLaid Tryz.prog 400 os).forCall (fun _ _ => 0) ⟨#[], args, []⟩).memory :=
  laidMetH_of_parts3 (fuel := 8) (laidMet_of_run' 8 (by kernel_rfl) (by kernel_rfl)) (by kernel_rfl) (by kernel_rfl)
end Go.Proofs.YtgaklaajbepfaaaGreatDoor
namespace Go.Proofs.YtgaklaajbepfaaaGreatDoor
open Go.RowKit Go.Maps Go.Shelf
set_option linter.unusedVariables false

theorem rep_sizeF {p : Pl} (hp : Ok p) {t : Int} {n : Nd} {k : Fo} (h : RepF p [t] (.cons n k .nil)) : k.size ≤ 6000 := by
  have h1 := (h.sizes hp).1
  have h9 := hp.at_bounds t
  simp only [sumSz, Fo.size] at h1
  omega
theorem IsRef.regf {w w' : World} {B0 B b mb a : Nat} {vl vs vd : Value} {p : Pl} (h : IsRef w B0 a vl vs vd p) (g : ReG w B b mb w') : IsRef w' B0 a vl vs vd p :=
  ⟨g.hold _ (by decide) (by decide) _ _ h.lay, h.ga, own_hold h.rl (g.hold _ (by decide) (by decide)), own_hold h.rs (g.hold _ (by decide) (by decide)), own_hold h.rd (g.hold _ (by decide) (by decide)), h.ap, h.ok, h.nok⟩
set_option maxRecDepth 100000 in
set_option maxHeartbeats 51200000 in
theorem frames_walk {w : World} (hl : Laid w) {fo : Fo} {l m n : List Int} {who : Int} {u0 u1 u2 u3 : Value} (hk : IsK w (fun b => b < w.heap.size) u0 fo) (hok : OkF fo) (h1 : Row w 1 u1 l.length (ints l)) (h2 : Row w 1 u2 m.length (ints m)) (h3 : Row w 1 u3 n.length (ints n)) : Calls Tryz.prog 5 #[.agg #[u0, u1, u2, u3, .int .i64 who]] w fun e w' => e = .returned (.bool true) ∧ Below w.heap.size w w' := by
  obtain ⟨a0, k0, rfl, _⟩ := hk.shape
  obtain ⟨a1, k1, rfl, hlx⟩ := h1.at
  obtain ⟨a2, k2, rfl, hmx⟩ := h2.at
  obtain ⟨a3, k3, rfl, _⟩ := h3.at
  have bx := bA0 w (.cells #[.slice a0 fo.len k0, .slice a1 l.length k1, .slice a2 m.length k2, .slice a3 n.length k3, .int .i64 who] LisT)
  have hx := heap_alloc_new w (.cells #[.slice a0 fo.len k0, .slice a1 l.length k1, .slice a2 m.length k2, .slice a3 n.length k3, .int .i64 who] LisT)
  have hk1 := hk.below bx
  have hk2 := hk1.of (w' := w) (G' := fun b => b < (w.alloc (.cells #[.slice a0 fo.len k0, .slice a1 l.length k1, .slice a2 m.length k2, .slice a3 n.length k3, .int .i64 who] LisT)).heap.size) (fun b hb _ => Nat.lt_of_lt_of_le hb bx.size)
  have LG := Lib.hid (vlarge_any (who := who) hk2 (h1.below bx) (h2.below bx) (h3.below bx))
  have HLD := Lib.hid hl
  have HKK := Lib.hid hk
  have HLX := Lib.hid hlx
  have HMX := Lib.hid hmx
  have R1 := Lib.hid h1
  have R2 := Lib.hid h2
  have R3 := Lib.hid h3
  have HOK := Lib.hid hok
  have HBX := Lib.hid bx
  have HX := Lib.hid hx
  clear hk hk1 hk2 h1 h2 h3 bx hx hl hok hlx hmx
  go_enter Tryz.func5, Tryz.ntmps5
  go_upto_region 1 with fail
  generalize (w.alloc (.cells #[.slice a0 fo.len k0, .slice a1 l.length k1, .slice a2 m.length k2, .slice a3 n.length k3, .int .i64 who] LisT)) = w1 at *
  have z0 : w1.cell? ⟨w.heap.size, 0, none⟩ = some (.slice a0 fo.len k0) := cellB (j := 0) HX.out rfl
  have z1 : w1.cell? ⟨w.heap.size, 1, none⟩ = some (.slice a1 l.length k1) := cellB (j := 1) HX.out rfl
  have z2 : w1.cell? ⟨w.heap.size, 2, none⟩ = some (.slice a2 m.length k2) := cellB (j := 2) HX.out rfl
  have z3 : w1.cell? ⟨w.heap.size, 3, none⟩ = some (.slice a3 n.length k3) := cellB (j := 3) HX.out rfl
  have z4 : w1.cell? ⟨w.heap.size, 4, none⟩ = some (.int .i64 who) := cellB (j := 4) HX.out rfl
  go_wp2_with fail
  refine LG.out.mono ?_
  rintro e w2 ⟨⟨q, rfl, hq⟩, u2⟩
  clear z0 z1 z2 z3 z4 LG
  have HU2 := Lib.hid (bmore HBX.out u2)
  replace HX := Lib.hid (Hold.below u2 _ _ HX.out)
  have HWB2 : Hid (w.heap.size < w2.heap.size) := Lib.hid (Array.getElem?_eq_some_iff.1 HX.out).1
  clear u2 HBX
  cases q with
  | true =>
    clear hq
    have LV := Lib.hid (live_any (HLD.out.below HU2.out))
    go_wp2_with fail
    refine LV.out.mono ?_
    rintro e w3 ⟨rfl, u3⟩
    have HU3 := Lib.hid (bmore HU2.out u3)
    clear u3 LV
    go_wp2_with fail
    go_returns
    exact ⟨rfl, HU3.out⟩
  | false =>
    have HQ := Lib.hid (hq rfl)
    clear hq
    have z0 : w2.cell? ⟨w.heap.size, 0, none⟩ = some (.slice a0 fo.len k0) := cellB (j := 0) HX.out rfl
    have hk1 := HKK.out.below HU2.out
    have hk2 := hk1.of (w' := w) (G' := fun b => b < w2.heap.size) (fun b hb _ => Nat.lt_of_lt_of_le hb HU2.out.size)
    have PO := Lib.hid (pools_det (HLD.out.below HU2.out) hk2 HOK.out (by have := HQ.out.2.1; omega) (by have := HQ.out.1; omega))
    clear hk1 hk2
    go_wp2_with fail
    refine PO.out.mono ?_
    rintro e w3 ⟨pa, b, ra, vv, rl, rs, rd, p, rfl, hp, hr, u3, hlen, hpl⟩
    clear z0 PO
    have HP := Lib.hid hp
    have HR := Lib.hid hr
    have HPLF := Lib.hid hpl
    have HLT := Lib.hid hp.lts
    have HU3 := Lib.hid (bmore HU2.out u3)
    replace HX := Lib.hid (Hold.below u3 _ _ HX.out)
    have HLL : Hid (l.length ≤ 12 ∧ p.length ≤ 400) := Lib.hid ⟨HQ.out.2.2.1, by have := HQ.out.2.1; omega⟩
    have z0 : w3.cell? ⟨w.heap.size, 0, none⟩ = some (.slice a0 fo.len k0) := cellB (j := 0) HX.out rfl
    have hk1 := HKK.out.below HU3.out
    have hk2 := hk1.of (w' := w) (G' := fun b => b < w3.heap.size) (fun b hb _ => Nat.lt_of_lt_of_le hb HU3.out.size)
    have PO := Lib.hid (pools_det (HLD.out.below HU3.out) hk2 HOK.out (by have := HQ.out.2.1; omega) (by have := HQ.out.1; omega))
    have HB2 : Hid (w.heap.size ≤ w2.heap.size ∧ w.heap.size ≤ w3.heap.size) := Lib.hid ⟨HU2.out.size, HU3.out.size⟩
    clear hp hr u3 hlen hpl hk1 hk2 HU2
    go_wp2_with fail
    refine PO.out.mono ?_
    rintro e w5 ⟨pb, b2, rb, vv2, rl2, rs2, rd2, p2, rfl, hp2, hr2, u5, hlen2, hpl2⟩
    obtain rfl : p2 = p := hpl2.trans HPLF.out.symm
    clear z0 PO
    have HS := Lib.hid hp2
    have HSL := Lib.hid hp2.lts
    replace HP := Lib.hid (HP.out.below u5)
    replace HR := Lib.hid (HR.out.below u5)
    have HU5 := Lib.hid (bmore HU3.out u5)
    replace HX := Lib.hid (Hold.below u5 _ _ HX.out)
    clear hp2 hr2 u5 hlen2 hpl2 HU3 HKK HOK HQ HPLF
    generalize w3.heap.size = B3 at *
    generalize w2.heap.size = B2 at *
    have NU := Lib.hid (fun (n : Int) (W : World) => num_any n W)
    have HKB : Hid (∀ V : World, V.heap[w.heap.size]? = some (Obj.cells #[.slice a0 fo.len k0, .slice a1 l.length k1, .slice a2 m.length k2, .slice a3 n.length k3, .int .i64 who] LisT) → V.cell? ⟨w.heap.size, 1, none⟩ = some (.slice a1 l.length k1) ∧ V.cell? ⟨w.heap.size, 4, none⟩ = some (.int .i64 who)) := Lib.hid fun V h => ⟨cellB (j := 1) h rfl, cellB (j := 4) h rfl⟩
    by_cases hz : rfsP p2 who l = 0
    case neg =>
      obtain ⟨e0, he0⟩ : ∃ e0, e0 = rfsP p2 who l := ⟨_, rfl⟩
      have HE0 := Lib.hid he0
      have HNE : Hid (e0 ≠ 0) := Lib.hid (by rw [he0]; exact hz)
      have FB : Hid (∀ (V : World) (vl : Value), Below w5.heap.size w5 V → Row V 1 vl l.length (ints l) → Calls Tryz.prog 35 #[.pointer (some ⟨pa, 0, none⟩), .int .i64 who, vl] V fun e w' => e = .returned (.tuple #[.slice none 0 0, .int .i64 e0]) ∧ Below V.heap.size V w') := Lib.hid fun V vl hV hl => by
        rw [he0]; exact frame_bad (HP.out.below hV) who hl (by have := HLL.out.1; omega) hz
      have CB : Hid (∀ (V : World) (vl : Value), Below w5.heap.size w5 V → Row V 1 vl l.length (ints l) → Calls Tryz.prog 36 #[.pointer (some ⟨pb, 0, none⟩), .int .i64 who, vl] V fun e w' => e = .returned (.tuple #[.slice none 0 0, .int .i64 e0]) ∧ Below V.heap.size V w') := Lib.hid fun V vl hV hl => by
        rw [he0]; exact classes_bad (HS.out.below hV) who hl (by have := HLL.out.1; omega) hz
      clear he0 hz
      go_upto_region 9 with fail
      have Xa0 := Lib.hid (Hold.below (bd w5) _ _ HX.out)
      have Ua0 := Lib.hid (bd w5)
      refine lex_start [0, 1, 2, 4, 5, 3, 6, 7, 8, 9, 10, 11, 12] (S := (fun V : World => V.cell? ⟨w.heap.size, 1, none⟩ = some (.slice a1 l.length k1) ∧ V.cell? ⟨w.heap.size, 4, none⟩ = some (.int .i64 who))) (by kernel_rfl) (HKB.out _ Xa0.out) (fun hS => ?_)
      clear hS
      simp only [inOrder, List.filterMap, List.getElem?_cons_succ, List.getElem?_cons_zero]
      generalize w5.drew = Va0 at *
      refine lex_take (i := 0) (v := ?_) rfl (by kernel_rfl) (by kernel_rfl) (by kernel_rfl) (by rfl) (HKB.out _ Xa0.out) ?_ ?_
      rotate_left
      · ((intro W hW; obtain ⟨k0, k1⟩ := hW; go_simp) <;> with_reducible rfl)
      simp only [Act.put, List.setIfInBounds_toArray, List.set_cons_zero, List.set_cons_succ]
      refine lex_take (i := 1) (v := ?_) rfl (by kernel_rfl) (by kernel_rfl) (by kernel_rfl) (by rfl) (HKB.out _ Xa0.out) ?_ ?_
      rotate_left
      · ((intro W hW; obtain ⟨k0, k1⟩ := hW; go_simp) <;> with_reducible rfl)
      simp only [Act.put, List.setIfInBounds_toArray, List.set_cons_zero, List.set_cons_succ]
      refine lex_take (i := 2) (v := ?_) rfl (by kernel_rfl) (by kernel_rfl) (by kernel_rfl) (by rfl) (HKB.out _ Xa0.out) ?_ ?_
      rotate_left
      · ((intro W hW; obtain ⟨k0, k1⟩ := hW; go_simp) <;> with_reducible rfl)
      simp only [Act.put, List.setIfInBounds_toArray, List.set_cons_zero, List.set_cons_succ]
      refine lex_take (i := 4) (v := ?_) rfl (by kernel_rfl) (by kernel_rfl) (by kernel_rfl) (by rfl) (HKB.out _ Xa0.out) ?_ ?_
      rotate_left
      · ((intro W hW; obtain ⟨k0, k1⟩ := hW; go_simp) <;> with_reducible rfl)
      simp only [Act.put, List.setIfInBounds_toArray, List.set_cons_zero, List.set_cons_succ]
      refine lex_take (i := 5) (v := ?_) rfl (by kernel_rfl) (by kernel_rfl) (by kernel_rfl) (by rfl) (HKB.out _ Xa0.out) ?_ ?_
      rotate_left
      · ((intro W hW; obtain ⟨k0, k1⟩ := hW; go_simp) <;> with_reducible rfl)
      simp only [Act.put, List.setIfInBounds_toArray, List.set_cons_zero, List.set_cons_succ]
      refine lex_do (i := 3) rfl (by kernel_rfl) (by rfl) (fun K hK => ?_)
      go_simp
      have Ua1 := Lib.hid (bAl Ua0.out (.cells #[] TermT))
      have Ba := Lib.hid (heap_alloc_new Va0 (.cells #[] TermT))
      have Za := Lib.hid Ua0.out.size
      have Xa1 := Lib.hid (Hold.below (bA0 Va0 (.cells #[] TermT)) _ _ Xa0.out)
      refine hK _ _ ⟨HKB.out _ Xa1.out, ?_⟩
      clear hK K
      generalize Va0.alloc (.cells #[] TermT) = Va1 at *
      generalize Va0.heap.size = bqa at *
      clear Xa0 Ua0
      try simp only [Act.put, List.setIfInBounds_toArray, List.set_cons_zero, List.set_cons_succ]
      refine lex_do (i := 6) rfl (by kernel_rfl) (by rfl) (fun K hK => ?_)
      refine wp_append_tm _ _ (by rfl) bqa (by rfl) Ba.out _ l (by rfl) (R1.out.below (bmore HU5.out Ua1.out)) (by have := HLL.out; omega) ?_
      intro cva Va2 oa ga qa
      have Ua2 := Lib.hid (Ua1.out.trans (grown_below ga Ua1.out.size (fun k e => by cases e; exact Za.out)))
      have Xa2 := Lib.hid (Hold.below Ua2.out _ _ HX.out)
      have Oa := Lib.hid oa
      obtain ⟨caa, cca, rfl⟩ := (row_of_own oa).shape
      refine hK _ _ ⟨HKB.out _ Xa2.out, ?_⟩
      clear hK K oa ga qa Ba Xa1 Ua1 Za
      try simp only [Act.put, List.setIfInBounds_toArray, List.set_cons_zero, List.set_cons_succ]
      refine lex_call (i := 7) rfl (by kernel_rfl) (by rfl) ?_ _ (FB.out _ _ Ua2.out (row_of_own Oa.out)) ?_
      · go_simp
      rintro e w6 ⟨rfl, u6⟩
      have U6 := Lib.hid (bmore Ua2.out u6)
      have X6 := Lib.hid (Hold.below U6.out _ _ HX.out)
      clear u6 FB Oa Ua2 Xa2
      refine ⟨_, rfl, (fun V : World => V.cell? ⟨w.heap.size, 1, none⟩ = some (.slice a1 l.length k1) ∧ V.cell? ⟨w.heap.size, 4, none⟩ = some (.int .i64 who)), fun W h => h, HKB.out _ X6.out, ?_⟩
      simp only [Act.put, List.setIfInBounds_toArray, List.set_cons_zero, List.set_cons_succ]
      refine lex_take (i := 8) (v := ?_) rfl (by kernel_rfl) (by kernel_rfl) (by kernel_rfl) (by rfl) (HKB.out _ X6.out) ?_ ?_
      rotate_left
      · ((intro W hW; obtain ⟨k0, k1⟩ := hW; go_simp) <;> with_reducible rfl)
      simp only [Act.put, List.setIfInBounds_toArray, List.set_cons_zero, List.set_cons_succ]
      refine lex_take (i := 9) (v := ?_) rfl (by kernel_rfl) (by kernel_rfl) (by kernel_rfl) (by rfl) (HKB.out _ X6.out) ?_ ?_
      rotate_left
      · ((intro W hW; obtain ⟨k0, k1⟩ := hW; go_simp) <;> with_reducible rfl)
      simp only [Act.put, List.setIfInBounds_toArray, List.set_cons_zero, List.set_cons_succ]
      refine lex_take (i := 10) (v := ?_) rfl (by kernel_rfl) (by kernel_rfl) (by kernel_rfl) (by rfl) (HKB.out _ X6.out) ?_ ?_
      rotate_left
      · ((intro W hW; obtain ⟨k0, k1⟩ := hW; go_simp) <;> with_reducible rfl)
      simp only [Act.put, List.setIfInBounds_toArray, List.set_cons_zero, List.set_cons_succ]
      refine lex_take (i := 11) (v := ?_) rfl (by kernel_rfl) (by kernel_rfl) (by kernel_rfl) (by rfl) (HKB.out _ X6.out) ?_ ?_
      rotate_left
      · ((intro W hW; obtain ⟨k0, k1⟩ := hW; go_simp) <;> with_reducible rfl)
      simp only [Act.put, List.setIfInBounds_toArray, List.set_cons_zero, List.set_cons_succ]
      refine lex_take (i := 12) (v := ?_) rfl (by kernel_rfl) (by kernel_rfl) (by kernel_rfl) (by rfl) (HKB.out _ X6.out) ?_ ?_
      rotate_left
      · ((intro W hW; obtain ⟨k0, k1⟩ := hW; go_simp) <;> with_reducible rfl)
      simp only [Act.put, List.setIfInBounds_toArray, List.set_cons_zero, List.set_cons_succ]
      refine lex_done (by kernel_rfl) ?_
      go_upto_region 10 with fail
      have HU6 := Lib.hid (bmore HU5.out U6.out)
      have Xc0 := Lib.hid (Hold.below (bd w6) _ _ X6.out)
      have Uc0 := Lib.hid (bd w6)
      refine lex_start [0, 1, 2, 4, 5, 3, 6, 7, 8, 9, 10, 11, 12] (S := (fun V : World => V.cell? ⟨w.heap.size, 1, none⟩ = some (.slice a1 l.length k1) ∧ V.cell? ⟨w.heap.size, 4, none⟩ = some (.int .i64 who))) (by kernel_rfl) (HKB.out _ Xc0.out) (fun hS => ?_)
      clear hS
      simp only [inOrder, List.filterMap, List.getElem?_cons_succ, List.getElem?_cons_zero]
      generalize w6.drew = Vc0 at *
      refine lex_take (i := 0) (v := ?_) rfl (by kernel_rfl) (by kernel_rfl) (by kernel_rfl) (by rfl) (HKB.out _ Xc0.out) ?_ ?_
      rotate_left
      · ((intro W hW; obtain ⟨k0, k1⟩ := hW; go_simp) <;> with_reducible rfl)
      simp only [Act.put, List.setIfInBounds_toArray, List.set_cons_zero, List.set_cons_succ]
      refine lex_take (i := 1) (v := ?_) rfl (by kernel_rfl) (by kernel_rfl) (by kernel_rfl) (by rfl) (HKB.out _ Xc0.out) ?_ ?_
      rotate_left
      · ((intro W hW; obtain ⟨k0, k1⟩ := hW; go_simp) <;> with_reducible rfl)
      simp only [Act.put, List.setIfInBounds_toArray, List.set_cons_zero, List.set_cons_succ]
      refine lex_take (i := 2) (v := ?_) rfl (by kernel_rfl) (by kernel_rfl) (by kernel_rfl) (by rfl) (HKB.out _ Xc0.out) ?_ ?_
      rotate_left
      · ((intro W hW; obtain ⟨k0, k1⟩ := hW; go_simp) <;> with_reducible rfl)
      simp only [Act.put, List.setIfInBounds_toArray, List.set_cons_zero, List.set_cons_succ]
      refine lex_take (i := 4) (v := ?_) rfl (by kernel_rfl) (by kernel_rfl) (by kernel_rfl) (by rfl) (HKB.out _ Xc0.out) ?_ ?_
      rotate_left
      · ((intro W hW; obtain ⟨k0, k1⟩ := hW; go_simp) <;> with_reducible rfl)
      simp only [Act.put, List.setIfInBounds_toArray, List.set_cons_zero, List.set_cons_succ]
      refine lex_take (i := 5) (v := ?_) rfl (by kernel_rfl) (by kernel_rfl) (by kernel_rfl) (by rfl) (HKB.out _ Xc0.out) ?_ ?_
      rotate_left
      · ((intro W hW; obtain ⟨k0, k1⟩ := hW; go_simp) <;> with_reducible rfl)
      simp only [Act.put, List.setIfInBounds_toArray, List.set_cons_zero, List.set_cons_succ]
      refine lex_do (i := 3) rfl (by kernel_rfl) (by rfl) (fun K hK => ?_)
      go_simp
      have Uc1 := Lib.hid (bAl Uc0.out (.cells #[] TermT))
      have Bc := Lib.hid (heap_alloc_new Vc0 (.cells #[] TermT))
      have Zc := Lib.hid Uc0.out.size
      have Xc1 := Lib.hid (Hold.below (bA0 Vc0 (.cells #[] TermT)) _ _ Xc0.out)
      refine hK _ _ ⟨HKB.out _ Xc1.out, ?_⟩
      clear hK K
      generalize Vc0.alloc (.cells #[] TermT) = Vc1 at *
      generalize Vc0.heap.size = bqc at *
      clear Xc0 Uc0
      try simp only [Act.put, List.setIfInBounds_toArray, List.set_cons_zero, List.set_cons_succ]
      refine lex_do (i := 6) rfl (by kernel_rfl) (by rfl) (fun K hK => ?_)
      refine wp_append_tm _ _ (by rfl) bqc (by rfl) Bc.out _ l (by rfl) (R1.out.below (bmore HU6.out Uc1.out)) (by have := HLL.out; omega) ?_
      intro cvc Vc2 oc gc qc
      have Uc2 := Lib.hid (Uc1.out.trans (grown_below gc Uc1.out.size (fun k e => by cases e; exact Zc.out)))
      have Xc2 := Lib.hid (Hold.below Uc2.out _ _ X6.out)
      have Oc := Lib.hid oc
      obtain ⟨cac, ccc, rfl⟩ := (row_of_own oc).shape
      refine hK _ _ ⟨HKB.out _ Xc2.out, ?_⟩
      clear hK K oc gc qc Bc Xc1 Uc1 Zc
      try simp only [Act.put, List.setIfInBounds_toArray, List.set_cons_zero, List.set_cons_succ]
      refine lex_call (i := 7) rfl (by kernel_rfl) (by rfl) ?_ _ (CB.out _ _ (bmore U6.out Uc2.out) (row_of_own Oc.out)) ?_
      · go_simp
      rintro e w7 ⟨rfl, u7⟩
      have U7 := Lib.hid (bmore (bmore U6.out Uc2.out) u7)
      have X7 := Lib.hid (Hold.below U7.out _ _ HX.out)
      clear u7 CB Oc Uc2 Xc2 U6 X6
      refine ⟨_, rfl, (fun V : World => V.cell? ⟨w.heap.size, 1, none⟩ = some (.slice a1 l.length k1) ∧ V.cell? ⟨w.heap.size, 4, none⟩ = some (.int .i64 who)), fun W h => h, HKB.out _ X7.out, ?_⟩
      simp only [Act.put, List.setIfInBounds_toArray, List.set_cons_zero, List.set_cons_succ]
      refine lex_take (i := 8) (v := ?_) rfl (by kernel_rfl) (by kernel_rfl) (by kernel_rfl) (by rfl) (HKB.out _ X7.out) ?_ ?_
      rotate_left
      · ((intro W hW; obtain ⟨k0, k1⟩ := hW; go_simp) <;> with_reducible rfl)
      simp only [Act.put, List.setIfInBounds_toArray, List.set_cons_zero, List.set_cons_succ]
      refine lex_take (i := 9) (v := ?_) rfl (by kernel_rfl) (by kernel_rfl) (by kernel_rfl) (by rfl) (HKB.out _ X7.out) ?_ ?_
      rotate_left
      · ((intro W hW; obtain ⟨k0, k1⟩ := hW; go_simp) <;> with_reducible rfl)
      simp only [Act.put, List.setIfInBounds_toArray, List.set_cons_zero, List.set_cons_succ]
      refine lex_take (i := 10) (v := ?_) rfl (by kernel_rfl) (by kernel_rfl) (by kernel_rfl) (by rfl) (HKB.out _ X7.out) ?_ ?_
      rotate_left
      · ((intro W hW; obtain ⟨k0, k1⟩ := hW; go_simp) <;> with_reducible rfl)
      simp only [Act.put, List.setIfInBounds_toArray, List.set_cons_zero, List.set_cons_succ]
      refine lex_take (i := 11) (v := ?_) rfl (by kernel_rfl) (by kernel_rfl) (by kernel_rfl) (by rfl) (HKB.out _ X7.out) ?_ ?_
      rotate_left
      · ((intro W hW; obtain ⟨k0, k1⟩ := hW; go_simp) <;> with_reducible rfl)
      simp only [Act.put, List.setIfInBounds_toArray, List.set_cons_zero, List.set_cons_succ]
      refine lex_take (i := 12) (v := ?_) rfl (by kernel_rfl) (by kernel_rfl) (by kernel_rfl) (by rfl) (HKB.out _ X7.out) ?_ ?_
      rotate_left
      · ((intro W hW; obtain ⟨k0, k1⟩ := hW; go_simp) <;> with_reducible rfl)
      simp only [Act.put, List.setIfInBounds_toArray, List.set_cons_zero, List.set_cons_succ]
      refine lex_done (by kernel_rfl) ?_
      have HU7 := Lib.hid (bmore HU5.out U7.out)
      have HX7 := Lib.hid (Hold.below U7.out _ _ HX.out)
      have HR7 := Lib.hid (HR.out.below U7.out)
      obtain ⟨wo, hwo⟩ : ∃ wo, wo = w7 := ⟨_, rfl⟩
      have z1 : w7.cell? ⟨w.heap.size, 1, none⟩ = some (.slice a1 l.length k1) := cellB (j := 1) HX7.out rfl
      have z4 : w7.cell? ⟨w.heap.size, 4, none⟩ = some (.int .i64 who) := cellB (j := 4) HX7.out rfl
      go_wp2_with fail
      go_loopw [13, 14, 15] (fun v13 v14 v15 wr => ∃ (i : Nat) (wt : Int) (gs : List (Nd × Fo)) (xs : List Value), v15 = .int .i64 (i : Int) ∧ v13 = .int .i64 wt ∧ i ≤ l.length ∧ gs.length = i ∧ ((wt = 0 ∨ (wt = e0 ∧ wt ≠ 0 ∧ 0 < i)) ∧ (wt = 0 → ∀ j (h : j < l.length), j < i → nameB who = true ∧ inP p2 l[j] = true)) ∧ wr.ownsRow w7.heap.size TrT 6 v14 gs.length xs ∧ RowF wr (ButT w7.heap.size v14.ownBlock wr) gs xs ∧ (∀ j (h : j < l.length) (h' : j < gs.length), OkF (.cons gs[j].1 gs[j].2 .nil) ∧ (inP p2 l[j] = true → RepF p2 [l[j]] (.cons gs[j].1 gs[j].2 .nil))) ∧ Below w7.heap.size w7 wr) (fun _ _ v _ => l.length - (intOf v).toNat)
      case atStart => exact ⟨0, 0, [], [], rfl, rfl, Nat.zero_le _, rfl, ⟨.inl rfl, fun _ j _ h => absurd h (Nat.not_lt_zero _)⟩, World.ownsRow_nil _ _ _ 6, rfl, fun j _ h => absurd h (Nat.not_lt_zero _), Below.refl _ _⟩
      case round =>
        clear z1 z4
        obtain ⟨i, wt, gs, xs, rfl, rfl, hi, hgl, hwt, hown, hrow, hgs, hb⟩ := hrel
        have HGL := Lib.hid hgl
        have HWT := Lib.hid hwt
        have HOWN := Lib.hid hown
        have HROW := Lib.hid hrow
        have HGS := Lib.hid hgs
        have HB := Lib.hid hb
        obtain ⟨ta, tc, rfl⟩ := (row_of_own hown).shape
        have hl12 : l.length ≤ 12 := HLL.out.1
        have z1 : wr.cell? ⟨w.heap.size, 1, none⟩ = some (.slice a1 l.length k1) := bcellAt hb (cellB (j := 1) HX7.out rfl)
        have z4 : wr.cell? ⟨w.heap.size, 4, none⟩ = some (.int .i64 who) := bcellAt hb (cellB (j := 4) HX7.out rfl)
        clear hgl hwt hown hrow hgs hb
        have HUE := Lib.hid (bmore HU7.out HB.out)
        by_cases hw0 : wt = 0
        · subst hw0
          by_cases hlt : i < l.length
          · skip
            obtain ⟨lb, lo, rfl, ql⟩ := HLX.out (by omega)
            have cl := bcellAt (bmore HU7.out HB.out) (ql i _ (ints_at l i hlt))
            have hd : decide ((i : Int) < (l.length : Int)) = true := decide_eq_true (by omega)
            have hi0 : (0 : Int) ≤ (i : Int) := by omega
            have hi1 : (i : Int) < (l.length : Int) := by omega
            have RI := Lib.hid (rin (HR7.out.below HB.out) l[i])
            have RT := Lib.hid (rtree (HR7.out.below HB.out) l[i])
            have RNM := Lib.hid (fun W => rname_any who W)
            have HXI : Hid (∀ (h : gs.length < l.length), l[gs.length] = l[i]) := Lib.hid fun h => by simp only [HGL.out]
            cases hn : nameK who with
            | false =>
              have he50 : e0 = 50 := by rw [HE0.out]; unfold rfsP; rw [if_pos (show nameB who = false from hn)]
              rw [hn] at RNM
              have HE5 := Lib.hid he50
              clear he50 hn RI
              go_wp2_with fail
              refine (RNM.out _).mono ?_
              rintro e V ⟨rfl, rfl⟩
              clear RNM hd
              go_wp2_with fail
              refine RT.out.mono ?_
              rintro e w8 ⟨⟨nk, nf, nt, nu, ns, nx, ny⟩, nkids, vk, rfl, hkk, okk, u8, hrep, _⟩
              obtain ⟨ka, kc, rfl, _⟩ := hkk.shape
              simp only [treeA]
              have HKK2 := Lib.hid hkk
              have HOKK := Lib.hid okk
              have HREP := Lib.hid hrep
              have HU8 := Lib.hid u8
              have bC := bZ w8 (.cells #[.int .i64 nk, .int .i64 nf, .int .i64 nt, .int .u64 nu, .string ns, .slice ka nkids.len kc] TrT)
              have HBC := Lib.hid bC
              have HOC := Lib.hid (own_hold (own_hold HOWN.out (Hold.below u8)) (Hold.below bC))
              have HSZ : Hid (w7.heap.size ≤ (w8.alloc (.cells #[.int .i64 nk, .int .i64 nf, .int .i64 nt, .int .u64 nu, .string ns, .slice ka nkids.len kc] TrT)).heap.size) := Lib.hid (Nat.le_trans HB.out.size (Nat.le_trans u8.size bC.size))
              obtain ⟨i0, hi0', hz0, hz1, hz2⟩ := info_parts rowTree
              have hgl6 : gs.length ≤ 12 := by have := HGL.out; omega
              clear hkk okk hrep u8 bC RT cl
              go_wp2_with (at_builtin; refine wpList_append_at _ rfl _ _ 22 rfl w7.heap.size TrT i0 (.agg #[.int .i64 0, .int .i64 0, .int .i64 0, .int .u64 0, .string ⟨#[]⟩, .slice none 0 0]) 6 72 Tryz.underlying22 hi0' hz0 hz1 hz2 rfl (by decide) (.slice ta gs.length tc) gs.length xs rfl HOC.out ⟨w8.heap.size, 0, none⟩ 1 1 [.int .i64 nk, .int .i64 nf, .int .i64 nt, .int .u64 nu, .string ns, .slice ka nkids.len kc] rfl (by decide) rfl (news6 w8 _ _ _ _ _ _ _) (by simp [Value.oneCell']) (by unfold maxLen; omega) (by omega) HSZ.out ?_)
              intro v9 w9 hown9 hg9 hp9
              obtain ⟨va, vc, rfl⟩ := (row_of_own hown9).shape
              have HAP := Lib.hid (tree_app (n := ⟨nk, nf, nt, nu, ns, nx, ny⟩) HOWN.out HROW.out HB.out HU8.out HBC.out HKK2.out hown9 hg9 (by rw [World.size_alloc]; exact hp9))
              have HGN : Hid (∀ j (h : j < l.length) (h' : j < (gs ++ [((⟨nk, nf, nt, nu, ns, nx, ny⟩ : Nd), nkids)]).length), OkF (.cons (gs ++ [((⟨nk, nf, nt, nu, ns, nx, ny⟩ : Nd), nkids)])[j].1 (gs ++ [((⟨nk, nf, nt, nu, ns, nx, ny⟩ : Nd), nkids)])[j].2 .nil) ∧ (inP p2 l[j] = true → RepF p2 [l[j]] (.cons (gs ++ [((⟨nk, nf, nt, nu, ns, nx, ny⟩ : Nd), nkids)])[j].1 (gs ++ [((⟨nk, nf, nt, nu, ns, nx, ny⟩ : Nd), nkids)])[j].2 .nil))) := Lib.hid fun j h h' => by
                rcases Nat.lt_or_ge j gs.length with h4 | h4
                · simp only [List.getElem_append_left h4]; exact HGS.out j h h4
                · simp only [List.length_append, List.length_cons, List.length_nil] at h'
                  obtain rfl : j = gs.length := by omega
                  simp only [List.getElem_concat_length]
                  rw [HXI.out h]
                  exact ⟨HOKK.out, fun e => HREP.out e⟩
              clear hown9 hg9 hp9 HBC HOC HSZ HKK2 HU8 HOWN HROW
              go_wp2_with fail
              clear z1 z4
              go_roundw
              case rel => exact ⟨i + 1, 50, gs ++ [((⟨nk, nf, nt, nu, ns, nx, ny⟩ : Nd), nkids)], _, by go_num, rfl, by omega, by rw [List.length_append, HGL.out]; rfl, ⟨.inr ⟨HE5.out.symm, by decide, Nat.succ_pos _⟩, fun h => absurd h (by decide)⟩, by rw [List.length_append]; exact HAP.out.1, HAP.out.2.1, HGN.out, HAP.out.2.2⟩
              case measure => simp [intOf] <;> omega
            | true =>
              rw [hn] at RNM
              have HNT := Lib.hid hn
              clear hn
              cases hin : inP p2 l[i] with
              | false =>
                have he51 : e0 = 51 := by
                  rw [HE0.out]; unfold rfsP
                  rw [if_neg (by rw [show nameB who = true from HNT.out]; decide), if_neg (fun h => by
                    have := List.all_eq_true.1 h _ (List.getElem_mem hlt)
                    rw [hin] at this; cases this)]
                have HE5 := Lib.hid he51
                rw [hin] at RI
                clear he51 hin
                go_wp2_with fail
                refine (RNM.out _).mono ?_
                rintro e V ⟨rfl, rfl⟩
                go_wp2_with fail
                refine RI.out.mono ?_
                rintro e V ⟨rfl, rfl⟩
                clear RNM RI hd
                go_wp2_with fail
                refine RT.out.mono ?_
                rintro e w8 ⟨⟨nk, nf, nt, nu, ns, nx, ny⟩, nkids, vk, rfl, hkk, okk, u8, hrep, _⟩
                obtain ⟨ka, kc, rfl, _⟩ := hkk.shape
                simp only [treeA]
                have HKK2 := Lib.hid hkk
                have HOKK := Lib.hid okk
                have HREP := Lib.hid hrep
                have HU8 := Lib.hid u8
                have bC := bZ w8 (.cells #[.int .i64 nk, .int .i64 nf, .int .i64 nt, .int .u64 nu, .string ns, .slice ka nkids.len kc] TrT)
                have HBC := Lib.hid bC
                have HOC := Lib.hid (own_hold (own_hold HOWN.out (Hold.below u8)) (Hold.below bC))
                have HSZ : Hid (w7.heap.size ≤ (w8.alloc (.cells #[.int .i64 nk, .int .i64 nf, .int .i64 nt, .int .u64 nu, .string ns, .slice ka nkids.len kc] TrT)).heap.size) := Lib.hid (Nat.le_trans HB.out.size (Nat.le_trans u8.size bC.size))
                obtain ⟨i0, hi0', hz0, hz1, hz2⟩ := info_parts rowTree
                have hgl6 : gs.length ≤ 12 := by have := HGL.out; omega
                clear hkk okk hrep u8 bC RT cl
                go_wp2_with (at_builtin; refine wpList_append_at _ rfl _ _ 22 rfl w7.heap.size TrT i0 (.agg #[.int .i64 0, .int .i64 0, .int .i64 0, .int .u64 0, .string ⟨#[]⟩, .slice none 0 0]) 6 72 Tryz.underlying22 hi0' hz0 hz1 hz2 rfl (by decide) (.slice ta gs.length tc) gs.length xs rfl HOC.out ⟨w8.heap.size, 0, none⟩ 1 1 [.int .i64 nk, .int .i64 nf, .int .i64 nt, .int .u64 nu, .string ns, .slice ka nkids.len kc] rfl (by decide) rfl (news6 w8 _ _ _ _ _ _ _) (by simp [Value.oneCell']) (by unfold maxLen; omega) (by omega) HSZ.out ?_)
                intro v9 w9 hown9 hg9 hp9
                obtain ⟨va, vc, rfl⟩ := (row_of_own hown9).shape
                have HAP := Lib.hid (tree_app (n := ⟨nk, nf, nt, nu, ns, nx, ny⟩) HOWN.out HROW.out HB.out HU8.out HBC.out HKK2.out hown9 hg9 (by rw [World.size_alloc]; exact hp9))
                have HGN : Hid (∀ j (h : j < l.length) (h' : j < (gs ++ [((⟨nk, nf, nt, nu, ns, nx, ny⟩ : Nd), nkids)]).length), OkF (.cons (gs ++ [((⟨nk, nf, nt, nu, ns, nx, ny⟩ : Nd), nkids)])[j].1 (gs ++ [((⟨nk, nf, nt, nu, ns, nx, ny⟩ : Nd), nkids)])[j].2 .nil) ∧ (inP p2 l[j] = true → RepF p2 [l[j]] (.cons (gs ++ [((⟨nk, nf, nt, nu, ns, nx, ny⟩ : Nd), nkids)])[j].1 (gs ++ [((⟨nk, nf, nt, nu, ns, nx, ny⟩ : Nd), nkids)])[j].2 .nil))) := Lib.hid fun j h h' => by
                  rcases Nat.lt_or_ge j gs.length with h4 | h4
                  · simp only [List.getElem_append_left h4]; exact HGS.out j h h4
                  · simp only [List.length_append, List.length_cons, List.length_nil] at h'
                    obtain rfl : j = gs.length := by omega
                    simp only [List.getElem_concat_length]
                    rw [HXI.out h]
                    exact ⟨HOKK.out, fun e => HREP.out e⟩
                clear hown9 hg9 hp9 HBC HOC HSZ HKK2 HU8 HOWN HROW
                go_wp2_with fail
                clear z1 z4
                go_roundw
                case rel => exact ⟨i + 1, 51, gs ++ [((⟨nk, nf, nt, nu, ns, nx, ny⟩ : Nd), nkids)], _, by go_num, rfl, by omega, by rw [List.length_append, HGL.out]; rfl, ⟨.inr ⟨HE5.out.symm, by decide, Nat.succ_pos _⟩, fun h => absurd h (by decide)⟩, by rw [List.length_append]; exact HAP.out.1, HAP.out.2.1, HGN.out, HAP.out.2.2⟩
                case measure => simp [intOf] <;> omega
              | true =>
                have HWN : Hid (∀ j (h : j < l.length), j < i + 1 → nameB who = true ∧ inP p2 l[j] = true) := Lib.hid fun j h hj => by
                  rcases Nat.lt_or_ge j i with h4 | h4
                  · exact HWT.out.2 rfl j h h4
                  · obtain rfl : j = i := by omega
                    exact ⟨HNT.out, hin⟩
                rw [hin] at RI
                clear hin
                go_wp2_with fail
                refine (RNM.out _).mono ?_
                rintro e V ⟨rfl, rfl⟩
                go_wp2_with fail
                refine RI.out.mono ?_
                rintro e V ⟨rfl, rfl⟩
                clear RNM RI hd
                go_wp2_with fail
                refine RT.out.mono ?_
                rintro e w8 ⟨⟨nk, nf, nt, nu, ns, nx, ny⟩, nkids, vk, rfl, hkk, okk, u8, hrep, _⟩
                obtain ⟨ka, kc, rfl, _⟩ := hkk.shape
                simp only [treeA]
                have HKK2 := Lib.hid hkk
                have HOKK := Lib.hid okk
                have HREP := Lib.hid hrep
                have HU8 := Lib.hid u8
                have bC := bZ w8 (.cells #[.int .i64 nk, .int .i64 nf, .int .i64 nt, .int .u64 nu, .string ns, .slice ka nkids.len kc] TrT)
                have HBC := Lib.hid bC
                have HOC := Lib.hid (own_hold (own_hold HOWN.out (Hold.below u8)) (Hold.below bC))
                have HSZ : Hid (w7.heap.size ≤ (w8.alloc (.cells #[.int .i64 nk, .int .i64 nf, .int .i64 nt, .int .u64 nu, .string ns, .slice ka nkids.len kc] TrT)).heap.size) := Lib.hid (Nat.le_trans HB.out.size (Nat.le_trans u8.size bC.size))
                obtain ⟨i0, hi0', hz0, hz1, hz2⟩ := info_parts rowTree
                have hgl6 : gs.length ≤ 12 := by have := HGL.out; omega
                clear hkk okk hrep u8 bC RT cl
                go_wp2_with (at_builtin; refine wpList_append_at _ rfl _ _ 22 rfl w7.heap.size TrT i0 (.agg #[.int .i64 0, .int .i64 0, .int .i64 0, .int .u64 0, .string ⟨#[]⟩, .slice none 0 0]) 6 72 Tryz.underlying22 hi0' hz0 hz1 hz2 rfl (by decide) (.slice ta gs.length tc) gs.length xs rfl HOC.out ⟨w8.heap.size, 0, none⟩ 1 1 [.int .i64 nk, .int .i64 nf, .int .i64 nt, .int .u64 nu, .string ns, .slice ka nkids.len kc] rfl (by decide) rfl (news6 w8 _ _ _ _ _ _ _) (by simp [Value.oneCell']) (by unfold maxLen; omega) (by omega) HSZ.out ?_)
                intro v9 w9 hown9 hg9 hp9
                obtain ⟨va, vc, rfl⟩ := (row_of_own hown9).shape
                have HAP := Lib.hid (tree_app (n := ⟨nk, nf, nt, nu, ns, nx, ny⟩) HOWN.out HROW.out HB.out HU8.out HBC.out HKK2.out hown9 hg9 (by rw [World.size_alloc]; exact hp9))
                have HGN : Hid (∀ j (h : j < l.length) (h' : j < (gs ++ [((⟨nk, nf, nt, nu, ns, nx, ny⟩ : Nd), nkids)]).length), OkF (.cons (gs ++ [((⟨nk, nf, nt, nu, ns, nx, ny⟩ : Nd), nkids)])[j].1 (gs ++ [((⟨nk, nf, nt, nu, ns, nx, ny⟩ : Nd), nkids)])[j].2 .nil) ∧ (inP p2 l[j] = true → RepF p2 [l[j]] (.cons (gs ++ [((⟨nk, nf, nt, nu, ns, nx, ny⟩ : Nd), nkids)])[j].1 (gs ++ [((⟨nk, nf, nt, nu, ns, nx, ny⟩ : Nd), nkids)])[j].2 .nil))) := Lib.hid fun j h h' => by
                  rcases Nat.lt_or_ge j gs.length with h4 | h4
                  · simp only [List.getElem_append_left h4]; exact HGS.out j h h4
                  · simp only [List.length_append, List.length_cons, List.length_nil] at h'
                    obtain rfl : j = gs.length := by omega
                    simp only [List.getElem_concat_length]
                    rw [HXI.out h]
                    exact ⟨HOKK.out, fun e => HREP.out e⟩
                clear hown9 hg9 hp9 HBC HOC HSZ HKK2 HU8 HOWN HROW
                go_wp2_with fail
                clear z1 z4
                go_roundw
                case rel => exact ⟨i + 1, 0, gs ++ [((⟨nk, nf, nt, nu, ns, nx, ny⟩ : Nd), nkids)], _, by go_num, rfl, by omega, by rw [List.length_append, HGL.out]; rfl, ⟨.inl rfl, fun _ => HWN.out⟩, by rw [List.length_append]; exact HAP.out.1, HAP.out.2.1, HGN.out, HAP.out.2.2⟩
                case measure => simp [intOf] <;> omega
          · obtain rfl : i = l.length := by omega
            have hd : decide ((l.length : Int) < (l.length : Int)) = false := decide_eq_false (by omega)
            have hl0 : l.length = 0 := by
              rcases Nat.eq_zero_or_pos l.length with h | h
              · exact h
              · exact absurd (HE0.out.trans (rfs_zero.2 ⟨(HWT.out.2 rfl 0 h h).1, fun x hx => by
                  obtain ⟨j, hj, rfl⟩ := List.getElem_of_mem hx
                  exact (HWT.out.2 rfl j hj hj).2⟩)) HNE.out
            have e9 : ((l.length : Int) == 0) = true := by rw [hl0]; rfl
            clear hlt hl0
            have LV := Lib.hid (live_any (HLD.out.below HUE.out))
            go_wp2_with fail
            refine LV.out.mono ?_
            rintro e wl ⟨rfl, ul⟩
            have HUL := Lib.hid (bmore HUE.out ul)
            clear ul LV
            go_wp2_with fail
            go_returns
            exact ⟨rfl, HUL.out⟩
        · obtain ⟨rfl, hw1, hi9⟩ := HWT.out.1.resolve_left hw0
          have hw9 : (wt == 0) = false := ebF hw0
          have hw8 : (wt != 0) = true := by rw [bne, hw9]; rfl
          have hww : (wt != wt) = false := by simp
          have e9 : ((l.length : Int) == 0) = false := ebF (by omega)
          clear hw0 hw1 hi9
          by_cases hlt : i < l.length
          · have hd : decide ((i : Int) < (l.length : Int)) = true := decide_eq_true (by omega)
            have LV := Lib.hid (live_any (HLD.out.below HUE.out))
            go_wp2_with ((with_reducible refine (NU.out _ _).mono ?_); rintro e wn ⟨rfl, rfl⟩)
            refine LV.out.mono ?_
            rintro e wl ⟨rfl, ul⟩
            have HUL := Lib.hid (bmore HUE.out ul)
            clear ul LV
            go_wp2_with fail
            go_returns
            exact ⟨rfl, HUL.out⟩
          · have hd : decide ((i : Int) < (l.length : Int)) = false := decide_eq_false (by omega)
            have LV := Lib.hid (live_any (HLD.out.below HUE.out))
            go_wp2_with ((with_reducible refine (NU.out _ _).mono ?_); rintro e wn ⟨rfl, rfl⟩)
            refine LV.out.mono ?_
            rintro e wl ⟨rfl, ul⟩
            have HUL := Lib.hid (bmore HUE.out ul)
            clear ul LV
            go_wp2_with fail
            go_returns
            exact ⟨rfl, HUL.out⟩
    have HNI := Lib.hid (rfs_zero.1 hz)
    have HZ := Lib.hid hz
    clear hz
    go_upto_region 9 with fail
    have Xa0 := Lib.hid (Hold.below (bd w5) _ _ HX.out)
    have Ua0 := Lib.hid (bd w5)
    refine lex_start [0, 1, 2, 4, 5, 3, 6, 7, 8, 9, 10, 11, 12] (S := (fun V : World => V.cell? ⟨w.heap.size, 1, none⟩ = some (.slice a1 l.length k1) ∧ V.cell? ⟨w.heap.size, 4, none⟩ = some (.int .i64 who))) (by kernel_rfl) (HKB.out _ Xa0.out) (fun hS => ?_)
    clear hS
    simp only [inOrder, List.filterMap, List.getElem?_cons_succ, List.getElem?_cons_zero]
    generalize w5.drew = Va0 at *
    refine lex_take (i := 0) (v := ?_) rfl (by kernel_rfl) (by kernel_rfl) (by kernel_rfl) (by rfl) (HKB.out _ Xa0.out) ?_ ?_
    rotate_left
    · ((intro W hW; obtain ⟨k0, k1⟩ := hW; go_simp) <;> with_reducible rfl)
    simp only [Act.put, List.setIfInBounds_toArray, List.set_cons_zero, List.set_cons_succ]
    refine lex_take (i := 1) (v := ?_) rfl (by kernel_rfl) (by kernel_rfl) (by kernel_rfl) (by rfl) (HKB.out _ Xa0.out) ?_ ?_
    rotate_left
    · ((intro W hW; obtain ⟨k0, k1⟩ := hW; go_simp) <;> with_reducible rfl)
    simp only [Act.put, List.setIfInBounds_toArray, List.set_cons_zero, List.set_cons_succ]
    refine lex_take (i := 2) (v := ?_) rfl (by kernel_rfl) (by kernel_rfl) (by kernel_rfl) (by rfl) (HKB.out _ Xa0.out) ?_ ?_
    rotate_left
    · ((intro W hW; obtain ⟨k0, k1⟩ := hW; go_simp) <;> with_reducible rfl)
    simp only [Act.put, List.setIfInBounds_toArray, List.set_cons_zero, List.set_cons_succ]
    refine lex_take (i := 4) (v := ?_) rfl (by kernel_rfl) (by kernel_rfl) (by kernel_rfl) (by rfl) (HKB.out _ Xa0.out) ?_ ?_
    rotate_left
    · ((intro W hW; obtain ⟨k0, k1⟩ := hW; go_simp) <;> with_reducible rfl)
    simp only [Act.put, List.setIfInBounds_toArray, List.set_cons_zero, List.set_cons_succ]
    refine lex_take (i := 5) (v := ?_) rfl (by kernel_rfl) (by kernel_rfl) (by kernel_rfl) (by rfl) (HKB.out _ Xa0.out) ?_ ?_
    rotate_left
    · ((intro W hW; obtain ⟨k0, k1⟩ := hW; go_simp) <;> with_reducible rfl)
    simp only [Act.put, List.setIfInBounds_toArray, List.set_cons_zero, List.set_cons_succ]
    refine lex_do (i := 3) rfl (by kernel_rfl) (by rfl) (fun K hK => ?_)
    go_simp
    have Ua1 := Lib.hid (bAl Ua0.out (.cells #[] TermT))
    have Ba := Lib.hid (heap_alloc_new Va0 (.cells #[] TermT))
    have Za := Lib.hid Ua0.out.size
    have Xa1 := Lib.hid (Hold.below (bA0 Va0 (.cells #[] TermT)) _ _ Xa0.out)
    refine hK _ _ ⟨HKB.out _ Xa1.out, ?_⟩
    clear hK K
    generalize Va0.alloc (.cells #[] TermT) = Va1 at *
    generalize Va0.heap.size = bqa at *
    clear Xa0 Ua0
    try simp only [Act.put, List.setIfInBounds_toArray, List.set_cons_zero, List.set_cons_succ]
    refine lex_do (i := 6) rfl (by kernel_rfl) (by rfl) (fun K hK => ?_)
    refine wp_append_tm _ _ (by rfl) bqa (by rfl) Ba.out _ l (by rfl) (R1.out.below (bmore HU5.out Ua1.out)) (by have := HLL.out; omega) ?_
    intro cva Va2 oa ga qa
    have Ua2 := Lib.hid (Ua1.out.trans (grown_below ga Ua1.out.size (fun k e => by cases e; exact Za.out)))
    have Xa2 := Lib.hid (Hold.below Ua2.out _ _ HX.out)
    have Oa := Lib.hid oa
    obtain ⟨caa, cca, rfl⟩ := (row_of_own oa).shape
    refine hK _ _ ⟨HKB.out _ Xa2.out, ?_⟩
    clear hK K oa ga qa Ba Xa1 Ua1 Za
    try simp only [Act.put, List.setIfInBounds_toArray, List.set_cons_zero, List.set_cons_succ]
    have FRA := Lib.hid (frame_any (w0 := w) HLD.out HB2.out.1 (bmore HU5.out Ua2.out) (HP.out.below Ua2.out) who Oa.out (by have := HLL.out.1; omega) HZ.out (by have := HLL.out.2; omega))
    refine lex_call (i := 7) rfl (by kernel_rfl) (by rfl) ?_ _ FRA.out ?_
    · go_simp
    rintro e w6 ⟨fv, fs, v6, p6, m6, rfl, hof, hfl, hval, hp6, ha6, hg6, hfr6, how6⟩
    have HOF := Lib.hid hof
    have HFL := Lib.hid hfl
    have HV6 := Lib.hid hval
    have HP6 := Lib.hid hp6
    have HA6 := Lib.hid ha6
    have HW6 := Lib.hid how6
    have HU6 := Lib.hid ((bmore HU5.out Ua2.out).trans (hg6.below.mono HB2.out.1))
    have X6 := Lib.hid (hg6.hold LisT (by decide) (by decide) _ _ Xa2.out)
    have HR6 := Lib.hid ((HR.out.below Ua2.out).regf hg6)
    have HSZ6 : Hid (w5.heap.size ≤ Va2.heap.size ∧ Va2.heap.size ≤ w6.heap.size) := Lib.hid ⟨Ua2.out.size, hg6.below.size⟩
    have HS6 := Lib.hid ((HS.out.below Ua2.out).stay (hfr6 pb (Nat.lt_of_lt_of_le HSL.out.1 Ua2.out.size) (by have := HLT.out.1; have := HS.out.ga; omega) (by have := HLT.out.2.1; have := HS.out.ga; omega) (fun e => by have := (HLT.out.2.2 _ e).2; have := HS.out.ga; omega)) (hfr6 b2 (Nat.lt_of_lt_of_le HSL.out.2.1 Ua2.out.size) (by have := HLT.out.1; have := HS.out.gb; omega) (by have := HLT.out.2.1; have := HS.out.gb; omega) (fun e => by have := (HLT.out.2.2 _ e).2; have := HS.out.gb; omega)) (fun g e => hfr6 g (Nat.lt_of_lt_of_le (HSL.out.2.2 g e).2 Ua2.out.size) (by have := HLT.out.1; have := (HSL.out.2.2 g e).1; omega) (by have := HLT.out.2.1; have := (HSL.out.2.2 g e).1; omega) (fun e' => by have := (HLT.out.2.2 _ e').2; have := (HSL.out.2.2 g e).1; omega)))
    obtain ⟨fa, fc, rfl⟩ := (row_of_own hof).shape
    clear hof hfl hval hp6 ha6 hg6 hfr6 how6 FRA Oa
    refine ⟨_, rfl, (fun V : World => V.cell? ⟨w.heap.size, 1, none⟩ = some (.slice a1 l.length k1) ∧ V.cell? ⟨w.heap.size, 4, none⟩ = some (.int .i64 who)), fun W h => h, HKB.out _ X6.out, ?_⟩
    simp only [Act.put, List.setIfInBounds_toArray, List.set_cons_zero, List.set_cons_succ]
    refine lex_take (i := 8) (v := ?_) rfl (by kernel_rfl) (by kernel_rfl) (by kernel_rfl) (by rfl) (HKB.out _ X6.out) ?_ ?_
    rotate_left
    · ((intro W hW; obtain ⟨k0, k1⟩ := hW; go_simp) <;> with_reducible rfl)
    simp only [Act.put, List.setIfInBounds_toArray, List.set_cons_zero, List.set_cons_succ]
    refine lex_take (i := 9) (v := ?_) rfl (by kernel_rfl) (by kernel_rfl) (by kernel_rfl) (by rfl) (HKB.out _ X6.out) ?_ ?_
    rotate_left
    · ((intro W hW; obtain ⟨k0, k1⟩ := hW; go_simp) <;> with_reducible rfl)
    simp only [Act.put, List.setIfInBounds_toArray, List.set_cons_zero, List.set_cons_succ]
    refine lex_take (i := 10) (v := ?_) rfl (by kernel_rfl) (by kernel_rfl) (by kernel_rfl) (by rfl) (HKB.out _ X6.out) ?_ ?_
    rotate_left
    · ((intro W hW; obtain ⟨k0, k1⟩ := hW; go_simp) <;> with_reducible rfl)
    simp only [Act.put, List.setIfInBounds_toArray, List.set_cons_zero, List.set_cons_succ]
    refine lex_take (i := 11) (v := ?_) rfl (by kernel_rfl) (by kernel_rfl) (by kernel_rfl) (by rfl) (HKB.out _ X6.out) ?_ ?_
    rotate_left
    · ((intro W hW; obtain ⟨k0, k1⟩ := hW; go_simp) <;> with_reducible rfl)
    simp only [Act.put, List.setIfInBounds_toArray, List.set_cons_zero, List.set_cons_succ]
    refine lex_take (i := 12) (v := ?_) rfl (by kernel_rfl) (by kernel_rfl) (by kernel_rfl) (by rfl) (HKB.out _ X6.out) ?_ ?_
    rotate_left
    · ((intro W hW; obtain ⟨k0, k1⟩ := hW; go_simp) <;> with_reducible rfl)
    simp only [Act.put, List.setIfInBounds_toArray, List.set_cons_zero, List.set_cons_succ]
    refine lex_done (by kernel_rfl) ?_
    go_upto_region 10 with fail
    have Xc0 := Lib.hid (Hold.below (bd w6) _ _ X6.out)
    have Uc0 := Lib.hid (bd w6)
    refine lex_start [0, 1, 2, 4, 5, 3, 6, 7, 8, 9, 10, 11, 12] (S := (fun V : World => V.cell? ⟨w.heap.size, 1, none⟩ = some (.slice a1 l.length k1) ∧ V.cell? ⟨w.heap.size, 4, none⟩ = some (.int .i64 who))) (by kernel_rfl) (HKB.out _ Xc0.out) (fun hS => ?_)
    clear hS
    simp only [inOrder, List.filterMap, List.getElem?_cons_succ, List.getElem?_cons_zero]
    generalize w6.drew = Vc0 at *
    refine lex_take (i := 0) (v := ?_) rfl (by kernel_rfl) (by kernel_rfl) (by kernel_rfl) (by rfl) (HKB.out _ Xc0.out) ?_ ?_
    rotate_left
    · ((intro W hW; obtain ⟨k0, k1⟩ := hW; go_simp) <;> with_reducible rfl)
    simp only [Act.put, List.setIfInBounds_toArray, List.set_cons_zero, List.set_cons_succ]
    refine lex_take (i := 1) (v := ?_) rfl (by kernel_rfl) (by kernel_rfl) (by kernel_rfl) (by rfl) (HKB.out _ Xc0.out) ?_ ?_
    rotate_left
    · ((intro W hW; obtain ⟨k0, k1⟩ := hW; go_simp) <;> with_reducible rfl)
    simp only [Act.put, List.setIfInBounds_toArray, List.set_cons_zero, List.set_cons_succ]
    refine lex_take (i := 2) (v := ?_) rfl (by kernel_rfl) (by kernel_rfl) (by kernel_rfl) (by rfl) (HKB.out _ Xc0.out) ?_ ?_
    rotate_left
    · ((intro W hW; obtain ⟨k0, k1⟩ := hW; go_simp) <;> with_reducible rfl)
    simp only [Act.put, List.setIfInBounds_toArray, List.set_cons_zero, List.set_cons_succ]
    refine lex_take (i := 4) (v := ?_) rfl (by kernel_rfl) (by kernel_rfl) (by kernel_rfl) (by rfl) (HKB.out _ Xc0.out) ?_ ?_
    rotate_left
    · ((intro W hW; obtain ⟨k0, k1⟩ := hW; go_simp) <;> with_reducible rfl)
    simp only [Act.put, List.setIfInBounds_toArray, List.set_cons_zero, List.set_cons_succ]
    refine lex_take (i := 5) (v := ?_) rfl (by kernel_rfl) (by kernel_rfl) (by kernel_rfl) (by rfl) (HKB.out _ Xc0.out) ?_ ?_
    rotate_left
    · ((intro W hW; obtain ⟨k0, k1⟩ := hW; go_simp) <;> with_reducible rfl)
    simp only [Act.put, List.setIfInBounds_toArray, List.set_cons_zero, List.set_cons_succ]
    refine lex_do (i := 3) rfl (by kernel_rfl) (by rfl) (fun K hK => ?_)
    go_simp
    have Uc1 := Lib.hid (bAl Uc0.out (.cells #[] TermT))
    have Bc := Lib.hid (heap_alloc_new Vc0 (.cells #[] TermT))
    have Zc := Lib.hid Uc0.out.size
    have Xc1 := Lib.hid (Hold.below (bA0 Vc0 (.cells #[] TermT)) _ _ Xc0.out)
    refine hK _ _ ⟨HKB.out _ Xc1.out, ?_⟩
    clear hK K
    generalize Vc0.alloc (.cells #[] TermT) = Vc1 at *
    generalize Vc0.heap.size = bqc at *
    clear Xc0 Uc0
    try simp only [Act.put, List.setIfInBounds_toArray, List.set_cons_zero, List.set_cons_succ]
    refine lex_do (i := 6) rfl (by kernel_rfl) (by rfl) (fun K hK => ?_)
    refine wp_append_tm _ _ (by rfl) bqc (by rfl) Bc.out _ l (by rfl) (R1.out.below (bmore HU6.out Uc1.out)) (by have := HLL.out; omega) ?_
    intro cvc Vc2 oc gc qc
    have Uc2 := Lib.hid (Uc1.out.trans (grown_below gc Uc1.out.size (fun k e => by cases e; exact Zc.out)))
    have Xc2 := Lib.hid (Hold.below Uc2.out _ _ X6.out)
    have Oc := Lib.hid oc
    obtain ⟨cac, ccc, rfl⟩ := (row_of_own oc).shape
    refine hK _ _ ⟨HKB.out _ Xc2.out, ?_⟩
    clear hK K oc gc qc Bc Xc1 Uc1 Zc
    try simp only [Act.put, List.setIfInBounds_toArray, List.set_cons_zero, List.set_cons_succ]
    have CLA := Lib.hid (classes_any (w0 := w) HLD.out HB2.out.2 (bmore HU6.out Uc2.out) (HS6.out.below Uc2.out) who Oc.out (by have := HLL.out.1; omega) HZ.out (by have := HLL.out.2; omega))
    refine lex_call (i := 7) rfl (by kernel_rfl) (by rfl) ?_ _ CLA.out ?_
    · go_simp
    rintro e w7 ⟨cv, fs2, p7, m7, rfl, hoc, hfl2, hval2, ha7, hg7, hfr7⟩
    have HOC7 := Lib.hid hoc
    have HFL2 := Lib.hid hfl2
    have HV7 := Lib.hid hval2
    have HA7 := Lib.hid ha7
    have HU7 := Lib.hid ((bmore HU6.out Uc2.out).trans (hg7.below.mono HB2.out.2))
    have HX7 := Lib.hid (hg7.hold LisT (by decide) (by decide) _ _ Xc2.out)
    have HR7 := Lib.hid ((HR6.out.below Uc2.out).regf hg7)
    have HOF7 := Lib.hid (own_hold (own_hold HOF.out (Hold.below Uc2.out)) (hg7.hold TermT (by decide) (by decide)))
    have HP7 := Lib.hid ((HP6.out.below Uc2.out).stay (hfr7 pa (Nat.lt_of_lt_of_le HP6.out.lts.1 Uc2.out.size) (by have := HLT.out.1; have := HS.out.ga; omega) (by have := HLT.out.1; have := HS.out.gb; omega) (fun e => by have := HLT.out.1; have := (HSL.out.2.2 _ e).1; omega)) (hfr7 b (Nat.lt_of_lt_of_le HP6.out.lts.2.1 Uc2.out.size) (by have := HLT.out.2.1; have := HS.out.ga; omega) (by have := HLT.out.2.1; have := HS.out.gb; omega) (fun e => by have := HLT.out.2.1; have := (HSL.out.2.2 _ e).1; omega)) (fun g e => by
      have hga := HS.out.ga
      have hgb := HS.out.gb
      have hs1 := HSL.out
      have hz6 := HSZ6.out
      have hcase : g < B3 ∨ w5.heap.size ≤ g := by
        rcases HW6.out with h | ⟨g', h1, h2⟩
        · exact .inl (HLT.out.2.2 g (h.symm.trans e)).2
        · rw [h1] at e; cases e; exact .inr (by omega)
      exact hfr7 g (Nat.lt_of_lt_of_le (HP6.out.lts.2.2 g e).2 Uc2.out.size) (by rcases hcase with h | h <;> omega) (by rcases hcase with h | h <;> omega) (fun e' => by have := hs1.2.2 g e'; rcases hcase with h | h <;> omega)))
    obtain ⟨cva, cvc, rfl⟩ := (row_of_own hoc).shape
    clear hoc hfl2 hval2 ha7 hg7 hfr7 CLA Oc
    refine ⟨_, rfl, (fun V : World => V.cell? ⟨w.heap.size, 1, none⟩ = some (.slice a1 l.length k1) ∧ V.cell? ⟨w.heap.size, 4, none⟩ = some (.int .i64 who)), fun W h => h, HKB.out _ HX7.out, ?_⟩
    simp only [Act.put, List.setIfInBounds_toArray, List.set_cons_zero, List.set_cons_succ]
    refine lex_take (i := 8) (v := ?_) rfl (by kernel_rfl) (by kernel_rfl) (by kernel_rfl) (by rfl) (HKB.out _ HX7.out) ?_ ?_
    rotate_left
    · ((intro W hW; obtain ⟨k0, k1⟩ := hW; go_simp) <;> with_reducible rfl)
    simp only [Act.put, List.setIfInBounds_toArray, List.set_cons_zero, List.set_cons_succ]
    refine lex_take (i := 9) (v := ?_) rfl (by kernel_rfl) (by kernel_rfl) (by kernel_rfl) (by rfl) (HKB.out _ HX7.out) ?_ ?_
    rotate_left
    · ((intro W hW; obtain ⟨k0, k1⟩ := hW; go_simp) <;> with_reducible rfl)
    simp only [Act.put, List.setIfInBounds_toArray, List.set_cons_zero, List.set_cons_succ]
    refine lex_take (i := 10) (v := ?_) rfl (by kernel_rfl) (by kernel_rfl) (by kernel_rfl) (by rfl) (HKB.out _ HX7.out) ?_ ?_
    rotate_left
    · ((intro W hW; obtain ⟨k0, k1⟩ := hW; go_simp) <;> with_reducible rfl)
    simp only [Act.put, List.setIfInBounds_toArray, List.set_cons_zero, List.set_cons_succ]
    refine lex_take (i := 11) (v := ?_) rfl (by kernel_rfl) (by kernel_rfl) (by kernel_rfl) (by rfl) (HKB.out _ HX7.out) ?_ ?_
    rotate_left
    · ((intro W hW; obtain ⟨k0, k1⟩ := hW; go_simp) <;> with_reducible rfl)
    simp only [Act.put, List.setIfInBounds_toArray, List.set_cons_zero, List.set_cons_succ]
    refine lex_take (i := 12) (v := ?_) rfl (by kernel_rfl) (by kernel_rfl) (by kernel_rfl) (by rfl) (HKB.out _ HX7.out) ?_ ?_
    rotate_left
    · ((intro W hW; obtain ⟨k0, k1⟩ := hW; go_simp) <;> with_reducible rfl)
    simp only [Act.put, List.setIfInBounds_toArray, List.set_cons_zero, List.set_cons_succ]
    refine lex_done (by kernel_rfl) ?_
    have HCLL : Hid ((clsL fs2 fs2.length).length = fs2.length) := Lib.hid (by unfold clsL; rw [List.length_map, List.take_length])
    clear HS HSL HS6 HP6 HP HR HX HOF HR6 HB2 HZ HW6 HSZ6 HLT X6 Ua2 Xa2 Uc2 Xc2 HU6 HU5
    obtain ⟨wo, hwo⟩ : ∃ wo, wo = w7 := ⟨_, rfl⟩
    have z1 : w7.cell? ⟨w.heap.size, 1, none⟩ = some (.slice a1 l.length k1) := cellB (j := 1) HX7.out rfl
    have z4 : w7.cell? ⟨w.heap.size, 4, none⟩ = some (.int .i64 who) := cellB (j := 4) HX7.out rfl
    go_wp2_with fail
    go_loopw [13, 14, 15] (fun v13 v14 v15 wr => ∃ (i : Nat) (wt : Int) (gs : List (Nd × Fo)) (xs : List Value), v15 = .int .i64 (i : Int) ∧ v13 = .int .i64 wt ∧ i ≤ l.length ∧ gs.length = i ∧ (wt = 0) ∧ wr.ownsRow w7.heap.size TrT 6 v14 gs.length xs ∧ RowF wr (ButT w7.heap.size v14.ownBlock wr) gs xs ∧ (∀ j (h : j < l.length) (h' : j < gs.length), OkF (.cons gs[j].1 gs[j].2 .nil) ∧ (inP p2 l[j] = true → RepF p2 [l[j]] (.cons gs[j].1 gs[j].2 .nil))) ∧ Below w7.heap.size w7 wr) (fun _ _ v _ => l.length - (intOf v).toNat)
    case atStart => exact ⟨0, 0, [], [], rfl, rfl, Nat.zero_le _, rfl, rfl, World.ownsRow_nil _ _ _ 6, rfl, fun j _ h => absurd h (Nat.not_lt_zero _), Below.refl _ _⟩
    case round =>
      clear z1 z4
      obtain ⟨i, wt, gs, xs, rfl, rfl, hi, hgl, hwt, hown, hrow, hgs, hb⟩ := hrel
      have HGL := Lib.hid hgl
      have HWT := Lib.hid hwt
      have HOWN := Lib.hid hown
      have HROW := Lib.hid hrow
      have HGS := Lib.hid hgs
      have HB := Lib.hid hb
      obtain ⟨ta, tc, rfl⟩ := (row_of_own hown).shape
      have hl12 : l.length ≤ 12 := HLL.out.1
      have z1 : wr.cell? ⟨w.heap.size, 1, none⟩ = some (.slice a1 l.length k1) := bcellAt hb (cellB (j := 1) HX7.out rfl)
      have z4 : wr.cell? ⟨w.heap.size, 4, none⟩ = some (.int .i64 who) := bcellAt hb (cellB (j := 4) HX7.out rfl)
      clear hgl hwt hown hrow hgs hb
      by_cases hlt : i < l.length
      · obtain rfl : wt = 0 := HWT.out
        obtain ⟨lb, lo, rfl, ql⟩ := HLX.out (by omega)
        have cl := bcellAt (bmore HU7.out HB.out) (ql i _ (ints_at l i hlt))
        have hd : decide ((i : Int) < (l.length : Int)) = true := decide_eq_true (by omega)
        have hi0 : (0 : Int) ≤ (i : Int) := by omega
        have hi1 : (i : Int) < (l.length : Int) := by omega
        have RI := Lib.hid (rin (HR7.out.below HB.out) l[i])
        have RT := Lib.hid (rtree (HR7.out.below HB.out) l[i])
        have RNM := Lib.hid (fun W => rname_any who W)
        have HXI : Hid (∀ (h : gs.length < l.length), l[gs.length] = l[i]) := Lib.hid fun h => by simp only [HGL.out]
        rw [show nameK who = true from HNI.out.1] at RNM
        rw [HNI.out.2 _ (List.getElem_mem hlt)] at RI
        go_wp2_with fail
        refine (RNM.out _).mono ?_
        rintro e V ⟨rfl, rfl⟩
        go_wp2_with fail
        refine RI.out.mono ?_
        rintro e V ⟨rfl, rfl⟩
        clear RNM RI hd
        go_wp2_with fail
        refine RT.out.mono ?_
        rintro e w8 ⟨⟨nk, nf, nt, nu, ns, nx, ny⟩, nkids, vk, rfl, hkk, okk, u8, hrep, _⟩
        obtain ⟨ka, kc, rfl, _⟩ := hkk.shape
        simp only [treeA]
        have HKK2 := Lib.hid hkk
        have HOKK := Lib.hid okk
        have HREP := Lib.hid hrep
        have HU8 := Lib.hid u8
        have bC := bZ w8 (.cells #[.int .i64 nk, .int .i64 nf, .int .i64 nt, .int .u64 nu, .string ns, .slice ka nkids.len kc] TrT)
        have HBC := Lib.hid bC
        have HOC := Lib.hid (own_hold (own_hold HOWN.out (Hold.below u8)) (Hold.below bC))
        have HSZ : Hid (w7.heap.size ≤ (w8.alloc (.cells #[.int .i64 nk, .int .i64 nf, .int .i64 nt, .int .u64 nu, .string ns, .slice ka nkids.len kc] TrT)).heap.size) := Lib.hid (Nat.le_trans HB.out.size (Nat.le_trans u8.size bC.size))
        obtain ⟨i0, hi0', hz0, hz1, hz2⟩ := info_parts rowTree
        have hgl6 : gs.length ≤ 12 := by have := HGL.out; omega
        clear hkk okk hrep u8 bC RT cl
        go_wp2_with (at_builtin; refine wpList_append_at _ rfl _ _ 22 rfl w7.heap.size TrT i0 (.agg #[.int .i64 0, .int .i64 0, .int .i64 0, .int .u64 0, .string ⟨#[]⟩, .slice none 0 0]) 6 72 Tryz.underlying22 hi0' hz0 hz1 hz2 rfl (by decide) (.slice ta gs.length tc) gs.length xs rfl HOC.out ⟨w8.heap.size, 0, none⟩ 1 1 [.int .i64 nk, .int .i64 nf, .int .i64 nt, .int .u64 nu, .string ns, .slice ka nkids.len kc] rfl (by decide) rfl (news6 w8 _ _ _ _ _ _ _) (by simp [Value.oneCell']) (by unfold maxLen; omega) (by omega) HSZ.out ?_)
        intro v9 w9 hown9 hg9 hp9
        obtain ⟨va, vc, rfl⟩ := (row_of_own hown9).shape
        have HAP := Lib.hid (tree_app (n := ⟨nk, nf, nt, nu, ns, nx, ny⟩) HOWN.out HROW.out HB.out HU8.out HBC.out HKK2.out hown9 hg9 (by rw [World.size_alloc]; exact hp9))
        have HGN : Hid (∀ j (h : j < l.length) (h' : j < (gs ++ [((⟨nk, nf, nt, nu, ns, nx, ny⟩ : Nd), nkids)]).length), OkF (.cons (gs ++ [((⟨nk, nf, nt, nu, ns, nx, ny⟩ : Nd), nkids)])[j].1 (gs ++ [((⟨nk, nf, nt, nu, ns, nx, ny⟩ : Nd), nkids)])[j].2 .nil) ∧ (inP p2 l[j] = true → RepF p2 [l[j]] (.cons (gs ++ [((⟨nk, nf, nt, nu, ns, nx, ny⟩ : Nd), nkids)])[j].1 (gs ++ [((⟨nk, nf, nt, nu, ns, nx, ny⟩ : Nd), nkids)])[j].2 .nil))) := Lib.hid fun j h h' => by
          rcases Nat.lt_or_ge j gs.length with h4 | h4
          · simp only [List.getElem_append_left h4]; exact HGS.out j h h4
          · simp only [List.length_append, List.length_cons, List.length_nil] at h'
            obtain rfl : j = gs.length := by omega
            simp only [List.getElem_concat_length]
            rw [HXI.out h]
            exact ⟨HOKK.out, fun e => HREP.out e⟩
        clear hown9 hg9 hp9 HBC HOC HSZ HKK2 HU8 HOWN HROW
        go_wp2_with fail
        clear z1 z4
        go_roundw
        case rel => exact ⟨i + 1, 0, gs ++ [((⟨nk, nf, nt, nu, ns, nx, ny⟩ : Nd), nkids)], _, by go_num, rfl, by omega, by rw [List.length_append, HGL.out]; rfl, rfl, by rw [List.length_append]; exact HAP.out.1, HAP.out.2.1, HGN.out, HAP.out.2.2⟩
        case measure => simp [intOf] <;> omega
      · obtain rfl : i = l.length := by omega
        obtain rfl : wt = 0 := HWT.out
        have hd : decide ((l.length : Int) < (l.length : Int)) = false := decide_eq_false (by omega)
        clear hlt
        have HUE := Lib.hid (bmore HU7.out HB.out)
        by_cases hl0 : l.length = 0
        · have e9 : ((l.length : Int) == 0) = true := by rw [hl0]; rfl
          have ef : ((fs.length : Int) == 0) = true := by rw [HFL.out, hl0]; rfl
          have ec : (((clsL fs2 fs2.length).length : Int) == 0) = true := by rw [HCLL.out, HFL2.out, hl0]; rfl
          clear hl0
          have LV := Lib.hid (live_any (HLD.out.below HUE.out))
          go_wp2_with fail
          refine LV.out.mono ?_
          rintro e wl ⟨rfl, ul⟩
          have HUL := Lib.hid (bmore HUE.out ul)
          clear ul LV
          go_wp2_with fail
          go_returns
          exact ⟨rfl, HUL.out⟩
        · have e9 : ((l.length : Int) == 0) = false := ebF (by omega)
          have hgk : IsK wr (NewT w7 wr) (.slice ta gs.length tc) (foOf gs) := isK_row (zs := []) (by rw [List.append_nil]; exact HOWN.out) rfl (Nat.le_refl _) (HROW.out.keep fun bb hg hl => ⟨⟨hg.1, hg.2.2⟩, rfl⟩) (fun b e => by
            obtain ⟨p1, cs, p2⟩ := own_type HOWN.out e
            exact ⟨p1, cs, p2⟩)
          have HGK := Lib.hid hgk
          have RC := Lib.hid (rclasses_any who hgk (fun i h => by
            have hgl := HGL.out
            have h9 := HGS.out i (by omega) h
            exact ⟨h9.1, rep_sizeF HR7.out.ok (h9.2 (HNI.out.2 _ (List.getElem_mem (by omega))))⟩) (by have := HGL.out; omega))
          clear hgk hl0
          go_wp2_with ((with_reducible refine (NU.out _ _).mono ?_); rintro e wn ⟨rfl, rfl⟩)
          refine RC.out.mono ?_
          rintro e wz ⟨kv, ks, rfl, hok9, hkl9, hks9, uz⟩
          obtain ⟨kva, kvc, rfl⟩ := (row_of_own hok9).shape
          have HKV := Lib.hid (row_of_own hok9)
          have HKL := Lib.hid hkl9
          have HKS := Lib.hid hks9
          have HUZ := Lib.hid uz
          have HUY := Lib.hid (bmore HB.out uz)
          clear hok9 hkl9 hks9 uz RC z1 z4
          have z1 : wz.cell? ⟨w.heap.size, 1, none⟩ = some (.slice a1 l.length k1) := bcellAt HUY.out (cellB (j := 1) HX7.out rfl)
          have ef : ((fs.length : Int) != (l.length : Int)) = false := by rw [HFL.out]; simp
          have ec : (((clsL fs2 fs2.length).length : Int) != (l.length : Int)) = false := by rw [HCLL.out, HFL2.out]; simp
          obtain ⟨woz, hwoz⟩ : ∃ woz, woz = wz := ⟨_, rfl⟩
          obtain ⟨wny, hwny⟩ : ∃ wny, wny = wr := ⟨_, rfl⟩
          have HWY := Lib.hid hwny
          clear hwny
          go_wp2_with fail
          clear z1 ef ec e9
          have HTK : Hid (IsK wz (NewT w7 wr) (.slice ta gs.length tc) (foOf gs)) := Lib.hid (HGK.out.below HUZ.out)
          have HFW : Hid (Row wz 1 (.slice fa fs.length fc) fs.length (ints fs)) := Lib.hid ((row_of_own HOF7.out).below HUY.out)
          have HCW : Hid (Row wz 1 (.slice cva (clsL fs2 fs2.length).length cvc) (clsL fs2 fs2.length).length (ints (clsL fs2 fs2.length))) := Lib.hid ((row_of_own HOC7.out).below HUY.out)
          clear HOF7 HOC7 HGK HOWN HROW HB
          go_loopw [17] (fun v17 wr => ∃ i : Nat, v17 = .int .i64 (i : Int) ∧ i ≤ fs.length ∧ Below wz.heap.size wz wr) (fun v _ => fs.length - (intOf v).toNat)
          case atStart => exact ⟨0, rfl, Nat.zero_le _, Below.refl _ _⟩
          case round =>
            obtain ⟨i, rfl, hi, hb⟩ := hrel
            have HB := Lib.hid hb
            have hfs12 : fs.length ≤ 12 := by have := HLL.out.1; have := HFL.out; omega
            by_cases hlt : i < fs.length
            · have hll : i < l.length := by have := HFL.out; omega
              have hgg : i < gs.length := by have := HGL.out; omega
              have hkk : i < ks.length := by have := HKL.out; omega
              have hcc : i < (clsL fs2 fs2.length).length := by have := HCLL.out; have := HFL2.out; omega
              have hff2 : i < fs2.length := by have := HFL2.out; omega
              obtain ⟨ca1, cc1, ecs, hcx⟩ := HCW.out.at
              obtain ⟨rfl, rfl⟩ : cva = ca1 ∧ cvc = cc1 := by simp only [Value.slice.injEq, true_and] at ecs; exact ⟨ecs.1, ecs.2⟩
              obtain ⟨cb, co, rfl, qc⟩ := hcx (by omega)
              obtain ⟨ka1, kc1, eks, hkx⟩ := HKV.out.at
              obtain ⟨rfl, rfl⟩ : kva = ka1 ∧ kvc = kc1 := by simp only [Value.slice.injEq, true_and] at eks; exact ⟨eks.1, eks.2⟩
              obtain ⟨kb, ko, rfl, qk⟩ := hkx (by omega)
              obtain ⟨fa1, fc1, efs, hfx⟩ := HFW.out.at
              obtain ⟨rfl, rfl⟩ : fa = fa1 ∧ fc = fc1 := by simp only [Value.slice.injEq, true_and] at efs; exact ⟨efs.1, efs.2⟩
              obtain ⟨fb, fq, rfl, qf⟩ := hfx (by omega)
              obtain ⟨ta1, tc1, ets, htx⟩ := HTK.out.shape
              rw [foOf_len] at ets htx
              obtain ⟨rfl, rfl⟩ : ta = ta1 ∧ tc = tc1 := by simp only [Value.slice.injEq, true_and] at ets; exact ⟨ets.1, ets.2⟩
              obtain ⟨tb, tq, rfl, _, hat⟩ := htx (by omega)
              have c1 := bcellAt hb (qc i _ (ints_at (clsL fs2 fs2.length) i hcc))
              have c2 := bcellAt hb (qk i _ (ints_at ks i hkk))
              have c3 := bcellAt hb (qf i _ (ints_at fs i hlt))
              have c4 : wr.cell? ⟨w.heap.size, 4, none⟩ = some (.int .i64 who) := bcellAt (bmore HUY.out hb) (cellB (j := 4) HX7.out rfl)
              have a2 := AtF.nth gs tq i hgg (hat.below hb)
              obtain ⟨kq, hkq, hfirst⟩ := HKS.out i hkk
              have hidx := first_same HA7.out HFL2.out HGL.out HV7.out (fun j h h' => ⟨(HGS.out j h h').2 (HNI.out.2 _ (List.getElem_mem h)), OkF.bare (HGS.out j h h').1⟩) hll hfirst
              have hcl : (clsL fs2 fs2.length)[i] = (kq : Int) := by
                rw [← hidx]
                unfold clsL
                simp only [List.getElem_map, List.take_length]
              rw [hcl] at c1
              rw [hkq] at c2
              have hyr := (HGS.out i hll hgg).2 (HNI.out.2 _ (List.getElem_mem hll))
              have hyo := (HGS.out i hll hgg).1
              have hmz := HV6.out i hll hlt
              have hiz : inP p6 fs[i] = true := by
                rcases HA6.out.at_ _ _ hmz with ⟨h, _⟩ | ⟨_, _, h, _⟩
                · have := HNI.out.2 _ (List.getElem_mem hll)
                  rw [h, inP_zero] at this; cases this
                · exact h
              have HMZ := Lib.hid hmz
              have HIZ := Lib.hid hiz
              generalize fs[i] = z at *
              generalize l[i] = x at *
              generalize gs[i] = Y at *
              generalize (kq : Int) = ix at *
              obtain ⟨⟨yk, yf, yt, yu, ys, y0, y1⟩, yk2⟩ := Y
              obtain ⟨r0, r1, r2, r3, r4, vy, r5, hky, _⟩ := a2.cons
              obtain ⟨ya, yc, rfl, _⟩ := hky.shape
              have HYR := Lib.hid hyr
              have HYB := Lib.hid (OkF.bare hyo)
              have HYO : Hid (((vtT who ⟨yk, yf, yt, yu, ys, y0, y1⟩).a = 0 ∧ (vtT who ⟨yk, yf, yt, yu, ys, y0, y1⟩).b = 0) ∧ Bare yk2) := Lib.hid ⟨⟨hyo.2.1, hyo.2.2.1⟩, OkF.bare hyo.2.2.2.1⟩
              have vt2 : ∀ V : World, Below wr.heap.size wr V → Calls Tryz.prog 31 #[.int .i64 who, .agg (treeA ⟨yk, yf, yt, yu, ys, y0, y1⟩ (.slice ya yk2.len yc))] V (vtPost V who ⟨yk, yf, yt, yu, ys, y0, y1⟩ yk2) := fun V hV => vt_any who ⟨yk, yf, yt, yu, ys, y0, y1⟩ yk2 (hky.below hV) (rep_sizeF HR7.out.ok hyr)
              simp only [treeA] at vt2
              have HVT := Lib.hid vt2
              have PT := Lib.hid (ptree (HLD.out.below (bmore HU7.out (bmore HUY.out (bmore hb (bd wr))))) (HP7.out.below (bmore HUY.out (bmore hb (bd wr)))) z)
              have HCELLS := Lib.hid (And.intro c1 (And.intro c2 (And.intro c3 (And.intro c4 (And.intro r0 (And.intro r1 (And.intro r2 (And.intro r3 (And.intro r4 r5)))))))))
              have HKP : Hid (∀ V : World, Below wr.heap.size wr V → V.cell? ⟨cb, co + i, none⟩ = some (.int .i64 ix) ∧ V.cell? ⟨kb, ko + i, none⟩ = some (.int .i64 ix) ∧ V.cell? ⟨fb, fq + i, none⟩ = some (.int .i64 z) ∧ V.cell? ⟨w.heap.size, 4, none⟩ = some (.int .i64 who) ∧ V.cell? ⟨tb, tq + i * 6, none⟩ = some (.int .i64 yk) ∧ V.cell? ⟨tb, tq + i * 6 + 1, none⟩ = some (.int .i64 yf) ∧ V.cell? ⟨tb, tq + i * 6 + 2, none⟩ = some (.int .i64 yt) ∧ V.cell? ⟨tb, tq + i * 6 + 3, none⟩ = some (.int .u64 yu) ∧ V.cell? ⟨tb, tq + i * 6 + 4, none⟩ = some (.string ys) ∧ V.cell? ⟨tb, tq + i * 6 + 5, none⟩ = some (.slice ya yk2.len yc)) := Lib.hid fun V h => ⟨bcellAt h HCELLS.out.1, bcellAt h HCELLS.out.2.1, bcellAt h HCELLS.out.2.2.1, bcellAt h HCELLS.out.2.2.2.1, bcellAt h HCELLS.out.2.2.2.2.1, bcellAt h HCELLS.out.2.2.2.2.2.1, bcellAt h HCELLS.out.2.2.2.2.2.2.1, bcellAt h HCELLS.out.2.2.2.2.2.2.2.1, bcellAt h HCELLS.out.2.2.2.2.2.2.2.2.1, bcellAt h HCELLS.out.2.2.2.2.2.2.2.2.2⟩
              have hi0 : (0 : Int) ≤ (i : Int) := by omega
              have hi1 : (i : Int) < (fs.length : Int) := by omega
              have hi2 : (i : Int) < (gs.length : Int) := by omega
              have hi3 : (i : Int) < (ks.length : Int) := by omega
              have hi4 : (i : Int) < ((clsL fs2 fs2.length).length : Int) := by omega
              have hxx : (ix != ix) = false := by simp
              clear hb hll hgg hkk hcc hff2 ecs hcx eks hkx efs hfx ets htx hat c1 c2 c3 c4 a2 hkq hfirst hidx hcl hyr hyo hmz hiz r0 r1 r2 r3 r4 r5 hky vt2 qc qk qf
              go_upto_region 33 with fail
              refine lex_start [0, 1, 2, 3, 4, 5, 6, 7, 8, 9, 10, 11, 12, 13, 14, 16, 17, 18, 19, 20, 21, 15, 22, 23, 24, 25] (S := (fun V : World => V.cell? ⟨cb, co + i, none⟩ = some (.int .i64 ix) ∧ V.cell? ⟨kb, ko + i, none⟩ = some (.int .i64 ix) ∧ V.cell? ⟨fb, fq + i, none⟩ = some (.int .i64 z) ∧ V.cell? ⟨w.heap.size, 4, none⟩ = some (.int .i64 who) ∧ V.cell? ⟨tb, tq + i * 6, none⟩ = some (.int .i64 yk) ∧ V.cell? ⟨tb, tq + i * 6 + 1, none⟩ = some (.int .i64 yf) ∧ V.cell? ⟨tb, tq + i * 6 + 2, none⟩ = some (.int .i64 yt) ∧ V.cell? ⟨tb, tq + i * 6 + 3, none⟩ = some (.int .u64 yu) ∧ V.cell? ⟨tb, tq + i * 6 + 4, none⟩ = some (.string ys) ∧ V.cell? ⟨tb, tq + i * 6 + 5, none⟩ = some (.slice ya yk2.len yc))) (by kernel_rfl) (HKP.out _ (bd wr)) (fun hS => ?_)
              clear hS
              simp only [inOrder, List.filterMap, List.getElem?_cons_succ, List.getElem?_cons_zero]
              refine lex_take (i := 0) (v := ?_) rfl (by kernel_rfl) (by kernel_rfl) (by kernel_rfl) (by rfl) (HKP.out _ (bd wr)) ?_ ?_
              rotate_left
              · ((intro W hW; obtain ⟨k0, k1, k2, k3, k4, k5, k6, k7, k8, k9⟩ := hW; go_simp) <;> with_reducible rfl)
              simp only [Act.put, List.setIfInBounds_toArray, List.set_cons_zero, List.set_cons_succ]
              refine lex_take (i := 1) (v := ?_) rfl (by kernel_rfl) (by kernel_rfl) (by kernel_rfl) (by rfl) (HKP.out _ (bd wr)) ?_ ?_
              rotate_left
              · ((intro W hW; obtain ⟨k0, k1, k2, k3, k4, k5, k6, k7, k8, k9⟩ := hW; go_simp) <;> with_reducible rfl)
              simp only [Act.put, List.setIfInBounds_toArray, List.set_cons_zero, List.set_cons_succ]
              refine lex_take (i := 2) (v := ?_) rfl (by kernel_rfl) (by kernel_rfl) (by kernel_rfl) (by rfl) (HKP.out _ (bd wr)) ?_ ?_
              rotate_left
              · ((intro W hW; obtain ⟨k0, k1, k2, k3, k4, k5, k6, k7, k8, k9⟩ := hW; go_simp) <;> with_reducible rfl)
              simp only [Act.put, List.setIfInBounds_toArray, List.set_cons_zero, List.set_cons_succ]
              refine lex_take (i := 3) (v := ?_) rfl (by kernel_rfl) (by kernel_rfl) (by kernel_rfl) (by rfl) (HKP.out _ (bd wr)) ?_ ?_
              rotate_left
              · ((intro W hW; obtain ⟨k0, k1, k2, k3, k4, k5, k6, k7, k8, k9⟩ := hW; go_simp) <;> with_reducible rfl)
              simp only [Act.put, List.setIfInBounds_toArray, List.set_cons_zero, List.set_cons_succ]
              refine lex_take (i := 4) (v := ?_) rfl (by kernel_rfl) (by kernel_rfl) (by kernel_rfl) (by rfl) (HKP.out _ (bd wr)) ?_ ?_
              rotate_left
              · ((intro W hW; obtain ⟨k0, k1, k2, k3, k4, k5, k6, k7, k8, k9⟩ := hW; go_simp) <;> with_reducible rfl)
              simp only [Act.put, List.setIfInBounds_toArray, List.set_cons_zero, List.set_cons_succ]
              refine lex_take (i := 5) (v := ?_) rfl (by kernel_rfl) (by kernel_rfl) (by kernel_rfl) (by rfl) (HKP.out _ (bd wr)) ?_ ?_
              rotate_left
              · ((intro W hW; obtain ⟨k0, k1, k2, k3, k4, k5, k6, k7, k8, k9⟩ := hW; go_simp) <;> with_reducible rfl)
              simp only [Act.put, List.setIfInBounds_toArray, List.set_cons_zero, List.set_cons_succ]
              refine lex_take (i := 6) (v := ?_) rfl (by kernel_rfl) (by kernel_rfl) (by kernel_rfl) (by rfl) (HKP.out _ (bd wr)) ?_ ?_
              rotate_left
              · ((intro W hW; obtain ⟨k0, k1, k2, k3, k4, k5, k6, k7, k8, k9⟩ := hW; go_simp) <;> with_reducible rfl)
              simp only [Act.put, List.setIfInBounds_toArray, List.set_cons_zero, List.set_cons_succ]
              refine lex_take (i := 7) (v := ?_) rfl (by kernel_rfl) (by kernel_rfl) (by kernel_rfl) (by rfl) (HKP.out _ (bd wr)) ?_ ?_
              rotate_left
              · ((intro W hW; obtain ⟨k0, k1, k2, k3, k4, k5, k6, k7, k8, k9⟩ := hW; go_simp) <;> with_reducible rfl)
              simp only [Act.put, List.setIfInBounds_toArray, List.set_cons_zero, List.set_cons_succ]
              refine lex_take (i := 8) (v := ?_) rfl (by kernel_rfl) (by kernel_rfl) (by kernel_rfl) (by rfl) (HKP.out _ (bd wr)) ?_ ?_
              rotate_left
              · ((intro W hW; obtain ⟨k0, k1, k2, k3, k4, k5, k6, k7, k8, k9⟩ := hW; go_simp) <;> with_reducible rfl)
              simp only [Act.put, List.setIfInBounds_toArray, List.set_cons_zero, List.set_cons_succ]
              refine lex_take (i := 9) (v := ?_) rfl (by kernel_rfl) (by kernel_rfl) (by kernel_rfl) (by rfl) (HKP.out _ (bd wr)) ?_ ?_
              rotate_left
              · ((intro W hW; obtain ⟨k0, k1, k2, k3, k4, k5, k6, k7, k8, k9⟩ := hW; go_simp) <;> with_reducible rfl)
              simp only [Act.put, List.setIfInBounds_toArray, List.set_cons_zero, List.set_cons_succ]
              refine lex_take (i := 10) (v := ?_) rfl (by kernel_rfl) (by kernel_rfl) (by kernel_rfl) (by rfl) (HKP.out _ (bd wr)) ?_ ?_
              rotate_left
              · ((intro W hW; obtain ⟨k0, k1, k2, k3, k4, k5, k6, k7, k8, k9⟩ := hW; go_simp) <;> with_reducible rfl)
              simp only [Act.put, List.setIfInBounds_toArray, List.set_cons_zero, List.set_cons_succ]
              refine lex_take (i := 11) (v := ?_) rfl (by kernel_rfl) (by kernel_rfl) (by kernel_rfl) (by rfl) (HKP.out _ (bd wr)) ?_ ?_
              rotate_left
              · ((intro W hW; obtain ⟨k0, k1, k2, k3, k4, k5, k6, k7, k8, k9⟩ := hW; go_simp) <;> with_reducible rfl)
              simp only [Act.put, List.setIfInBounds_toArray, List.set_cons_zero, List.set_cons_succ]
              refine lex_take (i := 12) (v := ?_) rfl (by kernel_rfl) (by kernel_rfl) (by kernel_rfl) (by rfl) (HKP.out _ (bd wr)) ?_ ?_
              rotate_left
              · ((intro W hW; obtain ⟨k0, k1, k2, k3, k4, k5, k6, k7, k8, k9⟩ := hW; go_simp) <;> with_reducible rfl)
              simp only [Act.put, List.setIfInBounds_toArray, List.set_cons_zero, List.set_cons_succ]
              refine lex_take (i := 13) (v := ?_) rfl (by kernel_rfl) (by kernel_rfl) (by kernel_rfl) (by rfl) (HKP.out _ (bd wr)) ?_ ?_
              rotate_left
              · ((intro W hW; obtain ⟨k0, k1, k2, k3, k4, k5, k6, k7, k8, k9⟩ := hW; go_simp) <;> with_reducible rfl)
              simp only [Act.put, List.setIfInBounds_toArray, List.set_cons_zero, List.set_cons_succ]
              refine lex_take (i := 14) (v := ?_) rfl (by kernel_rfl) (by kernel_rfl) (by kernel_rfl) (by rfl) (HKP.out _ (bd wr)) ?_ ?_
              rotate_left
              · ((intro W hW; obtain ⟨k0, k1, k2, k3, k4, k5, k6, k7, k8, k9⟩ := hW; go_simp) <;> with_reducible rfl)
              simp only [Act.put, List.setIfInBounds_toArray, List.set_cons_zero, List.set_cons_succ]
              refine lex_take (i := 16) (v := ?_) rfl (by kernel_rfl) (by kernel_rfl) (by kernel_rfl) (by rfl) (HKP.out _ (bd wr)) ?_ ?_
              rotate_left
              · ((intro W hW; obtain ⟨k0, k1, k2, k3, k4, k5, k6, k7, k8, k9⟩ := hW; go_simp) <;> with_reducible rfl)
              simp only [Act.put, List.setIfInBounds_toArray, List.set_cons_zero, List.set_cons_succ]
              refine lex_take (i := 17) (v := ?_) rfl (by kernel_rfl) (by kernel_rfl) (by kernel_rfl) (by rfl) (HKP.out _ (bd wr)) ?_ ?_
              rotate_left
              · ((intro W hW; obtain ⟨k0, k1, k2, k3, k4, k5, k6, k7, k8, k9⟩ := hW; go_simp) <;> with_reducible rfl)
              simp only [Act.put, List.setIfInBounds_toArray, List.set_cons_zero, List.set_cons_succ]
              refine lex_take (i := 18) (v := ?_) rfl (by kernel_rfl) (by kernel_rfl) (by kernel_rfl) (by rfl) (HKP.out _ (bd wr)) ?_ ?_
              rotate_left
              · ((intro W hW; obtain ⟨k0, k1, k2, k3, k4, k5, k6, k7, k8, k9⟩ := hW; go_simp) <;> with_reducible rfl)
              simp only [Act.put, List.setIfInBounds_toArray, List.set_cons_zero, List.set_cons_succ]
              refine lex_take (i := 19) (v := ?_) rfl (by kernel_rfl) (by kernel_rfl) (by kernel_rfl) (by rfl) (HKP.out _ (bd wr)) ?_ ?_
              rotate_left
              · ((intro W hW; obtain ⟨k0, k1, k2, k3, k4, k5, k6, k7, k8, k9⟩ := hW; go_simp) <;> with_reducible rfl)
              simp only [Act.put, List.setIfInBounds_toArray, List.set_cons_zero, List.set_cons_succ]
              refine lex_take (i := 20) (v := ?_) rfl (by kernel_rfl) (by kernel_rfl) (by kernel_rfl) (by rfl) (HKP.out _ (bd wr)) ?_ ?_
              rotate_left
              · ((intro W hW; obtain ⟨k0, k1, k2, k3, k4, k5, k6, k7, k8, k9⟩ := hW; go_simp) <;> with_reducible rfl)
              simp only [Act.put, List.setIfInBounds_toArray, List.set_cons_zero, List.set_cons_succ]
              refine lex_take (i := 21) (v := ?_) rfl (by kernel_rfl) (by kernel_rfl) (by kernel_rfl) (by rfl) (HKP.out _ (bd wr)) ?_ ?_
              rotate_left
              · ((intro W hW; obtain ⟨k0, k1, k2, k3, k4, k5, k6, k7, k8, k9⟩ := hW; go_simp) <;> with_reducible rfl)
              simp only [Act.put, List.setIfInBounds_toArray, List.set_cons_zero, List.set_cons_succ]
              refine lex_call (i := 15) rfl (by kernel_rfl) (by rfl) ?_ _ PT.out ?_
              · go_simp
              rintro e x1 ⟨n1, q1, vq1, rfl, hk1, ok1, b1, hrp1, _⟩
              have V1 := Lib.hid (bmore (bd wr) b1)
              have RP1 := Lib.hid (hrp1 HIZ.out)
              have OK1 := Lib.hid ok1
              have HK1 := Lib.hid hk1
              have VT := Lib.hid (HVT.out _ V1.out)
              clear b1 hrp1 ok1 hk1 PT HVT
              refine ⟨_, rfl, (fun V : World => V.cell? ⟨cb, co + i, none⟩ = some (.int .i64 ix) ∧ V.cell? ⟨kb, ko + i, none⟩ = some (.int .i64 ix) ∧ V.cell? ⟨fb, fq + i, none⟩ = some (.int .i64 z) ∧ V.cell? ⟨w.heap.size, 4, none⟩ = some (.int .i64 who) ∧ V.cell? ⟨tb, tq + i * 6, none⟩ = some (.int .i64 yk) ∧ V.cell? ⟨tb, tq + i * 6 + 1, none⟩ = some (.int .i64 yf) ∧ V.cell? ⟨tb, tq + i * 6 + 2, none⟩ = some (.int .i64 yt) ∧ V.cell? ⟨tb, tq + i * 6 + 3, none⟩ = some (.int .u64 yu) ∧ V.cell? ⟨tb, tq + i * 6 + 4, none⟩ = some (.string ys) ∧ V.cell? ⟨tb, tq + i * 6 + 5, none⟩ = some (.slice ya yk2.len yc)), fun W h => h, (HKP.out _ V1.out), ?_⟩
              simp only [Act.put, List.setIfInBounds_toArray, List.set_cons_zero, List.set_cons_succ]
              refine lex_call (i := 22) rfl (by kernel_rfl) (by rfl) ?_ _ VT.out ?_
              · go_simp
              rintro e x2 ⟨q2, rfl, hq2, b2⟩
              have V2 := Lib.hid (bmore V1.out b2)
              have SA := Lib.hid (same_any (G := NewT wr.drew x1) (G' := NewT x1 x2) n1 q1 (vtT who ⟨yk, yf, yt, yu, ys, y0, y1⟩) (mapF (vtT who) yk2) x2 vq1 q2 (HK1.out.below b2) hq2 ⟨OK1.out.2.1, OK1.out.2.2.1⟩ HYO.out.1 (OkF.bare OK1.out.2.2.2.1) (mapF_bare who HYO.out.2))
              have HDE : Hid (decide (n1 = vtT who ⟨yk, yf, yt, yu, ys, y0, y1⟩ ∧ q1 = mapF (vtT who) yk2) = true) := Lib.hid (decide_eq_true (by
                have h := RepF.tree RP1.out (rep_map HA6.out _ _ [z] HYR.out (by simp [HMZ.out])) (OkF.bare OK1.out) (mapF_bare who HYB.out)
                simp only [mapF, Fo.cons.injEq, and_true] at h
                exact h))
              rw [HDE.out] at SA
              clear b2 hq2 VT HK1 V1 HDE RP1 OK1
              refine ⟨_, rfl, (fun V : World => V.cell? ⟨cb, co + i, none⟩ = some (.int .i64 ix) ∧ V.cell? ⟨kb, ko + i, none⟩ = some (.int .i64 ix) ∧ V.cell? ⟨fb, fq + i, none⟩ = some (.int .i64 z) ∧ V.cell? ⟨w.heap.size, 4, none⟩ = some (.int .i64 who) ∧ V.cell? ⟨tb, tq + i * 6, none⟩ = some (.int .i64 yk) ∧ V.cell? ⟨tb, tq + i * 6 + 1, none⟩ = some (.int .i64 yf) ∧ V.cell? ⟨tb, tq + i * 6 + 2, none⟩ = some (.int .i64 yt) ∧ V.cell? ⟨tb, tq + i * 6 + 3, none⟩ = some (.int .u64 yu) ∧ V.cell? ⟨tb, tq + i * 6 + 4, none⟩ = some (.string ys) ∧ V.cell? ⟨tb, tq + i * 6 + 5, none⟩ = some (.slice ya yk2.len yc)), fun W h => h, (HKP.out _ V2.out), ?_⟩
              simp only [Act.put, List.setIfInBounds_toArray, List.set_cons_zero, List.set_cons_succ]
              refine lex_call (i := 23) rfl (by kernel_rfl) (by rfl) ?_ _ SA.out ?_
              · go_simp
              rintro e x3 ⟨rfl, b3⟩
              have V3 := Lib.hid (bmore V2.out b3)
              clear b3 SA V2
              refine ⟨_, rfl, (fun V : World => V.cell? ⟨cb, co + i, none⟩ = some (.int .i64 ix) ∧ V.cell? ⟨kb, ko + i, none⟩ = some (.int .i64 ix) ∧ V.cell? ⟨fb, fq + i, none⟩ = some (.int .i64 z) ∧ V.cell? ⟨w.heap.size, 4, none⟩ = some (.int .i64 who) ∧ V.cell? ⟨tb, tq + i * 6, none⟩ = some (.int .i64 yk) ∧ V.cell? ⟨tb, tq + i * 6 + 1, none⟩ = some (.int .i64 yf) ∧ V.cell? ⟨tb, tq + i * 6 + 2, none⟩ = some (.int .i64 yt) ∧ V.cell? ⟨tb, tq + i * 6 + 3, none⟩ = some (.int .u64 yu) ∧ V.cell? ⟨tb, tq + i * 6 + 4, none⟩ = some (.string ys) ∧ V.cell? ⟨tb, tq + i * 6 + 5, none⟩ = some (.slice ya yk2.len yc)), fun W h => h, (HKP.out _ V3.out), ?_⟩
              simp only [Act.put, List.setIfInBounds_toArray, List.set_cons_zero, List.set_cons_succ]
              refine lex_take (i := 24) (v := ?_) rfl (by kernel_rfl) (by kernel_rfl) (by kernel_rfl) (by rfl) (HKP.out _ V3.out) ?_ ?_
              rotate_left
              · ((intro W hW; obtain ⟨k0, k1, k2, k3, k4, k5, k6, k7, k8, k9⟩ := hW; go_simp) <;> with_reducible rfl)
              simp only [Act.put, List.setIfInBounds_toArray, List.set_cons_zero, List.set_cons_succ]
              refine lex_take (i := 25) (v := ?_) rfl (by kernel_rfl) (by kernel_rfl) (by kernel_rfl) (by rfl) (HKP.out _ V3.out) ?_ ?_
              rotate_left
              · ((intro W hW; obtain ⟨k0, k1, k2, k3, k4, k5, k6, k7, k8, k9⟩ := hW; go_simp) <;> with_reducible rfl)
              simp only [Act.put, List.setIfInBounds_toArray, List.set_cons_zero, List.set_cons_succ]
              refine lex_done (by kernel_rfl) ?_
              have HBN := Lib.hid (bmore HB.out V3.out)
              clear HKP V3 HCELLS HB
              go_wp2_with fail
              go_roundw
              case rel => exact ⟨i + 1, by go_num, by omega, HBN.out⟩
              case measure => simp [intOf] <;> omega
            · obtain rfl : i = fs.length := by omega
              clear hlt hb
              have HUL9 := Lib.hid (bmore HU7.out (bmore HUY.out HB.out))
              have LV := Lib.hid (live_any (HLD.out.below HUL9.out))
              go_wp2_with fail
              refine LV.out.mono ?_
              rintro e wl ⟨rfl, ul⟩
              have HUL := Lib.hid (bmore HUL9.out ul)
              clear ul LV
              go_wp2_with fail
              go_returns
              exact ⟨rfl, HUL.out⟩
end Go.Proofs.YtgaklaajbepfaaaGreatDoor
namespace Go.Proofs.YtgaklaajbepfaaaGreatDoor
open Go Go.ChangeShapes Go.WideShapes Go.ChangeAt Go.RowKit
set_option linter.unusedVariables false

theorem vframes_all {w : World} (hl : Laid w) {fo : Fo} {u0 u1 u2 u3 v : Value} {l m n : List Int} {who : Int} (hk : IsK w (fun b => b < w.heap.size) u0 fo) (hok : OkF fo) (h1 : Row w 1 u1 l.length (ints l)) (h2 : Row w 1 u2 m.length (ints m)) (h3 : Row w 1 u3 n.length (ints n)) (hw : i64R who) (hv : v = .agg #[u0, u1, u2, u3, .int .i64 who]) : Calls Tryz.prog 5 #[v] w fun e w' => e = .returned (.bool true) ∧ Below w.heap.size w w' := by
  subst hv
  exact frames_walk hl hk hok h1 h2 h3

set_option maxRecDepth 100000 in
/-- What the walk gives, for every argument. -/
theorem vframes_contract (H : Type) (enc : TypeId × Value → H) (W : World) (base : Nat) (args : Array Value) (ds gs : List (DataW H)) (before : List MemPlace)
    (hval0 : ∀ (j : Nat) t v, Tryz.f5.params[j]? = some t → args[j]? = some v → Value.okWide Tryz.prog W .any base t v)
    (hW : DataW.Whole enc Tryz.prog Tryz.f5.params.toList Rows.viewFramesSpec.vars false W args.toList ds gs before) (hL : laidMetH Tryz.prog laidL W) :
    Calls Tryz.prog 5 args W fun e W' => ∃ v, e = .returned v ∧ Rows.viewFramesSpec.post enc Tryz.prog Tryz.f5 false true false false W args v W' := by
  have hval : ∀ (j : Nat) t v, Tryz.f5.params[j]? = some t → args[j]? = some v → Value.okWide Tryz.prog W .any base t v := hval0
  have hW' := hW
  obtain ⟨p, q, hA0, hV, rfl, hfz, hnd⟩ := hW
  have hA : DataW.TrodAll enc Tryz.prog W 0 (fun _ => true) true Tryz.f5.params.toList args.toList ds p := hA0
  rw [Tryz.params5] at hA hval
  obtain ⟨v0, vs0, d0, ds0, p0, q0, hargs0, rfl, rfl, h0, r0⟩ := trodAll_cons hA
  obtain ⟨rfl, rfl, rfl⟩ := trodAll_nil r0
  obtain rfl : args = #[v0] := by cases args; simp_all
  obtain ⟨rfl, rfl⟩ := trodVars_none hV
  obtain ⟨⟨fo0, g0, st0, go0, n0⟩, x0, x1, x2, x3, e0, hk0, hok0, hg0, hs0, hgo0, hn0⟩ := open_lists (hval 0 67 v0 rfl rfl) h0
  have HL := of_laid hL
  clear hA0 hval0 hL
  simp only [List.append_nil] at hW'
  refine (vframes_all HL hk0 hok0 hg0.1 hs0.1 hgo0.1 hn0 e0).mono fun e W' ⟨he, bel⟩ => ?_
  subst he
  exact ⟨_, rfl, _, _, _, [], _, [], hW', trodAll_mk1 (shut_bool Tryz.underlying4 _), (trodAll_cons_mk (Below.trod laidOut (by kernel_rfl) (of_decide_eq_true (by kernel_rfl)) h0 bel (places_lt h0)) trodAll_mk0), rfl, bel.frame _, fun h => by cases h⟩

set_option maxRecDepth 100000 in
theorem vframes_lifted (os : Os) (started : os.Started) (H : Type) (enc : TypeId × Value → H) :
    ReturnsInHanded {} Tryz.checked os 5 .any (fun w args => (Rows.viewFramesSpec.pre enc Tryz.prog Tryz.f5 [] false w args ∧ laidMetH Tryz.prog laidL w) ∧ sizedMet enc Tryz.prog Tryz.f5 (OpenSpec.ofChange Rows.viewFramesSpec) false w args)
      (Rows.viewFramesSpec.post enc Tryz.prog Tryz.f5 false true false false) := by
  refine returnsInHanded_of_change_and (C := Tryz.checked) (X := fun w _ => laidMetH Tryz.prog laidL w) (fun _ _ _ hh h => h.of_heap hh) own started (by kernel_rfl) Tryz.func5
    (ChangeSpec.witness_shaped (enc := enc) (C := Tryz.checked) (os := os) (X := fun w _ => laidMetH Tryz.prog laidL w) false (World.doorLaid Tryz.prog 400 os) #[.agg #[.slice none 0 0, .slice none 0 0, .slice none 0 0, .slice none 0 0, .int .i64 0]] 8 rfl (World.shaped_of_RefB (by kernel_rfl) (by kernel_rfl)) (by kernel_rfl) (by kernel_rfl) (by kernel_rfl) (door_met os _)) ?_
  intro W base args ds gs before hval hW _ _ hL _
  exact vframes_contract H enc W base args ds gs before hval hW hL

/-- The row's statement. -/
theorem vframes_holds : Rows.ViewFramesSaid :=
  OpenClaim.holds_of_wide 5 Tryz.f5 rfl rfl rfl rfl rfl rfl rfl ⟨rfl, rfl, rfl, rfl, rfl⟩ rfl rfl rfl rfl rfl (by kernel_rfl) Tryz.func5 (by kernel_rfl)
    (of_decide_eq_true (by kernel_rfl)) (by unfold Func.isWrapper; first | (rw [if_pos (by decide +kernel)]; kernel_rfl) | (rw [if_neg (by decide +kernel)]; exact ⟨rfl, rfl⟩))
    (fun os started H enc _ => vframes_lifted os started H enc)

/-- The card. -/
theorem vframes_card : Rows.ViewFramesCardSaid :=
  Claim7.holds_tied_plain_at .later [] [.data] true _ true
    vframes_holds (fun _ h => by cases h) (by kernel_rfl) (fun _ h => by cases h) viewFrames_row_tie rfl ⟨rfl, rfl⟩ (by kernel_rfl) rfl
    (fun f fn hf hfn => by
      obtain rfl : f = 5 := Option.some.inj ((show Tryz.prog.funcNamed "escrow/escrowlaw10.ViewFrames" = some 5 by kernel_rfl).symm.trans hf) |>.symm
      obtain rfl : fn = Tryz.f5 := (Option.some.inj (Tryz.func5.symm.trans hfn)).symm
      exact ⟨by kernel_rfl, fun j t ht => by
        rw [Tryz.params5] at ht
        have hm : t ∈ [67] := by simpa using Array.mem_of_getElem? ht
        have hall : ([67].all fun u => !Tryz.prog.wantsStandIn u) = true := by kernel_rfl
        exact (show Tryz.prog.wantsStandIn t = false by simpa using List.all_eq_true.1 hall t hm)⟩)
    (by kernel_rfl)
#print axioms vframes_card
end Go.Proofs.YtgaklaajbepfaaaGreatDoor
