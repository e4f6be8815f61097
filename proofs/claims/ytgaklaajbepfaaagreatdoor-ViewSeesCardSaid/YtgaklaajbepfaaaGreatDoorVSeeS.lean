/-
  The document's own questions of kinds and names.
  Plain: trees whose nodes are turned, one by one.
  The document's own View of a tree.
  The document's own Swap of a tree.
  Plain: looking alike is an equivalence, holds of beginnings, and asks for one view; to the notary it is equality.
  Plain: what was made of a term by swapping promises looks as the term did.
  Plain: a view's view is the view; terms with one view have trees with one view; a term and its view look alike where no two of its subterms have one view.
  Plain: the tree of what was made of a term is what is made of the term's tree.
  Plain: a list into which one is put at its place.
  A statement that leaves its order open, with two stores at its end: the operations in an order that is named; F false holds up to the first store (p), F true behind it, up to the last (q).
  The document's own Tells and Promises.
  What the row's condition gives the walks: the table of the kinds' fields.
  The law's own walk: ViewSees.
  The statement ViewSees, as a tied card. No condition.
-/
import Derived.Test.YtgaklaajbepfaaaGreatDoorTRefP
import Derived.Test.YtgaklaajbepfaaaGreatDoorTRef2
import Derived.Test.YtgaklaajbepfaaaGreatDoorVTrP
import Derived.Deep.DeepCutAuto
import Derived.Test.YtgaklaajbepfaaaGreatDoorVAlike
import Derived.Test.YtgaklaajbepfaaaGreatDoorVProm
import Derived.Lib.SlKeysI
import Derived.Test.YtgaklaajbepfaaaGreatDoorTChain
import Derived.Test.YtgaklaajbepfaaaGreatDoorVKind
import Derived.Test.YtgaklaajbepfaaaGreatDoorTRSub
import Derived.Test.YtgaklaajbepfaaaGreatDoorTShape
import Derived.Test.YtgaklaajbepfaaaGreatDoorRows
import Derived.LaidMore
import Derived.MakeChecks
import Derived.JoinedOf
import Derived.Stop.Joined
import Derived.Test.YtgaklaajbepfaaaGreatDoorVLarge
import Derived.Test.YtgaklaajbepfaaaGreatDoorVLiveW
import Derived.Test.YtgaklaajbepfaaaGreatDoorTRTree
import Derived.Test.YtgaklaajbepfaaaGreatDoorTFor
import Derived.Test.YtgaklaajbepfaaaGreatDoorCards
import Derived.Test.YtgaklaajbepfaaaGreatDoorTie
import Derived.ChangeMaps5
import Derived.SevenTiedAt
namespace Go.Proofs.YtgaklaajbepfaaaGreatDoor
open Go.RowKit Go.Maps
set_option linter.unusedVariables false

def twoK (k : Int) : Bool := k == 8 || k == 9
def tellK (who f t : Int) : Bool := who == f || (who == t || who == 2)
theorem rtwo_any (k : Int) (w : World) : Calls Tryz.prog 68 #[.int .i64 k] w fun e w' => e = .returned (.bool (twoK k)) ∧ w = w' := by
  unfold twoK
  cases h1 : (k == (8 : Int)) with
  | true =>
    go_enter Tryz.func68, Tryz.ntmps68
    go_wp2_with fail
    go_returns
    exact ⟨rfl, rfl⟩
  | false =>
    cases h2 : (k == (9 : Int)) with
    | true =>
      go_enter Tryz.func68, Tryz.ntmps68
      go_wp2_with fail
      go_returns
      exact ⟨rfl, rfl⟩
    | false =>
      go_enter Tryz.func68, Tryz.ntmps68
      go_wp2_with fail
      go_returns
      exact ⟨rfl, rfl⟩
theorem rtellsk_any (who f t : Int) (w : World) : Calls Tryz.prog 69 #[.int .i64 who, .int .i64 f, .int .i64 t] w fun e w' => e = .returned (.bool (tellK who f t)) ∧ w = w' := by
  unfold tellK
  cases h1 : (who == f) with
  | true =>
    go_enter Tryz.func69, Tryz.ntmps69
    go_wp2_with fail
    go_returns
    exact ⟨rfl, rfl⟩
  | false =>
    cases h2 : (who == t) with
    | true =>
      go_enter Tryz.func69, Tryz.ntmps69
      go_wp2_with fail
      go_returns
      exact ⟨rfl, rfl⟩
    | false =>
      cases h3 : (who == (2 : Int)) with
      | true =>
        go_enter Tryz.func69, Tryz.ntmps69
        go_wp2_with fail
        go_returns
        exact ⟨rfl, rfl⟩
      | false =>
        go_enter Tryz.func69, Tryz.ntmps69
        go_wp2_with fail
        go_returns
        exact ⟨rfl, rfl⟩
def nameK (n : Int) : Bool := decide (0 ≤ n) && decide (n < 16)
theorem rname_any (n : Int) (w : World) : Calls Tryz.prog 26 #[.int .i64 n] w fun e w' => e = .returned (.bool (nameK n)) ∧ w = w' := by
  unfold nameK
  by_cases h1 : 0 ≤ n
  · by_cases h2 : n < 16
    · rw [decide_eq_true h1, decide_eq_true h2]
      go_enter Tryz.func26, Tryz.ntmps26
      go_wp2_with fail
      go_returns
      exact ⟨rfl, rfl⟩
    · rw [decide_eq_true h1, decide_eq_false h2]
      go_enter Tryz.func26, Tryz.ntmps26
      go_wp2_with fail
      go_returns
      exact ⟨rfl, rfl⟩
  · rw [decide_eq_false h1]
    go_enter Tryz.func26, Tryz.ntmps26
    go_wp2_with fail
    go_returns
    exact ⟨rfl, rfl⟩
end Go.Proofs.YtgaklaajbepfaaaGreatDoor
namespace Go.Proofs.YtgaklaajbepfaaaGreatDoor
set_option linter.unusedVariables false

def mapF (g : Nd → Nd) : Fo → Fo
  | .nil => .nil
  | .cons n k r => .cons (g n) (mapF g k) (mapF g r)
theorem mapF_len (g : Nd → Nd) : ∀ f : Fo, (mapF g f).len = f.len
  | .nil => rfl
  | .cons n k r => by simp only [mapF, Fo.len, mapF_len g r]
theorem mapF_size (g : Nd → Nd) : ∀ f : Fo, (mapF g f).size = f.size
  | .nil => rfl
  | .cons n k r => by simp only [mapF, Fo.size, mapF_size g k, mapF_size g r]
end Go.Proofs.YtgaklaajbepfaaaGreatDoor
namespace Go.Proofs.YtgaklaajbepfaaaGreatDoor
open Go.RowKit Go.Maps
set_option linter.unusedVariables false

/-- What View makes of a kind. -/
def seeTK (who k f t : Int) : Int := if (k == 9 && !tellK who f t) = true then 8 else k
def vtT (who : Int) (n : Nd) : Nd := ⟨seeTK who n.kind n.frm n.to, n.frm, n.to, n.num, n.text, n.a, n.b⟩
def vtP (who : Int) (x : Nd × Fo) : Nd × Fo := (vtT who x.1, mapF (vtT who) x.2)
theorem foOf_map_vt (who : Int) : ∀ l : List (Nd × Fo), mapF (vtT who) (foOf l) = foOf (l.map (vtP who))
  | [] => rfl
  | x :: l => by simp only [foOf, mapF, List.map_cons, vtP, foOf_map_vt who l]
def vtPost (w : World) (who : Int) (n : Nd) (k : Fo) (e : Ending) (w' : World) : Prop := ∃ v, e = .returned (.agg (treeA (vtT who n) v)) ∧ IsK w' (NewT w w') v (mapF (vtT who) k) ∧ Below w.heap.size w w'
def vtC (who : Int) (N : Nat) (n : Nd) (k : Fo) : Prop := ∀ (w : World) (v : Value), IsK w (fun b => b < N) v k → N ≤ w.heap.size → k.size ≤ 6000 → Calls Tryz.prog 31 #[.int .i64 who, .agg (treeA n v)] w (vtPost w who n k)
set_option maxRecDepth 100000 in
set_option maxHeartbeats 25600000 in
theorem vt_step {who : Int} {N : Nat} (n : Nd) (k : Fo) (ih : AllF (vtC who N) k) : vtC who N n k := by
  intro w v hk hN hsz
  obtain ⟨i0, hi0, hz0, hz1, hz2⟩ := info_parts rowTree
  obtain ⟨av, cv, rfl, hx⟩ := hk.shape
  have hlk := k.len_le
  obtain ⟨kk, ff, tt, uu, ss, xa, xb⟩ := n
  have b1 := bZ w (.cells #[.int .i64 kk, .int .i64 ff, .int .i64 tt, .int .u64 uu, .string ss, .slice av k.len cv] TrT)
  have b2 := bZ (w.alloc (.cells #[.int .i64 kk, .int .i64 ff, .int .i64 tt, .int .u64 uu, .string ss, .slice av k.len cv] TrT)) (.cells #[.int .i64 0, .int .i64 0, .int .i64 0, .int .u64 0, .string ⟨#[]⟩, .slice none 0 0] TrT)
  have b3 := bZ ((w.alloc (.cells #[.int .i64 kk, .int .i64 ff, .int .i64 tt, .int .u64 uu, .string ss, .slice av k.len cv] TrT)).alloc (.cells #[.int .i64 0, .int .i64 0, .int .i64 0, .int .u64 0, .string ⟨#[]⟩, .slice none 0 0] TrT)) (.cells #[.int .i64 kk, .int .i64 ff, .int .i64 tt, .int .u64 uu, .string ss, .slice none 0 0] TrT)
  have b12 := b1.trans (b2.mono b1.size)
  have b123 := b12.trans (b3.mono b12.size)
  have h1 : (((w.alloc (.cells #[.int .i64 kk, .int .i64 ff, .int .i64 tt, .int .u64 uu, .string ss, .slice av k.len cv] TrT)).alloc (.cells #[.int .i64 0, .int .i64 0, .int .i64 0, .int .u64 0, .string ⟨#[]⟩, .slice none 0 0] TrT)).alloc (.cells #[.int .i64 kk, .int .i64 ff, .int .i64 tt, .int .u64 uu, .string ss, .slice none 0 0] TrT)).heap[w.heap.size]? = some (Obj.cells #[.int .i64 kk, .int .i64 ff, .int .i64 tt, .int .u64 uu, .string ss, .slice av k.len cv] TrT) := Hold.below b3 _ _ (Hold.below b2 _ _ (heap_alloc_new _ _))
  have h2 : (((w.alloc (.cells #[.int .i64 kk, .int .i64 ff, .int .i64 tt, .int .u64 uu, .string ss, .slice av k.len cv] TrT)).alloc (.cells #[.int .i64 0, .int .i64 0, .int .i64 0, .int .u64 0, .string ⟨#[]⟩, .slice none 0 0] TrT)).alloc (.cells #[.int .i64 kk, .int .i64 ff, .int .i64 tt, .int .u64 uu, .string ss, .slice none 0 0] TrT)).heap[w.heap.size + 1]? = some (Obj.cells #[.int .i64 0, .int .i64 0, .int .i64 0, .int .u64 0, .string ⟨#[]⟩, .slice none 0 0] TrT) := by
    have e : w.heap.size + 1 = (w.alloc (.cells #[.int .i64 kk, .int .i64 ff, .int .i64 tt, .int .u64 uu, .string ss, .slice av k.len cv] TrT)).heap.size := by simp
    rw [e]; exact Hold.below b3 _ _ (heap_alloc_new _ _)
  have h3 : (((w.alloc (.cells #[.int .i64 kk, .int .i64 ff, .int .i64 tt, .int .u64 uu, .string ss, .slice av k.len cv] TrT)).alloc (.cells #[.int .i64 0, .int .i64 0, .int .i64 0, .int .u64 0, .string ⟨#[]⟩, .slice none 0 0] TrT)).alloc (.cells #[.int .i64 kk, .int .i64 ff, .int .i64 tt, .int .u64 uu, .string ss, .slice none 0 0] TrT)).heap[w.heap.size + 2]? = some (Obj.cells #[.int .i64 kk, .int .i64 ff, .int .i64 tt, .int .u64 uu, .string ss, .slice none 0 0] TrT) := by
    have e : w.heap.size + 2 = ((w.alloc (.cells #[.int .i64 kk, .int .i64 ff, .int .i64 tt, .int .u64 uu, .string ss, .slice av k.len cv] TrT)).alloc (.cells #[.int .i64 0, .int .i64 0, .int .i64 0, .int .u64 0, .string ⟨#[]⟩, .slice none 0 0] TrT)).heap.size := by simp
    rw [e]; exact heap_alloc_new _ _
  have HX := Lib.hid hx
  have HS : Hid ((((w.alloc (.cells #[.int .i64 kk, .int .i64 ff, .int .i64 tt, .int .u64 uu, .string ss, .slice av k.len cv] TrT)).alloc (.cells #[.int .i64 0, .int .i64 0, .int .i64 0, .int .u64 0, .string ⟨#[]⟩, .slice none 0 0] TrT)).alloc (.cells #[.int .i64 kk, .int .i64 ff, .int .i64 tt, .int .u64 uu, .string ss, .slice none 0 0] TrT)).heap.size = w.heap.size + 3) := Lib.hid (by simp)
  have HI := Lib.hid ih
  have HB1 := Lib.hid h1
  have HB2 := Lib.hid h2
  have HB3 := Lib.hid h3
  have HA := Lib.hid b123
  clear hk hx ih b1 b2 b3 b12 b123 h1 h2 h3
  simp only [treeA] at *
  go_enter Tryz.func31, Tryz.ntmps31
  go_upto_region 3 with fail
  generalize (((w.alloc (.cells #[.int .i64 kk, .int .i64 ff, .int .i64 tt, .int .u64 uu, .string ss, .slice av k.len cv] TrT)).alloc (.cells #[.int .i64 0, .int .i64 0, .int .i64 0, .int .u64 0, .string ⟨#[]⟩, .slice none 0 0] TrT)).alloc (.cells #[.int .i64 kk, .int .i64 ff, .int .i64 tt, .int .u64 uu, .string ss, .slice none 0 0] TrT)) = W at *
  have p0 : W.cell? ⟨w.heap.size + 2, 0, none⟩ = some (.int .i64 kk) := cellB (j := 0) HB3.out rfl
  have p1 : W.cell? ⟨w.heap.size, 1, none⟩ = some (.int .i64 ff) := cellB (j := 1) HB1.out rfl
  have p2 : W.cell? ⟨w.heap.size, 2, none⟩ = some (.int .i64 tt) := cellB (j := 2) HB1.out rfl
  have p3 : W.frozen? ⟨w.heap.size + 2, 0, none⟩ = false := frozenB (j := 0) HB3.out
  go_cut [20] (fun s wx => W = wx ∧ s = .bool (kk == 9 && !tellK who ff tt))
  case first =>
    by_cases h9 : kk = 9
    · have e9 : (kk == (9 : Int)) = true := by rw [h9]; rfl
      have RT := rtellsk_any who ff tt W
      clear h9
      generalize tellK who ff tt = tk9 at *
      go_wp2_with fail
      refine RT.mono ?_
      rintro e V ⟨rfl, rfl⟩
      go_wp2_with fail
      go_meet
      exact ⟨by trivial, by rw [e9]; rfl⟩
    · have e9 : (kk == (9 : Int)) = false := by simpa using h9
      clear h9
      go_wp2_with fail
      go_meet
      exact ⟨by trivial, by rw [e9]; rfl⟩
  case rest =>
  obtain ⟨rfl, rfl⟩ := hcut
  have HZC : Hid (seeTK who kk ff tt = if (kk == 9 && !tellK who ff tt) = true then 8 else kk) := Lib.hid rfl
  generalize (kk == 9 && !tellK who ff tt) = cz at *
  go_upto_if 20 with fail
  go_cut [] (fun wx => wx.heap[w.heap.size]? = some (Obj.cells #[.int .i64 kk, .int .i64 ff, .int .i64 tt, .int .u64 uu, .string ss, .slice av k.len cv] TrT) ∧ wx.heap[w.heap.size + 1]? = some (Obj.cells #[.int .i64 0, .int .i64 0, .int .i64 0, .int .u64 0, .string ⟨#[]⟩, .slice none 0 0] TrT) ∧ wx.heap[w.heap.size + 2]? = some (Obj.cells #[.int .i64 (seeTK who kk ff tt), .int .i64 ff, .int .i64 tt, .int .u64 uu, .string ss, .slice none 0 0] TrT) ∧ Below w.heap.size w wx ∧ wx.heap.size = w.heap.size + 3)
  case first =>
    have HQ : Hid (∀ u : Value, (W.setCell ⟨w.heap.size + 2, 0, none⟩ u).heap[w.heap.size]? = some (Obj.cells #[.int .i64 kk, .int .i64 ff, .int .i64 tt, .int .u64 uu, .string ss, .slice av k.len cv] TrT) ∧ (W.setCell ⟨w.heap.size + 2, 0, none⟩ u).heap[w.heap.size + 1]? = some (Obj.cells #[.int .i64 0, .int .i64 0, .int .i64 0, .int .u64 0, .string ⟨#[]⟩, .slice none 0 0] TrT) ∧ Below w.heap.size w (W.setCell ⟨w.heap.size + 2, 0, none⟩ u) ∧ (W.setCell ⟨w.heap.size + 2, 0, none⟩ u).heap.size = w.heap.size + 3) := Lib.hid fun u => ⟨((grownBy_set W (w.heap.size + 2) 0 u).block w.heap.size (Array.getElem?_eq_some_iff.1 HB1.out).1 (fun e => by have := Option.some.inj e; omega)).trans HB1.out, ((grownBy_set W (w.heap.size + 2) 0 u).block (w.heap.size + 1) (Array.getElem?_eq_some_iff.1 HB2.out).1 (fun e => by have := Option.some.inj e; omega)).trans HB2.out, HA.out.setCell (p := ⟨w.heap.size + 2, 0, none⟩) (by simp) u, by simpa [World.setCell] using HS.out⟩
    cases cz with
    | true =>
      go_wp2_with fail
      go_meet
      exact ⟨(HQ.out _).1, (HQ.out _).2.1, by rw [HZC.out]; exact setCellB (j := 0) HB3.out, (HQ.out _).2.2.1, (HQ.out _).2.2.2⟩
    | false =>
      go_wp2_with fail
      go_meet
      exact ⟨HB1.out, HB2.out, by rw [HZC.out]; exact HB3.out, HA.out, HS.out⟩
  case rest =>
    obtain ⟨hb1', hb2', hb3', hbA, hbS⟩ := hcut
    clear HB1 HB2 HB3 HA HS p0 p1 p2 p3
    have HB1 := Lib.hid hb1'
    have HB2 := Lib.hid hb2'
    have HB3 := Lib.hid hb3'
    have HA := Lib.hid hbA
    have HS := Lib.hid hbS
    clear hb1' hb2' hb3' hbA hbS
    obtain ⟨kz, hkz⟩ : ∃ kz, kz = seeTK who kk ff tt := ⟨_, rfl⟩
    rw [← hkz] at HB3
    have HKZ := Lib.hid hkz
    clear hkz
    go_wp2_with fail
    go_loopw [6] (fun vi wr => ∃ (i : Nat) (r : Fo) (done : List (Nd × Fo)) (ya : Option Addr) (yc : Nat) (xs : List Value), vi = .int .i64 (i : Int) ∧ i + r.len = k.len ∧ done.length = i ∧ k = foApp done r ∧ AllF (vtC who N) r ∧ (0 < r.len → ∃ b o, av = some ⟨b, o, none⟩ ∧ b < N ∧ AtF w (fun b => b < N) r b (o + i * 6)) ∧ wr.heap[w.heap.size]? = some (Obj.cells #[.int .i64 kk, .int .i64 ff, .int .i64 tt, .int .u64 uu, .string ss, .slice av k.len cv] TrT) ∧ wr.heap[w.heap.size + 1]? = some (Obj.cells #[.int .i64 0, .int .i64 0, .int .i64 0, .int .u64 0, .string ⟨#[]⟩, .slice none 0 0] TrT) ∧ wr.heap[w.heap.size + 2]? = some (Obj.cells #[.int .i64 kz, .int .i64 ff, .int .i64 tt, .int .u64 uu, .string ss, .slice ya i yc] TrT) ∧ wr.ownsRow (w.heap.size + 3) TrT 6 (.slice ya i yc) i xs ∧ RowF wr (ButT (w.heap.size + 3) (Value.slice ya i yc).ownBlock wr) (done.map (vtP who)) xs ∧ Below w.heap.size w wr ∧ w.heap.size + 3 ≤ wr.heap.size) (fun v _ => k.len - (intOf v).toNat)
    case atStart => exact ⟨0, k, [], none, 0, [], rfl, by omega, rfl, rfl, HI.out, fun hp => by obtain ⟨b, o, q1, q2, q3⟩ := HX.out hp; exact ⟨b, o, q1, q2, by simpa using q3⟩, HB1.out, HB2.out, HB3.out, World.ownsRow_nil _ _ _ 6, rfl, HA.out, by rw [HS.out]; exact Nat.le_refl _⟩
    case round =>
      obtain ⟨i, r, done, ya, yc, xs, rfl, hi, hdl, hka, hall, hat, hb1, hb2, hb3, hown, hrow, hbr, hsz3⟩ := hrel
      have HBR := Lib.hid hbr
      have HBX := Lib.hid hb1
      have HBY := Lib.hid hb2
      have HBZ := Lib.hid hb3
      have HOWN := Lib.hid hown
      have HROW := Lib.hid hrow
      have HSZ3 := Lib.hid hsz3
      clear hown hrow HX HI
      by_cases hlt : 0 < r.len
      · obtain ⟨n', kd, rr, rfl⟩ := fo_pos hlt
        simp only [Fo.len] at hi
        obtain ⟨b, o, rfl, hbN, hat'⟩ := hat hlt
        obtain ⟨c0, c1, c2, c3, c4, v', c5, hk', hat2⟩ := hat'.cons
        obtain ⟨av2, cv2, rfl, _⟩ := hk'.shape
        have hbw : b < w.heap.size := Nat.lt_of_lt_of_le hbN hN
        have hkr := (hk'.below HBR.out).below (bd wr)
        have hkd : kd.size ≤ 6000 := by
          have h1 := foApp_size done (.cons n' kd rr)
          rw [← hka] at h1
          simp only [Fo.size] at h1
          omega
        have HK := Lib.hid (hall.1 wr.drew (.slice av2 kd.len cv2) hkr (Nat.le_trans hN (HBR.out.size)) hkd)
        have hilt : i < 6000 := by omega
        have HALL := Lib.hid hall.2
        have HAT := Lib.hid hat2
        have HKA := Lib.hid (show k = foApp (done ++ [(n', kd)]) rr by rw [foApp_snoc]; exact hka)
        have e0 := bcellAt HBR.out c0
        have e1 := bcellAt HBR.out c1
        have e2 := bcellAt HBR.out c2
        have e3 := bcellAt HBR.out c3
        have e4 := bcellAt HBR.out c4
        have e5 := bcellAt HBR.out c5
        clear hall hat2 hat hat' hk' hkr hkd hka c0 c1 c2 c3 c4 c5 hbr
        obtain ⟨k2, f2, t2, u2, s2, y2, z2⟩ := n'
        simp only [treeA] at *
        have x5 := cellB (j := 5) hb1 rfl
        have y5 := cellB (j := 5) hb3 rfl
        clear hb1 hb2 hb3
        have hi0' : (0 : Int) ≤ (i : Int) := by omega
        have hi1 : (i : Int) < (k.len : Int) := by omega
        go_wp2_with fail
        have hfk : ∀ V : World, (∀ (b o : Nat) (u : Value), wr.cell? ⟨b, o, none⟩ = some u → b < w.heap.size ∨ b = w.heap.size ∨ b = w.heap.size + 2 → V.cell? ⟨b, o, none⟩ = some u) → V.cell? ⟨w.heap.size + 2, 5, none⟩ = some (.slice ya i yc) ∧ V.cell? ⟨w.heap.size, 5, none⟩ = some (.slice (some ⟨b, o, none⟩) k.len cv) ∧ V.cell? ⟨b, o + i * 6, none⟩ = some (.int .i64 k2) ∧ V.cell? ⟨b, o + i * 6 + 1, none⟩ = some (.int .i64 f2) ∧ V.cell? ⟨b, o + i * 6 + 2, none⟩ = some (.int .i64 t2) ∧ V.cell? ⟨b, o + i * 6 + 3, none⟩ = some (.int .u64 u2) ∧ V.cell? ⟨b, o + i * 6 + 4, none⟩ = some (.string s2) ∧ V.cell? ⟨b, o + i * 6 + 5, none⟩ = some (.slice av2 kd.len cv2) := fun V hV => ⟨hV _ _ _ y5 (by omega), hV _ _ _ x5 (by omega), hV _ _ _ e0 (by omega), hV _ _ _ e1 (by omega), hV _ _ _ e2 (by omega), hV _ _ _ e3 (by omega), hV _ _ _ e4 (by omega), hV _ _ _ e5 (by omega)⟩
        have HFK := Lib.hid hfk
        have hF0 := HFK.out wr.drew (fun b o u h _ => bcellAt (bd wr) h)
        clear hfk e0 e1 e2 e3 e4 e5 x5 y5
        refine lexg_start [0, 1, 2, 3, 4, 5, 6, 7, 8, 9, 10, 11, 12] 12 (F := fun W => W.cell? ⟨w.heap.size + 2, 5, none⟩ = some (.slice ya i yc) ∧ W.cell? ⟨w.heap.size, 5, none⟩ = some (.slice (some ⟨b, o, none⟩) k.len cv) ∧ W.cell? ⟨b, o + i * 6, none⟩ = some (.int .i64 k2) ∧ W.cell? ⟨b, o + i * 6 + 1, none⟩ = some (.int .i64 f2) ∧ W.cell? ⟨b, o + i * 6 + 2, none⟩ = some (.int .i64 t2) ∧ W.cell? ⟨b, o + i * 6 + 3, none⟩ = some (.int .u64 u2) ∧ W.cell? ⟨b, o + i * 6 + 4, none⟩ = some (.string s2) ∧ W.cell? ⟨b, o + i * 6 + 5, none⟩ = some (.slice av2 kd.len cv2)) (by kernel_rfl) ?_
        simp only [inOrder, List.filterMap, List.getElem?_cons_succ, List.getElem?_cons_zero]
        refine lexg_take (i := 0) (v := ?_) rfl (by decide) (by kernel_rfl) (by kernel_rfl) (by kernel_rfl) (by kernel_rfl) (by rfl) hF0 ?_ ?_
        rotate_left
        · ((intro W hW; obtain ⟨k0, k1, k3, k4, k5, k6, k7, k8⟩ := hW; go_simp) <;> with_reducible rfl)
        simp only [Act.put, List.setIfInBounds_toArray, List.set_cons_zero, List.set_cons_succ]
        refine lexg_take (i := 1) (v := ?_) rfl (by decide) (by kernel_rfl) (by kernel_rfl) (by kernel_rfl) (by kernel_rfl) (by rfl) hF0 ?_ ?_
        rotate_left
        · ((intro W hW; obtain ⟨k0, k1, k3, k4, k5, k6, k7, k8⟩ := hW; go_simp) <;> with_reducible rfl)
        simp only [Act.put, List.setIfInBounds_toArray, List.set_cons_zero, List.set_cons_succ]
        refine lexg_take (i := 2) (v := ?_) rfl (by decide) (by kernel_rfl) (by kernel_rfl) (by kernel_rfl) (by kernel_rfl) (by rfl) hF0 ?_ ?_
        rotate_left
        · ((intro W hW; obtain ⟨k0, k1, k3, k4, k5, k6, k7, k8⟩ := hW; go_simp) <;> with_reducible rfl)
        simp only [Act.put, List.setIfInBounds_toArray, List.set_cons_zero, List.set_cons_succ]
        refine lexg_take (i := 3) (v := ?_) rfl (by decide) (by kernel_rfl) (by kernel_rfl) (by kernel_rfl) (by kernel_rfl) (by rfl) hF0 ?_ ?_
        rotate_left
        · ((intro W hW; obtain ⟨k0, k1, k3, k4, k5, k6, k7, k8⟩ := hW; go_simp) <;> with_reducible rfl)
        simp only [Act.put, List.setIfInBounds_toArray, List.set_cons_zero, List.set_cons_succ]
        refine lexg_take (i := 4) (v := ?_) rfl (by decide) (by kernel_rfl) (by kernel_rfl) (by kernel_rfl) (by kernel_rfl) (by rfl) hF0 ?_ ?_
        rotate_left
        · ((intro W hW; obtain ⟨k0, k1, k3, k4, k5, k6, k7, k8⟩ := hW; go_simp) <;> with_reducible rfl)
        simp only [Act.put, List.setIfInBounds_toArray, List.set_cons_zero, List.set_cons_succ]
        refine lexg_take (i := 5) (v := ?_) rfl (by decide) (by kernel_rfl) (by kernel_rfl) (by kernel_rfl) (by kernel_rfl) (by rfl) hF0 ?_ ?_
        rotate_left
        · ((intro W hW; obtain ⟨k0, k1, k3, k4, k5, k6, k7, k8⟩ := hW; go_simp) <;> with_reducible rfl)
        simp only [Act.put, List.setIfInBounds_toArray, List.set_cons_zero, List.set_cons_succ]
        refine lexg_take (i := 6) (v := ?_) rfl (by decide) (by kernel_rfl) (by kernel_rfl) (by kernel_rfl) (by kernel_rfl) (by rfl) hF0 ?_ ?_
        rotate_left
        · ((intro W hW; obtain ⟨k0, k1, k3, k4, k5, k6, k7, k8⟩ := hW; go_simp) <;> with_reducible rfl)
        simp only [Act.put, List.setIfInBounds_toArray, List.set_cons_zero, List.set_cons_succ]
        refine lexg_take (i := 7) (v := ?_) rfl (by decide) (by kernel_rfl) (by kernel_rfl) (by kernel_rfl) (by kernel_rfl) (by rfl) hF0 ?_ ?_
        rotate_left
        · ((intro W hW; obtain ⟨k0, k1, k3, k4, k5, k6, k7, k8⟩ := hW; go_simp) <;> with_reducible rfl)
        simp only [Act.put, List.setIfInBounds_toArray, List.set_cons_zero, List.set_cons_succ]
        refine lexg_call (i := 8) rfl (by kernel_rfl) (by rfl) ?_ _ HK.out ?_
        · go_simp
        rintro e w1 ⟨v1, rfl, hv1, u1⟩
        obtain ⟨va, vc, hva, _⟩ := hv1.shape
        rw [mapF_len] at hva
        subst hva
        have bA := bmore (bd wr) u1
        refine ⟨_, rfl, fun _ => HFK.out w1 (fun b o u h _ => bcellAt bA h), ?_⟩
        simp only [treeA, vtT, Act.put, List.setIfInBounds_toArray, List.set_cons_zero, List.set_cons_succ]
        have hszA := bA.size
        refine lexg_do (i := 9) rfl (by kernel_rfl) (by rfl) (fun K hK => ?_)
        go_simp
        have bC := bZ w1 (.cells #[.int .i64 (seeTK who k2 f2 t2), .int .i64 f2, .int .i64 t2, .int .u64 u2, .string s2, .slice va kd.len vc] 62)
        have bAC := bmore bA bC
        have hownC := own_hold HOWN.out (Hold.below bAC)
        have HBAC := Lib.hid bAC
        have HV1 := Lib.hid hv1
        have HBC := Lib.hid bC
        have HBA := Lib.hid bA
        refine hK _ _ ⟨fun _ => HFK.out _ (fun b o u h _ => bcellAt bAC h), ?_⟩
        clear hK K
        refine lexg_do (i := 10) rfl (by kernel_rfl) (by rfl) (fun K hK => ?_)
        refine wp_append_at _ _ _ 22 rfl (w.heap.size + 3) TrT i0 (.agg #[.int .i64 0, .int .i64 0, .int .i64 0, .int .u64 0, .string ⟨#[]⟩, .slice none 0 0]) 6 72 Tryz.underlying22 hi0 hz0 hz1 hz2 rfl (by decide) (.slice ya i yc) i xs rfl hownC ⟨w1.heap.size, 0, none⟩ 1 1 [.int .i64 (seeTK who k2 f2 t2), .int .i64 f2, .int .i64 t2, .int .u64 u2, .string s2, .slice va kd.len vc] rfl (by decide) rfl (news6 w1 _ _ _ _ _ _ _) (by simp [Value.oneCell']) (by unfold maxLen; omega) (by omega) (by have := HSZ3.out; have := bC.size; omega) ?_
        intro v3 w3 hown3 hg3 hp3
        obtain ⟨za, zc, rfl⟩ := (row_of_own hown3).shape
        have hyo : ∀ g, (Value.slice ya i yc).ownBlock = some g → w.heap.size + 3 ≤ g ∧ g < wr.heap.size := fun g e => by
          obtain ⟨hB, cur, hc⟩ := own_type HOWN.out e
          exact ⟨hB, (Array.getElem?_eq_some_iff.1 hc).1⟩
        have hkb : ∀ (b : Nat) (u : Obj), wr.heap[b]? = some u → (Value.slice ya i yc).ownBlock ≠ some b → w3.heap[b]? = some u := fun b u h hn => by
          have hl := (Array.getElem?_eq_some_iff.1 h).1
          rw [hg3.block b (Nat.lt_of_lt_of_le hl HBAC.out.size) (fun e => hn e.symm), HBAC.out.block b hl]; exact h
        have hkb1 : ∀ (b : Nat) (u : Obj), w1.heap[b]? = some u → wr.heap.size ≤ b → w3.heap[b]? = some u := fun b u h hn => by
          have hl := (Array.getElem?_eq_some_iff.1 h).1
          rw [hg3.block b (Nat.lt_of_lt_of_le hl HBC.out.size) (fun e => by have := (hyo b e.symm).2; omega), HBC.out.block b hl]; exact h
        have hz3 := hkb _ _ HBZ.out (fun e => by have := (hyo _ e).1; omega)
        have hF3 := HFK.out w3 (fun b o u h hb => by
          have hl := World.block_lt_of_cell? wr _ h
          rw [cell_of_heap (show w3.heap[b]? = wr.heap[b]? from by
            rw [hg3.block b (Nat.lt_of_lt_of_le hl HBAC.out.size) (fun e => by have := (hyo _ e.symm).1; omega), HBAC.out.block b hl])]
          exact h)
        have HKB := Lib.hid hkb
        have HKB1 := Lib.hid hkb1
        have HYO := Lib.hid hyo
        have HG3 := Lib.hid hg3
        have HP3 := Lib.hid hp3
        have HOWN3 := Lib.hid hown3
        have HZ3 := Lib.hid hz3
        clear hkb hkb1 hyo hg3 hp3 hown3 hownC bA bC bAC hv1 u1
        refine hK _ _ ⟨fun _ => hF3, ?_⟩
        clear hK K
        try simp only [Act.put, List.setIfInBounds_toArray, List.set_cons_zero, List.set_cons_succ]
        refine lexg_take (i := 11) (v := ?_) rfl (by decide) (by kernel_rfl) (by kernel_rfl) (by kernel_rfl) (by kernel_rfl) (by rfl) hF3 ?_ ?_
        rotate_left
        · ((intro W hW; obtain ⟨k0, k1, k3, k4, k5, k6, k7, k8⟩ := hW; go_simp) <;> with_reducible rfl)
        simp only [Act.put, List.setIfInBounds_toArray, List.set_cons_zero, List.set_cons_succ]
        have x5 := cellB (j := 5) hz3 rfl
        have f5 := frozenB (j := 5) hz3
        refine lexg_do (i := 12) rfl (by kernel_rfl) (by rfl) (fun K hK => ?_)
        go_simp
        have hz4 := setCellB (j := 5) (u := .slice za (i + 1) zc) hz3
        have HZ4 := Lib.hid hz4
        have HGS := Lib.hid (grownBy_set w3 (w.heap.size + 2) 5 (.slice za (i + 1) zc))
        refine hK _ _ ⟨fun h => absurd rfl h, ?_⟩
        clear hK K x5 f5 hF3 hF0 hz3 hz4
        refine lexg_done (by kernel_rfl) ?_
        generalize (w3.setCell ⟨w.heap.size + 2, 5, none⟩ (.slice za (i + 1) zc)) = w4 at *
        go_wp2_with fail
        have hyo3 : ∀ g, (Value.slice za (i + 1) zc).ownBlock = some g → w.heap.size + 3 ≤ g := fun g e => (own_type HOWN3.out e).1
        have h34 : ∀ (b : Nat) (u : Obj), w3.heap[b]? = some u → b ≠ w.heap.size + 2 → w4.heap[b]? = some u := fun b u h hn => by
          rw [HGS.out.block b (Array.getElem?_eq_some_iff.1 h).1 (fun e => hn (by cases e; rfl))]; exact h
        have hb4 : Below w.heap.size w w4 := ((HBR.out.trans (HBAC.out.mono (by omega))).grown HG3.out (by have := HBAC.out.size; omega) (fun g e => by have := (HYO.out g e).1; omega)).grown HGS.out (by have := HG3.out.size; have := HBAC.out.size; omega) (fun g e => by cases e; omega)
        have hsz4 : w.heap.size + 3 ≤ w4.heap.size := by have := HG3.out.size; have := HBAC.out.size; have := HGS.out.size; have := HSZ3.out; omega
        have hrow4 : RowF w4 (ButT (w.heap.size + 3) (Value.slice za (i + 1) zc).ownBlock w4) (done.map (vtP who)) xs := HROW.out.keep (fun bb hg hl => by
          obtain ⟨q1, q2, cs, q3⟩ := hg
          have q4 := h34 _ _ (HKB.out _ _ q3 q2) (by omega)
          refine ⟨⟨q1, fun e => ?_, cs, q4⟩, by rw [q4, q3]⟩
          rcases HP3.out with h | h
          · exact q2 (h.symm.trans e)
          · rw [h] at e; cases e; have := HBAC.out.size; omega)
        have hkid4 : IsK w4 (ButT (w.heap.size + 3) (Value.slice za (i + 1) zc).ownBlock w4) (.slice va kd.len vc) (mapF (vtT who) kd) := HV1.out.keep (fun bb hg hl => by
          obtain ⟨q1, cs, q3⟩ := hg
          have q1' : wr.heap.size ≤ bb := q1
          have q4 := h34 _ _ (HKB1.out _ _ q3 q1') (by have := HSZ3.out; omega)
          refine ⟨⟨by have := HSZ3.out; omega, fun e => ?_, cs, q4⟩, by rw [q4, q3]⟩
          rcases HP3.out with h | h
          · have := (HYO.out bb (h.symm.trans e)).2; omega
          · rw [h] at e; cases e; have := HBC.out.size; omega)
        have hwa : w.heap.size < w3.heap.size ∧ w.heap.size + 1 < w3.heap.size := by have := HG3.out.size; have := HBAC.out.size; have := HSZ3.out; omega
        go_roundw
        case rel => exact ⟨i + 1, rr, done ++ [(⟨k2, f2, t2, u2, s2, y2, z2⟩, kd)], za, zc, _, by go_num, by omega, by simp [hdl], HKA.out, HALL.out, fun _ => ⟨b, o, rfl, hbN, by rw [show o + (i + 1) * 6 = o + i * 6 + 6 by omega]; exact HAT.out⟩, h34 _ _ (HKB.out _ _ HBX.out (fun e => by have := (HYO.out _ e).1; omega)) (by omega), h34 _ _ (HKB.out _ _ HBY.out (fun e => by have := (HYO.out _ e).1; omega)) (by omega), HZ4.out, own_kept HOWN3.out HGS.out (fun r e e' => by cases e; have := hyo3 _ e'; omega), by rw [List.map_append]; exact RowF.snoc (n := vtT who ⟨k2, f2, t2, u2, s2, y2, z2⟩) hkid4 hrow4, hb4, hsz4⟩
        case measure => simp [intOf]; omega
      · obtain rfl := fo_nil (show r.len = 0 by omega)
        simp only [Fo.len, Nat.add_zero] at hi
        rw [foApp_nil] at hka
        have hdk : done.length = k.len := by omega
        have HKA := Lib.hid hka
        have HDK := Lib.hid hdk
        subst hi
        clear hka hall hat hlt hdl hdk
        have x5 := cellB (j := 5) hb1 rfl
        have r0 := cellB (j := 0) hb2 rfl
        have q0 := frozenB (j := 0) hb2
        have r1 := cellB (j := 1) hb2 rfl
        have q1 := frozenB (j := 1) hb2
        have r2 := cellB (j := 2) hb2 rfl
        have q2 := frozenB (j := 2) hb2
        have r3 := cellB (j := 3) hb2 rfl
        have q3 := frozenB (j := 3) hb2
        have r4 := cellB (j := 4) hb2 rfl
        have q4 := frozenB (j := 4) hb2
        have r5 := cellB (j := 5) hb2 rfl
        have q5 := frozenB (j := 5) hb2
        have y0 := cellB (j := 0) hb3 rfl
        have y1 := cellB (j := 1) hb3 rfl
        have y2 := cellB (j := 2) hb3 rfl
        have y3 := cellB (j := 3) hb3 rfl
        have y4 := cellB (j := 4) hb3 rfl
        have y5 := cellB (j := 5) hb3 rfl
        have hb6 : Below w.heap.size w ((((((wr.setCell ⟨w.heap.size + 1, 0, none⟩ (.int .i64 kz)).setCell ⟨w.heap.size + 1, 1, none⟩ (.int .i64 ff)).setCell ⟨w.heap.size + 1, 2, none⟩ (.int .i64 tt)).setCell ⟨w.heap.size + 1, 3, none⟩ (.int .u64 uu)).setCell ⟨w.heap.size + 1, 4, none⟩ (.string ss)).setCell ⟨w.heap.size + 1, 5, none⟩ (.slice ya k.len yc)) := ((((((hbr.setCell (p := ⟨w.heap.size + 1, 0, none⟩) (Nat.le_succ _) _).setCell (p := ⟨w.heap.size + 1, 1, none⟩) (Nat.le_succ _) _).setCell (p := ⟨w.heap.size + 1, 2, none⟩) (Nat.le_succ _) _).setCell (p := ⟨w.heap.size + 1, 3, none⟩) (Nat.le_succ _) _).setCell (p := ⟨w.heap.size + 1, 4, none⟩) (Nat.le_succ _) _).setCell (p := ⟨w.heap.size + 1, 5, none⟩) (Nat.le_succ _) _)
        have h6 : ((((((wr.setCell ⟨w.heap.size + 1, 0, none⟩ (.int .i64 kz)).setCell ⟨w.heap.size + 1, 1, none⟩ (.int .i64 ff)).setCell ⟨w.heap.size + 1, 2, none⟩ (.int .i64 tt)).setCell ⟨w.heap.size + 1, 3, none⟩ (.int .u64 uu)).setCell ⟨w.heap.size + 1, 4, none⟩ (.string ss)).setCell ⟨w.heap.size + 1, 5, none⟩ (.slice ya k.len yc)).heap[w.heap.size + 1]? = some (Obj.cells #[.int .i64 kz, .int .i64 ff, .int .i64 tt, .int .u64 uu, .string ss, .slice ya k.len yc] TrT) := (setCellB (j := 5) (u := .slice ya k.len yc) (setCellB (j := 4) (u := .string ss) (setCellB (j := 3) (u := .int .u64 uu) (setCellB (j := 2) (u := .int .i64 tt) (setCellB (j := 1) (u := .int .i64 ff) (setCellB (j := 0) (u := .int .i64 kz) hb2))))))
        have hg36 : wr.grownBy ((((((wr.setCell ⟨w.heap.size + 1, 0, none⟩ (.int .i64 kz)).setCell ⟨w.heap.size + 1, 1, none⟩ (.int .i64 ff)).setCell ⟨w.heap.size + 1, 2, none⟩ (.int .i64 tt)).setCell ⟨w.heap.size + 1, 3, none⟩ (.int .u64 uu)).setCell ⟨w.heap.size + 1, 4, none⟩ (.string ss)).setCell ⟨w.heap.size + 1, 5, none⟩ (.slice ya k.len yc)) (some (w.heap.size + 1)) := ((((((grownBy_set _ _ _ _).trans (grownBy_set _ _ _ _)).trans (grownBy_set _ _ _ _)).trans (grownBy_set _ _ _ _)).trans (grownBy_set _ _ _ _)).trans (grownBy_set _ _ _ _))
        have HB6 := Lib.hid hb6
        have H6 := Lib.hid h6
        have HG6 := Lib.hid hg36
        clear hb1 hb2 hb3 hbr hb6 h6 hg36
        have hk0 : (0 : Int) ≤ (k.len : Int) := by omega
        have hk1 : (k.len : Int) < 6001 := by omega
        go_wp2_with fail
        clear x5 r0 r1 r2 r3 r4 r5 q0 q1 q2 q3 q4 q5 y0 y1 y2 y3 y4 y5
        generalize ((((((wr.setCell ⟨w.heap.size + 1, 0, none⟩ (.int .i64 kz)).setCell ⟨w.heap.size + 1, 1, none⟩ (.int .i64 ff)).setCell ⟨w.heap.size + 1, 2, none⟩ (.int .i64 tt)).setCell ⟨w.heap.size + 1, 3, none⟩ (.int .u64 uu)).setCell ⟨w.heap.size + 1, 4, none⟩ (.string ss)).setCell ⟨w.heap.size + 1, 5, none⟩ (.slice ya k.len yc)) = W6 at *
        have h6 := H6.out
        have d0 := cellB (j := 0) h6 rfl
        have d1 := cellB (j := 1) h6 rfl
        have d2 := cellB (j := 2) h6 rfl
        have d3 := cellB (j := 3) h6 rfl
        have d4 := cellB (j := 4) h6 rfl
        have d5 := cellB (j := 5) h6 rfl
        have hrow : RowF W6 (NewT w W6) (done.map (vtP who)) xs := HROW.out.keep (fun bb hg hl => by
          obtain ⟨p1, p2, cs, p3⟩ := hg
          have p4 : W6.heap[bb]? = some (Obj.cells cs TrT) := by
            rw [HG6.out.block bb (Array.getElem?_eq_some_iff.1 p3).1 (fun e => by cases e; omega)]; exact p3
          exact ⟨⟨by omega, cs, p4⟩, by rw [p4, p3]⟩)
        have hown6 : W6.ownsRow (w.heap.size + 3) TrT 6 (.slice ya k.len yc) k.len (xs ++ []) := by
          rw [List.append_nil]
          exact own_kept HOWN.out HG6.out (fun r e e' => by cases e; have := (own_type HOWN.out e').1; omega)
        refine bodyPost_ret (v := .agg #[.int .i64 kz, .int .i64 ff, .int .i64 tt, .int .u64 uu, .string ss, .slice ya k.len yc]) (by simp [results, Tryz.results31, go_sem, d0, d1, d2, d3, d4, d5]) rfl ⟨_, (by rw [HKZ.out]; rfl), ?_, HB6.out⟩
        have hfin := isK_row (G := NewT w W6) hown6 rfl (show (done.map (vtP who)).length ≤ k.len by rw [List.length_map, HDK.out]; exact Nat.le_refl _) hrow (fun b e => by
          obtain ⟨p1, cs, p2⟩ := own_type hown6 e
          exact ⟨by omega, cs, p2⟩)
        rw [List.length_map, HDK.out, show foOf (done.map (vtP who)) = mapF (vtT who) k by rw [HKA.out]; exact (foOf_map_vt who done).symm] at hfin
        exact hfin
theorem vt_all {who : Int} {N : Nat} (n : Nd) (k : Fo) : vtC who N n k := tree_all vt_step n k
theorem vt_any (who : Int) (n : Nd) (k : Fo) {w : World} {v : Value} {G : Nat → Prop} (hk : IsK w G v k) (hs : k.size ≤ 6000) : Calls Tryz.prog 31 #[.int .i64 who, .agg (treeA n v)] w (vtPost w who n k) :=
  vt_all n k w v (hk.keep fun b _ hl => ⟨hl, rfl⟩) (Nat.le_refl _) hs
end Go.Proofs.YtgaklaajbepfaaaGreatDoor
namespace Go.Proofs.YtgaklaajbepfaaaGreatDoor
open Go.RowKit Go.Maps
set_option linter.unusedVariables false

/-- What Swap makes of a kind. -/
def makeTK (who k f t : Int) : Int := if (k == 8 && t == who) = true then 9 else k
def vsT (who : Int) (n : Nd) : Nd := ⟨makeTK who n.kind n.frm n.to, n.frm, n.to, n.num, n.text, n.a, n.b⟩
def vsP (who : Int) (x : Nd × Fo) : Nd × Fo := (vsT who x.1, mapF (vsT who) x.2)
theorem foOf_map_vs (who : Int) : ∀ l : List (Nd × Fo), mapF (vsT who) (foOf l) = foOf (l.map (vsP who))
  | [] => rfl
  | x :: l => by simp only [foOf, mapF, List.map_cons, vsP, foOf_map_vs who l]
def vsPost (w : World) (who : Int) (n : Nd) (k : Fo) (e : Ending) (w' : World) : Prop := ∃ v, e = .returned (.agg (treeA (vsT who n) v)) ∧ IsK w' (NewT w w') v (mapF (vsT who) k) ∧ Below w.heap.size w w'
def vsC (who : Int) (N : Nat) (n : Nd) (k : Fo) : Prop := ∀ (w : World) (v : Value), IsK w (fun b => b < N) v k → N ≤ w.heap.size → k.size ≤ 6000 → Calls Tryz.prog 33 #[.int .i64 who, .agg (treeA n v)] w (vsPost w who n k)
set_option maxRecDepth 100000 in
set_option maxHeartbeats 25600000 in
theorem vs_step {who : Int} {N : Nat} (n : Nd) (k : Fo) (ih : AllF (vsC who N) k) : vsC who N n k := by
  intro w v hk hN hsz
  obtain ⟨i0, hi0, hz0, hz1, hz2⟩ := info_parts rowTree
  obtain ⟨av, cv, rfl, hx⟩ := hk.shape
  have hlk := k.len_le
  obtain ⟨kk, ff, tt, uu, ss, xa, xb⟩ := n
  have b1 := bZ w (.cells #[.int .i64 kk, .int .i64 ff, .int .i64 tt, .int .u64 uu, .string ss, .slice av k.len cv] TrT)
  have b2 := bZ (w.alloc (.cells #[.int .i64 kk, .int .i64 ff, .int .i64 tt, .int .u64 uu, .string ss, .slice av k.len cv] TrT)) (.cells #[.int .i64 0, .int .i64 0, .int .i64 0, .int .u64 0, .string ⟨#[]⟩, .slice none 0 0] TrT)
  have b3 := bZ ((w.alloc (.cells #[.int .i64 kk, .int .i64 ff, .int .i64 tt, .int .u64 uu, .string ss, .slice av k.len cv] TrT)).alloc (.cells #[.int .i64 0, .int .i64 0, .int .i64 0, .int .u64 0, .string ⟨#[]⟩, .slice none 0 0] TrT)) (.cells #[.int .i64 kk, .int .i64 ff, .int .i64 tt, .int .u64 uu, .string ss, .slice none 0 0] TrT)
  have b12 := b1.trans (b2.mono b1.size)
  have b123 := b12.trans (b3.mono b12.size)
  have h1 : (((w.alloc (.cells #[.int .i64 kk, .int .i64 ff, .int .i64 tt, .int .u64 uu, .string ss, .slice av k.len cv] TrT)).alloc (.cells #[.int .i64 0, .int .i64 0, .int .i64 0, .int .u64 0, .string ⟨#[]⟩, .slice none 0 0] TrT)).alloc (.cells #[.int .i64 kk, .int .i64 ff, .int .i64 tt, .int .u64 uu, .string ss, .slice none 0 0] TrT)).heap[w.heap.size]? = some (Obj.cells #[.int .i64 kk, .int .i64 ff, .int .i64 tt, .int .u64 uu, .string ss, .slice av k.len cv] TrT) := Hold.below b3 _ _ (Hold.below b2 _ _ (heap_alloc_new _ _))
  have h2 : (((w.alloc (.cells #[.int .i64 kk, .int .i64 ff, .int .i64 tt, .int .u64 uu, .string ss, .slice av k.len cv] TrT)).alloc (.cells #[.int .i64 0, .int .i64 0, .int .i64 0, .int .u64 0, .string ⟨#[]⟩, .slice none 0 0] TrT)).alloc (.cells #[.int .i64 kk, .int .i64 ff, .int .i64 tt, .int .u64 uu, .string ss, .slice none 0 0] TrT)).heap[w.heap.size + 1]? = some (Obj.cells #[.int .i64 0, .int .i64 0, .int .i64 0, .int .u64 0, .string ⟨#[]⟩, .slice none 0 0] TrT) := by
    have e : w.heap.size + 1 = (w.alloc (.cells #[.int .i64 kk, .int .i64 ff, .int .i64 tt, .int .u64 uu, .string ss, .slice av k.len cv] TrT)).heap.size := by simp
    rw [e]; exact Hold.below b3 _ _ (heap_alloc_new _ _)
  have h3 : (((w.alloc (.cells #[.int .i64 kk, .int .i64 ff, .int .i64 tt, .int .u64 uu, .string ss, .slice av k.len cv] TrT)).alloc (.cells #[.int .i64 0, .int .i64 0, .int .i64 0, .int .u64 0, .string ⟨#[]⟩, .slice none 0 0] TrT)).alloc (.cells #[.int .i64 kk, .int .i64 ff, .int .i64 tt, .int .u64 uu, .string ss, .slice none 0 0] TrT)).heap[w.heap.size + 2]? = some (Obj.cells #[.int .i64 kk, .int .i64 ff, .int .i64 tt, .int .u64 uu, .string ss, .slice none 0 0] TrT) := by
    have e : w.heap.size + 2 = ((w.alloc (.cells #[.int .i64 kk, .int .i64 ff, .int .i64 tt, .int .u64 uu, .string ss, .slice av k.len cv] TrT)).alloc (.cells #[.int .i64 0, .int .i64 0, .int .i64 0, .int .u64 0, .string ⟨#[]⟩, .slice none 0 0] TrT)).heap.size := by simp
    rw [e]; exact heap_alloc_new _ _
  have HX := Lib.hid hx
  have HS : Hid ((((w.alloc (.cells #[.int .i64 kk, .int .i64 ff, .int .i64 tt, .int .u64 uu, .string ss, .slice av k.len cv] TrT)).alloc (.cells #[.int .i64 0, .int .i64 0, .int .i64 0, .int .u64 0, .string ⟨#[]⟩, .slice none 0 0] TrT)).alloc (.cells #[.int .i64 kk, .int .i64 ff, .int .i64 tt, .int .u64 uu, .string ss, .slice none 0 0] TrT)).heap.size = w.heap.size + 3) := Lib.hid (by simp)
  have HI := Lib.hid ih
  have HB1 := Lib.hid h1
  have HB2 := Lib.hid h2
  have HB3 := Lib.hid h3
  have HA := Lib.hid b123
  clear hk hx ih b1 b2 b3 b12 b123 h1 h2 h3
  simp only [treeA] at *
  go_enter Tryz.func33, Tryz.ntmps33
  go_upto_region 3 with fail
  generalize (((w.alloc (.cells #[.int .i64 kk, .int .i64 ff, .int .i64 tt, .int .u64 uu, .string ss, .slice av k.len cv] TrT)).alloc (.cells #[.int .i64 0, .int .i64 0, .int .i64 0, .int .u64 0, .string ⟨#[]⟩, .slice none 0 0] TrT)).alloc (.cells #[.int .i64 kk, .int .i64 ff, .int .i64 tt, .int .u64 uu, .string ss, .slice none 0 0] TrT)) = W at *
  have p0 : W.cell? ⟨w.heap.size + 2, 0, none⟩ = some (.int .i64 kk) := cellB (j := 0) HB3.out rfl
  have p1 : W.cell? ⟨w.heap.size, 1, none⟩ = some (.int .i64 ff) := cellB (j := 1) HB1.out rfl
  have p2 : W.cell? ⟨w.heap.size, 2, none⟩ = some (.int .i64 tt) := cellB (j := 2) HB1.out rfl
  have p3 : W.frozen? ⟨w.heap.size + 2, 0, none⟩ = false := frozenB (j := 0) HB3.out
  go_cut [17] (fun s wx => W = wx ∧ s = .bool (kk == 8 && tt == who))
  case first =>
    by_cases h9 : kk = 8
    · have e9 : (kk == (8 : Int)) = true := by rw [h9]; rfl
      clear h9
      go_wp2_with fail
      go_meet
      exact ⟨by trivial, by rw [e9]; rfl⟩
    · have e9 : (kk == (8 : Int)) = false := by simpa using h9
      clear h9
      go_wp2_with fail
      go_meet
      exact ⟨by trivial, by rw [e9]; rfl⟩
  case rest =>
  obtain ⟨rfl, rfl⟩ := hcut
  have HZC : Hid (makeTK who kk ff tt = if (kk == 8 && tt == who) = true then 9 else kk) := Lib.hid rfl
  generalize (kk == 8 && tt == who) = cz at *
  go_upto_if 17 with fail
  go_cut [] (fun wx => wx.heap[w.heap.size]? = some (Obj.cells #[.int .i64 kk, .int .i64 ff, .int .i64 tt, .int .u64 uu, .string ss, .slice av k.len cv] TrT) ∧ wx.heap[w.heap.size + 1]? = some (Obj.cells #[.int .i64 0, .int .i64 0, .int .i64 0, .int .u64 0, .string ⟨#[]⟩, .slice none 0 0] TrT) ∧ wx.heap[w.heap.size + 2]? = some (Obj.cells #[.int .i64 (makeTK who kk ff tt), .int .i64 ff, .int .i64 tt, .int .u64 uu, .string ss, .slice none 0 0] TrT) ∧ Below w.heap.size w wx ∧ wx.heap.size = w.heap.size + 3)
  case first =>
    have HQ : Hid (∀ u : Value, (W.setCell ⟨w.heap.size + 2, 0, none⟩ u).heap[w.heap.size]? = some (Obj.cells #[.int .i64 kk, .int .i64 ff, .int .i64 tt, .int .u64 uu, .string ss, .slice av k.len cv] TrT) ∧ (W.setCell ⟨w.heap.size + 2, 0, none⟩ u).heap[w.heap.size + 1]? = some (Obj.cells #[.int .i64 0, .int .i64 0, .int .i64 0, .int .u64 0, .string ⟨#[]⟩, .slice none 0 0] TrT) ∧ Below w.heap.size w (W.setCell ⟨w.heap.size + 2, 0, none⟩ u) ∧ (W.setCell ⟨w.heap.size + 2, 0, none⟩ u).heap.size = w.heap.size + 3) := Lib.hid fun u => ⟨((grownBy_set W (w.heap.size + 2) 0 u).block w.heap.size (Array.getElem?_eq_some_iff.1 HB1.out).1 (fun e => by have := Option.some.inj e; omega)).trans HB1.out, ((grownBy_set W (w.heap.size + 2) 0 u).block (w.heap.size + 1) (Array.getElem?_eq_some_iff.1 HB2.out).1 (fun e => by have := Option.some.inj e; omega)).trans HB2.out, HA.out.setCell (p := ⟨w.heap.size + 2, 0, none⟩) (by simp) u, by simpa [World.setCell] using HS.out⟩
    cases cz with
    | true =>
      go_wp2_with fail
      go_meet
      exact ⟨(HQ.out _).1, (HQ.out _).2.1, by rw [HZC.out]; exact setCellB (j := 0) HB3.out, (HQ.out _).2.2.1, (HQ.out _).2.2.2⟩
    | false =>
      go_wp2_with fail
      go_meet
      exact ⟨HB1.out, HB2.out, by rw [HZC.out]; exact HB3.out, HA.out, HS.out⟩
  case rest =>
    obtain ⟨hb1', hb2', hb3', hbA, hbS⟩ := hcut
    clear HB1 HB2 HB3 HA HS p0 p1 p2 p3
    have HB1 := Lib.hid hb1'
    have HB2 := Lib.hid hb2'
    have HB3 := Lib.hid hb3'
    have HA := Lib.hid hbA
    have HS := Lib.hid hbS
    clear hb1' hb2' hb3' hbA hbS
    obtain ⟨kz, hkz⟩ : ∃ kz, kz = makeTK who kk ff tt := ⟨_, rfl⟩
    rw [← hkz] at HB3
    have HKZ := Lib.hid hkz
    clear hkz
    go_wp2_with fail
    go_loopw [6] (fun vi wr => ∃ (i : Nat) (r : Fo) (done : List (Nd × Fo)) (ya : Option Addr) (yc : Nat) (xs : List Value), vi = .int .i64 (i : Int) ∧ i + r.len = k.len ∧ done.length = i ∧ k = foApp done r ∧ AllF (vsC who N) r ∧ (0 < r.len → ∃ b o, av = some ⟨b, o, none⟩ ∧ b < N ∧ AtF w (fun b => b < N) r b (o + i * 6)) ∧ wr.heap[w.heap.size]? = some (Obj.cells #[.int .i64 kk, .int .i64 ff, .int .i64 tt, .int .u64 uu, .string ss, .slice av k.len cv] TrT) ∧ wr.heap[w.heap.size + 1]? = some (Obj.cells #[.int .i64 0, .int .i64 0, .int .i64 0, .int .u64 0, .string ⟨#[]⟩, .slice none 0 0] TrT) ∧ wr.heap[w.heap.size + 2]? = some (Obj.cells #[.int .i64 kz, .int .i64 ff, .int .i64 tt, .int .u64 uu, .string ss, .slice ya i yc] TrT) ∧ wr.ownsRow (w.heap.size + 3) TrT 6 (.slice ya i yc) i xs ∧ RowF wr (ButT (w.heap.size + 3) (Value.slice ya i yc).ownBlock wr) (done.map (vsP who)) xs ∧ Below w.heap.size w wr ∧ w.heap.size + 3 ≤ wr.heap.size) (fun v _ => k.len - (intOf v).toNat)
    case atStart => exact ⟨0, k, [], none, 0, [], rfl, by omega, rfl, rfl, HI.out, fun hp => by obtain ⟨b, o, q1, q2, q3⟩ := HX.out hp; exact ⟨b, o, q1, q2, by simpa using q3⟩, HB1.out, HB2.out, HB3.out, World.ownsRow_nil _ _ _ 6, rfl, HA.out, by rw [HS.out]; exact Nat.le_refl _⟩
    case round =>
      obtain ⟨i, r, done, ya, yc, xs, rfl, hi, hdl, hka, hall, hat, hb1, hb2, hb3, hown, hrow, hbr, hsz3⟩ := hrel
      have HBR := Lib.hid hbr
      have HBX := Lib.hid hb1
      have HBY := Lib.hid hb2
      have HBZ := Lib.hid hb3
      have HOWN := Lib.hid hown
      have HROW := Lib.hid hrow
      have HSZ3 := Lib.hid hsz3
      clear hown hrow HX HI
      by_cases hlt : 0 < r.len
      · obtain ⟨n', kd, rr, rfl⟩ := fo_pos hlt
        simp only [Fo.len] at hi
        obtain ⟨b, o, rfl, hbN, hat'⟩ := hat hlt
        obtain ⟨c0, c1, c2, c3, c4, v', c5, hk', hat2⟩ := hat'.cons
        obtain ⟨av2, cv2, rfl, _⟩ := hk'.shape
        have hbw : b < w.heap.size := Nat.lt_of_lt_of_le hbN hN
        have hkr := (hk'.below HBR.out).below (bd wr)
        have hkd : kd.size ≤ 6000 := by
          have h1 := foApp_size done (.cons n' kd rr)
          rw [← hka] at h1
          simp only [Fo.size] at h1
          omega
        have HK := Lib.hid (hall.1 wr.drew (.slice av2 kd.len cv2) hkr (Nat.le_trans hN (HBR.out.size)) hkd)
        have hilt : i < 6000 := by omega
        have HALL := Lib.hid hall.2
        have HAT := Lib.hid hat2
        have HKA := Lib.hid (show k = foApp (done ++ [(n', kd)]) rr by rw [foApp_snoc]; exact hka)
        have e0 := bcellAt HBR.out c0
        have e1 := bcellAt HBR.out c1
        have e2 := bcellAt HBR.out c2
        have e3 := bcellAt HBR.out c3
        have e4 := bcellAt HBR.out c4
        have e5 := bcellAt HBR.out c5
        clear hall hat2 hat hat' hk' hkr hkd hka c0 c1 c2 c3 c4 c5 hbr
        obtain ⟨k2, f2, t2, u2, s2, y2, z2⟩ := n'
        simp only [treeA] at *
        have x5 := cellB (j := 5) hb1 rfl
        have y5 := cellB (j := 5) hb3 rfl
        clear hb1 hb2 hb3
        have hi0' : (0 : Int) ≤ (i : Int) := by omega
        have hi1 : (i : Int) < (k.len : Int) := by omega
        go_wp2_with fail
        have hfk : ∀ V : World, (∀ (b o : Nat) (u : Value), wr.cell? ⟨b, o, none⟩ = some u → b < w.heap.size ∨ b = w.heap.size ∨ b = w.heap.size + 2 → V.cell? ⟨b, o, none⟩ = some u) → V.cell? ⟨w.heap.size + 2, 5, none⟩ = some (.slice ya i yc) ∧ V.cell? ⟨w.heap.size, 5, none⟩ = some (.slice (some ⟨b, o, none⟩) k.len cv) ∧ V.cell? ⟨b, o + i * 6, none⟩ = some (.int .i64 k2) ∧ V.cell? ⟨b, o + i * 6 + 1, none⟩ = some (.int .i64 f2) ∧ V.cell? ⟨b, o + i * 6 + 2, none⟩ = some (.int .i64 t2) ∧ V.cell? ⟨b, o + i * 6 + 3, none⟩ = some (.int .u64 u2) ∧ V.cell? ⟨b, o + i * 6 + 4, none⟩ = some (.string s2) ∧ V.cell? ⟨b, o + i * 6 + 5, none⟩ = some (.slice av2 kd.len cv2) := fun V hV => ⟨hV _ _ _ y5 (by omega), hV _ _ _ x5 (by omega), hV _ _ _ e0 (by omega), hV _ _ _ e1 (by omega), hV _ _ _ e2 (by omega), hV _ _ _ e3 (by omega), hV _ _ _ e4 (by omega), hV _ _ _ e5 (by omega)⟩
        have HFK := Lib.hid hfk
        have hF0 := HFK.out wr.drew (fun b o u h _ => bcellAt (bd wr) h)
        clear hfk e0 e1 e2 e3 e4 e5 x5 y5
        refine lexg_start [0, 1, 2, 3, 4, 5, 6, 7, 8, 9, 10, 11, 12] 12 (F := fun W => W.cell? ⟨w.heap.size + 2, 5, none⟩ = some (.slice ya i yc) ∧ W.cell? ⟨w.heap.size, 5, none⟩ = some (.slice (some ⟨b, o, none⟩) k.len cv) ∧ W.cell? ⟨b, o + i * 6, none⟩ = some (.int .i64 k2) ∧ W.cell? ⟨b, o + i * 6 + 1, none⟩ = some (.int .i64 f2) ∧ W.cell? ⟨b, o + i * 6 + 2, none⟩ = some (.int .i64 t2) ∧ W.cell? ⟨b, o + i * 6 + 3, none⟩ = some (.int .u64 u2) ∧ W.cell? ⟨b, o + i * 6 + 4, none⟩ = some (.string s2) ∧ W.cell? ⟨b, o + i * 6 + 5, none⟩ = some (.slice av2 kd.len cv2)) (by kernel_rfl) ?_
        simp only [inOrder, List.filterMap, List.getElem?_cons_succ, List.getElem?_cons_zero]
        refine lexg_take (i := 0) (v := ?_) rfl (by decide) (by kernel_rfl) (by kernel_rfl) (by kernel_rfl) (by kernel_rfl) (by rfl) hF0 ?_ ?_
        rotate_left
        · ((intro W hW; obtain ⟨k0, k1, k3, k4, k5, k6, k7, k8⟩ := hW; go_simp) <;> with_reducible rfl)
        simp only [Act.put, List.setIfInBounds_toArray, List.set_cons_zero, List.set_cons_succ]
        refine lexg_take (i := 1) (v := ?_) rfl (by decide) (by kernel_rfl) (by kernel_rfl) (by kernel_rfl) (by kernel_rfl) (by rfl) hF0 ?_ ?_
        rotate_left
        · ((intro W hW; obtain ⟨k0, k1, k3, k4, k5, k6, k7, k8⟩ := hW; go_simp) <;> with_reducible rfl)
        simp only [Act.put, List.setIfInBounds_toArray, List.set_cons_zero, List.set_cons_succ]
        refine lexg_take (i := 2) (v := ?_) rfl (by decide) (by kernel_rfl) (by kernel_rfl) (by kernel_rfl) (by kernel_rfl) (by rfl) hF0 ?_ ?_
        rotate_left
        · ((intro W hW; obtain ⟨k0, k1, k3, k4, k5, k6, k7, k8⟩ := hW; go_simp) <;> with_reducible rfl)
        simp only [Act.put, List.setIfInBounds_toArray, List.set_cons_zero, List.set_cons_succ]
        refine lexg_take (i := 3) (v := ?_) rfl (by decide) (by kernel_rfl) (by kernel_rfl) (by kernel_rfl) (by kernel_rfl) (by rfl) hF0 ?_ ?_
        rotate_left
        · ((intro W hW; obtain ⟨k0, k1, k3, k4, k5, k6, k7, k8⟩ := hW; go_simp) <;> with_reducible rfl)
        simp only [Act.put, List.setIfInBounds_toArray, List.set_cons_zero, List.set_cons_succ]
        refine lexg_take (i := 4) (v := ?_) rfl (by decide) (by kernel_rfl) (by kernel_rfl) (by kernel_rfl) (by kernel_rfl) (by rfl) hF0 ?_ ?_
        rotate_left
        · ((intro W hW; obtain ⟨k0, k1, k3, k4, k5, k6, k7, k8⟩ := hW; go_simp) <;> with_reducible rfl)
        simp only [Act.put, List.setIfInBounds_toArray, List.set_cons_zero, List.set_cons_succ]
        refine lexg_take (i := 5) (v := ?_) rfl (by decide) (by kernel_rfl) (by kernel_rfl) (by kernel_rfl) (by kernel_rfl) (by rfl) hF0 ?_ ?_
        rotate_left
        · ((intro W hW; obtain ⟨k0, k1, k3, k4, k5, k6, k7, k8⟩ := hW; go_simp) <;> with_reducible rfl)
        simp only [Act.put, List.setIfInBounds_toArray, List.set_cons_zero, List.set_cons_succ]
        refine lexg_take (i := 6) (v := ?_) rfl (by decide) (by kernel_rfl) (by kernel_rfl) (by kernel_rfl) (by kernel_rfl) (by rfl) hF0 ?_ ?_
        rotate_left
        · ((intro W hW; obtain ⟨k0, k1, k3, k4, k5, k6, k7, k8⟩ := hW; go_simp) <;> with_reducible rfl)
        simp only [Act.put, List.setIfInBounds_toArray, List.set_cons_zero, List.set_cons_succ]
        refine lexg_take (i := 7) (v := ?_) rfl (by decide) (by kernel_rfl) (by kernel_rfl) (by kernel_rfl) (by kernel_rfl) (by rfl) hF0 ?_ ?_
        rotate_left
        · ((intro W hW; obtain ⟨k0, k1, k3, k4, k5, k6, k7, k8⟩ := hW; go_simp) <;> with_reducible rfl)
        simp only [Act.put, List.setIfInBounds_toArray, List.set_cons_zero, List.set_cons_succ]
        refine lexg_call (i := 8) rfl (by kernel_rfl) (by rfl) ?_ _ HK.out ?_
        · go_simp
        rintro e w1 ⟨v1, rfl, hv1, u1⟩
        obtain ⟨va, vc, hva, _⟩ := hv1.shape
        rw [mapF_len] at hva
        subst hva
        have bA := bmore (bd wr) u1
        refine ⟨_, rfl, fun _ => HFK.out w1 (fun b o u h _ => bcellAt bA h), ?_⟩
        simp only [treeA, vsT, Act.put, List.setIfInBounds_toArray, List.set_cons_zero, List.set_cons_succ]
        have hszA := bA.size
        refine lexg_do (i := 9) rfl (by kernel_rfl) (by rfl) (fun K hK => ?_)
        go_simp
        have bC := bZ w1 (.cells #[.int .i64 (makeTK who k2 f2 t2), .int .i64 f2, .int .i64 t2, .int .u64 u2, .string s2, .slice va kd.len vc] 62)
        have bAC := bmore bA bC
        have hownC := own_hold HOWN.out (Hold.below bAC)
        have HBAC := Lib.hid bAC
        have HV1 := Lib.hid hv1
        have HBC := Lib.hid bC
        have HBA := Lib.hid bA
        refine hK _ _ ⟨fun _ => HFK.out _ (fun b o u h _ => bcellAt bAC h), ?_⟩
        clear hK K
        refine lexg_do (i := 10) rfl (by kernel_rfl) (by rfl) (fun K hK => ?_)
        refine wp_append_at _ _ _ 22 rfl (w.heap.size + 3) TrT i0 (.agg #[.int .i64 0, .int .i64 0, .int .i64 0, .int .u64 0, .string ⟨#[]⟩, .slice none 0 0]) 6 72 Tryz.underlying22 hi0 hz0 hz1 hz2 rfl (by decide) (.slice ya i yc) i xs rfl hownC ⟨w1.heap.size, 0, none⟩ 1 1 [.int .i64 (makeTK who k2 f2 t2), .int .i64 f2, .int .i64 t2, .int .u64 u2, .string s2, .slice va kd.len vc] rfl (by decide) rfl (news6 w1 _ _ _ _ _ _ _) (by simp [Value.oneCell']) (by unfold maxLen; omega) (by omega) (by have := HSZ3.out; have := bC.size; omega) ?_
        intro v3 w3 hown3 hg3 hp3
        obtain ⟨za, zc, rfl⟩ := (row_of_own hown3).shape
        have hyo : ∀ g, (Value.slice ya i yc).ownBlock = some g → w.heap.size + 3 ≤ g ∧ g < wr.heap.size := fun g e => by
          obtain ⟨hB, cur, hc⟩ := own_type HOWN.out e
          exact ⟨hB, (Array.getElem?_eq_some_iff.1 hc).1⟩
        have hkb : ∀ (b : Nat) (u : Obj), wr.heap[b]? = some u → (Value.slice ya i yc).ownBlock ≠ some b → w3.heap[b]? = some u := fun b u h hn => by
          have hl := (Array.getElem?_eq_some_iff.1 h).1
          rw [hg3.block b (Nat.lt_of_lt_of_le hl HBAC.out.size) (fun e => hn e.symm), HBAC.out.block b hl]; exact h
        have hkb1 : ∀ (b : Nat) (u : Obj), w1.heap[b]? = some u → wr.heap.size ≤ b → w3.heap[b]? = some u := fun b u h hn => by
          have hl := (Array.getElem?_eq_some_iff.1 h).1
          rw [hg3.block b (Nat.lt_of_lt_of_le hl HBC.out.size) (fun e => by have := (hyo b e.symm).2; omega), HBC.out.block b hl]; exact h
        have hz3 := hkb _ _ HBZ.out (fun e => by have := (hyo _ e).1; omega)
        have hF3 := HFK.out w3 (fun b o u h hb => by
          have hl := World.block_lt_of_cell? wr _ h
          rw [cell_of_heap (show w3.heap[b]? = wr.heap[b]? from by
            rw [hg3.block b (Nat.lt_of_lt_of_le hl HBAC.out.size) (fun e => by have := (hyo _ e.symm).1; omega), HBAC.out.block b hl])]
          exact h)
        have HKB := Lib.hid hkb
        have HKB1 := Lib.hid hkb1
        have HYO := Lib.hid hyo
        have HG3 := Lib.hid hg3
        have HP3 := Lib.hid hp3
        have HOWN3 := Lib.hid hown3
        have HZ3 := Lib.hid hz3
        clear hkb hkb1 hyo hg3 hp3 hown3 hownC bA bC bAC hv1 u1
        refine hK _ _ ⟨fun _ => hF3, ?_⟩
        clear hK K
        try simp only [Act.put, List.setIfInBounds_toArray, List.set_cons_zero, List.set_cons_succ]
        refine lexg_take (i := 11) (v := ?_) rfl (by decide) (by kernel_rfl) (by kernel_rfl) (by kernel_rfl) (by kernel_rfl) (by rfl) hF3 ?_ ?_
        rotate_left
        · ((intro W hW; obtain ⟨k0, k1, k3, k4, k5, k6, k7, k8⟩ := hW; go_simp) <;> with_reducible rfl)
        simp only [Act.put, List.setIfInBounds_toArray, List.set_cons_zero, List.set_cons_succ]
        have x5 := cellB (j := 5) hz3 rfl
        have f5 := frozenB (j := 5) hz3
        refine lexg_do (i := 12) rfl (by kernel_rfl) (by rfl) (fun K hK => ?_)
        go_simp
        have hz4 := setCellB (j := 5) (u := .slice za (i + 1) zc) hz3
        have HZ4 := Lib.hid hz4
        have HGS := Lib.hid (grownBy_set w3 (w.heap.size + 2) 5 (.slice za (i + 1) zc))
        refine hK _ _ ⟨fun h => absurd rfl h, ?_⟩
        clear hK K x5 f5 hF3 hF0 hz3 hz4
        refine lexg_done (by kernel_rfl) ?_
        generalize (w3.setCell ⟨w.heap.size + 2, 5, none⟩ (.slice za (i + 1) zc)) = w4 at *
        go_wp2_with fail
        have hyo3 : ∀ g, (Value.slice za (i + 1) zc).ownBlock = some g → w.heap.size + 3 ≤ g := fun g e => (own_type HOWN3.out e).1
        have h34 : ∀ (b : Nat) (u : Obj), w3.heap[b]? = some u → b ≠ w.heap.size + 2 → w4.heap[b]? = some u := fun b u h hn => by
          rw [HGS.out.block b (Array.getElem?_eq_some_iff.1 h).1 (fun e => hn (by cases e; rfl))]; exact h
        have hb4 : Below w.heap.size w w4 := ((HBR.out.trans (HBAC.out.mono (by omega))).grown HG3.out (by have := HBAC.out.size; omega) (fun g e => by have := (HYO.out g e).1; omega)).grown HGS.out (by have := HG3.out.size; have := HBAC.out.size; omega) (fun g e => by cases e; omega)
        have hsz4 : w.heap.size + 3 ≤ w4.heap.size := by have := HG3.out.size; have := HBAC.out.size; have := HGS.out.size; have := HSZ3.out; omega
        have hrow4 : RowF w4 (ButT (w.heap.size + 3) (Value.slice za (i + 1) zc).ownBlock w4) (done.map (vsP who)) xs := HROW.out.keep (fun bb hg hl => by
          obtain ⟨q1, q2, cs, q3⟩ := hg
          have q4 := h34 _ _ (HKB.out _ _ q3 q2) (by omega)
          refine ⟨⟨q1, fun e => ?_, cs, q4⟩, by rw [q4, q3]⟩
          rcases HP3.out with h | h
          · exact q2 (h.symm.trans e)
          · rw [h] at e; cases e; have := HBAC.out.size; omega)
        have hkid4 : IsK w4 (ButT (w.heap.size + 3) (Value.slice za (i + 1) zc).ownBlock w4) (.slice va kd.len vc) (mapF (vsT who) kd) := HV1.out.keep (fun bb hg hl => by
          obtain ⟨q1, cs, q3⟩ := hg
          have q1' : wr.heap.size ≤ bb := q1
          have q4 := h34 _ _ (HKB1.out _ _ q3 q1') (by have := HSZ3.out; omega)
          refine ⟨⟨by have := HSZ3.out; omega, fun e => ?_, cs, q4⟩, by rw [q4, q3]⟩
          rcases HP3.out with h | h
          · have := (HYO.out bb (h.symm.trans e)).2; omega
          · rw [h] at e; cases e; have := HBC.out.size; omega)
        have hwa : w.heap.size < w3.heap.size ∧ w.heap.size + 1 < w3.heap.size := by have := HG3.out.size; have := HBAC.out.size; have := HSZ3.out; omega
        go_roundw
        case rel => exact ⟨i + 1, rr, done ++ [(⟨k2, f2, t2, u2, s2, y2, z2⟩, kd)], za, zc, _, by go_num, by omega, by simp [hdl], HKA.out, HALL.out, fun _ => ⟨b, o, rfl, hbN, by rw [show o + (i + 1) * 6 = o + i * 6 + 6 by omega]; exact HAT.out⟩, h34 _ _ (HKB.out _ _ HBX.out (fun e => by have := (HYO.out _ e).1; omega)) (by omega), h34 _ _ (HKB.out _ _ HBY.out (fun e => by have := (HYO.out _ e).1; omega)) (by omega), HZ4.out, own_kept HOWN3.out HGS.out (fun r e e' => by cases e; have := hyo3 _ e'; omega), by rw [List.map_append]; exact RowF.snoc (n := vsT who ⟨k2, f2, t2, u2, s2, y2, z2⟩) hkid4 hrow4, hb4, hsz4⟩
        case measure => simp [intOf]; omega
      · obtain rfl := fo_nil (show r.len = 0 by omega)
        simp only [Fo.len, Nat.add_zero] at hi
        rw [foApp_nil] at hka
        have hdk : done.length = k.len := by omega
        have HKA := Lib.hid hka
        have HDK := Lib.hid hdk
        subst hi
        clear hka hall hat hlt hdl hdk
        have x5 := cellB (j := 5) hb1 rfl
        have r0 := cellB (j := 0) hb2 rfl
        have q0 := frozenB (j := 0) hb2
        have r1 := cellB (j := 1) hb2 rfl
        have q1 := frozenB (j := 1) hb2
        have r2 := cellB (j := 2) hb2 rfl
        have q2 := frozenB (j := 2) hb2
        have r3 := cellB (j := 3) hb2 rfl
        have q3 := frozenB (j := 3) hb2
        have r4 := cellB (j := 4) hb2 rfl
        have q4 := frozenB (j := 4) hb2
        have r5 := cellB (j := 5) hb2 rfl
        have q5 := frozenB (j := 5) hb2
        have y0 := cellB (j := 0) hb3 rfl
        have y1 := cellB (j := 1) hb3 rfl
        have y2 := cellB (j := 2) hb3 rfl
        have y3 := cellB (j := 3) hb3 rfl
        have y4 := cellB (j := 4) hb3 rfl
        have y5 := cellB (j := 5) hb3 rfl
        have hb6 : Below w.heap.size w ((((((wr.setCell ⟨w.heap.size + 1, 0, none⟩ (.int .i64 kz)).setCell ⟨w.heap.size + 1, 1, none⟩ (.int .i64 ff)).setCell ⟨w.heap.size + 1, 2, none⟩ (.int .i64 tt)).setCell ⟨w.heap.size + 1, 3, none⟩ (.int .u64 uu)).setCell ⟨w.heap.size + 1, 4, none⟩ (.string ss)).setCell ⟨w.heap.size + 1, 5, none⟩ (.slice ya k.len yc)) := ((((((hbr.setCell (p := ⟨w.heap.size + 1, 0, none⟩) (Nat.le_succ _) _).setCell (p := ⟨w.heap.size + 1, 1, none⟩) (Nat.le_succ _) _).setCell (p := ⟨w.heap.size + 1, 2, none⟩) (Nat.le_succ _) _).setCell (p := ⟨w.heap.size + 1, 3, none⟩) (Nat.le_succ _) _).setCell (p := ⟨w.heap.size + 1, 4, none⟩) (Nat.le_succ _) _).setCell (p := ⟨w.heap.size + 1, 5, none⟩) (Nat.le_succ _) _)
        have h6 : ((((((wr.setCell ⟨w.heap.size + 1, 0, none⟩ (.int .i64 kz)).setCell ⟨w.heap.size + 1, 1, none⟩ (.int .i64 ff)).setCell ⟨w.heap.size + 1, 2, none⟩ (.int .i64 tt)).setCell ⟨w.heap.size + 1, 3, none⟩ (.int .u64 uu)).setCell ⟨w.heap.size + 1, 4, none⟩ (.string ss)).setCell ⟨w.heap.size + 1, 5, none⟩ (.slice ya k.len yc)).heap[w.heap.size + 1]? = some (Obj.cells #[.int .i64 kz, .int .i64 ff, .int .i64 tt, .int .u64 uu, .string ss, .slice ya k.len yc] TrT) := (setCellB (j := 5) (u := .slice ya k.len yc) (setCellB (j := 4) (u := .string ss) (setCellB (j := 3) (u := .int .u64 uu) (setCellB (j := 2) (u := .int .i64 tt) (setCellB (j := 1) (u := .int .i64 ff) (setCellB (j := 0) (u := .int .i64 kz) hb2))))))
        have hg36 : wr.grownBy ((((((wr.setCell ⟨w.heap.size + 1, 0, none⟩ (.int .i64 kz)).setCell ⟨w.heap.size + 1, 1, none⟩ (.int .i64 ff)).setCell ⟨w.heap.size + 1, 2, none⟩ (.int .i64 tt)).setCell ⟨w.heap.size + 1, 3, none⟩ (.int .u64 uu)).setCell ⟨w.heap.size + 1, 4, none⟩ (.string ss)).setCell ⟨w.heap.size + 1, 5, none⟩ (.slice ya k.len yc)) (some (w.heap.size + 1)) := ((((((grownBy_set _ _ _ _).trans (grownBy_set _ _ _ _)).trans (grownBy_set _ _ _ _)).trans (grownBy_set _ _ _ _)).trans (grownBy_set _ _ _ _)).trans (grownBy_set _ _ _ _))
        have HB6 := Lib.hid hb6
        have H6 := Lib.hid h6
        have HG6 := Lib.hid hg36
        clear hb1 hb2 hb3 hbr hb6 h6 hg36
        have hk0 : (0 : Int) ≤ (k.len : Int) := by omega
        have hk1 : (k.len : Int) < 6001 := by omega
        go_wp2_with fail
        clear x5 r0 r1 r2 r3 r4 r5 q0 q1 q2 q3 q4 q5 y0 y1 y2 y3 y4 y5
        generalize ((((((wr.setCell ⟨w.heap.size + 1, 0, none⟩ (.int .i64 kz)).setCell ⟨w.heap.size + 1, 1, none⟩ (.int .i64 ff)).setCell ⟨w.heap.size + 1, 2, none⟩ (.int .i64 tt)).setCell ⟨w.heap.size + 1, 3, none⟩ (.int .u64 uu)).setCell ⟨w.heap.size + 1, 4, none⟩ (.string ss)).setCell ⟨w.heap.size + 1, 5, none⟩ (.slice ya k.len yc)) = W6 at *
        have h6 := H6.out
        have d0 := cellB (j := 0) h6 rfl
        have d1 := cellB (j := 1) h6 rfl
        have d2 := cellB (j := 2) h6 rfl
        have d3 := cellB (j := 3) h6 rfl
        have d4 := cellB (j := 4) h6 rfl
        have d5 := cellB (j := 5) h6 rfl
        have hrow : RowF W6 (NewT w W6) (done.map (vsP who)) xs := HROW.out.keep (fun bb hg hl => by
          obtain ⟨p1, p2, cs, p3⟩ := hg
          have p4 : W6.heap[bb]? = some (Obj.cells cs TrT) := by
            rw [HG6.out.block bb (Array.getElem?_eq_some_iff.1 p3).1 (fun e => by cases e; omega)]; exact p3
          exact ⟨⟨by omega, cs, p4⟩, by rw [p4, p3]⟩)
        have hown6 : W6.ownsRow (w.heap.size + 3) TrT 6 (.slice ya k.len yc) k.len (xs ++ []) := by
          rw [List.append_nil]
          exact own_kept HOWN.out HG6.out (fun r e e' => by cases e; have := (own_type HOWN.out e').1; omega)
        refine bodyPost_ret (v := .agg #[.int .i64 kz, .int .i64 ff, .int .i64 tt, .int .u64 uu, .string ss, .slice ya k.len yc]) (by simp [results, Tryz.results33, go_sem, d0, d1, d2, d3, d4, d5]) rfl ⟨_, (by rw [HKZ.out]; rfl), ?_, HB6.out⟩
        have hfin := isK_row (G := NewT w W6) hown6 rfl (show (done.map (vsP who)).length ≤ k.len by rw [List.length_map, HDK.out]; exact Nat.le_refl _) hrow (fun b e => by
          obtain ⟨p1, cs, p2⟩ := own_type hown6 e
          exact ⟨by omega, cs, p2⟩)
        rw [List.length_map, HDK.out, show foOf (done.map (vsP who)) = mapF (vsT who) k by rw [HKA.out]; exact (foOf_map_vs who done).symm] at hfin
        exact hfin
theorem vs_all {who : Int} {N : Nat} (n : Nd) (k : Fo) : vsC who N n k := tree_all vs_step n k
theorem vs_any (who : Int) (n : Nd) (k : Fo) {w : World} {v : Value} {G : Nat → Prop} (hk : IsK w G v k) (hs : k.size ≤ 6000) : Calls Tryz.prog 33 #[.int .i64 who, .agg (treeA n v)] w (vsPost w who n k) :=
  vs_all n k w v (hk.keep fun b _ hl => ⟨hl, rfl⟩) (Nat.le_refl _) hs
end Go.Proofs.YtgaklaajbepfaaaGreatDoor
namespace Go.Proofs.YtgaklaajbepfaaaGreatDoor
open Go.RowKit Go.Maps Go.Shelf
set_option linter.unusedVariables false

/-- Nodes of a pool are each there once. -/
theorem Ok.at_inj {p : Pl} (h : Ok p) : ∀ {x y : Int}, inP p x = true → inP p y = true → (atP p x).1 = (atP p y).1 → x = y := by
  induction h with
  | nil => intro x y hx; simp [inP] at hx; omega
  | @add p n hp he hn hl ih =>
    intro x y hx hy hxy
    have hnew : ∀ t : Int, inP (addP p n) t = true → ¬ inP p t = true → t = (p.length : Int) + 1 := fun t h1 h2 => by
      unfold inP at h1 h2
      unfold addP at h1
      simp at h1 h2
      omega
    have hat : ∀ t : Int, inP (addP p n) t = true → ¬ inP p t = true → (atP (addP p n) t).1 = n := fun t h1 h2 => by
      have := hnew t h1 h2
      unfold atP
      rw [if_pos h1, this, addP]
      simp [List.getD]
    have hold : ∀ t : Int, inP p t = true → (atP (addP p n) t).1 ≠ n := fun t h1 => by
      rw [addP, atP_append h1]
      obtain ⟨i, hi, _, e⟩ := atP_get h1
      rw [e]
      exact numP_zero.1 hn _ (List.getElem_mem hi)
    by_cases h1 : inP p x = true
    · by_cases h2 : inP p y = true
      · rw [addP, atP_append h1, atP_append h2] at hxy
        exact ih h1 h2 hxy
      · rw [hat y hy h2] at hxy; exact absurd hxy (hold x h1)
    · by_cases h2 : inP p y = true
      · rw [hat x hx h1] at hxy; exact absurd hxy.symm (hold y h2)
      · rw [hnew x hx h1, hnew y hy h2]
/-- What an observer sees of a node itself. -/
def seeN (who : Int) (n : Nd) : Nd := kdN (seeK who n) (abN n 0 0)
theorem seeK_of (who k f t u : Int) (s : ByteArray) (a b : Int) : seeK who ⟨k, f, t, u, s, a, b⟩ = if (twoK k && !tellK who f t) = true then 8 else k := by
  unfold seeK veilB tellB likeB tellK twoK
  show (if ((k == 8 || k == 9) && !((k == 8 || k == 9) && (who == f || (who == t || who == 2)))) = true then (8 : Int) else k) = _
  cases (k == 8 || k == 9) <;> cases (who == f || (who == t || who == 2)) <;> rfl
theorem sameB_see {who : Int} {x y : Nd} : sameB who x y = true ↔ seeN who x = seeN who y := by
  obtain ⟨k, f, t, u, s, a, b⟩ := x
  obtain ⟨k2, f2, t2, u2, s2, a2, b2⟩ := y
  unfold seeN kdN abN
  rw [seeK_of, seeK_of]
  unfold sameB sameN
  rw [decide_eq_true_eq]
  simp only [Nd.mk.injEq, and_true]
  constructor
  · rintro ⟨h1, rfl, rfl, rfl, rfl⟩
    refine ⟨?_, rfl, rfl, rfl, rfl⟩
    unfold veilB tellB likeB at h1
    simp only at h1
    unfold twoK tellK
    cases h3 : (who == f || (who == t || who == 2)) <;> cases h4 : (k == 8 || k == 9) <;> cases h5 : (k2 == 8 || k2 == 9) <;> rw [h3, h4, h5] at h1 <;> simp at h1 ⊢ <;> (try (subst h1)) <;> simp_all
  · rintro ⟨h1, rfl, rfl, rfl, rfl⟩
    refine ⟨?_, rfl, rfl, rfl, rfl⟩
    unfold veilB tellB likeB
    simp only
    unfold twoK tellK at h1
    cases h3 : (who == f || (who == t || who == 2)) <;> cases h4 : (k == 8 || k == 9) <;> cases h5 : (k2 == 8 || k2 == 9) <;> rw [h3, h4, h5] at h1 <;> simp at h1 ⊢ <;> (try (subst h1)) <;> simp_all
theorem sameB_refl (who : Int) (x : Nd) : sameB who x x = true := sameB_see.2 rfl
theorem sameB_symm {who : Int} {x y : Nd} (h : sameB who x y = true) : sameB who y x = true := sameB_see.2 (sameB_see.1 h).symm
theorem sameB_trans {who : Int} {x y z : Nd} (h : sameB who x y = true) (k : sameB who y z = true) : sameB who x z = true := sameB_see.2 ((sameB_see.1 h).trans (sameB_see.1 k))
theorem Bij.refl {p : Pl} (hp : Ok p) (who : Int) : Bij p who (fun x y => x = y ∧ (x = 0 ∨ inP p x = true)) := by
  refine ⟨fun a b b' h k => h.1.symm.trans k.1, fun a a' b h k => h.1.trans k.1.symm, ⟨rfl, .inl rfl⟩, ?_⟩
  rintro a b ⟨rfl, h⟩
  rcases h with h | h
  · exact .inl ⟨h, h⟩
  · obtain ⟨ka, kb⟩ := kid_less hp h
    exact .inr ⟨h, h, sameB_refl _ _, ⟨rfl, ka.imp id (·.1)⟩, ⟨rfl, kb.imp id (·.1)⟩⟩
theorem Bij.symm {p : Pl} {who : Int} {R : Int → Int → Prop} (h : Bij p who R) : Bij p who (fun x y => R y x) :=
  ⟨fun a b b' h1 h2 => h.inj _ _ _ h1 h2, fun a a' b h1 h2 => h.fn _ _ _ h1 h2, h.zero, fun a b hab => (h.step b a hab).imp (fun e => ⟨e.2, e.1⟩) fun ⟨h1, h2, h3, h4, h5⟩ => ⟨h2, h1, sameB_symm h3, h4, h5⟩⟩
theorem Bij.trans {p : Pl} {who : Int} {R S : Int → Int → Prop} (h : Bij p who R) (k : Bij p who S) : Bij p who (fun x z => ∃ y, R x y ∧ S y z) := by
  refine ⟨?_, ?_, ⟨0, h.zero, k.zero⟩, ?_⟩
  · rintro a b b' ⟨y, h1, h2⟩ ⟨y', h3, h4⟩
    obtain rfl := h.fn _ _ _ h1 h3
    exact k.fn _ _ _ h2 h4
  · rintro a a' b ⟨y, h1, h2⟩ ⟨y', h3, h4⟩
    obtain rfl := k.inj _ _ _ h2 h4
    exact h.inj _ _ _ h1 h3
  · rintro a c ⟨y, h1, h2⟩
    rcases h.step _ _ h1 with ⟨rfl, rfl⟩ | ⟨a1, a2, a3, a4, a5⟩
    · exact .inl ⟨rfl, (k.fn _ _ _ k.zero h2).symm⟩
    · rcases k.step _ _ h2 with ⟨rfl, _⟩ | ⟨b1, b2, b3, b4, b5⟩
      · rw [inP_zero] at a2; cases a2
      · exact .inr ⟨a1, b2, sameB_trans a3 b3, ⟨_, a4, b4⟩, ⟨_, a5, b5⟩⟩
theorem Bij.more {p : Pl} {who : Int} {R : Int → Int → Prop} (h : Bij p who R) (e : Pl) : Bij (p ++ e) who R :=
  ⟨h.fn, h.inj, h.zero, fun a b hab => (h.step a b hab).imp id fun ⟨h1, h2, h3, h4, h5⟩ => ⟨inP_le h1 (by simp), inP_le h2 (by simp), by rw [atP_append h1, atP_append h2]; exact h3, by rw [atP_append h1, atP_append h2]; exact h4, by rw [atP_append h1, atP_append h2]; exact h5⟩⟩
theorem AlikeP.refl_iff {p : Pl} (hp : Ok p) {who : Int} {l : List Int} : AlikeP p who l l ↔ nameB who = true ∧ ∀ x ∈ l, inP p x = true :=
  ⟨fun h => ⟨h.1, h.2.1⟩, fun h => ⟨h.1, h.2, h.2, rfl, _, Bij.refl hp who, fun i h1 h2 => ⟨rfl, .inr (h.2 _ (List.getElem_mem h1))⟩⟩⟩
theorem AlikeP.symm {p : Pl} {who : Int} {l m : List Int} (h : AlikeP p who l m) : AlikeP p who m l := by
  obtain ⟨h1, h2, h3, h4, R, h5, h6⟩ := h
  exact ⟨h1, h3, h2, h4.symm, _, h5.symm, fun i a b => h6 i b a⟩
theorem AlikeP.comm {p : Pl} {who : Int} {l m : List Int} : AlikeP p who l m ↔ AlikeP p who m l := ⟨AlikeP.symm, AlikeP.symm⟩
theorem AlikeP.trans {p : Pl} {who : Int} {l m n : List Int} (h : AlikeP p who l m) (k : AlikeP p who m n) : AlikeP p who l n := by
  obtain ⟨h1, h2, h3, h4, R, h5, h6⟩ := h
  obtain ⟨k1, k2, k3, k4, S, k5, k6⟩ := k
  exact ⟨h1, h2, k3, h4.trans k4, _, h5.trans k5, fun i a b => ⟨m[i]'(by omega), h6 i a (by omega), k6 i (by omega) b⟩⟩
theorem AlikeP.take {p : Pl} {who : Int} {l m : List Int} (h : AlikeP p who l m) (i : Nat) : AlikeP p who (l.take i) (m.take i) := by
  obtain ⟨h1, h2, h3, h4, R, h5, h6⟩ := h
  refine ⟨h1, fun x hx => h2 x (List.mem_of_mem_take hx), fun x hx => h3 x (List.mem_of_mem_take hx), by simp [h4], R, h5, fun j a b => ?_⟩
  rw [List.getElem_take, List.getElem_take]
  exact h6 j _ _
theorem AlikeP.more {p : Pl} {who : Int} {l m : List Int} (h : AlikeP p who l m) (e : Pl) : AlikeP (p ++ e) who l m := by
  obtain ⟨h1, h2, h3, h4, R, h5, h6⟩ := h
  exact ⟨h1, fun x hx => inP_le (h2 x hx) (by simp), fun x hx => inP_le (h3 x hx) (by simp), h4, R, h5.more e, h6⟩
theorem seeK_two (n : Nd) : seeK 2 n = n.kind := by
  unfold seeK
  rw [if_neg]
  unfold veilB tellB
  cases likeB n <;> simp
/-- The notary tells all. -/
theorem Bij.notary {p : Pl} (hp : Ok p) {R : Int → Int → Prop} (h : Bij p 2 R) : ∀ (k : Nat) (x y : Int), x.toNat < k → R x y → x = y
  | 0, _, _, h, _ => absurd h (Nat.not_lt_zero _)
  | k + 1, x, y, hk, hxy => by
    rcases h.step x y hxy with ⟨rfl, rfl⟩ | ⟨h1, h2, h3, h4, h5⟩
    · rfl
    · obtain ⟨ka, kb⟩ := kid_less hp h1
      have hx1 : 1 ≤ x := by unfold inP at h1; simp at h1; omega
      have ea : (atP p x).1.a = (atP p y).1.a := h.notary hp k _ _ (by rcases ka with e | e <;> omega) h4
      have eb : (atP p x).1.b = (atP p y).1.b := h.notary hp k _ _ (by rcases kb with e | e <;> omega) h5
      have e := sameB_see.1 h3
      refine hp.at_inj h1 h2 ?_
      revert e ea eb
      generalize (atP p x).1 = n
      generalize (atP p y).1 = n2
      obtain ⟨k, f, t, u, s, a, b⟩ := n
      obtain ⟨k2, f2, t2, u2, s2, a2, b2⟩ := n2
      unfold seeN kdN abN
      rw [seeK_two, seeK_two]
      simp only [Nd.mk.injEq]
      rintro rfl rfl ⟨rfl, rfl, rfl, rfl, rfl, _, _⟩
      exact ⟨rfl, rfl, rfl, rfl, rfl, rfl, rfl⟩
theorem AlikeP.notary {p : Pl} (hp : Ok p) {l m : List Int} : AlikeP p 2 l m ↔ (∀ x ∈ l, inP p x = true) ∧ l = m := by
  constructor
  · rintro ⟨h1, h2, h3, h4, R, h5, h6⟩
    exact ⟨h2, List.ext_getElem h4 fun i a b => h5.notary hp _ _ _ (Nat.lt_succ_self _) (h6 i a b)⟩
  · rintro ⟨h1, rfl⟩
    exact (AlikeP.refl_iff hp).2 ⟨by decide, h1⟩
/-- Terms that correspond have one view. -/
theorem Bij.view {q p1 p2 : Pl} {who : Int} {T1 T2 : Int} {m1 m2 : Int → Option Int} (hq : Ok q) {R : Int → Int → Prop} (h : Bij q who R) (h1 : Anew (seeK who) q T1 p1 m1) (h2 : Anew (seeK who) p1 T2 p2 m2) : ∀ (k : Nat) (x y u v : Int), x.toNat < k → R x y → m1 x = some u → m2 y = some v → u = v
  | 0, _, _, _, _, h, _, _, _ => absurd h (Nat.not_lt_zero _)
  | k + 1, x, y, u, v, hk, hxy, hu, hv => by
    rcases h1.at_ _ _ hu with ⟨rfl, rfl⟩ | ⟨a1, a2, a3, ⟨xa, xb, a4, a5, a6⟩, _⟩
    · obtain rfl := h.fn _ _ _ h.zero hxy
      rw [h2.zero] at hv; exact Option.some.inj hv
    · rcases h.step x y hxy with ⟨rfl, _⟩ | ⟨b1, b2, b3, b4, b5⟩
      · rw [inP_zero] at a1; cases a1
      · obtain ⟨e1, rfl⟩ := h1.ext
        obtain ⟨e2, rfl⟩ := h2.ext
        rcases h2.at_ _ _ hv with ⟨rfl, _⟩ | ⟨c1, c2, c3, ⟨ya, yb, c4, c5, c6⟩, _⟩
        · rw [inP_zero] at b2; cases b2
        · rw [atP_append b2] at c4 c5 c6
          obtain ⟨ka, kb⟩ := kid_less hq a1
          have hx1 : 1 ≤ x := by unfold inP at a1; simp at a1; omega
          have ea : xa = ya := h.view hq h1 h2 k _ _ _ _ (by rcases ka with e | e <;> omega) b4 a4 c4
          have eb : xb = yb := h.view hq h1 h2 k _ _ _ _ (by rcases kb with e | e <;> omega) b5 a5 c5
          refine h2.ok.at_inj (inP_le a3 (by simp)) c3 ?_
          rw [atP_append a3, a6, c6, ea, eb]
          have e := sameB_see.1 b3
          revert e
          generalize (atP q x).1 = n
          generalize (atP q y).1 = n2
          unfold seeN kdN abN
          simp only [Nd.mk.injEq]
          rintro ⟨h1, h2, h3, h4, h5, _, _⟩
          have hs : ∀ (n : Nd) (a b : Int), seeK who n = seeK who ⟨n.kind, n.frm, n.to, n.num, n.text, a, b⟩ := fun n a b => by obtain ⟨k, f, t, u, s, a', b'⟩ := n; rw [seeK_of, seeK_of]
          exact ⟨h1, h2, h3, h4, h5, trivial, trivial⟩
end Go.Proofs.YtgaklaajbepfaaaGreatDoor
namespace Go.Proofs.YtgaklaajbepfaaaGreatDoor
open Go.RowKit Go.Maps Go.Shelf
set_option linter.unusedVariables false

theorem over_closed {p : Pl} {S : Int → Prop} (hS : ∀ x, S x → inP p x = true → S (atP p x).1.a ∧ S (atP p x).1.b) : ∀ (f : Nat) (t : Int) (acc : List Int), S t → ∀ x ∈ over p f t acc, x ∈ acc ∨ (S x ∧ inP p x = true)
  | 0, _, _, _, _, h => .inl h
  | f + 1, t, acc, ht, x, h => by
    by_cases hc : inP p t = true ∧ t ∉ acc
    · rw [over_in p f hc.1 hc.2] at h
      obtain ⟨ka, kb⟩ := hS t ht hc.1
      rcases List.mem_append.1 h with h | h
      · rcases over_closed hS f _ _ kb x h with h | h
        · exact over_closed hS f _ _ ka x h
        · exact .inr h
      · obtain rfl : x = t := by simpa using h
        exact .inr ⟨ht, hc.1⟩
    · rw [over_out p _ hc] at h; exact .inl h
theorem subs_closed {p : Pl} {S : Int → Prop} (hS : ∀ x, S x → inP p x = true → S (atP p x).1.a ∧ S (atP p x).1.b) {t : Int} (ht : S t) : ∀ x ∈ subs p t, S x ∧ inP p x = true := fun x hx => by
  rcases over_closed hS _ _ _ ht x hx with h | h
  · cases h
  · exact h
theorem subs_kids {q : Pl} (hq : Ok q) {t x : Int} (h : x ∈ subs q t) : ((atP q x).1.a = 0 ∨ (atP q x).1.a ∈ subs q t) ∧ ((atP q x).1.b = 0 ∨ (atP q x).1.b ∈ subs q t) := by
  obtain ⟨pre, suf, e⟩ := List.append_of_mem h
  obtain ⟨_, h1, h2⟩ := subs_cl hq t pre x suf e
  rw [e]
  exact ⟨h1.imp id fun h => List.mem_append_left _ h, h2.imp id fun h => List.mem_append_left _ h⟩
theorem Anew.out {kf : Nd → Int} {q : Pl} {T : Int} {p : Pl} {m : Int → Option Int} (h : Anew kf q T p m) {x : Int} (hx : m x = some 0) : x = 0 := by
  rcases h.at_ x 0 hx with ⟨h, _⟩ | ⟨_, _, h, _⟩
  · exact h
  · rw [inP_zero] at h; cases h
/-- What is made anew, where no two become one and nothing of it can be told, corresponds to what it was made of. -/
theorem anew_bij {kf : Nd → Int} {q : Pl} {T : Int} {p : Pl} {m : Int → Option Int} {who : Int} (hq : Ok q) (hA : Anew kf q T p m) (t : Int) (hinj : ∀ x y u, x ∈ subs q t → y ∈ subs q t → m x = some u → m y = some u → x = y) (hsame : ∀ x ∈ subs q t, ∀ a b, sameB who (atP q x).1 (kdN (kf (atP q x).1) (abN (atP q x).1 a b)) = true) : Bij p who (fun x y => m x = some y ∧ (x = 0 ∨ x ∈ subs q t)) := by
  refine ⟨fun a b b' h h' => Option.some.inj (h.1.symm.trans h'.1), ?_, ⟨hA.zero, .inl rfl⟩, ?_⟩
  · rintro a a' b ⟨h1, h2⟩ ⟨k1, k2⟩
    rcases h2 with rfl | h2
    · rw [hA.zero] at h1
      rw [← Option.some.inj h1] at k1
      exact (hA.out k1).symm
    · rcases k2 with rfl | k2
      · rw [hA.zero] at k1
        rw [← Option.some.inj k1] at h1
        exact hA.out h1
      · exact hinj _ _ _ h2 k2 h1 k1
  · rintro a b ⟨h1, h2⟩
    rcases hA.at_ a b h1 with h | ⟨g1, g2, g3, ⟨x, y, g4, g5, g6⟩, _⟩
    · exact .inl h
    · have ha : a ∈ subs q t := by
        rcases h2 with rfl | h2
        · rw [inP_zero] at g1; cases g1
        · exact h2
      obtain ⟨e, he⟩ := hA.ext
      obtain ⟨ka, kb⟩ := subs_kids hq ha
      have hat : atP p a = atP q a := by rw [he]; exact atP_append g1
      refine .inr ⟨by rw [he]; exact inP_le g1 (by simp), g3, ?_, ?_, ?_⟩
      · rw [hat, g6]; exact hsame a ha x y
      · rw [hat, g6]; exact ⟨g4, ka⟩
      · rw [hat, g6]; exact ⟨g5, kb⟩
theorem anew_alike {kf : Nd → Int} {q : Pl} {T : Int} {p : Pl} {m : Int → Option Int} {who : Int} (hq : Ok q) (hA : Anew kf q T p m) {t s : Int} (hin : inP q t = true) (hm : m t = some s) (hn : nameB who = true) (hinj : ∀ x y u, x ∈ subs q t → y ∈ subs q t → m x = some u → m y = some u → x = y) (hsame : ∀ x ∈ subs q t, ∀ a b, sameB who (atP q x).1 (kdN (kf (atP q x).1) (abN (atP q x).1 a b)) = true) : AlikeP p who [t] [s] := by
  obtain ⟨e, he⟩ := hA.ext
  refine ⟨hn, fun x hx => ?_, fun x hx => ?_, rfl, _, anew_bij hq hA t hinj hsame, fun i h1 h2 => ?_⟩
  · obtain rfl : x = t := by simpa using hx
    rw [he]; exact inP_le hin (by simp)
  · obtain rfl : x = s := by simpa using hx
    rcases hA.at_ _ _ hm with ⟨rfl, _⟩ | ⟨_, _, h, _⟩
    · rw [inP_zero] at hin; cases hin
    · exact h
  · simp only [List.length_cons, List.length_nil] at h1
    obtain rfl : i = 0 := by omega
    exact ⟨hm, .inr (subs_has hin)⟩
theorem makeK_prom {at' : Int} {n : Nd} {a b : Int} : promB (kdN (makeK at' n) (abN n a b)) at' = false := by
  obtain ⟨k, f, t, u, s, x, y⟩ := n
  unfold makeK promB kdN abN
  simp only
  cases h : (k == 8 && t == at')
  · rw [if_neg (by simp)]; exact h
  · rw [if_pos rfl]; rfl
/-- No promise to him is left in what was made. -/
theorem swap_none {q p : Pl} {at' T : Int} {m : Int → Option Int} (hA : Anew (makeK at') q T p m) {t s : Int} (hm : m t = some s) : promL p at' (subs p s) = [] := by
  unfold promL
  rw [List.filter_eq_nil_iff]
  have hc := subs_closed (p := p) (S := fun x => ∃ k, m k = some x) (fun x ⟨k, hk⟩ hx => by
    rcases hA.at_ k x hk with ⟨_, rfl⟩ | ⟨_, _, _, ⟨y, z, g4, g5, g6⟩, _⟩
    · rw [inP_zero] at hx; cases hx
    · rw [g6]; exact ⟨⟨_, g4⟩, ⟨_, g5⟩⟩) (t := s) ⟨t, hm⟩
  intro x hx
  obtain ⟨⟨k, hk⟩, hin⟩ := hc x hx
  rcases hA.at_ k x hk with ⟨_, rfl⟩ | ⟨_, _, _, ⟨y, z, g4, g5, g6⟩, _⟩
  · rw [inP_zero] at hin; cases hin
  · rw [g6, makeK_prom]; decide
/-- What the statement asks of each subterm. -/
def FreeOk (at' who : Int) (n : Nd) : Prop := ¬ (n.to = at' ∧ (n.kind = 9 ∨ (n.kind = 8 ∧ n.frm = who)))
theorem makeK_inj {at' who : Int} {n n' : Nd} {a b : Int} (h : FreeOk at' who n) (h' : FreeOk at' who n') (e : kdN (makeK at' n) (abN n a b) = kdN (makeK at' n') (abN n' a b)) : n.kind = n'.kind ∧ n.frm = n'.frm ∧ n.to = n'.to ∧ n.num = n'.num ∧ n.text = n'.text := by
  obtain ⟨k, f, t, u, s, x, y⟩ := n
  obtain ⟨k2, f2, t2, u2, s2, x2, y2⟩ := n'
  unfold kdN abN at e
  simp only [Nd.mk.injEq] at e
  obtain ⟨e1, rfl, rfl, rfl, rfl, _, _⟩ := e
  refine ⟨?_, rfl, rfl, rfl, rfl⟩
  unfold makeK promB at e1
  unfold FreeOk at h h'
  simp only [Bool.and_eq_true, beq_iff_eq] at e1 h h' ⊢
  by_cases c1 : k = 8 ∧ t = at'
  · rw [if_pos c1] at e1
    by_cases c2 : k2 = 8 ∧ t = at'
    · omega
    · rw [if_neg c2] at e1
      exact absurd ⟨c1.2, .inl e1.symm⟩ h'
  · rw [if_neg c1] at e1
    by_cases c2 : k2 = 8 ∧ t = at'
    · rw [if_pos c2] at e1
      exact absurd ⟨c2.2, .inl e1⟩ h
    · rw [if_neg c2] at e1; exact e1
theorem makeK_same {at' who : Int} {n : Nd} (h : FreeOk at' who n) (h1 : who ≠ at') (h2 : who ≠ 2) (a b : Int) : sameB who n (kdN (makeK at' n) (abN n a b)) = true := by
  rw [sameB_see]
  obtain ⟨k, f, t, u, s, x, y⟩ := n
  unfold FreeOk at h
  simp only at h
  unfold seeN
  have e : kdN (makeK at' ⟨k, f, t, u, s, x, y⟩) (abN ⟨k, f, t, u, s, x, y⟩ a b) = ⟨makeK at' ⟨k, f, t, u, s, x, y⟩, f, t, u, s, a, b⟩ := rfl
  rw [e]
  unfold kdN abN
  simp only [Nd.mk.injEq, and_true]
  rw [seeK_of, seeK_of]
  unfold makeK promB
  simp only
  by_cases c : (k == 8 && t == at') = true
  · rw [if_pos c]
    simp only [Bool.and_eq_true, beq_iff_eq] at c
    obtain ⟨rfl, rfl⟩ := c
    have hf : who ≠ f := fun e => h ⟨rfl, .inr ⟨rfl, e.symm⟩⟩
    have ht : tellK who f t = false := by
      unfold tellK
      rw [ebF hf, ebF h1, ebF h2]; rfl
    rw [ht]; rfl
  · rw [if_neg c]
theorem swap_alike {q p : Pl} {at' T who : Int} {m : Int → Option Int} (hq : Ok q) (hA : Anew (makeK at') q T p m) {t s : Int} (hin : inP q t = true) (hm : m t = some s) (hn : nameB who = true) (h1 : who ≠ at') (h2 : who ≠ 2) (hf : ∀ x ∈ subs q t, FreeOk at' who (atP q x).1) : AlikeP p who [t] [s] := by
  have hinj : ∀ (k : Nat) (x y u : Int), x.toNat < k → x ∈ subs q t → y ∈ subs q t → m x = some u → m y = some u → x = y := by
    intro k
    induction k with
    | zero => intro x y u h; exact absurd h (Nat.not_lt_zero _)
    | succ k ih =>
      intro x y u hk hx hy hxu hyu
      have hxi := subs_in hq hx
      have hyi := subs_in hq hy
      rcases hA.at_ _ _ hxu with ⟨rfl, _⟩ | ⟨_, _, _, ⟨xa, xb, a4, a5, a6⟩, _⟩
      · rw [inP_zero] at hxi; cases hxi
      rcases hA.at_ _ _ hyu with ⟨rfl, _⟩ | ⟨_, _, _, ⟨ya, yb, b4, b5, b6⟩, _⟩
      · rw [inP_zero] at hyi; cases hyi
      have e := a6.symm.trans b6
      have e2 : xa = ya ∧ xb = yb := by
        unfold kdN abN at e
        simp only [Nd.mk.injEq] at e
        exact ⟨e.2.2.2.2.2.1, e.2.2.2.2.2.2⟩
      obtain ⟨rfl, rfl⟩ := e2
      have hx1 : 1 ≤ x := by unfold inP at hxi; simp at hxi; omega
      obtain ⟨la, lb⟩ := kid_less hq hxi
      obtain ⟨sa, sb⟩ := subs_kids hq hx
      obtain ⟨ta, tb⟩ := subs_kids hq hy
      have kid : ∀ a b v : Int, (a = 0 ∨ (inP q a = true ∧ a < x)) → (a = 0 ∨ a ∈ subs q t) → (b = 0 ∨ b ∈ subs q t) → m a = some v → m b = some v → a = b := fun a b v l1 l2 l3 l4 l5 => by
        rcases l2 with rfl | l2
        · rw [hA.zero] at l4
          rw [← Option.some.inj l4] at l5
          exact (hA.out l5).symm
        · rcases l3 with rfl | l3
          · rw [hA.zero] at l5
            rw [← Option.some.inj l5] at l4
            exact hA.out l4
          · refine ih a b v ?_ l2 l3 l4 l5
            rcases l1 with rfl | l1
            · omega
            · have := subs_in hq l2
              unfold inP at this
              simp at this
              omega
      have ea := kid _ _ _ la sa ta a4 b4
      have eb := kid _ _ _ lb sb tb a5 b5
      obtain ⟨c1, c2, c3, c4, c5⟩ := makeK_inj (hf x hx) (hf y hy) e
      refine hq.at_inj hxi hyi ?_
      revert c1 c2 c3 c4 c5 ea eb
      generalize (atP q x).1 = n
      generalize (atP q y).1 = n2
      obtain ⟨k, f, t, u, s, a, b⟩ := n
      obtain ⟨k2, f2, t2, u2, s2, a2, b2⟩ := n2
      simp only [Nd.mk.injEq]
      rintro rfl rfl rfl rfl rfl rfl rfl
      exact ⟨rfl, rfl, rfl, rfl, rfl, rfl, rfl⟩
  exact anew_alike hq hA hin hm hn (fun x y u => hinj _ x y u (Nat.lt_succ_self _)) (fun x hx a b => makeK_same (hf x hx) h1 h2 a b)
end Go.Proofs.YtgaklaajbepfaaaGreatDoor
namespace Go.Proofs.YtgaklaajbepfaaaGreatDoor
open Go.RowKit Go.Maps Go.Shelf
set_option linter.unusedVariables false

theorem seeK_idem (who : Int) (n : Nd) (a b : Int) : seeK who (kdN (seeK who n) (abN n a b)) = seeK who n := by
  obtain ⟨k, f, t, u, s, x, y⟩ := n
  have e : kdN (seeK who ⟨k, f, t, u, s, x, y⟩) (abN ⟨k, f, t, u, s, x, y⟩ a b) = ⟨seeK who ⟨k, f, t, u, s, x, y⟩, f, t, u, s, a, b⟩ := rfl
  rw [e, seeK_of, seeK_of]
  by_cases c : (twoK k && !tellK who f t) = true
  · rw [if_pos c]
    have c2 : (twoK 8 && !tellK who f t) = true := by
      simp only [Bool.and_eq_true] at c ⊢; exact ⟨rfl, c.2⟩
    rw [if_pos c2]
  · rw [if_neg c, if_neg c]
theorem see_same (who : Int) (n : Nd) (a b : Int) : sameB who n (kdN (seeK who n) (abN n a b)) = true := by
  rw [sameB_see]
  unfold seeN
  rw [seeK_idem]
  obtain ⟨k, f, t, u, s, x, y⟩ := n
  rfl
/-- A view's view is the view. -/
theorem view_again {q p1 p2 : Pl} {who : Int} {T1 T2 : Int} {m1 m2 : Int → Option Int} (h1 : Anew (seeK who) q T1 p1 m1) (h2 : Anew (seeK who) p1 T2 p2 m2) : ∀ (n : Nat) (k x y : Int), x.toNat < n → m1 k = some x → m2 x = some y → y = x
  | 0, _, _, _, h, _, _ => absurd h (Nat.not_lt_zero _)
  | n + 1, k, x, y, hn, hk, hx => by
    rcases h2.at_ _ _ hx with ⟨rfl, rfl⟩ | ⟨a1, a2, a3, ⟨xa, xb, a4, a5, a6⟩, _⟩
    · rfl
    · rcases h1.at_ _ _ hk with ⟨_, rfl⟩ | ⟨b1, b2, b3, ⟨ka, kb, b4, b5, b6⟩, _⟩
      · rw [inP_zero] at a1; cases a1
      · have hx1 : 1 ≤ x := by unfold inP at a1; simp at a1; omega
        obtain ⟨la, lb⟩ := kid_less h1.ok a1
        have ea : (atP p1 x).1.a = ka := by rw [b6]; rfl
        have eb : (atP p1 x).1.b = kb := by rw [b6]; rfl
        rw [ea] at la a4
        rw [eb] at lb a5
        have fa : xa = ka := view_again h1 h2 n _ _ _ (by rcases la with e | e <;> omega) b4 a4
        have fb : xb = kb := view_again h1 h2 n _ _ _ (by rcases lb with e | e <;> omega) b5 a5
        obtain ⟨e2, he2⟩ := h2.ext
        refine h2.ok.at_inj a3 (by rw [he2]; exact inP_le a1 (by simp)) ?_
        rw [a6, show atP p2 x = atP p1 x by rw [he2]; exact atP_append a1, fa, fb, b6, seeK_idem]
        rfl
theorem seeTK_eq (who : Int) (n : Nd) : seeK who n = seeTK who n.kind n.frm n.to := by
  obtain ⟨k, f, t, u, s, x, y⟩ := n
  rw [seeK_of]
  unfold seeTK twoK
  simp only
  cases tellK who f t
  · by_cases h8 : k = 8
    · subst h8; rfl
    · by_cases h9 : k = 9
      · subst h9; rfl
      · rw [ebF h8, ebF h9]; rfl
  · simp
theorem kids_see (who k f t : Int) : kidsN (seeTK who k f t) = kidsN k := by
  unfold seeTK
  by_cases h : (k == 9 && !tellK who f t) = true
  · rw [if_pos h]
    simp only [Bool.and_eq_true, beq_iff_eq] at h
    rw [h.1]; decide
  · rw [if_neg h]
theorem rep_map {q p : Pl} {who T : Int} {m : Int → Option Int} (hA : Anew (seeK who) q T p m) : ∀ (f : Fo) (ts us : List Int), RepF q ts f → ts.map m = us.map some → RepF p us (mapF (vtT who) f)
  | .nil, [], us, _, hm => by
    have : us = [] := by
      cases us with
      | nil => rfl
      | cons a l => simp at hm
    subst this
    exact trivial
  | .nil, _ :: _, _, h, _ => h.elim
  | .cons n k r, [], _, h, _ => h.elim
  | .cons n k r, t :: ts, us, h, hm => by
    obtain ⟨h1, ⟨ka, h2, h3, h4⟩, h5⟩ := h
    cases us with
    | nil => simp at hm
    | cons u us =>
      simp only [List.map_cons, List.cons.injEq] at hm
      obtain ⟨hm1, hm2⟩ := hm
      refine ⟨?_, ?_, rep_map hA r ts us h5 hm2⟩
      · rcases hA.at_ _ _ hm1 with ⟨rfl, _⟩ | ⟨_, _, g, _⟩
        · rw [inP_zero] at h1; cases h1
        · exact g
      · rcases hA.at_ _ _ hm1 with ⟨rfl, _⟩ | ⟨_, _, _, ⟨x, y, g4, g5, g6⟩, _⟩
        · rw [inP_zero] at h1; cases h1
        have hk2 := kidsN_le n.kind
        have hkind : ∀ ka', (ka'.getD 0 0 = x ∧ ka'.getD 1 0 = y) → (atP p u).1 = nodeOf (vtT who n) ka' := fun ka' e => by
          rw [g6, seeTK_eq, h4]
          unfold nodeOf vtT kdN abN
          simp only [e.1, e.2]
        rw [h4] at g4 g5
        simp only [nodeOf] at g4 g5
        match ka, h3 with
        | [], h3 =>
          simp only [List.getD_nil] at g4 g5
          rw [hA.zero] at g4 g5
          refine ⟨[], rep_map hA k [] [] h2 rfl, by rw [show (vtT who n).kind = seeTK who n.kind n.frm n.to from rfl, kids_see]; exact h3, hkind _ ⟨?_, ?_⟩⟩
          · simpa using Option.some.inj g4
          · simpa using Option.some.inj g5
        | [a], h3 =>
          simp only [List.getD_cons_zero, List.getD_cons_succ, List.getD_nil] at g4 g5
          rw [hA.zero] at g5
          refine ⟨[x], rep_map hA k [a] [x] h2 (by simp [g4]), by rw [show (vtT who n).kind = seeTK who n.kind n.frm n.to from rfl, kids_see]; exact h3, hkind _ ⟨by simp, ?_⟩⟩
          simpa using Option.some.inj g5
        | [a, b], h3 =>
          simp only [List.getD_cons_zero, List.getD_cons_succ] at g4 g5
          exact ⟨[x, y], rep_map hA k [a, b] [x, y] h2 (by simp [g4, g5]), by rw [show (vtT who n).kind = seeTK who n.kind n.frm n.to from rfl, kids_see]; exact h3, hkind _ ⟨by simp, by simp⟩⟩
        | _ :: _ :: _ :: _, h3 => simp only [List.length_cons] at h3; omega
theorem mapF_bare (who : Int) : ∀ {f : Fo}, Bare f → Bare (mapF (vtT who) f)
  | .nil, _ => trivial
  | .cons n k r, h => ⟨h.1, h.2.1, mapF_bare who h.2.2.1, mapF_bare who h.2.2.2⟩
/-- Terms with one view have trees with one view. -/
theorem view_trees {q p : Pl} {who T : Int} {m : Int → Option Int} (hA : Anew (seeK who) q T p m) {x y u : Int} {n1 n2 : Nd} {k1 k2 : Fo} (h1 : RepF q [x] (.cons n1 k1 .nil)) (h2 : RepF q [y] (.cons n2 k2 .nil)) (b1 : Bare (.cons n1 k1 .nil)) (b2 : Bare (.cons n2 k2 .nil)) (hx : m x = some u) (hy : m y = some u) : vtT who n1 = vtT who n2 ∧ mapF (vtT who) k1 = mapF (vtT who) k2 := by
  have e := RepF.tree (rep_map hA _ _ [u] h1 (by simp [hx])) (rep_map hA _ _ [u] h2 (by simp [hy])) (mapF_bare who b1) (mapF_bare who b2)
  simp only [mapF, Fo.cons.injEq, and_true] at e
  exact e
theorem view_alike {q p : Pl} {who T : Int} {m : Int → Option Int} (hq : Ok q) (hA : Anew (seeK who) q T p m) {t v : Int} (hin : inP q t = true) (hm : m t = some v) (hn : nameB who = true) (hd : ∀ a b (ha : a < (subs q t).length) (hb : b < (subs q t).length), b < a → ∀ u, m (subs q t)[a] = some u → m (subs q t)[b] ≠ some u) : AlikeP p who [t] [v] := by
  refine anew_alike hq hA hin hm hn (fun x y u hx hy hxu hyu => ?_) (fun x _ a b => see_same who _ a b)
  obtain ⟨i, hi, rfl⟩ := List.getElem_of_mem hx
  obtain ⟨j, hj, rfl⟩ := List.getElem_of_mem hy
  rcases Nat.lt_trichotomy i j with h | h | h
  · exact absurd hxu (hd j i hj hi h u hyu)
  · subst h; rfl
  · exact absurd hyu (hd i j hi hj h u hxu)
end Go.Proofs.YtgaklaajbepfaaaGreatDoor
namespace Go.Proofs.YtgaklaajbepfaaaGreatDoor
open Go.RowKit Go.Maps Go.Shelf
set_option linter.unusedVariables false

theorem makeTK_eq (who : Int) (n : Nd) : makeK who n = makeTK who n.kind n.frm n.to := rfl
theorem kids_make (who k f t : Int) : kidsN (makeTK who k f t) = kidsN k := by
  unfold makeTK
  by_cases h : (k == 8 && t == who) = true
  · rw [if_pos h]
    simp only [Bool.and_eq_true, beq_iff_eq] at h
    rw [h.1]; decide
  · rw [if_neg h]
theorem rep_mapS {q p : Pl} {who T : Int} {m : Int → Option Int} (hA : Anew (makeK who) q T p m) : ∀ (f : Fo) (ts us : List Int), RepF q ts f → ts.map m = us.map some → RepF p us (mapF (vsT who) f)
  | .nil, [], us, _, hm => by
    have : us = [] := by
      cases us with
      | nil => rfl
      | cons a l => simp at hm
    subst this
    exact trivial
  | .nil, _ :: _, _, h, _ => h.elim
  | .cons n k r, [], _, h, _ => h.elim
  | .cons n k r, t :: ts, us, h, hm => by
    obtain ⟨h1, ⟨ka, h2, h3, h4⟩, h5⟩ := h
    cases us with
    | nil => simp at hm
    | cons u us =>
      simp only [List.map_cons, List.cons.injEq] at hm
      obtain ⟨hm1, hm2⟩ := hm
      refine ⟨?_, ?_, rep_mapS hA r ts us h5 hm2⟩
      · rcases hA.at_ _ _ hm1 with ⟨rfl, _⟩ | ⟨_, _, g, _⟩
        · rw [inP_zero] at h1; cases h1
        · exact g
      · rcases hA.at_ _ _ hm1 with ⟨rfl, _⟩ | ⟨_, _, _, ⟨x, y, g4, g5, g6⟩, _⟩
        · rw [inP_zero] at h1; cases h1
        have hk2 := kidsN_le n.kind
        have hkind : ∀ ka', (ka'.getD 0 0 = x ∧ ka'.getD 1 0 = y) → (atP p u).1 = nodeOf (vsT who n) ka' := fun ka' e => by
          rw [g6, makeTK_eq, h4]
          unfold nodeOf vsT kdN abN
          simp only [e.1, e.2]
        rw [h4] at g4 g5
        simp only [nodeOf] at g4 g5
        match ka, h3 with
        | [], h3 =>
          simp only [List.getD_nil] at g4 g5
          rw [hA.zero] at g4 g5
          refine ⟨[], rep_mapS hA k [] [] h2 rfl, by rw [show (vsT who n).kind = makeTK who n.kind n.frm n.to from rfl, kids_make]; exact h3, hkind _ ⟨?_, ?_⟩⟩
          · simpa using Option.some.inj g4
          · simpa using Option.some.inj g5
        | [a], h3 =>
          simp only [List.getD_cons_zero, List.getD_cons_succ, List.getD_nil] at g4 g5
          rw [hA.zero] at g5
          refine ⟨[x], rep_mapS hA k [a] [x] h2 (by simp [g4]), by rw [show (vsT who n).kind = makeTK who n.kind n.frm n.to from rfl, kids_make]; exact h3, hkind _ ⟨by simp, ?_⟩⟩
          simpa using Option.some.inj g5
        | [a, b], h3 =>
          simp only [List.getD_cons_zero, List.getD_cons_succ] at g4 g5
          exact ⟨[x, y], rep_mapS hA k [a, b] [x, y] h2 (by simp [g4, g5]), by rw [show (vsT who n).kind = makeTK who n.kind n.frm n.to from rfl, kids_make]; exact h3, hkind _ ⟨by simp, by simp⟩⟩
        | _ :: _ :: _ :: _, h3 => simp only [List.length_cons] at h3; omega
theorem mapF_bareS (who : Int) : ∀ {f : Fo}, Bare f → Bare (mapF (vsT who) f)
  | .nil, _ => trivial
  | .cons n k r, h => ⟨h.1, h.2.1, mapF_bareS who h.2.2.1, mapF_bareS who h.2.2.2⟩
theorem see_tree {q p1 : Pl} (e : Pl) {who T t v : Int} {m : Int → Option Int} {n n1 : Nd} {k k1 : Fo} (hA : Anew (seeK who) q T p1 m) (hm : m t = some v) (hr : RepF q [t] (.cons n k .nil)) (b : Bare (.cons n k .nil)) (h1 : RepF (p1 ++ e) [v] (.cons n1 k1 .nil)) (b1 : Bare (.cons n1 k1 .nil)) : n1 = vtT who n ∧ k1 = mapF (vtT who) k := by
  have h := RepF.tree h1 ((rep_map hA _ _ [v] hr (by simp [hm])).more) b1 (mapF_bare who b)
  simp only [mapF, Fo.cons.injEq, and_true] at h
  exact h
theorem swap_tree {q e p2 : Pl} {who T t v : Int} {m : Int → Option Int} {n n1 : Nd} {k k1 : Fo} (hA : Anew (makeK who) (q ++ e) T p2 m) (hm : m t = some v) (hr : RepF q [t] (.cons n k .nil)) (b : Bare (.cons n k .nil)) (h1 : RepF p2 [v] (.cons n1 k1 .nil)) (b1 : Bare (.cons n1 k1 .nil)) : n1 = vsT who n ∧ k1 = mapF (vsT who) k := by
  have h := RepF.tree h1 (rep_mapS hA _ _ [v] hr.more (by simp [hm])) b1 (mapF_bareS who b)
  simp only [mapF, Fo.cons.injEq, and_true] at h
  exact h
end Go.Proofs.YtgaklaajbepfaaaGreatDoor
namespace Go.Proofs.YtgaklaajbepfaaaGreatDoor
open Go.Lib
set_option linter.unusedVariables false

theorem rise_perm {l xs : List Int} (h : l.Perm xs) : riseL l = riseL xs := mergeSort_of_perm_i h
theorem rise_of {l xs : List Int} (hs : l.Pairwise (· ≤ ·)) (hp : l.Perm xs) : l = riseL xs := by
  rw [← rise_perm hp]
  exact (List.mergeSort_of_pairwise (hs.imp fun h => by simp only [decide_eq_true_eq]; exact h)).symm
theorem rise_sorted (xs : List Int) : (riseL xs).Pairwise (· ≤ ·) := by
  have tr : ∀ a b c : Int, decide (a ≤ b) = true → decide (b ≤ c) = true → decide (a ≤ c) = true := fun a b c h1 h2 => by simp only [decide_eq_true_eq] at *; exact Int.le_trans h1 h2
  have tot : ∀ a b : Int, (decide (a ≤ b) || decide (b ≤ a)) = true := fun a b => by simp only [Bool.or_eq_true, decide_eq_true_eq]; exact Int.le_total a b
  exact (List.pairwise_mergeSort tr tot xs).imp fun h => by simpa using h
theorem rise_is (xs : List Int) : (riseL xs).Perm xs := List.mergeSort_perm xs _
theorem rise_len (xs : List Int) : (riseL xs).length = xs.length := (rise_is xs).length_eq
/-- S with x at the place k. -/
def insAt (S : List Int) (x : Int) (k : Nat) : List Int := S.take k ++ x :: S.drop k
theorem insAt_len {S : List Int} {x : Int} {k : Nat} (h : k ≤ S.length) : (insAt S x k).length = S.length + 1 := by
  unfold insAt; simp; omega
theorem insAt_end (S : List Int) (x : Int) : insAt S x S.length = S ++ [x] := by
  unfold insAt; simp
theorem insAt_at {S : List Int} {x : Int} {k : Nat} (h : k ≤ S.length) : (insAt S x k)[k]? = some x := by
  unfold insAt
  rw [List.getElem?_append_right (by rw [List.length_take]; omega), List.length_take, Nat.min_eq_left h, Nat.sub_self]; rfl
theorem insAt_pre {S : List Int} {x : Int} {k : Nat} (h : k < S.length) : (insAt S x (k + 1))[k]? = some S[k] := by
  unfold insAt
  rw [List.getElem?_append_left (by simp; omega), List.getElem?_take_of_lt (by omega), List.getElem?_eq_getElem h]
theorem insAt_step {S : List Int} {x : Int} {k : Nat} (h : k < S.length) : ((insAt S x (k + 1)).set k x).set (k + 1) S[k] = insAt S x k := by
  apply List.ext_getElem?
  intro j
  by_cases h1 : j = k + 1
  · subst h1
    rw [List.getElem?_set_self (by rw [List.length_set, insAt_len (by omega)]; omega)]
    unfold insAt
    rw [List.getElem?_append_right (by simp; omega), List.length_take, Nat.min_eq_left (by omega), Nat.add_sub_cancel_left, List.getElem?_cons_succ, List.getElem?_drop, Nat.add_zero, List.getElem?_eq_getElem h]
  · rw [List.getElem?_set_ne (fun e => h1 e.symm)]
    by_cases h2 : j = k
    · subst h2
      rw [List.getElem?_set_self (by rw [insAt_len (by omega)]; omega), insAt_at (by omega)]
    · rw [List.getElem?_set_ne (fun e => h2 e.symm)]
      unfold insAt
      rcases Nat.lt_or_ge j k with h3 | h3
      · rw [List.getElem?_append_left (by simp; omega), List.getElem?_append_left (by simp; omega), List.getElem?_take_of_lt (by omega), List.getElem?_take_of_lt (by omega)]
      · rw [List.getElem?_append_right (by simp; omega), List.getElem?_append_right (by simp; omega), List.length_take, List.length_take, Nat.min_eq_left (by omega), Nat.min_eq_left (by omega)]
        obtain ⟨d, rfl⟩ : ∃ d, j = k + 2 + d := ⟨j - (k + 2), by omega⟩
        rw [show k + 2 + d - (k + 1) = d + 1 by omega, show k + 2 + d - k = (d + 1) + 1 by omega, List.getElem?_cons_succ, List.getElem?_cons_succ, List.getElem?_drop, List.getElem?_drop, show k + 1 + d = k + (d + 1) by omega]
theorem insAt_done {S : List Int} {x : Int} {k : Nat} (hs : S.Pairwise (· ≤ ·)) (hk : k ≤ S.length) (h1 : ∀ j (h : j < S.length), k ≤ j → x < S[j]) (h2 : ∀ (h : k - 1 < S.length), 0 < k → S[k - 1] ≤ x) : insAt S x k = riseL (S ++ [x]) := by
  have hsp := hs
  rw [← List.take_append_drop k S, List.pairwise_append] at hsp
  obtain ⟨a1, a2, a3⟩ := hsp
  refine rise_of ?_ ?_
  · unfold insAt
    rw [List.pairwise_append, List.pairwise_cons]
    refine ⟨a1, ⟨fun y hy => ?_, a2⟩, fun y hy z hz => ?_⟩
    · obtain ⟨j, hj, rfl⟩ := List.getElem_of_mem hy
      rw [List.getElem_drop]
      exact Int.le_of_lt (h1 _ _ (by omega))
    · rcases List.mem_cons.1 hz with rfl | hz
      · obtain ⟨j, hj, rfl⟩ := List.getElem_of_mem hy
        rw [List.length_take] at hj
        rw [List.getElem_take]
        have h3 := h2 (by omega) (by omega)
        rcases Nat.lt_or_ge j (k - 1) with h4 | h4
        · exact Int.le_trans (List.pairwise_iff_getElem.1 hs j (k - 1) (by omega) (by omega) h4) h3
        · obtain rfl : j = k - 1 := by omega
          exact h3
      · exact a3 y hy z hz
  · unfold insAt
    refine List.perm_middle.trans ?_
    rw [List.take_append_drop]
    exact (List.perm_append_singleton x S).symm
end Go.Proofs.YtgaklaajbepfaaaGreatDoor
namespace Go.Proofs.YtgaklaajbepfaaaGreatDoor
open Go.RowKit
set_option linter.unusedVariables false

section
variable {P : Program} {ops : Array Oper} {Q : Exit → Act → World → Prop} {md : Region.Mode} {F : Bool → World → Prop} {Fi : World → Prop} {p q : Nat}

def wpAnyT (P : Program) (md : Region.Mode) (ops : Array Oper) (Q : Exit → Act → World → Prop) (F : Bool → World → Prop) (p q : Nat) : Nat → Array Bool → Act → World → Prop
  | 0, listed, a, w => Region.ready md ops listed = [] ∧ Q .normal a w
  | fuel + 1, listed, a, w =>
    (Region.ready md ops listed = [] → Q .normal a w) ∧
    ∀ i ∈ Region.ready md ops listed, wpOp P ops Q i (fun a' w' => (i ≠ q → F ((listed.setIfInBounds i true).getD p true) w') ∧ wpAnyT P md ops Q F p q fuel (listed.setIfInBounds i true) a' w') a w

theorem wpAny_of_t : ∀ (fuel : Nat) (listed : Array Bool) (a : Act) (w : World), wpAnyT P md ops Q F p q fuel listed a w → wpAny P md ops Q fuel listed a w
  | 0, _, _, _, h => h
  | fuel + 1, _, _, _, h => ⟨h.1, fun i hi => wpOp_mono (fun a' w' h' => wpAny_of_t fuel _ a' w' h'.2) (h.2 i hi)⟩

/-- What is waited for by o stands ahead of it. -/
def Waits (md : Region.Mode) (ops : Array Oper) (o i : Nat) : Prop := ∀ op, ops[o]? = some op → ∃ e ∈ op.after, Region.binds md e = true ∧ e.on = i
theorem waits_of {o i : Nat} (h : ((ops[o]?.map fun op => op.after.any fun e => Region.binds md e && e.on == i).getD true) = true) : Waits md ops o i := fun op hop => by
  rw [hop] at h
  simp only [Option.map_some, Option.getD_some, Array.any_eq_true'] at h
  obtain ⟨e, he, hb⟩ := h
  simp only [Bool.and_eq_true, beq_iff_eq] at hb
  exact ⟨e, he, hb.1, hb.2⟩

theorem wpAnyT_first {i : Nat} {oi : Oper} {v : Value} (hi : ops[i]? = some oi) (hsel : ∀ (j : Nat) (o : Oper) cs b, ops[j]? = some o → o.op ≠ .select cs b)
    (hQ : ∀ c a w, Q (.panic c) (a.put oi.dst v) w → Q (.panic c) a w) (hip : i ≠ p) (hiq : i ≠ q) (hwait : Waits md ops q i) :
    ∀ (fuel : Nat) (listed : Array Bool) (a : Act) (w : World),
      (∀ j oj, ops[j]? = some oj → j ≠ i → listed.getD j true = false → (∀ e ∈ oj.after, Region.binds md e = true → e.on ≠ i) → oi.apart ops oj = true) →
      i ∈ Region.ready md ops listed → ((∀ b W, F b W → Fi W) ∨ (listed.getD p true = false ∧ (∀ W, F false W → Fi W) ∧ Waits md ops p i)) → YieldsIf P ops Fi oi v a → F (listed.getD p true) w →
      wpAnyT P md ops Q F p q fuel (listed.setIfInBounds i true) (a.put oi.dst v) w → wpAnyT P md ops Q F p q (fuel + 1) listed a w := by
  have keep : ∀ (listed : Array Bool) (w : World), ((∀ b W, F b W → Fi W) ∨ (listed.getD p true = false ∧ (∀ W, F false W → Fi W) ∧ Waits md ops p i)) → F (listed.getD p true) w → Fi w := fun listed w hc hS => by
    rcases hc with hc | ⟨h1, h2, _⟩
    · exact hc _ _ hS
    · rw [h1] at hS; exact h2 _ hS
  intro fuel
  induction fuel with
  | zero =>
    intro listed a w _ hr hc hy hS H
    refine ⟨fun h => (by rw [h] at hr; cases hr), fun j hj => ?_⟩
    by_cases hji : j = i
    · subst hji; exact hy.wpOp hi (keep _ _ hc hS) ⟨fun _ => by rw [getD_set_ne true hip]; exact hS, H⟩
    · have := ready_mono hj hji
      rw [H.1] at this
      cases this
  | succ fuel ih =>
    intro listed a w hfree hr hc hy hS H
    refine ⟨fun h => (by rw [h] at hr; cases hr), fun j hj => ?_⟩
    by_cases hji : j = i
    · subst hji; exact hy.wpOp hi (keep _ _ hc hS) ⟨fun _ => by rw [getD_set_ne true hip]; exact hS, H⟩
    · have h1 := H.2 j (ready_mono hj hji)
      obtain ⟨hjun, oj, hoj, hall⟩ := mem_ready.1 hj
      have hnot : ∀ e ∈ oj.after, Region.binds md e = true → e.on ≠ i := fun e he hb heq => by
        have h1 := hall e he hb
        have h0 := (mem_ready.1 hr).1
        rw [heq] at h1
        rcases Nat.lt_or_ge i listed.size with h' | h'
        · simp [h'] at h0 h1; rw [h0] at h1; cases h1
        · simp [Array.getElem?_eq_none h'] at h1
      have hjq : j ≠ q := fun e => by
        subst e
        obtain ⟨e, he, hb, ho⟩ := hwait oj hoj
        exact hnot e he hb ho
      have h2 := wpOp_putIf hoj (hfree j oj hoj hji hjun hnot) (fun cs b => hsel i oi cs b hi) (fun cs b => hsel j oj cs b hoj) hQ hy h1
      have hfree' : ∀ k ok, ops[k]? = some ok → k ≠ i → (listed.setIfInBounds j true).getD k true = false →
          (∀ e ∈ ok.after, Region.binds md e = true → e.on ≠ i) → oi.apart ops ok = true := fun k ok hk hki hun hno => by
        refine hfree k ok hk hki ?_ hno
        by_cases hjk : j = k
        · subst hjk; exact hjun
        · rw [getD_set_ne true hjk] at hun; exact hun
      have hc' : (∀ b W, F b W → Fi W) ∨ ((listed.setIfInBounds j true).getD p true = false ∧ (∀ W, F false W → Fi W) ∧ Waits md ops p i) := by
        rcases hc with hc | ⟨h5, h6, h7⟩
        · exact .inl hc
        · have hjp : j ≠ p := fun e => by
            subst e
            obtain ⟨e, he, hb, ho⟩ := h7 oj hoj
            exact hnot e he hb ho
          exact .inr ⟨by rw [getD_set_ne true hjp]; exact h5, h6, h7⟩
      refine wpOp_mono (fun a' w' h3 => ?_) h2
      have hS' : F ((listed.setIfInBounds j true).getD p true) w' := by
        have := h3.2.1 hjq
        rw [Array.setIfInBounds_comm _ _ (Ne.symm hji), getD_set_ne true hip] at this
        exact this
      refine ⟨fun _ => hS', ih (listed.setIfInBounds j true) a' w' hfree' (ready_mono hr (Ne.symm hji)) hc' h3.1 hS' ?_⟩
      rw [Array.setIfInBounds_comm _ _ hji]
      exact h3.2.2

/-- 'wpAnyT', the operations that are still to come beside it. -/
def LexT (P : Program) (md : Region.Mode) (ops : Array Oper) (Q : Exit → Act → World → Prop) (F : Bool → World → Prop) (p q : Nat) (_rest : List Oper) (fuel : Nat) (listed : Array Bool) (a : Act) (w : World) : Prop := wpAnyT P md ops Q F p q fuel listed a w

theorem lext_start (is : List Nat) (p q : Nat) {l : List Oper} {id : Nat} {a : Act} {w : World} (hm : P.follows .mixedOrders = true)
    (h : LexT P .any l.toArray (NoPanic Q) F p q (inOrder l is) l.length (Array.replicate l.length false) a w.drew) : (Code.region id l.toArray true).wp P Q a w :=
  wp_region_noPanic (wp_region_any hm (wpAny_of_t _ _ _ _ (by simpa [LexT] using h)))
/-- A read that the first store waits for. -/
theorem lext_take {i : Nat} {o : Oper} {rest : List Oper} {fuel : Nat} {listed : Array Bool} {a : Act} {w : World} {v : Value} (hi : ops[i]? = some o) (hip : i ≠ p) (hiq : i ≠ q)
    (hn : Region.noSelect ops = true) (hf : Region.free md ops listed i = true) (hr : (Region.ready md ops listed).contains i = true)
    (hwq : ((ops[q]?.map fun op => op.after.any fun e => Region.binds md e && e.on == i).getD true) = true) (hwp : ((ops[p]?.map fun op => op.after.any fun e => Region.binds md e && e.on == i).getD true) = true) (hlp : listed.getD p true = false)
    (hw : Region.wanted o (yielded ops a.tmps) = true) (hS : F false w) (hy : ∀ W, F false W → (execOp a.eval o).run P W = .ok (.value v) W)
    (h : LexT P md ops (NoPanic Q) F p q rest fuel (listed.setIfInBounds i true) (a.put o.dst v) w) : LexT P md ops (NoPanic Q) F p q (o :: rest) (fuel + 1) listed a w :=
  wpAnyT_first (Fi := F false) hi (Region.noSelect_spec hn) (fun _ _ _ h => h) hip hiq (waits_of hwq) fuel listed a w (Region.free_spec hi hf) (by simpa using hr) (.inr ⟨hlp, fun _ h => h, waits_of hwp⟩) (Or.inl ⟨hw, hy⟩) (by rw [hlp]; exact hS) h
/-- A read that may stand behind the first store. -/
theorem lext_late {i : Nat} {o : Oper} {rest : List Oper} {fuel : Nat} {listed : Array Bool} {a : Act} {w : World} {v : Value} {b : Bool} (hi : ops[i]? = some o) (hip : i ≠ p) (hiq : i ≠ q)
    (hn : Region.noSelect ops = true) (hf : Region.free md ops listed i = true) (hr : (Region.ready md ops listed).contains i = true)
    (hwq : ((ops[q]?.map fun op => op.after.any fun e => Region.binds md e && e.on == i).getD true) = true) (hlp : listed.getD p true = b)
    (hFF : ∀ W, F false W → F true W) (hw : Region.wanted o (yielded ops a.tmps) = true) (hS : F b w) (hy : ∀ W, F true W → (execOp a.eval o).run P W = .ok (.value v) W)
    (h : LexT P md ops (NoPanic Q) F p q rest fuel (listed.setIfInBounds i true) (a.put o.dst v) w) : LexT P md ops (NoPanic Q) F p q (o :: rest) (fuel + 1) listed a w :=
  wpAnyT_first (Fi := F true) hi (Region.noSelect_spec hn) (fun _ _ _ h => h) hip hiq (waits_of hwq) fuel listed a w (Region.free_spec hi hf) (by simpa using hr) (.inl fun b' W h => by cases b'; exact hFF _ h; exact h) (Or.inl ⟨hw, hy⟩) (by rw [hlp]; exact hS) h
theorem lext_do {i : Nat} {o : Oper} {rest : List Oper} {fuel : Nat} {listed : Array Bool} {a : Act} {w : World} {b : Bool}
    (hi : ops[i]? = some o) (hr : Region.ready md ops listed = [i]) (hlp : (listed.setIfInBounds i true).getD p true = b) (hw : Region.wanted o (yielded ops a.tmps) = true)
    (h : ∀ K : Act → World → Prop, (∀ a' w', (i ≠ q → F b w') ∧ LexT P md ops Q F p q rest fuel (listed.setIfInBounds i true) a' w' → K a' w') → Oper.wp P o a w K Q) : LexT P md ops Q F p q (o :: rest) (fuel + 1) listed a w := by
  refine ⟨fun h0 => (by rw [hr] at h0; cases h0), fun j hj => ?_⟩
  rw [hr, List.mem_singleton] at hj
  subst hj
  unfold wpOp
  simp only [hi, hw, if_true]
  exact .inl (h _ fun a' w' h => by rw [hlp]; exact h)
theorem lext_done {listed : Array Bool} {a : Act} {w : World} {fuel : Nat} (hr : Region.ready md ops listed = []) (h : Q .normal a w) : LexT P md ops (NoPanic Q) F p q [] fuel listed a w := by
  cases fuel with
  | zero => exact ⟨hr, NoPanic.normal h⟩
  | succ n => exact ⟨fun _ => NoPanic.normal h, fun i hi => by rw [hr] at hi; cases hi⟩
end
end Go.Proofs.YtgaklaajbepfaaaGreatDoor
namespace Go.Proofs.YtgaklaajbepfaaaGreatDoor
open Go.RowKit Go.Maps
set_option linter.unusedVariables false

theorem own_setT {w : World} {base g cap n j : Nat} {l : List Int} (h : w.ownsRow base TermT 1 (.slice (some ⟨g, 0, none⟩) n cap) n (ints l)) (hj : j < n) (x : Int) : (w.setCell ⟨g, j, none⟩ (.int .i64 x)).ownsRow base TermT 1 (.slice (some ⟨g, 0, none⟩) n cap) n (ints (l.set j x)) := by
  obtain ⟨h1, h2⟩ := h
  refine ⟨by rw [← h1]; simp [ints], ?_⟩
  rcases h2 with ⟨e, _⟩ | ⟨g', cap', cur, e, hb, hg, hle, hm, hc, ht⟩
  · simp at e
  · simp only [Value.slice.injEq, Option.some.injEq, Addr.mk.injEq, true_and, and_true] at e
    obtain ⟨rfl, rfl⟩ := e
    refine .inr ⟨g, cap, cur.setIfInBounds j (.int .i64 x), rfl, hb, setCellB hg, hle, hm, by simpa using hc, ?_⟩
    rw [Array.toList_setIfInBounds, List.take_set, ht]
    simp [ints]
theorem own_cellT {w : World} {base g cap n j : Nat} {l : List Int} {x : Int} (h : w.ownsRow base TermT 1 (.slice (some ⟨g, 0, none⟩) n cap) n (ints l)) (hj : l[j]? = some x) : w.cell? ⟨g, j, none⟩ = some (.int .i64 x) := by
  obtain ⟨a, c, e, hx⟩ := (row_of_own h).at
  have hl : l.length = n := by have := h.1; simp [ints] at this; omega
  have hjl := (List.getElem?_eq_some_iff.1 hj).1
  obtain ⟨b, o, ea, q⟩ := hx (by omega)
  subst ea
  rcases h.2 with ⟨e0, _⟩ | ⟨g', cap', cur, e', _, hg, hle, _, hc, ht⟩
  · simp at e0
  · simp only [Value.slice.injEq, Option.some.injEq, Addr.mk.injEq, true_and, and_true] at e'
    obtain ⟨rfl, rfl⟩ := e'
    have h2 : cur.toList[j]? = some (.int .i64 x) := by
      have h3 : (cur.toList.take (n * 1))[j]? = some (.int .i64 x) := by rw [ht]; simp [ints, hj]
      rw [List.getElem?_take_of_lt (by omega)] at h3; exact h3
    exact cellB hg (by simpa using h2)
theorem own_frozenT {w : World} {base g cap n j : Nat} {l : List Value} (h : w.ownsRow base TermT 1 (.slice (some ⟨g, 0, none⟩) n cap) n l) : w.frozen? ⟨g, j, none⟩ = false := by
  rcases h.2 with ⟨e0, _⟩ | ⟨g', cap', cur, e', _, hg, _⟩
  · simp at e0
  · simp only [Value.slice.injEq, Option.some.injEq, Addr.mk.injEq, true_and, and_true] at e'
    obtain ⟨rfl, rfl⟩ := e'
    exact frozenB hg
theorem tellB_out {p : Pl} {who t : Int} (h : inP p t = false) : tellB who (atP p t).1 = false := by rw [atP_out h]; rfl
section
variable {w : World} {B a : Nat} {vl vs vd : Value} {p : Pl}
set_option maxRecDepth 100000 in
set_option maxHeartbeats 6400000 in
theorem rTells_any (h : IsRef w B a vl vs vd p) (who t : Int) : Calls Tryz.prog 19 #[.pointer (some ⟨a, 0, none⟩), .int .i64 who, .int .i64 t] w fun e w' => e = .returned (.bool (tellB who (atP p t).1)) ∧ Below w.heap.size w w' := by
  have RN := Lib.hid (rnode h t)
  have HO := Lib.hid (tellB_out (p := p) (who := who) (t := t))
  generalize (atP p t).1 = nd at *
  obtain ⟨kk, ff, tt, uu, ss, xa, xb⟩ := nd
  have HT : Hid (tellB who ⟨kk, ff, tt, uu, ss, xa, xb⟩ = (twoK kk && tellK who ff tt)) := Lib.hid rfl
  generalize tellB who ⟨kk, ff, tt, uu, ss, xa, xb⟩ = tb at *
  go_enter Tryz.func19, Tryz.ntmps19
  go_wp2_with fail
  refine RN.out.mono ?_
  rintro e w1 ⟨rfl, u1⟩
  simp only [nodeA]
  have HU := Lib.hid (bmore u1 (bA0 w1 (.cells #[.int .i64 kk, .int .i64 ff, .int .i64 tt, .int .u64 uu, .string ss, .int .i64 xa, .int .i64 xb] NodeT)))
  have hx := heap_alloc_new w1 (.cells #[.int .i64 kk, .int .i64 ff, .int .i64 tt, .int .u64 uu, .string ss, .int .i64 xa, .int .i64 xb] NodeT)
  have c0 := cellB (j := 0) hx rfl
  have c1 := cellB (j := 1) hx rfl
  have c2 := cellB (j := 2) hx rfl
  clear hx u1 RN
  cases hin : inP p t with
  | false =>
    obtain rfl : tb = false := HO.out hin
    clear hin
    go_wp2_with fail
    go_returns
    exact ⟨rfl, HU.out⟩
  | true =>
    clear hin HO
    have T1 := Lib.hid (fun W => rtwo_any kk W)
    have T2 := Lib.hid (fun W => rtellsk_any who ff tt W)
    generalize twoK kk = b1 at *
    generalize tellK who ff tt = b2 at *
    obtain rfl : tb = (b1 && b2) := HT.out
    go_wp2_with fail
    refine (T1.out _).mono ?_
    rintro e V ⟨rfl, rfl⟩
    cases b1 with
    | false =>
      go_wp2_with fail
      go_returns
      exact ⟨rfl, HU.out⟩
    | true =>
      go_wp2_with fail
      refine (T2.out _).mono ?_
      rintro e V ⟨rfl, rfl⟩
      go_wp2_with fail
      go_returns
      exact ⟨rfl, HU.out⟩
set_option maxRecDepth 100000 in
set_option maxHeartbeats 25600000 in
theorem rPromises_any (h : IsRef w B a vl vs vd p) (at' t : Int) : Calls Tryz.prog 22 #[.pointer (some ⟨a, 0, none⟩), .int .i64 at', .int .i64 t] w fun e w' => ∃ lv, e = .returned lv ∧ w'.ownsRow w.heap.size TermT 1 lv (promL p at' (subs p t)).length (ints (riseL (promL p at' (subs p t)))) ∧ Below w.heap.size w w' := by
  have RS := Lib.hid (rsubs h t)
  have HP := Lib.hid h
  have HLN : Hid ((subs p t).length ≤ 65536) := Lib.hid (Nat.le_trans (subs_len h.ok t) h.ok.len)
  clear h
  generalize subs p t = L at *
  go_enter Tryz.func22, Tryz.ntmps22
  go_wp2_with fail
  refine RS.out.mono ?_
  rintro e w2 ⟨sv, rfl, hrow, u2⟩
  obtain ⟨sa, sc, rfl, hsx⟩ := (row_of_own hrow).at
  have HU2 := Lib.hid u2
  have HSX := Lib.hid hsx
  have HPR := Lib.hid (HP.out.below u2)
  clear hrow u2 RS HP hsx
  obtain ⟨wo, hwo⟩ : ∃ wo, wo = w2 := ⟨_, rfl⟩
  go_wp2_with fail
  go_loopw [7, 9] (fun v7 v9 wr => ∃ (i : Nat), v9 = .int .i64 (i : Int) ∧ i ≤ L.length ∧ wr.ownsRow w2.heap.size TermT 1 v7 (promL p at' (L.take i)).length (ints (riseL (promL p at' (L.take i)))) ∧ Below w2.heap.size w2 wr) (fun _ v _ => L.length - (intOf v).toNat)
  case atStart => exact ⟨0, rfl, Nat.zero_le _, by rw [List.take_zero, show promL p at' [] = [] from rfl, show riseL [] = [] from by simp [riseL]]; exact World.ownsRow_nil _ _ _ 1, Below.refl _ _⟩
  case round =>
    obtain ⟨i, rfl, hi, hown, hb⟩ := hrel
    have HO := Lib.hid hown
    have HB := Lib.hid hb
    have hl4 : L.length ≤ 65536 := HLN.out
    obtain ⟨la, lc, rfl⟩ := (row_of_own hown).shape
    clear hown
    by_cases hlt : i < L.length
    · obtain ⟨b, o, rfl, ql⟩ := HSX.out (by omega)
      have cl := bcellAt hb (ql i _ (ints_at L i hlt))
      have CL := Lib.hid (ql i _ (ints_at L i hlt))
      have hi0 : (0 : Int) ≤ (i : Int) := by omega
      have hi1 : (i : Int) < (L.length : Int) := by omega
      have HTK : Hid (L.take (i + 1) = L.take i ++ [L[i]]) := Lib.hid (by rw [List.take_add_one, List.getElem?_eq_getElem hlt, Option.toList_some])
      have HPN : Hid ((promL p at' (L.take i)).length ≤ i) := Lib.hid (Nat.le_trans (promL_len _ _ _) (by rw [List.length_take]; omega))
      have RN := Lib.hid (rnode (HPR.out.below hb) L[i])
      have HPS := Lib.hid (promL_snoc p at' (L.take i) L[i])
      rw [← HTK.out] at HPS
      generalize L[i] = x at *
      clear ql hb HTK
      generalize promL p at' (L.take i) = S0 at *
      go_wp2_with fail
      refine RN.out.mono ?_
      rintro e w3 ⟨rfl, u3⟩
      simp only [nodeA]
      generalize (atP p x).1 = nd at *
      obtain ⟨kk, ff, tt, uu, ss, xa, xb⟩ := nd
      simp only at HPS ⊢
      have HB3 := Lib.hid (bmore (HB.out.trans (u3.mono HB.out.size)) (bA0 w3 (.cells #[.int .i64 kk, .int .i64 ff, .int .i64 tt, .int .u64 uu, .string ss, .int .i64 xa, .int .i64 xb] NodeT)))
      have HO3 := Lib.hid (own_hold (own_hold HO.out (Hold.below u3)) (Hold.below (bA0 w3 (.cells #[.int .i64 kk, .int .i64 ff, .int .i64 tt, .int .u64 uu, .string ss, .int .i64 xa, .int .i64 xb] NodeT))))
      have hx := heap_alloc_new w3 (.cells #[.int .i64 kk, .int .i64 ff, .int .i64 tt, .int .u64 uu, .string ss, .int .i64 xa, .int .i64 xb] NodeT)
      have c0 := cellB (j := 0) hx rfl
      have c1 := cellB (j := 2) hx rfl
      clear hx u3 RN HO HB cl
      have HPB : Hid (promB ⟨kk, ff, tt, uu, ss, xa, xb⟩ at' = (kk == 8 && tt == at')) := Lib.hid rfl
      by_cases h8 : kk = 8 ∧ tt = at'
      case neg =>
        have HNP : Hid (promL p at' (L.take (i + 1)) = S0) := Lib.hid (by
          rw [HPS.out, HPB.out, if_neg, List.append_nil]
          simpa using h8)
        clear HPS HPB
        by_cases h9 : kk = 8
        · have e1 : (kk == (8 : Int)) = true := by rw [h9]; rfl
          have e2 : (tt == at') = false := by simpa using fun e => h8 ⟨h9, e⟩
          clear h8 h9
          go_wp2_with fail
          clear c0 c1
          go_roundw
          case rel => exact ⟨i + 1, by go_num, by omega, by rw [HNP.out]; exact HO3.out, HB3.out⟩
          case measure => simp [intOf] <;> omega
        · have e1 : (kk == (8 : Int)) = false := by simpa using h9
          clear h8 h9
          go_wp2_with fail
          clear c0 c1
          go_roundw
          case rel => exact ⟨i + 1, by go_num, by omega, by rw [HNP.out]; exact HO3.out, HB3.out⟩
          case measure => simp [intOf] <;> omega
      have HNP : Hid (promL p at' (L.take (i + 1)) = S0 ++ [x]) := Lib.hid (by
        rw [HPS.out, HPB.out, if_pos]
        simpa using h8)
      have e1 : (kk == (8 : Int)) = true := by rw [h8.1]; rfl
      have e2 : (tt == at') = true := by rw [h8.2]; simp
      clear HPS HPB h8
      have HRL := Lib.hid (rise_len S0)
      have HRS := Lib.hid (rise_sorted S0)
      have HRP : Hid (riseL (riseL S0 ++ [x]) = riseL (S0 ++ [x])) := Lib.hid (rise_perm (List.Perm.append_right [x] (rise_is S0)))
      have hsl : S0.length ≤ 65536 := by have := HPN.out; omega
      generalize hS : riseL S0 = S at *
      have HLS := Lib.hid hS
      clear hS
      have cl2 := bcellAt HB3.out CL.out
      go_upto_region 8 with fail
      generalize (w3.alloc (.cells #[.int .i64 kk, .int .i64 ff, .int .i64 tt, .int .u64 uu, .string ss, .int .i64 xa, .int .i64 xb] NodeT)) = w4 at *
      have HO4 : Hid (w4.ownsRow w2.heap.size TermT 1 (.slice la S.length lc) S.length (ints S)) := Lib.hid (by rw [HRL.out]; exact HO3.out)
      have hrl : S.length = S0.length := HRL.out
      rw [← hrl]
      clear HO3 HRL hrl
      have hsl2 : S.length ≤ 65536 := by have h9 := HLS.out; rw [← h9, rise_len]; exact hsl
      go_wp2_with (at_builtin; go_loud (refine wpList_append_term rfl _ _ rfl w2.heap.size (.slice la S.length lc) S rfl (own_hold HO4.out (Hold.below (bA0 w4 (.cells #[.int .i64 x] TermT)))) _ x rfl (cellB (j := 0) (heap_alloc_new w4 _) rfl) (by omega) (Nat.le_trans HB3.out.size (bA0 w4 (.cells #[.int .i64 x] TermT)).size) ?_); intro v5 w5 hown5 hg5)
      have hown5' : w5.ownsRow w2.heap.size TermT 1 v5 (S.length + 1) (ints (S ++ [x])) := by rw [List.length_append] at hown5; exact hown5
      obtain ⟨g, cap, rfl⟩ : ∃ g cap, v5 = .slice (some ⟨g, 0, none⟩) (S.length + 1) cap := by
        rcases hown5'.2 with ⟨_, h0⟩ | ⟨g, cap, _, e, _⟩
        · omega
        · exact ⟨g, cap, e⟩
      have HO5 := Lib.hid hown5'
      have HB5 : Hid (Below w2.heap.size w2 w5) := Lib.hid ((HB3.out.trans ((bA0 w4 (.cells #[.int .i64 x] TermT)).mono HB3.out.size)).trans (grown_below hg5 (Nat.le_trans HB3.out.size (bA0 w4 (.cells #[.int .i64 x] TermT)).size) (fun k e => (own_type HO4.out e).1)))
      clear hown5 hown5' hg5 HO4 HB3 cl2 c0 c1
      obtain ⟨n1, hn1⟩ : ∃ n1, n1 = S.length + 1 := ⟨_, rfl⟩
      rw [← hn1] at HO5 ⊢
      have HN1 := Lib.hid hn1
      have hkn : (n1 : Int) - 1 = (S.length : Int) := by omega
      have hn1a : n1 ≤ 65537 := by omega
      clear hn1
      obtain ⟨wn, hwn⟩ : ∃ wn, wn = wr := ⟨_, rfl⟩
      have HWN := Lib.hid hwn
      clear hwn
      have hlen : ∀ W : World, (Builtin.len_ #[SlTT] 3 #[.slice (some ⟨g, 0, none⟩) n1 cap]).run Tryz.prog W = .ok (goInt n1) W := fun W => run_len_slice W SlTT _ _ _ _ (by rw [show Tryz.prog.elem SlTT = TermT from by simp [Program.elem, Tryz.underlying23]]; exact Tryz.underlying23)
      go_wp2_with fail
      rw [hlen]
      go_wp2_with fail
      clear hkn hlen
      go_loopw [12] (fun v12 wr => ∃ k : Nat, v12 = .int .i64 (k : Int) ∧ k ≤ S.length ∧ (∀ j (h : j < S.length), k ≤ j → x < S[j]) ∧ wr.ownsRow w2.heap.size TermT 1 (.slice (some ⟨g, 0, none⟩) n1 cap) n1 (ints (insAt S x k)) ∧ Below w2.heap.size w2 wr) (fun v _ => (intOf v).toNat)
      case atStart => exact ⟨S.length, by go_num, Nat.le_refl _, fun j h h2 => absurd h (Nat.not_lt.2 h2), by rw [insAt_end]; exact HO5.out, HB5.out⟩
      case round =>
        clear HO5 HB5
        obtain ⟨k, rfl, hk, hj, hown, hb⟩ := hrel
        have HJ := Lib.hid hj
        have HOK := Lib.hid hown
        have HBK := Lib.hid hb
        clear hj hown hb
        have HFIN : Hid ((∀ (h : k - 1 < S.length), 0 < k → S[k - 1] ≤ x) → insAt S x k = riseL (S0 ++ [x])) := Lib.hid fun h => by
          rw [insAt_done (by rw [← HLS.out]; exact rise_sorted S0) hk HJ.out h, ← HRP.out]
        by_cases hk0 : k = 0
        · subst hk0
          have HF := Lib.hid (HFIN.out (fun _ h => absurd h (Nat.lt_irrefl 0)))
          clear HFIN
          have hz : ((0 : Nat) : Int) = 0 := rfl
          rw [hz]
          clear hz
          go_wp2_with fail
          go_quiet (fail)
          go_wp2_with fail
          go_roundw
          case rel => exact ⟨i + 1, by go_num, by omega, by rw [HNP.out, ← HF.out, List.length_append, show S0.length + [x].length = n1 by rw [HN1.out, ← HLS.out, rise_len]; rfl]; exact own_hold HOK.out (Hold.below (bdn wr nq)), HBK.out.trans ((bdn wr nq).mono HBK.out.size)⟩
          case measure => simp [intOf] <;> omega
        · obtain ⟨k', rfl⟩ : ∃ k', k = k' + 1 := ⟨k - 1, by omega⟩
          have hkl : k' < S.length := by omega
          have HSTEP := Lib.hid (insAt_step (S := S) (x := x) hkl)
          have q0 := own_cellT HOK.out (insAt_pre (x := x) hkl)
          have q1 := own_cellT HOK.out (insAt_at (x := x) hk)
          have QL := Lib.hid q0
          have QM := Lib.hid q1
          have HJX : Hid (x < S[k'] → ∀ j (h : j < S.length), k' ≤ j → x < S[j]) := Lib.hid fun e j h hkj => by
            rcases Nat.lt_or_ge k' j with h4 | h4
            · exact HJ.out j h h4
            · obtain rfl : j = k' := by omega
              exact e
          have HFX : Hid (S[k'] ≤ x → insAt S x (k' + 1) = riseL (S0 ++ [x])) := Lib.hid fun e => HFIN.out (fun h _ => e)
          clear HFIN HJ hk0
          generalize S[k'] = y at *
          have hks : ((k' + 1 : Nat) : Int) - 1 = (k' : Int) := by omega
          have hkp : (0 : Int) < ((k' + 1 : Nat) : Int) := by omega
          have hki0 : (0 : Int) ≤ (k' : Int) := by omega
          have hki1 : (k' : Int) < (n1 : Int) := by have := HN1.out; omega
          have hkj0 : (0 : Int) ≤ ((k' + 1 : Nat) : Int) := by omega
          have hkj1 : ((k' + 1 : Nat) : Int) < (n1 : Int) := by have := HN1.out; omega
          have hkq0 : (0 : Int) ≤ (k' : Int) + 1 := by omega
          have hkq1 : (k' : Int) + 1 < (n1 : Int) := by have := HN1.out; omega
          have hwk : IntKind.i64.wrap (k' : Int) = (k' : Int) := IntWalk.i64_in _ (by omega)
          have ekp : decide ((0 : Int) < ((k' + 1 : Nat) : Int)) = true := decide_eq_true hkp
          by_cases hxy : x < y
          case neg =>
            have HF := Lib.hid (HFX.out (by omega))
            have exy : decide (x < y) = false := decide_eq_false hxy
            clear HFX HJX hxy
            go_wp2_with fail
            go_quiet (fail)
            go_wp2_with fail
            go_roundw
            case rel => exact ⟨i + 1, by go_num, by omega, by rw [HNP.out, ← HF.out, List.length_append, show S0.length + [x].length = n1 by rw [HN1.out, ← HLS.out, rise_len]; rfl]; exact own_hold HOK.out (Hold.below (bdn wr nq)), HBK.out.trans ((bdn wr nq).mono HBK.out.size)⟩
            case measure => simp [intOf] <;> omega
          have HJ2 := Lib.hid (HJX.out hxy)
          have exy : decide (x < y) = true := decide_eq_true hxy
          clear HFX HJX hxy
          go_wp2_with fail
          go_quiet (fail)
          have HOQ := Lib.hid (own_hold HOK.out (Hold.below (bdn wr nq)))
          have HBQ := Lib.hid (HBK.out.trans ((bdn wr nq).mono HBK.out.size))
          have QL2 := Lib.hid (bcellAt (bdn wr nq) QL.out)
          have QM2 := Lib.hid (bcellAt (bdn wr nq) QM.out)
          clear q0 q1 QL QM HOK HBK
          generalize wr.drewN nq = wq at *
          go_upto_region 12 with fail
          have hS : (fun (b : Bool) (W : World) => b = false → W.cell? ⟨g, k', none⟩ = some (.int .i64 y) ∧ W.cell? ⟨g, k' + 1, none⟩ = some (.int .i64 x)) false wq.drew := fun _ => ⟨bcellAt (bd wq) QL2.out, bcellAt (bd wq) QM2.out⟩
          have HO2 := Lib.hid (own_hold HOQ.out (Hold.below (bd wq)))
          have HB2 := Lib.hid (HBQ.out.trans ((bd wq).mono HBQ.out.size))
          refine lext_start [0, 1, 2, 3, 4, 5, 6, 7, 8, 9, 10, 11, 12, 13, 14, 15, 16, 17] 15 17 (F := (fun (b : Bool) (W : World) => b = false → W.cell? ⟨g, k', none⟩ = some (.int .i64 y) ∧ W.cell? ⟨g, k' + 1, none⟩ = some (.int .i64 x))) (by kernel_rfl) ?_
          simp only [inOrder, List.filterMap, List.getElem?_cons_succ, List.getElem?_cons_zero]
          generalize wq.drew = V at *
          clear HOQ HBQ QL2 QM2
          refine lext_take (i := 0) (v := ?_) rfl (by decide) (by decide) (by kernel_rfl) (by kernel_rfl) (by kernel_rfl) (by kernel_rfl) (by kernel_rfl) (by kernel_rfl) (by rfl) hS ?_ ?_
          rotate_left
          · ((intro W hW; obtain ⟨k1, k2⟩ := hW rfl; go_simp) <;> with_reducible rfl)
          simp only [Act.put, List.setIfInBounds_toArray, List.set_cons_zero, List.set_cons_succ]
          refine lext_take (i := 1) (v := ?_) rfl (by decide) (by decide) (by kernel_rfl) (by kernel_rfl) (by kernel_rfl) (by kernel_rfl) (by kernel_rfl) (by kernel_rfl) (by rfl) hS ?_ ?_
          rotate_left
          · ((intro W hW; obtain ⟨k1, k2⟩ := hW rfl; go_simp) <;> with_reducible rfl)
          simp only [Act.put, List.setIfInBounds_toArray, List.set_cons_zero, List.set_cons_succ]
          refine lext_take (i := 2) (v := ?_) rfl (by decide) (by decide) (by kernel_rfl) (by kernel_rfl) (by kernel_rfl) (by kernel_rfl) (by kernel_rfl) (by kernel_rfl) (by rfl) hS ?_ ?_
          rotate_left
          · ((intro W hW; obtain ⟨k1, k2⟩ := hW rfl; go_simp) <;> with_reducible rfl)
          simp only [Act.put, List.setIfInBounds_toArray, List.set_cons_zero, List.set_cons_succ]
          refine lext_late (i := 3) (v := ?_) (b := false) rfl (by decide) (by decide) (by kernel_rfl) (by kernel_rfl) (by kernel_rfl) (by kernel_rfl) (by kernel_rfl) (fun W h e => by cases e) (by rfl) hS ?_ ?_
          rotate_left
          · ((intro W hW; go_simp) <;> with_reducible rfl)
          simp only [Act.put, List.setIfInBounds_toArray, List.set_cons_zero, List.set_cons_succ]
          refine lext_late (i := 4) (v := ?_) (b := false) rfl (by decide) (by decide) (by kernel_rfl) (by kernel_rfl) (by kernel_rfl) (by kernel_rfl) (by kernel_rfl) (fun W h e => by cases e) (by rfl) hS ?_ ?_
          rotate_left
          · ((intro W hW; go_simp) <;> with_reducible rfl)
          simp only [Act.put, List.setIfInBounds_toArray, List.set_cons_zero, List.set_cons_succ]
          refine lext_take (i := 5) (v := ?_) rfl (by decide) (by decide) (by kernel_rfl) (by kernel_rfl) (by kernel_rfl) (by kernel_rfl) (by kernel_rfl) (by kernel_rfl) (by rfl) hS ?_ ?_
          rotate_left
          · ((intro W hW; obtain ⟨k1, k2⟩ := hW rfl; go_simp) <;> with_reducible rfl)
          simp only [Act.put, List.setIfInBounds_toArray, List.set_cons_zero, List.set_cons_succ]
          refine lext_take (i := 6) (v := ?_) rfl (by decide) (by decide) (by kernel_rfl) (by kernel_rfl) (by kernel_rfl) (by kernel_rfl) (by kernel_rfl) (by kernel_rfl) (by rfl) hS ?_ ?_
          rotate_left
          · ((intro W hW; obtain ⟨k1, k2⟩ := hW rfl; go_simp) <;> with_reducible rfl)
          simp only [Act.put, List.setIfInBounds_toArray, List.set_cons_zero, List.set_cons_succ]
          refine lext_take (i := 7) (v := ?_) rfl (by decide) (by decide) (by kernel_rfl) (by kernel_rfl) (by kernel_rfl) (by kernel_rfl) (by kernel_rfl) (by kernel_rfl) (by rfl) hS ?_ ?_
          rotate_left
          · ((intro W hW; obtain ⟨k1, k2⟩ := hW rfl; go_simp) <;> with_reducible rfl)
          simp only [Act.put, List.setIfInBounds_toArray, List.set_cons_zero, List.set_cons_succ]
          refine lext_take (i := 8) (v := ?_) rfl (by decide) (by decide) (by kernel_rfl) (by kernel_rfl) (by kernel_rfl) (by kernel_rfl) (by kernel_rfl) (by kernel_rfl) (by rfl) hS ?_ ?_
          rotate_left
          · ((intro W hW; obtain ⟨k1, k2⟩ := hW rfl; go_simp) <;> with_reducible rfl)
          simp only [Act.put, List.setIfInBounds_toArray, List.set_cons_zero, List.set_cons_succ]
          refine lext_late (i := 9) (v := ?_) (b := false) rfl (by decide) (by decide) (by kernel_rfl) (by kernel_rfl) (by kernel_rfl) (by kernel_rfl) (by kernel_rfl) (fun W h e => by cases e) (by rfl) hS ?_ ?_
          rotate_left
          · ((intro W hW; go_simp) <;> with_reducible rfl)
          simp only [Act.put, List.setIfInBounds_toArray, List.set_cons_zero, List.set_cons_succ]
          refine lext_late (i := 10) (v := ?_) (b := false) rfl (by decide) (by decide) (by kernel_rfl) (by kernel_rfl) (by kernel_rfl) (by kernel_rfl) (by kernel_rfl) (fun W h e => by cases e) (by rfl) hS ?_ ?_
          rotate_left
          · ((intro W hW; go_simp) <;> with_reducible rfl)
          simp only [Act.put, List.setIfInBounds_toArray, List.set_cons_zero, List.set_cons_succ]
          refine lext_late (i := 11) (v := ?_) (b := false) rfl (by decide) (by decide) (by kernel_rfl) (by kernel_rfl) (by kernel_rfl) (by kernel_rfl) (by kernel_rfl) (fun W h e => by cases e) (by rfl) hS ?_ ?_
          rotate_left
          · ((intro W hW; go_simp) <;> with_reducible rfl)
          simp only [Act.put, List.setIfInBounds_toArray, List.set_cons_zero, List.set_cons_succ]
          refine lext_late (i := 12) (v := ?_) (b := false) rfl (by decide) (by decide) (by kernel_rfl) (by kernel_rfl) (by kernel_rfl) (by kernel_rfl) (by kernel_rfl) (fun W h e => by cases e) (by rfl) hS ?_ ?_
          rotate_left
          · ((intro W hW; go_simp) <;> with_reducible rfl)
          simp only [Act.put, List.setIfInBounds_toArray, List.set_cons_zero, List.set_cons_succ]
          refine lext_take (i := 13) (v := ?_) rfl (by decide) (by decide) (by kernel_rfl) (by kernel_rfl) (by kernel_rfl) (by kernel_rfl) (by kernel_rfl) (by kernel_rfl) (by rfl) hS ?_ ?_
          rotate_left
          · ((intro W hW; obtain ⟨k1, k2⟩ := hW rfl; go_simp) <;> with_reducible rfl)
          simp only [Act.put, List.setIfInBounds_toArray, List.set_cons_zero, List.set_cons_succ]
          refine lext_take (i := 14) (v := ?_) rfl (by decide) (by decide) (by kernel_rfl) (by kernel_rfl) (by kernel_rfl) (by kernel_rfl) (by kernel_rfl) (by kernel_rfl) (by rfl) hS ?_ ?_
          rotate_left
          · ((intro W hW; obtain ⟨k1, k2⟩ := hW rfl; go_simp) <;> with_reducible rfl)
          simp only [Act.put, List.setIfInBounds_toArray, List.set_cons_zero, List.set_cons_succ]
          refine lext_do (i := 15) (b := true) rfl (by kernel_rfl) (by kernel_rfl) (by rfl) (fun K hK => ?_)
          have s1 := (hS rfl).1
          have f1 := own_frozenT (j := k') HO2.out
          go_simp
          have HO3 := Lib.hid (own_setT HO2.out (show k' < n1 by have := HN1.out; omega) x)
          have HB3 : Hid (Below w2.heap.size w2 (V.setCell ⟨g, k', none⟩ (.int .i64 x))) := Lib.hid (HB2.out.setCell (p := ⟨g, k', none⟩) (own_type HO2.out rfl).1 _)
          refine hK _ _ ⟨(fun _ e => (by cases e)), ?_⟩
          clear hK K hS s1 f1 HO2 HB2
          generalize (V.setCell ⟨g, k', none⟩ (.int .i64 x)) = V3 at *
          have hS : (fun (b : Bool) (W : World) => b = false → W.cell? ⟨g, k', none⟩ = some (.int .i64 y) ∧ W.cell? ⟨g, k' + 1, none⟩ = some (.int .i64 x)) true V3 := fun e => by cases e
          refine lext_late (i := 16) (v := ?_) (b := true) rfl (by decide) (by decide) (by kernel_rfl) (by kernel_rfl) (by kernel_rfl) (by kernel_rfl) (by kernel_rfl) (fun W h e => by cases e) (by rfl) hS ?_ ?_
          rotate_left
          · ((intro W hW; go_simp) <;> with_reducible rfl)
          simp only [Act.put, List.setIfInBounds_toArray, List.set_cons_zero, List.set_cons_succ]
          refine lext_do (i := 17) (b := true) rfl (by kernel_rfl) (by kernel_rfl) (by rfl) (fun K hK => ?_)
          have s2 := own_cellT HO3.out (j := k' + 1) (x := x) (by rw [List.getElem?_set_ne (by omega)]; exact insAt_at hk)
          have f2 := own_frozenT (j := k' + 1) HO3.out
          clear hS
          go_simp
          have HO4 := Lib.hid (own_setT HO3.out (show k' + 1 < n1 by have := HN1.out; omega) y)
          have HB4 : Hid (Below w2.heap.size w2 (V3.setCell ⟨g, k' + 1, none⟩ (.int .i64 y))) := Lib.hid (HB3.out.setCell (p := ⟨g, k' + 1, none⟩) (own_type HO3.out rfl).1 _)
          rw [HSTEP.out] at HO4
          refine hK _ _ ⟨fun e => absurd rfl e, ?_⟩
          clear hK K s2 f2 HO3 HB3
          generalize (V3.setCell ⟨g, k' + 1, none⟩ (.int .i64 y)) = V4 at *
          refine lext_done (by kernel_rfl) ?_
          go_wp2_with fail
          go_roundw
          case rel => exact ⟨k', by go_num, by omega, HJ2.out, HO4.out, HB4.out⟩
          case measure => simp [intOf] <;> omega
    · obtain rfl : i = L.length := by omega
      clear hb hlt
      have HT : promL p at' (L.take L.length) = promL p at' L := by rw [List.take_length]
      rw [HT] at HO ⊢
      clear HT
      go_wp2_with fail
      go_returns
      exact ⟨.slice la (promL p at' L).length lc, rfl, own_base HO.out HU2.out.size, bmore HU2.out HB.out⟩
end
end Go.Proofs.YtgaklaajbepfaaaGreatDoor
namespace Go.Proofs.YtgaklaajbepfaaaGreatDoor
open Go.ChangeShapes Go.WideShapes Go.ChangeAt Go.WideMaps Go.WideElems Go.RowKit
set_option linter.unusedVariables false

abbrev laidL : List (String × DataW Unit) := [("escrow/term.shapes", Rows.laid_escrow_term_shapes)]
def shD (k : Nat) : DataW Unit := .agg [.lit (.bool (namedB (k : Int))), .lit (.bool (twoB (k : Int))), .lit (.bool ((k : Int) == 2)), .lit (.bool ((k : Int) == 3)), .lit (.int .i64 (kidsN (k : Int) : Int))]
theorem datum_eq : (Rows.laid_escrow_term_shapes (H := Unit)) = .agg ((List.range 10).map shD) := by kernel_rfl
theorem gShapes : Tryz.prog.globalNamed "escrow/term.shapes" = some 0 := by kernel_rfl
theorem tShapes : (Tryz.prog.globals[0]?).map (·.type) = some 166 := by kernel_rfl

set_option maxRecDepth 100000 in
theorem trod_shape {H : Type} {enc : TypeId × Value → H} {W : World} {base fuel : Nat} {sp : Nat → Bool} {held : Bool} {cs : List Value} {x : DataW H × List MemPlace} {b0 b1 b2 b3 : Bool} {m : Int}
    (ht : DataW.trod enc Tryz.prog W base sp held fuel ShT cs = some x) (hx : x.1 = .agg [.lit (.bool b0), .lit (.bool b1), .lit (.bool b2), .lit (.bool b3), .lit (.int .i64 m)]) :
    cs = [.bool b0, .bool b1, .bool b2, .bool b3, .int .i64 m] := by
  obtain ⟨ys, k, _, hxx, hl, hyl, hfld⟩ := DataW.trod_struct Tryz.underlying126 ht
  rw [hxx] at hx
  have c5 : Tryz.prog.cellsOf 126 = 5 := by kernel_rfl
  have cb : Tryz.prog.cellsOf 4 = 1 := by kernel_rfl
  have ci : Tryz.prog.cellsOf 3 = 1 := by kernel_rfl
  rw [c5] at hl
  match cs, hl with
  | [u0, u1, u2, u3, u4], _ =>
    have f0 : DataW.trod enc Tryz.prog W base sp held k 4 (([u0, u1, u2, u3, u4].drop 0).take (Tryz.prog.cellsOf 4)) = ys[0]? := hfld 0 _ rfl
    have f1 : DataW.trod enc Tryz.prog W base sp held k 4 (([u0, u1, u2, u3, u4].drop 1).take (Tryz.prog.cellsOf 4)) = ys[1]? := hfld 1 _ rfl
    have f2 : DataW.trod enc Tryz.prog W base sp held k 4 (([u0, u1, u2, u3, u4].drop 2).take (Tryz.prog.cellsOf 4)) = ys[2]? := hfld 2 _ rfl
    have f3 : DataW.trod enc Tryz.prog W base sp held k 4 (([u0, u1, u2, u3, u4].drop 3).take (Tryz.prog.cellsOf 4)) = ys[3]? := hfld 3 _ rfl
    have f4 : DataW.trod enc Tryz.prog W base sp held k 3 (([u0, u1, u2, u3, u4].drop 4).take (Tryz.prog.cellsOf 3)) = ys[4]? := hfld 4 _ rfl
    rw [cb] at f0 f1 f2 f3
    rw [ci] at f4
    simp only [List.drop_zero, List.drop_succ_cons, List.take_succ_cons, List.take_zero] at f0 f1 f2 f3 f4
    match ys, hyl with
    | [y0, y1, y2, y3, y4], _ =>
      simp only [List.map_cons, List.map_nil, DataW.agg.injEq, List.cons.injEq, and_true] at hx
      obtain ⟨h0, h1, h2, h3, h4⟩ := hx
      obtain ⟨v0, e0, w0⟩ := DataW.trod_bool Tryz.underlying4 (show DataW.trod enc Tryz.prog W base sp held k 4 [u0] = some y0 from f0)
      obtain ⟨v1, e1, w1⟩ := DataW.trod_bool Tryz.underlying4 (show DataW.trod enc Tryz.prog W base sp held k 4 [u1] = some y1 from f1)
      obtain ⟨v2, e2, w2⟩ := DataW.trod_bool Tryz.underlying4 (show DataW.trod enc Tryz.prog W base sp held k 4 [u2] = some y2 from f2)
      obtain ⟨v3, e3, w3⟩ := DataW.trod_bool Tryz.underlying4 (show DataW.trod enc Tryz.prog W base sp held k 4 [u3] = some y3 from f3)
      obtain ⟨v4, e4, w4, _⟩ := DataW.trod_int Tryz.underlying3 (show DataW.trod enc Tryz.prog W base sp held k 3 [u4] = some y4 from f4)
      rw [w0] at h0
      rw [w1] at h1
      rw [w2] at h2
      rw [w3] at h3
      rw [w4] at h4
      simp only [DataW.lit.injEq, Lit.bool.injEq, Lit.int.injEq, true_and] at h0 h1 h2 h3 h4
      simp only [List.cons.injEq, and_true] at e0 e1 e2 e3 e4
      rw [e0, e1, e2, e3, e4, h0, h1, h2, h3, h4]

theorem at_of_take {L : List Value} {n : Nat} {a0 a1 a2 a3 a4 : Value} (h : (L.drop n).take 5 = [a0, a1, a2, a3, a4]) : L[n]? = some a0 ∧ L[n + 1]? = some a1 ∧ L[n + 2]? = some a2 ∧ L[n + 3]? = some a3 ∧ L[n + 4]? = some a4 := by
  have g : ∀ j, j < 5 → L[n + j]? = [a0, a1, a2, a3, a4][j]? := fun j hj => by
    rw [← h, List.getElem?_take, if_pos hj, List.getElem?_drop]
  exact ⟨g 0 (by decide), g 1 (by decide), g 2 (by decide), g 3 (by decide), g 4 (by decide)⟩

set_option maxRecDepth 100000 in
theorem of_laid {W : World} (h : laidMetH Tryz.prog laidL W) : Laid W := by
  rw [MakeChecks.laidMetH_plain _ _ _ (by kernel_rfl)] at h
  obtain ⟨ps, ⟨g0, t0, cs0, f0, p0, q0, hg0, ht0, hv0, hd0, _, _⟩, _, _⟩ := h
  obtain rfl := Option.some.inj (gShapes.symm.trans hg0)
  obtain rfl := Option.some.inj (tShapes.symm.trans ht0)
  rw [datum_eq] at hd0
  obtain ⟨xs, m, _, hx, _, hn, hel⟩ := DataW.trod_array Tryz.underlying166 hd0
  have c5 : Tryz.prog.cellsOf 126 = 5 := by kernel_rfl
  simp only [Prod.mk.injEq, DataW.agg.injEq] at hx
  intro k hk
  have hek := hel k hk
  rw [c5] at hek
  have hxk : xs[k]? = some (xs[k]'(by omega)) := List.getElem?_eq_getElem (by omega)
  rw [hxk] at hek
  have hd : (xs[k]'(by omega)).1 = shD k := by
    have := congrArg (fun l => l[k]?) hx.1
    simp only [List.getElem?_map, hxk, Option.map_some, List.getElem?_range hk] at this
    exact (Option.some.inj this).symm
  have hc := trod_shape hek hd
  obtain ⟨a0, a1, a2, a3, a4⟩ := at_of_take hc
  refine ⟨?_, ?_, ?_, ?_, ?_⟩
  · rw [World.var?_cell hg0 hv0, ← a0]; simp
  · rw [World.var?_cell hg0 hv0, ← a1]; simp
  · rw [World.var?_cell hg0 hv0, ← a2]; simp
  · rw [World.var?_cell hg0 hv0, ← a3]; simp
  · rw [World.var?_cell hg0 hv0, ← a4]; simp

/-- The door's own heap meets the condition: three closed facts. -/
theorem door_met (os : Os) (args : Array Value) : laidMetH Tryz.prog laidL ((World.doorLaid Tryz.prog 400 os).forCall (fun _ _ => 0) ⟨#[], args, []⟩).memory :=
  laidMetH_of_parts3 (fuel := 8) (laidMet_of_run' 8 (by kernel_rfl) (by kernel_rfl)) (by kernel_rfl) (by kernel_rfl)
end Go.Proofs.YtgaklaajbepfaaaGreatDoor
namespace Go.Proofs.YtgaklaajbepfaaaGreatDoor
open Go.RowKit Go.Maps Go.Shelf
set_option linter.unusedVariables false

theorem IsRef.regs {w w' : World} {B0 B b mb a : Nat} {vl vs vd : Value} {p : Pl} (h : IsRef w B0 a vl vs vd p) (g : ReG w B b mb w') : IsRef w' B0 a vl vs vd p :=
  ⟨g.hold _ (by decide) (by decide) _ _ h.lay, h.ga, own_hold h.rl (g.hold _ (by decide) (by decide)), own_hold h.rs (g.hold _ (by decide) (by decide)), own_hold h.rd (g.hold _ (by decide) (by decide)), h.ap, h.ok, h.nok⟩
theorem rep_size {p : Pl} (hp : Ok p) {t : Int} {n : Nd} {k : Fo} (h : RepF p [t] (.cons n k .nil)) : k.size ≤ 6000 := by
  have h1 := (h.sizes hp).1
  have h9 := hp.at_bounds t
  simp only [sumSz, Fo.size] at h1
  omega
set_option maxRecDepth 100000 in
set_option maxHeartbeats 51200000 in
theorem sees_walk {w : World} (hl : Laid w) {fo : Fo} {t who : Int} {u0 : Value} (hk : IsK w (fun b => b < w.heap.size) u0 fo) (hok : OkF fo) : Calls Tryz.prog 4 #[u0, .int .i64 t, .int .i64 who] w fun e w' => e = .returned (.bool true) ∧ Below w.heap.size w w' := by
  obtain ⟨a0, k0, rfl, _⟩ := hk.shape
  have WD := Lib.hid (wide_any hk)
  have HLD := Lib.hid hl
  have HKK := Lib.hid hk
  have HOK := Lib.hid hok
  clear hk hl hok
  have NU := Lib.hid (fun (n : Int) (W : World) => num_any n W)
  go_enter Tryz.func4, Tryz.ntmps4
  go_wp2_with fail
  refine WD.out.mono ?_
  rintro e w3 ⟨⟨q, rfl, hq⟩, u3⟩
  have HU3 := Lib.hid u3
  clear u3 WD
  cases q with
  | true =>
    clear hq
    have LV := Lib.hid (live_any (HLD.out.below HU3.out))
    go_wp2_with fail
    refine LV.out.mono ?_
    rintro e wl ⟨rfl, ul⟩
    have HUL := Lib.hid (bmore HU3.out ul)
    clear ul LV
    go_wp2_with fail
    go_returns
    exact ⟨rfl, HUL.out⟩
  | false =>
    have HQ := Lib.hid (hq rfl)
    clear hq
    have hk1 := HKK.out.below HU3.out
    have hk2 := hk1.of (w' := w) (G' := fun b => b < w3.heap.size) (fun b hb _ => Nat.lt_of_lt_of_le hb HU3.out.size)
    have PO := Lib.hid (pools_any (HLD.out.below HU3.out) hk2 HOK.out (by have := HQ.out.2; omega) (by have := HQ.out.1; omega))
    clear hk1 hk2
    go_wp2_with fail
    refine PO.out.mono ?_
    rintro e w4 ⟨pa, b, ra, vv, rl, rs, rd, p, rfl, hp, hr, u4, hlen⟩
    have HP := Lib.hid hp
    have HR := Lib.hid hr
    have HU4 := Lib.hid (bmore HU3.out u4)
    have HBB : Hid (w.heap.size ≤ w3.heap.size) := Lib.hid HU3.out.size
    have HPL : Hid (p.length ≤ 400) := Lib.hid (by have := HQ.out.2; omega)
    clear hp hr u4 hlen HU3 PO HKK HOK HQ
    generalize w3.heap.size = B2 at *
    have T1 := Lib.hid (Tells_any HP.out who t)
    have T2 := Lib.hid (fun (W : World) (hW : Below w4.heap.size w4 W) => rTells_any (HR.out.below hW) who t)
    generalize tellB who (atP p t).1 = tb at *
    have htb : (tb != tb) = false := by simp
    go_wp2_with fail
    refine T1.out.mono ?_
    rintro e w5 ⟨rfl, u5⟩
    go_wp2_with fail
    refine (T2.out _ u5).mono ?_
    rintro e w6 ⟨rfl, u6⟩
    have HP6 := Lib.hid ((HP.out.below u5).below u6)
    have HR6 := Lib.hid ((HR.out.below u5).below u6)
    have HU6 := Lib.hid (bmore (bmore HU4.out u5) u6)
    clear u5 u6 T1 T2 HP HR HU4
    obtain ⟨lv, lc, rfl⟩ := (row_of_own HR6.out.rl).shape
    have HKP : Hid (∀ V : World, Below w6.heap.size w6 V → V.cell? ⟨ra, 0, none⟩ = some (.slice lv p.length lc)) := Lib.hid fun V h => bcellAt h (cellB (j := 0) HR6.out.lay rfl)
    have PR1 := Lib.hid (Promises_any (HP6.out.below (bd w6)) who t)
    go_upto_region 6 with fail
    clear htb
    refine lex_start [0, 1, 2, 4, 5, 6, 3, 7, 8, 9, 10, 11, 13, 14, 15, 16, 17, 12, 18, 19] (S := (fun V : World => V.cell? ⟨ra, 0, none⟩ = some (.slice lv p.length lc))) (by kernel_rfl) (HKP.out _ (bd w6)) (fun hS => ?_)
    clear hS
    simp only [inOrder, List.filterMap, List.getElem?_cons_succ, List.getElem?_cons_zero]
    refine lex_take (i := 0) (v := ?_) rfl (by kernel_rfl) (by kernel_rfl) (by kernel_rfl) (by rfl) (HKP.out _ (bd w6)) ?_ ?_
    rotate_left
    · ((intro W hW; have k0 := hW; go_simp) <;> with_reducible rfl)
    simp only [Act.put, List.setIfInBounds_toArray, List.set_cons_zero, List.set_cons_succ]
    refine lex_take (i := 1) (v := ?_) rfl (by kernel_rfl) (by kernel_rfl) (by kernel_rfl) (by rfl) (HKP.out _ (bd w6)) ?_ ?_
    rotate_left
    · ((intro W hW; have k0 := hW; go_simp) <;> with_reducible rfl)
    simp only [Act.put, List.setIfInBounds_toArray, List.set_cons_zero, List.set_cons_succ]
    refine lex_take (i := 2) (v := ?_) rfl (by kernel_rfl) (by kernel_rfl) (by kernel_rfl) (by rfl) (HKP.out _ (bd w6)) ?_ ?_
    rotate_left
    · ((intro W hW; have k0 := hW; go_simp) <;> with_reducible rfl)
    simp only [Act.put, List.setIfInBounds_toArray, List.set_cons_zero, List.set_cons_succ]
    refine lex_take (i := 4) (v := ?_) rfl (by kernel_rfl) (by kernel_rfl) (by kernel_rfl) (by rfl) (HKP.out _ (bd w6)) ?_ ?_
    rotate_left
    · ((intro W hW; have k0 := hW; go_simp) <;> with_reducible rfl)
    simp only [Act.put, List.setIfInBounds_toArray, List.set_cons_zero, List.set_cons_succ]
    refine lex_take (i := 5) (v := ?_) rfl (by kernel_rfl) (by kernel_rfl) (by kernel_rfl) (by rfl) (HKP.out _ (bd w6)) ?_ ?_
    rotate_left
    · ((intro W hW; have k0 := hW; go_simp) <;> with_reducible rfl)
    simp only [Act.put, List.setIfInBounds_toArray, List.set_cons_zero, List.set_cons_succ]
    refine lex_take (i := 6) (v := ?_) rfl (by kernel_rfl) (by kernel_rfl) (by kernel_rfl) (by rfl) (HKP.out _ (bd w6)) ?_ ?_
    rotate_left
    · ((intro W hW; have k0 := hW; go_simp) <;> with_reducible rfl)
    simp only [Act.put, List.setIfInBounds_toArray, List.set_cons_zero, List.set_cons_succ]
    refine lex_call (i := 3) rfl (by kernel_rfl) (by rfl) ?_ _ PR1.out ?_
    · go_simp
    rintro e x1 ⟨pv, rfl, hrow, b1⟩
    have V1 := Lib.hid (bmore (bd w6) b1)
    have RW1 : Hid (Row x1 1 pv (riseL (promL p who (subs p t))).length (ints (riseL (promL p who (subs p t))))) := Lib.hid (by rw [rise_len]; exact row_of_own hrow)
    have PR2 := Lib.hid (rPromises_any (HR6.out.below V1.out) who t)
    clear b1 hrow PR1
    refine ⟨_, rfl, (fun V : World => V.cell? ⟨ra, 0, none⟩ = some (.slice lv p.length lc)), fun W h => h, (HKP.out _ V1.out), ?_⟩
    simp only [Act.put, List.setIfInBounds_toArray, List.set_cons_zero, List.set_cons_succ]
    refine lex_call (i := 7) rfl (by kernel_rfl) (by rfl) ?_ _ PR2.out ?_
    · go_simp
    rintro e x2 ⟨pv2, rfl, hrow, b2⟩
    have V2 := Lib.hid (bmore V1.out b2)
    have RW2 : Hid (Row x2 1 pv2 (riseL (promL p who (subs p t))).length (ints (riseL (promL p who (subs p t))))) := Lib.hid (by rw [rise_len]; exact row_of_own hrow)
    have TM := Lib.hid (terms_any (RW1.out.below b2) RW2.out (by have := promL_len p who (subs p t); have := subs_len HR6.out.ok t; have := HPL.out; rw [rise_len]; omega))
    clear b2 hrow PR2 V1 RW1 RW2
    refine ⟨_, rfl, (fun V : World => V.cell? ⟨ra, 0, none⟩ = some (.slice lv p.length lc)), fun W h => h, (HKP.out _ V2.out), ?_⟩
    simp only [Act.put, List.setIfInBounds_toArray, List.set_cons_zero, List.set_cons_succ]
    refine lex_call (i := 8) rfl (by kernel_rfl) (by rfl) ?_ _ TM.out ?_
    · go_simp
    rintro e x3 ⟨rfl, b3⟩
    have V3 := Lib.hid (bmore V2.out b3)
    have PL := Lib.hid (plen (HP6.out.below V3.out))
    clear b3 TM V2
    refine ⟨_, rfl, (fun V : World => V.cell? ⟨ra, 0, none⟩ = some (.slice lv p.length lc)), fun W h => h, (HKP.out _ V3.out), ?_⟩
    simp only [Act.put, List.setIfInBounds_toArray, List.set_cons_zero, List.set_cons_succ]
    refine lex_take (i := 9) (v := ?_) rfl (by kernel_rfl) (by kernel_rfl) (by kernel_rfl) (by rfl) (HKP.out _ V3.out) ?_ ?_
    rotate_left
    · ((intro W hW; have k0 := hW; go_simp) <;> with_reducible rfl)
    simp only [Act.put, List.setIfInBounds_toArray, List.set_cons_zero, List.set_cons_succ]
    refine lex_take (i := 10) (v := ?_) rfl (by kernel_rfl) (by kernel_rfl) (by kernel_rfl) (by rfl) (HKP.out _ V3.out) ?_ ?_
    rotate_left
    · ((intro W hW; have k0 := hW; go_simp) <;> with_reducible rfl)
    simp only [Act.put, List.setIfInBounds_toArray, List.set_cons_zero, List.set_cons_succ]
    refine lex_take (i := 11) (v := ?_) rfl (by kernel_rfl) (by kernel_rfl) (by kernel_rfl) (by rfl) (HKP.out _ V3.out) ?_ ?_
    rotate_left
    · ((intro W hW; have k0 := hW; go_simp) <;> with_reducible rfl)
    simp only [Act.put, List.setIfInBounds_toArray, List.set_cons_zero, List.set_cons_succ]
    refine lex_take (i := 13) (v := ?_) rfl (by kernel_rfl) (by kernel_rfl) (by kernel_rfl) (by rfl) (HKP.out _ V3.out) ?_ ?_
    rotate_left
    · ((intro W hW; have k0 := hW; go_simp) <;> with_reducible rfl)
    simp only [Act.put, List.setIfInBounds_toArray, List.set_cons_zero, List.set_cons_succ]
    refine lex_take (i := 14) (v := ?_) rfl (by kernel_rfl) (by kernel_rfl) (by kernel_rfl) (by rfl) (HKP.out _ V3.out) ?_ ?_
    rotate_left
    · ((intro W hW; have k0 := hW; go_simp) <;> with_reducible rfl)
    simp only [Act.put, List.setIfInBounds_toArray, List.set_cons_zero, List.set_cons_succ]
    refine lex_take (i := 15) (v := ?_) rfl (by kernel_rfl) (by kernel_rfl) (by kernel_rfl) (by rfl) (HKP.out _ V3.out) ?_ ?_
    rotate_left
    · ((intro W hW; have k0 := hW; go_simp) <;> with_reducible rfl)
    simp only [Act.put, List.setIfInBounds_toArray, List.set_cons_zero, List.set_cons_succ]
    refine lex_take (i := 16) (v := ?_) rfl (by kernel_rfl) (by kernel_rfl) (by kernel_rfl) (by rfl) (HKP.out _ V3.out) ?_ ?_
    rotate_left
    · ((intro W hW; have k0 := hW; go_simp) <;> with_reducible rfl)
    simp only [Act.put, List.setIfInBounds_toArray, List.set_cons_zero, List.set_cons_succ]
    refine lex_take (i := 17) (v := ?_) rfl (by kernel_rfl) (by kernel_rfl) (by kernel_rfl) (by rfl) (HKP.out _ V3.out) ?_ ?_
    rotate_left
    · ((intro W hW; have k0 := hW; go_simp) <;> with_reducible rfl)
    simp only [Act.put, List.setIfInBounds_toArray, List.set_cons_zero, List.set_cons_succ]
    refine lex_call (i := 12) rfl (by kernel_rfl) (by rfl) ?_ _ PL.out ?_
    · go_simp
    rintro e x4 ⟨rfl, rfl⟩
    have hpp : ((p.length : Int) != (p.length : Int)) = false := by simp
    clear PL
    refine ⟨_, rfl, (fun V : World => V.cell? ⟨ra, 0, none⟩ = some (.slice lv p.length lc)), fun W h => h, (HKP.out _ V3.out), ?_⟩
    simp only [Act.put, List.setIfInBounds_toArray, List.set_cons_zero, List.set_cons_succ]
    refine lex_take (i := 18) (v := ?_) rfl (by kernel_rfl) (by kernel_rfl) (by kernel_rfl) (by rfl) (HKP.out _ V3.out) ?_ ?_
    rotate_left
    · ((intro W hW; have k0 := hW; go_simp) <;> with_reducible rfl)
    simp only [Act.put, List.setIfInBounds_toArray, List.set_cons_zero, List.set_cons_succ]
    refine lex_take (i := 19) (v := ?_) rfl (by kernel_rfl) (by kernel_rfl) (by kernel_rfl) (by rfl) (HKP.out _ V3.out) ?_ ?_
    rotate_left
    · ((intro W hW; have k0 := hW; go_simp) <;> with_reducible rfl)
    simp only [Act.put, List.setIfInBounds_toArray, List.set_cons_zero, List.set_cons_succ]
    refine lex_done (by kernel_rfl) ?_
    have HP7 := Lib.hid (HP6.out.below V3.out)
    have HR7 := Lib.hid (HR6.out.below V3.out)
    have HU7 := Lib.hid (bmore HU6.out V3.out)
    clear HP6 HR6 HU6 HKP V3
    by_cases hz : rfsP p who [t] = 0
    case neg =>
      have VB := Lib.hid (view_bad HP7.out who t hz)
      have SB := Lib.hid (fun (W : World) (hW : Below x3.heap.size x3 W) => swap_bad (HP7.out.below hW) who t hz)
      have RI := Lib.hid (fun (W : World) (hW : Below x3.heap.size x3 W) => rin (HR7.out.below hW) t)
      have RNM := Lib.hid (fun W => rname_any who W)
      go_wp2_with fail
      refine VB.out.mono ?_
      rintro e w8 ⟨rfl, u8⟩
      go_wp2_with fail
      refine (SB.out _ u8).mono ?_
      rintro e w9 ⟨rfl, u9⟩
      have U9 := Lib.hid (bmore u8 u9)
      have HU9 := Lib.hid (bmore HU7.out U9.out)
      clear u8 u9 VB SB hpp
      go_wp2_with fail
      refine (RNM.out _).mono ?_
      rintro e V ⟨rfl, rfl⟩
      have LV := Lib.hid (live_any (HLD.out.below HU9.out))
      cases hn : nameK who with
      | false =>
        have hrf : rfsP p who [t] = 50 := by unfold rfsP; rw [if_pos (show nameB who = false from hn)]
        rw [hrf]
        clear hz hrf hn RNM RI
        go_wp2_with ((with_reducible refine (NU.out _ _).mono ?_); rintro e wn ⟨rfl, rfl⟩)
        refine LV.out.mono ?_
        rintro e wl ⟨rfl, ul⟩
        have HUL := Lib.hid (bmore HU9.out ul)
        clear ul LV
        go_wp2_with fail
        go_returns
        exact ⟨rfl, HUL.out⟩
      | true =>
        have hin : inP p t = false := by
          cases h : inP p t with
          | false => rfl
          | true => exact absurd (rfs_zero.2 ⟨show nameB who = true from hn, fun x hx => by obtain rfl : x = t := (by simpa using hx); exact h⟩) hz
        have hrf : rfsP p who [t] = 51 := by unfold rfsP; rw [if_neg (by rw [show nameB who = true from hn]; decide), if_neg (by simp [hin])]
        rw [hrf]
        have RI2 := Lib.hid (RI.out _ U9.out)
        rw [hin] at RI2
        clear hz hrf hn RNM RI hin
        go_wp2_with fail
        refine RI2.out.mono ?_
        rintro e V ⟨rfl, rfl⟩
        clear RI2
        go_wp2_with ((with_reducible refine (NU.out _ _).mono ?_); rintro e wn ⟨rfl, rfl⟩)
        refine LV.out.mono ?_
        rintro e wl ⟨rfl, ul⟩
        have HUL := Lib.hid (bmore HU9.out ul)
        clear ul LV
        go_wp2_with fail
        go_returns
        exact ⟨rfl, HUL.out⟩
    have HNB := Lib.hid (rfs_zero.1 hz).1
    have HIN : Hid (inP p t = true) := Lib.hid ((rfs_zero.1 hz).2 t (by simp))
    clear hz hpp
    have HTL : Hid (1 ≤ t ∧ t ≤ 400) := Lib.hid (by have h := HIN.out; have := HPL.out; unfold inP at h; simp at h; omega)
    have VW := Lib.hid (view_any (w0 := w) HLD.out HBB.out HU7.out HP7.out who HNB.out HIN.out (by have := HTL.out; have := HPL.out; omega))
    go_wp2_with fail
    refine VW.out.mono ?_
    rintro e w8 ⟨v, v8, p8, m8, rfl, hp8, ha8, hm8, g8⟩
    have HP8 := Lib.hid hp8
    have HA8 := Lib.hid ha8
    have HM8 := Lib.hid hm8
    have HR8 := Lib.hid (HR7.out.regs g8)
    have HU8 := Lib.hid (HU7.out.trans (g8.below.mono HBB.out))
    have HE8 : Hid (∃ e8, p8 = p ++ e8) := Lib.hid ha8.ext
    have HL8 : Hid (p8.length ≤ 800) := Lib.hid (by have := ha8.len; have := HPL.out; have := HTL.out; omega)
    have HIN8 : Hid (inP p8 t = true) := Lib.hid (by obtain ⟨e8, he8⟩ := ha8.ext; rw [he8]; exact inP_le HIN.out (by simp))
    have HIV : Hid (inP p8 v = true) := Lib.hid (by
      rcases ha8.at_ _ _ hm8 with ⟨h, _⟩ | ⟨_, _, h, _⟩
      · have := HTL.out; omega
      · exact h)
    clear hp8 ha8 hm8 g8 VW HP7 HR7 HU7
    have SW := Lib.hid (swap_any (w0 := w) HLD.out HBB.out HU8.out HP8.out who HNB.out HIN8.out (by have := HTL.out; have := HL8.out; omega))
    go_wp2_with fail
    refine SW.out.mono ?_
    rintro e w9 ⟨s, v9, p9, m9, rfl, hp9, ha9, hm9, g9⟩
    have HP9 := Lib.hid hp9
    have HA9 := Lib.hid ha9
    have HM9 := Lib.hid hm9
    have HR9 := Lib.hid (HR8.out.regs g9)
    have HU9 := Lib.hid (HU8.out.trans (g9.below.mono HBB.out))
    have HE9 : Hid (∃ e9, p9 = p8 ++ e9) := Lib.hid ha9.ext
    have HIS : Hid (inP p9 s = true) := Lib.hid (by
      rcases ha9.at_ _ _ hm9 with ⟨h, _⟩ | ⟨_, _, h, _⟩
      · have := HTL.out; omega
      · exact h)
    have HIV9 : Hid (inP p9 v = true) := Lib.hid (by obtain ⟨e9, he9⟩ := ha9.ext; rw [he9]; exact inP_le HIV.out (by simp))
    clear hp9 ha9 hm9 g9 SW HP8 HR8 HU8
    have RNM := Lib.hid (fun W => rname_any who W)
    rw [show nameK who = true from HNB.out] at RNM
    have RI := Lib.hid (rin HR9.out t)
    rw [HIN.out] at RI
    go_wp2_with fail
    refine (RNM.out _).mono ?_
    rintro e V ⟨rfl, rfl⟩
    go_wp2_with fail
    refine RI.out.mono ?_
    rintro e V ⟨rfl, rfl⟩
    clear RNM RI
    have PT1 := Lib.hid (ptree (HLD.out.below HU9.out) HP9.out v)
    go_wp2_with ((with_reducible refine (NU.out _ _).mono ?_); rintro e wn ⟨rfl, rfl⟩)
    refine PT1.out.mono ?_
    rintro e y1 ⟨n1, k1, q1, rfl, hk1, ok1, b1, hrp1, _⟩
    have Y1 := Lib.hid b1
    have RP1 := Lib.hid (hrp1 HIV9.out)
    have OK1 := Lib.hid ok1
    have HK1 := Lib.hid hk1
    have RT1 := Lib.hid (rtree (HR9.out.below b1) t)
    clear b1 hrp1 ok1 hk1 PT1
    go_wp2_with fail
    refine RT1.out.mono ?_
    rintro e y2 ⟨n2, k2, q2, rfl, hk2, ok2, b2, hrp2, _⟩
    have Y2 := Lib.hid (bmore Y1.out b2)
    have HK1b := Lib.hid (HK1.out.below b2)
    have RP2 := Lib.hid (hrp2 HIN.out)
    have OK2 := Lib.hid ok2
    have VT := Lib.hid (vt_any who n2 k2 hk2 (rep_size HR9.out.ok RP2.out))
    clear b2 hrp2 ok2 hk2 RT1 HK1 Y1
    go_wp2_with fail
    refine VT.out.mono ?_
    rintro e y3 ⟨q3, rfl, hq3, b3⟩
    have Y3 := Lib.hid (bmore Y2.out b3)
    have SA := Lib.hid (same_any (G := NewT w9 y1) (G' := NewT y2 y3) n1 k1 (vtT who n2) (mapF (vtT who) k2) y3 q1 q3 (HK1b.out.below b3) hq3 ⟨OK1.out.2.1, OK1.out.2.2.1⟩ ⟨OK2.out.2.1, OK2.out.2.2.1⟩ (OkF.bare OK1.out.2.2.2.1) (mapF_bare who (OkF.bare OK2.out.2.2.2.1)))
    have HDE : Hid (decide (n1 = vtT who n2 ∧ k1 = mapF (vtT who) k2) = true) := Lib.hid (decide_eq_true (by
      obtain ⟨e9, he9⟩ := HE9.out
      have h := RP1.out
      rw [he9] at h
      exact see_tree e9 HA8.out HM8.out RP2.out (OkF.bare OK2.out) h (OkF.bare OK1.out)))
    rw [HDE.out] at SA
    clear b3 hq3 VT HK1b Y2 HDE RP1 OK1
    go_wp2_with fail
    refine SA.out.mono ?_
    rintro e y4 ⟨rfl, b4⟩
    have Y4 := Lib.hid (bmore Y3.out b4)
    clear b4 SA Y3 RP2 OK2
    have PT1 := Lib.hid (ptree (HLD.out.below (bmore HU9.out Y4.out)) (HP9.out.below Y4.out) s)
    go_wp2_with fail
    refine PT1.out.mono ?_
    rintro e z1 ⟨n3, k3, q4, rfl, hk1, ok1, b1, hrp1, _⟩
    have Z1 := Lib.hid (bmore Y4.out b1)
    have RP1 := Lib.hid (hrp1 HIS.out)
    have OK1 := Lib.hid ok1
    have HK1 := Lib.hid hk1
    have RT1 := Lib.hid (rtree (HR9.out.below Z1.out) t)
    clear b1 hrp1 ok1 hk1 PT1
    go_wp2_with fail
    refine RT1.out.mono ?_
    rintro e z2 ⟨n4, k4, q5, rfl, hk2, ok2, b2, hrp2, _⟩
    have Z2 := Lib.hid (bmore Z1.out b2)
    have HK1b := Lib.hid (HK1.out.below b2)
    have RP2 := Lib.hid (hrp2 HIN.out)
    have OK2 := Lib.hid ok2
    have VT := Lib.hid (vs_any who n4 k4 hk2 (rep_size HR9.out.ok RP2.out))
    clear b2 hrp2 ok2 hk2 RT1 HK1 Z1
    go_wp2_with fail
    refine VT.out.mono ?_
    rintro e z3 ⟨q6, rfl, hq3, b3⟩
    have Z3 := Lib.hid (bmore Z2.out b3)
    have SA := Lib.hid (same_any (G := NewT y4 z1) (G' := NewT z2 z3) n3 k3 (vsT who n4) (mapF (vsT who) k4) z3 q4 q6 (HK1b.out.below b3) hq3 ⟨OK1.out.2.1, OK1.out.2.2.1⟩ ⟨OK2.out.2.1, OK2.out.2.2.1⟩ (OkF.bare OK1.out.2.2.2.1) (mapF_bareS who (OkF.bare OK2.out.2.2.2.1)))
    have HDE : Hid (decide (n3 = vsT who n4 ∧ k3 = mapF (vsT who) k4) = true) := Lib.hid (decide_eq_true (by
      obtain ⟨e8, he8⟩ := HE8.out
      have h := HA9.out
      rw [he8] at h
      exact swap_tree h HM9.out RP2.out (OkF.bare OK2.out) RP1.out (OkF.bare OK1.out)))
    rw [HDE.out] at SA
    clear b3 hq3 VT HK1b Z2 HDE RP1 OK1
    go_wp2_with fail
    refine SA.out.mono ?_
    rintro e z4 ⟨rfl, b4⟩
    have HZ4 := Lib.hid (bmore HU9.out (bmore Z3.out b4))
    clear b4 SA Z3 RP2 OK2
    have LV := Lib.hid (live_any (HLD.out.below HZ4.out))
    go_wp2_with fail
    refine LV.out.mono ?_
    rintro e wl ⟨rfl, ul⟩
    have HUL := Lib.hid (bmore HZ4.out ul)
    clear ul LV
    go_wp2_with fail
    go_returns
    exact ⟨rfl, HUL.out⟩
end Go.Proofs.YtgaklaajbepfaaaGreatDoor
namespace Go.Proofs.YtgaklaajbepfaaaGreatDoor
open Go Go.ChangeShapes Go.WideShapes Go.ChangeAt Go.RowKit
set_option linter.unusedVariables false

set_option maxRecDepth 100000 in
/-- What the walk gives, for every argument. -/
theorem vsees_contract (H : Type) (enc : TypeId × Value → H) (W : World) (base : Nat) (args : Array Value) (ds gs : List (DataW H)) (before : List MemPlace)
    (hval0 : ∀ (j : Nat) t v, Tryz.f4.params[j]? = some t → args[j]? = some v → Value.okWide Tryz.prog W .any base t v)
    (hW : DataW.Whole enc Tryz.prog Tryz.f4.params.toList Rows.viewSeesSpec.vars false W args.toList ds gs before) (hL : laidMetH Tryz.prog laidL W) :
    Calls Tryz.prog 4 args W fun e W' => ∃ v, e = .returned v ∧ Rows.viewSeesSpec.post enc Tryz.prog Tryz.f4 false true false false W args v W' := by
  have hval : ∀ (j : Nat) t v, Tryz.f4.params[j]? = some t → args[j]? = some v → Value.okWide Tryz.prog W .any base t v := hval0
  have hW' := hW
  obtain ⟨p, q, hA0, hV, rfl, hfz, hnd⟩ := hW
  have hA : DataW.TrodAll enc Tryz.prog W 0 (fun _ => true) true Tryz.f4.params.toList args.toList ds p := hA0
  rw [Tryz.params4] at hA hval
  obtain ⟨v0, vs0, d0, ds0, p0, q0, hargs0, rfl, rfl, h0, r0⟩ := trodAll_cons hA
  obtain ⟨v1, vs1, d1, ds1, p1, q1, hargs1, rfl, rfl, h1, r1⟩ := trodAll_cons r0
  obtain ⟨v2, vs2, d2, ds2, p2, q2, hargs2, rfl, rfl, h2, r2⟩ := trodAll_cons r1
  obtain ⟨rfl, rfl, rfl⟩ := trodAll_nil r2
  subst hargs1
  subst hargs2
  obtain rfl : args = #[v0, v1, v2] := by cases args; simp_all
  obtain ⟨rfl, rfl⟩ := trodVars_none hV
  have hv0 := hval 0 22 v0 rfl rfl
  have hc0 : Cell.okWide Tryz.prog W .any base 22 v0 := by simpa only [Value.okWide, Tryz.underlying22] using hv0
  obtain ⟨a0, c0, n0, e0⟩ := okWide_slice Tryz.underlying22 hv0
  obtain ⟨fuel0, hf0⟩ := id h0
  rw [show v0.cells.toList = [v0] by rw [e0]; rfl] at hf0
  obtain ⟨l0, rl0, hs0⟩ := open_trees hc0 hf0
  obtain ⟨a1, rfl, rfl, rfl, w1⟩ := open_int Tryz.underlying39 (hval 1 39 v1 rfl rfl) h1
  obtain ⟨a2, rfl, rfl, rfl, w2⟩ := open_int Tryz.underlying3 (hval 2 3 v2 rfl rfl) h2
  have HL := of_laid hL
  clear hA0 hval0 hL
  simp only [List.append_nil] at hW'
  refine (sees_walk HL rl0 hs0).mono fun e W' ⟨he, bel⟩ => ?_
  subst he
  exact ⟨_, rfl, _, _, _, [], _, [], hW', trodAll_mk1 (shut_bool Tryz.underlying4 _), (trodAll_cons_mk (Below.trod laidOut (by kernel_rfl) (of_decide_eq_true (by kernel_rfl)) h0 bel (places_lt h0)) (trodAll_cons_mk (shut_int Tryz.underlying39 w1) (trodAll_cons_mk (shut_int Tryz.underlying3 w2) trodAll_mk0))), rfl, bel.frame _, fun h => by cases h⟩

set_option maxRecDepth 100000 in
theorem vsees_lifted (os : Os) (started : os.Started) (H : Type) (enc : TypeId × Value → H) :
    ReturnsInHanded {} Tryz.checked os 4 .any (fun w args => (Rows.viewSeesSpec.pre enc Tryz.prog Tryz.f4 [] false w args ∧ laidMetH Tryz.prog laidL w) ∧ sizedMet enc Tryz.prog Tryz.f4 (OpenSpec.ofChange Rows.viewSeesSpec) false w args)
      (Rows.viewSeesSpec.post enc Tryz.prog Tryz.f4 false true false false) := by
  refine returnsInHanded_of_change_and (C := Tryz.checked) (X := fun w _ => laidMetH Tryz.prog laidL w) (fun _ _ _ hh h => h.of_heap hh) own started (by kernel_rfl) Tryz.func4
    (ChangeSpec.witness_shaped (enc := enc) (C := Tryz.checked) (os := os) (X := fun w _ => laidMetH Tryz.prog laidL w) false (World.doorLaid Tryz.prog 400 os) #[.slice none 0 0, .int .i64 0, .int .i64 0] 8 rfl (World.shaped_of_RefB (by kernel_rfl) (by kernel_rfl)) (by kernel_rfl) (by kernel_rfl) (by kernel_rfl) (door_met os _)) ?_
  intro W base args ds gs before hval hW _ _ hL _
  exact vsees_contract H enc W base args ds gs before hval hW hL

/-- The row's statement. -/
theorem vsees_holds : Rows.ViewSeesSaid :=
  OpenClaim.holds_of_wide 4 Tryz.f4 rfl rfl rfl rfl rfl rfl rfl ⟨rfl, rfl, rfl, rfl, rfl⟩ rfl rfl rfl rfl rfl (by kernel_rfl) Tryz.func4 (by kernel_rfl)
    (of_decide_eq_true (by kernel_rfl)) (by unfold Func.isWrapper; first | (rw [if_pos (by decide +kernel)]; kernel_rfl) | (rw [if_neg (by decide +kernel)]; exact ⟨rfl, rfl⟩))
    (fun os started H enc _ => vsees_lifted os started H enc)

/-- The card. -/
theorem vsees_card : Rows.ViewSeesCardSaid :=
  Claim7.holds_tied_plain_at .later [] [.data] true _ true
    vsees_holds (fun _ h => by cases h) (by kernel_rfl) (fun _ h => by cases h) viewSees_row_tie rfl ⟨rfl, rfl⟩ (by kernel_rfl) rfl
    (fun f fn hf hfn => by
      obtain rfl : f = 4 := Option.some.inj ((show Tryz.prog.funcNamed "escrow/escrowlaw10.ViewSees" = some 4 by kernel_rfl).symm.trans hf) |>.symm
      obtain rfl : fn = Tryz.f4 := (Option.some.inj (Tryz.func4.symm.trans hfn)).symm
      exact ⟨by kernel_rfl, fun j t ht => by
        rw [Tryz.params4] at ht
        have hm : t ∈ [22, 39, 3] := by simpa using Array.mem_of_getElem? ht
        have hall : ([22, 39, 3].all fun u => !Tryz.prog.wantsStandIn u) = true := by kernel_rfl
        exact (show Tryz.prog.wantsStandIn t = false by simpa using List.all_eq_true.1 hall t hm)⟩)
    (by kernel_rfl)
#print axioms vsees_card
end Go.Proofs.YtgaklaajbepfaaaGreatDoor
