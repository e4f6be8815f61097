/-
  said, follows, Check: the program's own.
-/
import Derived.Test.YtgaklaajbepfaaaGreatDoorEKnowP
import Derived.Test.YtgaklaajbepfaaaGreatDoorEAdd
namespace Go.Proofs.YtgaklaajbepfaaaGreatDoor
open Go.RowKit Go.Maps
set_option linter.unusedVariables false

abbrev StT : TypeId := 133
def stA (s : St) : Array Value := #[.int .i64 s.r, .int .i64 s.a, .int .i64 s.b, .int .i64 s.t]
def stC (s : St) : List Value := [.int .i64 s.r, .int .i64 s.a, .int .i64 s.b, .int .i64 s.t]
def sts (l : List St) : List Value := l.flatMap stC
theorem sts_length (l : List St) : (sts l).length = l.length * 4 := by
  induction l with
  | nil => rfl
  | cons a l ih => simp [sts, stC, List.flatMap_cons] at ih ⊢; omega
theorem sts_append (a b : List St) : sts (a ++ b) = sts a ++ sts b := by simp [sts]
theorem sts_at (l : List St) : ∀ (i : Nat) (h : i < l.length), (sts l)[i * 4]? = some (.int .i64 (l[i]).r) ∧ (sts l)[i * 4 + 1]? = some (.int .i64 (l[i]).a) ∧ (sts l)[i * 4 + 2]? = some (.int .i64 (l[i]).b) ∧ (sts l)[i * 4 + 3]? = some (.int .i64 (l[i]).t) := by
  induction l with
  | nil => intro i h; simp at h
  | cons a l ih =>
    intro i h
    have e : sts (a :: l) = .int .i64 a.r :: .int .i64 a.a :: .int .i64 a.b :: .int .i64 a.t :: sts l := by simp [sts, stC]
    cases i with
    | zero => simp [e]
    | succ i =>
      have := ih i (by simpa using h)
      have hx : ∀ j, (sts (a :: l))[(i + 1) * 4 + j]? = (sts l)[i * 4 + j]? := fun j => by
        rw [e, show (i + 1) * 4 + j = i * 4 + j + 1 + 1 + 1 + 1 by omega]
        simp
      have h0 := hx 0
      simp only [Nat.add_zero] at h0
      rw [h0, hx 1, hx 2, hx 3]
      simpa using this
/-- The first steps of a list of steps. -/
theorem Row.take4 {w : World} {v : Value} {l : List St} (h : Row w 4 v l.length (sts l)) {i : Nat} (hi : i ≤ l.length) : ∃ a c, v = .slice a l.length c ∧ l.length ≤ c ∧ Row w 4 (.slice a i c) (l.take i).length (sts (l.take i)) := by
  have hl : (l.take i).length = i := by simp; omega
  obtain ⟨h1, h2⟩ := h
  rcases h2 with ⟨rfl, h0⟩ | ⟨b, off, cap, rfl, h3, h4, h5, h6⟩
  · have hi0 : i = 0 := by omega
    subst hi0
    rw [h0]
    exact ⟨none, 0, rfl, Nat.le_refl _, by rw [sts_length], .inl ⟨rfl, by simp⟩⟩
  · refine ⟨_, cap, rfl, h4, by rw [sts_length], .inr ⟨b, off, cap, by rw [hl], h3, by omega, h5, fun j u hj => h6 j u ?_⟩⟩
    rw [← List.take_append_drop i l, sts_append]
    exact (List.getElem?_append_left (List.getElem?_eq_some_iff.1 hj).1).trans hj

section
variable {w : World} {B a b : Nat} {v : Value} {p : Pl}
set_option maxRecDepth 100000 in
set_option maxHeartbeats 1600000 in
theorem said_any {vl : Value} {l : List St} (h : Row w 4 vl l.length (sts l)) (i : Int) : Calls Tryz.prog 116 #[vl, .int .i64 i] w fun e w' => e = .returned (.int .i64 (saidP l i)) ∧ w = w' := by
  obtain ⟨aa, cc, rfl, hx⟩ := h.at2
  have HX := Lib.hid hx
  have hlen : (l.length : Int) ≤ 9223372036854775807 := by
    rcases h.2 with ⟨_, h0⟩ | ⟨b, off, cap, _, _, h4, h5, _⟩
    · omega
    · unfold maxLen at h5; omega
  clear h hx
  unfold saidP
  by_cases h0 : i < 0
  · rw [if_pos (.inl h0)]
    go_enter Tryz.func116, Tryz.ntmps116
    go_wp2_with fail
    go_returns
    exact ⟨rfl, rfl⟩
  · have h0' : decide (i < 0) = false := decide_eq_false h0
    by_cases h1 : (l.length : Int) ≤ i
    · rw [if_pos (.inr h1)]
      go_enter Tryz.func116, Tryz.ntmps116
      go_wp2_with fail
      go_returns
      exact ⟨rfl, rfl⟩
    · rw [if_neg (by omega)]
      have h1' : decide ((l.length : Int) ≤ i) = false := decide_eq_false h1
      obtain ⟨n, rfl⟩ := Int.eq_ofNat_of_zero_le (show 0 ≤ i by omega)
      have hn : n < l.length := by omega
      obtain ⟨gb, go, rfl, q⟩ := HX.out (by omega)
      have c3 := q _ _ (sts_at l n hn).2.2.2
      rw [Int.toNat_natCast, List.getD_eq_getElem?_getD, List.getElem?_eq_getElem hn, Option.getD_some]
      have hn0 : (0 : Int) ≤ (n : Int) := by omega
      have hn1 : (n : Int) < (l.length : Int) := by omega
      simp only [← Nat.add_assoc] at c3
      clear q HX
      go_enter Tryz.func116, Tryz.ntmps116
      go_wp2_with fail
      go_returns
      exact ⟨rfl, rfl⟩

/-- A set of terms in memory. -/
def HasM (w : World) (mb : Nat) (g : List Int) : Prop := Met w mb g []
theorem Met.lookU {w : World} {mb : Nat} {g : List Int} (h : Met w mb g []) {t : Int} (ht : i64R t) : (Instr.lookup MetT (.map (some mb)) (.int .i64 t) true).run Tryz.prog w = .ok (.tuple #[.agg #[], .bool (decide (t ∈ g))]) w := by
  obtain ⟨D, h1, h2⟩ := h
  obtain ⟨v, ps, hr, hv⟩ := h1.look_ok lawT Tryz.underlying137 (zeroU w) unitElem_mk (keyT ht)
  obtain ⟨rfl, _⟩ := unitElem_inv hv
  rw [hr]
  have e : Maps.has D (.int .i64 t) = decide (t ∈ g) := by
    rw [Bool.eq_iff_iff, h2 t ht]; simp
  rw [e]
theorem Met.belowK {w w' : World} {mb : Nat} {acc anc : List Int} (h : Met w mb acc anc) (hb : Below w.heap.size w w') : Met w' mb acc anc :=
  h.same fun es c hm => by rw [hb.block mb (Array.getElem?_eq_some_iff.1 hm).1]; exact hm
theorem andB {x y : Bool} : (x && y) = true ↔ x = true ∧ y = true := by simp
set_option maxRecDepth 100000 in
set_option maxHeartbeats 6400000 in
theorem follows_out (hp : IsPool w B a b v p) {mh : Nat} {g : List Int} (hm : Met w mh g []) {vl : Value} {l : List St} (hl : Row w 4 vl l.length (sts l)) {sr sa sb st : Int} (hs : i64R st) (hin : inP p st = false) : Calls Tryz.prog 84 #[.pointer (some ⟨a, 0, none⟩), .map (some mh), vl, .agg #[.int .i64 sr, .int .i64 sa, .int .i64 sb, .int .i64 st]] w fun e w' => e = .returned (.bool (followsP p g l ⟨sr, sa, sb, st⟩)) ∧ Below w.heap.size w w' := by
  have bA := bA0 w (.cells #[.int .i64 sr, .int .i64 sa, .int .i64 sb, .int .i64 st] StT)
  have hb : (w.alloc (.cells #[.int .i64 sr, .int .i64 sa, .int .i64 sb, .int .i64 st] StT)).heap[w.heap.size]? = some (Obj.cells #[.int .i64 sr, .int .i64 sa, .int .i64 sb, .int .i64 st] StT) := heap_alloc_new _ _
  have HA := Lib.hid bA
  have HP := Lib.hid (hp.below bA)
  have HM := Lib.hid (hm.belowK bA)
  have HL := Lib.hid (hl.below bA)
  have HB := Lib.hid hb
  have HS := Lib.hid hs
  obtain ⟨va, vc, hvl⟩ := hl.shape
  subst hvl
  have s0 := cellB (j := 0) hb rfl
  have s1 := cellB (j := 1) hb rfl
  have s2 := cellB (j := 2) hb rfl
  have s3 := cellB (j := 3) hb rfl
  clear hp hm hl hb bA hs
  have HN := Lib.hid (pnode HP.out st)
  rw [hin] at HN
  generalize hnn : (atP p st).1 = n at *
  have HNN := Lib.hid hnn
  clear hnn
  obtain ⟨kk, ff, tt, uu, ss, xa, xb⟩ := n
  simp only [nodeA] at HN
  have HF : Hid (followsP p g l ⟨sr, sa, sb, st⟩ = false) := Lib.hid (by unfold followsP; rw [hin]; rfl)
  rw [HF.out]
  clear hin
  go_enter Tryz.func84, Tryz.ntmps84
  go_wp2_with fail
  generalize (w.alloc (.cells #[.int .i64 sr, .int .i64 sa, .int .i64 sb, .int .i64 st] StT)) = W at *
  refine HN.out.mono ?_
  rintro e w1 ⟨rfl, u1⟩
  have b2 := bA0 w1 (.cells #[.int .i64 kk, .int .i64 ff, .int .i64 tt, .int .u64 uu, .string ss, .int .i64 xa, .int .i64 xb] NodeT)
  have hn : (w1.alloc (.cells #[.int .i64 kk, .int .i64 ff, .int .i64 tt, .int .u64 uu, .string ss, .int .i64 xa, .int .i64 xb] NodeT)).heap[w1.heap.size]? = some (Obj.cells #[.int .i64 kk, .int .i64 ff, .int .i64 tt, .int .u64 uu, .string ss, .int .i64 xa, .int .i64 xb] NodeT) := heap_alloc_new _ _
  have HU2 := Lib.hid (bmore u1 b2)
  have HBN := Lib.hid hn
  have HB2 := Lib.hid (Hold.below (bmore u1 b2) _ _ HB.out)
  have y0 := cellB (j := 0) hn rfl
  have y1 := cellB (j := 1) hn rfl
  have y2 := cellB (j := 2) hn rfl
  have y3 := cellB (j := 3) hn rfl
  have y4 := cellB (j := 4) hn rfl
  have y5 := cellB (j := 5) hn rfl
  have y6 := cellB (j := 6) hn rfl
  replace s0 := bcellAt (bmore u1 b2) s0
  replace s1 := bcellAt (bmore u1 b2) s1
  replace s2 := bcellAt (bmore u1 b2) s2
  replace s3 := bcellAt (bmore u1 b2) s3
  clear u1 b2 hn
  go_wp2_with fail
  go_returns
  exact ⟨rfl, bmore HA.out HU2.out⟩
set_option maxRecDepth 100000 in
set_option maxHeartbeats 6400000 in
theorem follows_0 (hp : IsPool w B a b v p) {mh : Nat} {g : List Int} (hm : Met w mh g []) {vl : Value} {l : List St} (hl : Row w 4 vl l.length (sts l)) {sr sa sb st : Int} (hs : i64R st) (hr : sr = 0) (hin : inP p st = true) : Calls Tryz.prog 84 #[.pointer (some ⟨a, 0, none⟩), .map (some mh), vl, .agg #[.int .i64 sr, .int .i64 sa, .int .i64 sb, .int .i64 st]] w fun e w' => e = .returned (.bool (followsP p g l ⟨sr, sa, sb, st⟩)) ∧ Below w.heap.size w w' := by
  have bA := bA0 w (.cells #[.int .i64 sr, .int .i64 sa, .int .i64 sb, .int .i64 st] StT)
  have hb : (w.alloc (.cells #[.int .i64 sr, .int .i64 sa, .int .i64 sb, .int .i64 st] StT)).heap[w.heap.size]? = some (Obj.cells #[.int .i64 sr, .int .i64 sa, .int .i64 sb, .int .i64 st] StT) := heap_alloc_new _ _
  have HA := Lib.hid bA
  have HP := Lib.hid (hp.below bA)
  have HM := Lib.hid (hm.belowK bA)
  have HL := Lib.hid (hl.below bA)
  have HB := Lib.hid hb
  have HS := Lib.hid hs
  obtain ⟨va, vc, hvl⟩ := hl.shape
  subst hvl
  have s0 := cellB (j := 0) hb rfl
  have s1 := cellB (j := 1) hb rfl
  have s2 := cellB (j := 2) hb rfl
  have s3 := cellB (j := 3) hb rfl
  clear hp hm hl hb bA hs
  subst hr
  have HN := Lib.hid (pnode HP.out st)
  rw [hin] at HN
  generalize hnn : (atP p st).1 = n at *
  have HNN := Lib.hid hnn
  clear hnn
  obtain ⟨kk, ff, tt, uu, ss, xa, xb⟩ := n
  simp only [nodeA] at HN
  have HF : Hid (followsP p g l ⟨0, sa, sb, st⟩ = (decide (st ∈ g) && (sa == 0 && sb == 0))) := Lib.hid (by unfold followsP; rw [hin]; rfl)
  rw [HF.out]
  clear hin
  have HLK := Lib.hid (fun (W : World) (h : Met W mh g []) => h.lookU HS.out)
  generalize decide (st ∈ g) = q1 at *
  go_enter Tryz.func84, Tryz.ntmps84
  go_wp2_with fail
  generalize (w.alloc (.cells #[.int .i64 0, .int .i64 sa, .int .i64 sb, .int .i64 st] StT)) = W at *
  refine HN.out.mono ?_
  rintro e w1 ⟨rfl, u1⟩
  have b2 := bA0 w1 (.cells #[.int .i64 kk, .int .i64 ff, .int .i64 tt, .int .u64 uu, .string ss, .int .i64 xa, .int .i64 xb] NodeT)
  have hn : (w1.alloc (.cells #[.int .i64 kk, .int .i64 ff, .int .i64 tt, .int .u64 uu, .string ss, .int .i64 xa, .int .i64 xb] NodeT)).heap[w1.heap.size]? = some (Obj.cells #[.int .i64 kk, .int .i64 ff, .int .i64 tt, .int .u64 uu, .string ss, .int .i64 xa, .int .i64 xb] NodeT) := heap_alloc_new _ _
  have HU2 := Lib.hid (bmore u1 b2)
  have HBN := Lib.hid hn
  have HB2 := Lib.hid (Hold.below (bmore u1 b2) _ _ HB.out)
  have y0 := cellB (j := 0) hn rfl
  have y1 := cellB (j := 1) hn rfl
  have y2 := cellB (j := 2) hn rfl
  have y3 := cellB (j := 3) hn rfl
  have y4 := cellB (j := 4) hn rfl
  have y5 := cellB (j := 5) hn rfl
  have y6 := cellB (j := 6) hn rfl
  replace s0 := bcellAt (bmore u1 b2) s0
  replace s1 := bcellAt (bmore u1 b2) s1
  replace s2 := bcellAt (bmore u1 b2) s2
  replace s3 := bcellAt (bmore u1 b2) s3
  clear u1 b2 hn
  have hlk := HLK.out _ (HM.out.belowK HU2.out)
  have bU := bA0 (w1.alloc (.cells #[.int .i64 kk, .int .i64 ff, .int .i64 tt, .int .u64 uu, .string ss, .int .i64 xa, .int .i64 xb] NodeT)) (.cells #[] UnT)
  have t0 := bcellAt bU s0
  have t1 := bcellAt bU s1
  have t2 := bcellAt bU s2
  have t3 := bcellAt bU s3
  have HUU := Lib.hid (bmore HA.out (bmore HU2.out bU))
  clear bU
  cases q1 with
  | false =>
    go_wp2_with fail
    go_returns
    exact ⟨rfl, HUU.out⟩
  | true =>
    cases h1 : sa == 0 with
    | false =>
      go_wp2_with fail
      go_returns
      exact ⟨(by rw [h1]; rfl), HUU.out⟩
    | true =>
      cases h2 : sb == 0 with
      | false =>
        go_wp2_with fail
        go_returns
        exact ⟨(by rw [h1, h2]; rfl), HUU.out⟩
      | true =>
        go_wp2_with fail
        go_returns
        exact ⟨(by rw [h1, h2]; rfl), HUU.out⟩
set_option maxRecDepth 100000 in
set_option maxHeartbeats 12800000 in
theorem follows_1 (hp : IsPool w B a b v p) {mh : Nat} {g : List Int} (hm : Met w mh g []) {vl : Value} {l : List St} (hl : Row w 4 vl l.length (sts l)) {sr sa sb st : Int} (hs : i64R st) (hr : sr = 1) (hin : inP p st = true) : Calls Tryz.prog 84 #[.pointer (some ⟨a, 0, none⟩), .map (some mh), vl, .agg #[.int .i64 sr, .int .i64 sa, .int .i64 sb, .int .i64 st]] w fun e w' => e = .returned (.bool (followsP p g l ⟨sr, sa, sb, st⟩)) ∧ Below w.heap.size w w' := by
  have bA := bA0 w (.cells #[.int .i64 sr, .int .i64 sa, .int .i64 sb, .int .i64 st] StT)
  have hb : (w.alloc (.cells #[.int .i64 sr, .int .i64 sa, .int .i64 sb, .int .i64 st] StT)).heap[w.heap.size]? = some (Obj.cells #[.int .i64 sr, .int .i64 sa, .int .i64 sb, .int .i64 st] StT) := heap_alloc_new _ _
  have HA := Lib.hid bA
  have HP := Lib.hid (hp.below bA)
  have HM := Lib.hid (hm.belowK bA)
  have HL := Lib.hid (hl.below bA)
  have HB := Lib.hid hb
  have HS := Lib.hid hs
  obtain ⟨va, vc, hvl⟩ := hl.shape
  subst hvl
  have s0 := cellB (j := 0) hb rfl
  have s1 := cellB (j := 1) hb rfl
  have s2 := cellB (j := 2) hb rfl
  have s3 := cellB (j := 3) hb rfl
  clear hp hm hl hb bA hs
  subst hr
  have HN := Lib.hid (pnode HP.out st)
  rw [hin] at HN
  generalize hnn : (atP p st).1 = n at *
  have HNN := Lib.hid hnn
  clear hnn
  obtain ⟨kk, ff, tt, uu, ss, xa, xb⟩ := n
  simp only [nodeA] at HN
  have HF : Hid (followsP p g l ⟨1, sa, sb, st⟩ = (takeN 1 (atP p (saidP l sa)).1 == st && sb == 0)) := Lib.hid (by unfold followsP; rw [hin]; rfl)
  rw [HF.out]
  clear hin
  have SAI := Lib.hid (fun (W : World) (h : Row W 4 (.slice va l.length vc) l.length (sts l)) => said_any h sa)
  have PN := Lib.hid (fun (W : World) (h : IsPool W B a b v p) => pnode h (saidP l sa))
  have TK := Lib.hid (fun (W : World) => taken_any 1 (atP p (saidP l sa)).1 W)
  generalize (atP p (saidP l sa)).1 = n2 at *
  generalize saidP l sa = z at *
  generalize takeN 1 n2 = tk at *
  generalize inP p z = iz at *
  obtain ⟨k9, f9, t9, m9, e9, a9, b9⟩ := n2
  simp only [nodeA] at PN TK
  go_enter Tryz.func84, Tryz.ntmps84
  go_wp2_with fail
  generalize (w.alloc (.cells #[.int .i64 1, .int .i64 sa, .int .i64 sb, .int .i64 st] StT)) = W at *
  refine HN.out.mono ?_
  rintro e w1 ⟨rfl, u1⟩
  have b2 := bA0 w1 (.cells #[.int .i64 kk, .int .i64 ff, .int .i64 tt, .int .u64 uu, .string ss, .int .i64 xa, .int .i64 xb] NodeT)
  have hn : (w1.alloc (.cells #[.int .i64 kk, .int .i64 ff, .int .i64 tt, .int .u64 uu, .string ss, .int .i64 xa, .int .i64 xb] NodeT)).heap[w1.heap.size]? = some (Obj.cells #[.int .i64 kk, .int .i64 ff, .int .i64 tt, .int .u64 uu, .string ss, .int .i64 xa, .int .i64 xb] NodeT) := heap_alloc_new _ _
  have HU2 := Lib.hid (bmore u1 b2)
  have HBN := Lib.hid hn
  have HB2 := Lib.hid (Hold.below (bmore u1 b2) _ _ HB.out)
  have y0 := cellB (j := 0) hn rfl
  have y1 := cellB (j := 1) hn rfl
  have y2 := cellB (j := 2) hn rfl
  have y3 := cellB (j := 3) hn rfl
  have y4 := cellB (j := 4) hn rfl
  have y5 := cellB (j := 5) hn rfl
  have y6 := cellB (j := 6) hn rfl
  replace s0 := bcellAt (bmore u1 b2) s0
  replace s1 := bcellAt (bmore u1 b2) s1
  replace s2 := bcellAt (bmore u1 b2) s2
  replace s3 := bcellAt (bmore u1 b2) s3
  clear u1 b2 hn
  have hL2 := HL.out.below HU2.out
  go_wp2_with fail
  refine (SAI.out _ hL2).mono ?_
  rintro e w2 ⟨rfl, rfl⟩
  go_wp2_with fail
  refine (PN.out _ (HP.out.below HU2.out)).mono ?_
  rintro e w3 ⟨rfl, u3⟩
  have b4 := bA0 w3 (.cells #[.int .i64 k9, .int .i64 f9, .int .i64 t9, .int .u64 m9, .string e9, .int .i64 a9, .int .i64 b9] NodeT)
  have hn4 : (w3.alloc (.cells #[.int .i64 k9, .int .i64 f9, .int .i64 t9, .int .u64 m9, .string e9, .int .i64 a9, .int .i64 b9] NodeT)).heap[w3.heap.size]? = some (Obj.cells #[.int .i64 k9, .int .i64 f9, .int .i64 t9, .int .u64 m9, .string e9, .int .i64 a9, .int .i64 b9] NodeT) := heap_alloc_new _ _
  have HU4 := Lib.hid (bmore HU2.out (bmore u3 b4))
  replace s0 := bcellAt (bmore u3 b4) s0
  replace s1 := bcellAt (bmore u3 b4) s1
  replace s2 := bcellAt (bmore u3 b4) s2
  replace s3 := bcellAt (bmore u3 b4) s3
  have x0 := cellB (j := 0) hn4 rfl
  have x1 := cellB (j := 1) hn4 rfl
  have x2 := cellB (j := 2) hn4 rfl
  have x3 := cellB (j := 3) hn4 rfl
  have x4 := cellB (j := 4) hn4 rfl
  have x5 := cellB (j := 5) hn4 rfl
  have x6 := cellB (j := 6) hn4 rfl
  clear u3 b4 hn4 y0 y1 y2 y3 y4 y5 y6
  go_upto_region 12 with fail
  generalize (w3.alloc (.cells #[.int .i64 k9, .int .i64 f9, .int .i64 t9, .int .u64 m9, .string e9, .int .i64 a9, .int .i64 b9] NodeT)) = w4 at *
  generalize w3.heap.size = nb at *
  have hkp : ∀ V : World, Below w4.heap.size w4 V → V.cell? ⟨w.heap.size, 0, none⟩ = some (.int .i64 1) ∧ V.cell? ⟨w.heap.size, 1, none⟩ = some (.int .i64 sa) ∧ V.cell? ⟨w.heap.size, 2, none⟩ = some (.int .i64 sb) ∧ V.cell? ⟨w.heap.size, 3, none⟩ = some (.int .i64 st) ∧ V.cell? ⟨nb, 0, none⟩ = some (.int .i64 k9) ∧ V.cell? ⟨nb, 1, none⟩ = some (.int .i64 f9) ∧ V.cell? ⟨nb, 2, none⟩ = some (.int .i64 t9) ∧ V.cell? ⟨nb, 3, none⟩ = some (.int .u64 m9) ∧ V.cell? ⟨nb, 4, none⟩ = some (.string e9) ∧ V.cell? ⟨nb, 5, none⟩ = some (.int .i64 a9) ∧ V.cell? ⟨nb, 6, none⟩ = some (.int .i64 b9) ∧ Below w4.heap.size w4 V := fun V hV => ⟨bcellAt hV s0, bcellAt hV s1, bcellAt hV s2, bcellAt hV s3, bcellAt hV x0, bcellAt hV x1, bcellAt hV x2, bcellAt hV x3, bcellAt hV x4, bcellAt hV x5, bcellAt hV x6, hV⟩
  have HKP := Lib.hid hkp
  clear hkp
  cases hq : tk == st with
  | false =>
    refine lex_start [0, 1, 2, 4, 5, 3, 6, 7, 8, 9, 10, 11, 12] (S := fun W => W.cell? ⟨w.heap.size, 0, none⟩ = some (.int .i64 1) ∧ W.cell? ⟨w.heap.size, 1, none⟩ = some (.int .i64 sa) ∧ W.cell? ⟨w.heap.size, 2, none⟩ = some (.int .i64 sb) ∧ W.cell? ⟨w.heap.size, 3, none⟩ = some (.int .i64 st) ∧ W.cell? ⟨nb, 0, none⟩ = some (.int .i64 k9) ∧ W.cell? ⟨nb, 1, none⟩ = some (.int .i64 f9) ∧ W.cell? ⟨nb, 2, none⟩ = some (.int .i64 t9) ∧ W.cell? ⟨nb, 3, none⟩ = some (.int .u64 m9) ∧ W.cell? ⟨nb, 4, none⟩ = some (.string e9) ∧ W.cell? ⟨nb, 5, none⟩ = some (.int .i64 a9) ∧ W.cell? ⟨nb, 6, none⟩ = some (.int .i64 b9) ∧ Below w4.heap.size w4 W) (by kernel_rfl) (HKP.out _ (bd _)) (fun hS => ?_)
    simp only [inOrder, List.filterMap, List.getElem?_cons_succ, List.getElem?_cons_zero]
    have b0 := bd w4
    refine lex_take (i := 0) (v := ?_) rfl (by kernel_rfl) (by kernel_rfl) (by kernel_rfl) (by rfl) (HKP.out _ b0) ?_ ?_
    rotate_left
    · ((intro W hW; obtain ⟨k0, k1, k2, k3, k4, k5, k6, k7, k8, k9, k10, k11⟩ := hW; go_simp) <;> with_reducible rfl)
    simp only [Act.put, List.setIfInBounds_toArray, List.set_cons_zero, List.set_cons_succ]
    refine lex_take (i := 1) (v := ?_) rfl (by kernel_rfl) (by kernel_rfl) (by kernel_rfl) (by rfl) (HKP.out _ b0) ?_ ?_
    rotate_left
    · ((intro W hW; obtain ⟨k0, k1, k2, k3, k4, k5, k6, k7, k8, k9, k10, k11⟩ := hW; go_simp) <;> with_reducible rfl)
    simp only [Act.put, List.setIfInBounds_toArray, List.set_cons_zero, List.set_cons_succ]
    refine lex_take (i := 2) (v := ?_) rfl (by kernel_rfl) (by kernel_rfl) (by kernel_rfl) (by rfl) (HKP.out _ b0) ?_ ?_
    rotate_left
    · ((intro W hW; obtain ⟨k0, k1, k2, k3, k4, k5, k6, k7, k8, k9, k10, k11⟩ := hW; go_simp) <;> with_reducible rfl)
    simp only [Act.put, List.setIfInBounds_toArray, List.set_cons_zero, List.set_cons_succ]
    refine lex_take (i := 4) (v := ?_) rfl (by kernel_rfl) (by kernel_rfl) (by kernel_rfl) (by rfl) (HKP.out _ b0) ?_ ?_
    rotate_left
    · ((intro W hW; obtain ⟨k0, k1, k2, k3, k4, k5, k6, k7, k8, k9, k10, k11⟩ := hW; go_simp) <;> with_reducible rfl)
    simp only [Act.put, List.setIfInBounds_toArray, List.set_cons_zero, List.set_cons_succ]
    refine lex_take (i := 5) (v := ?_) rfl (by kernel_rfl) (by kernel_rfl) (by kernel_rfl) (by rfl) (HKP.out _ b0) ?_ ?_
    rotate_left
    · ((intro W hW; obtain ⟨k0, k1, k2, k3, k4, k5, k6, k7, k8, k9, k10, k11⟩ := hW; go_simp) <;> with_reducible rfl)
    simp only [Act.put, List.setIfInBounds_toArray, List.set_cons_zero, List.set_cons_succ]
    refine lex_do (i := 3) rfl (by kernel_rfl) (by rfl) (fun K hK => ?_)
    go_simp
    refine (TK.out _).mono ?_
    rintro e w5 ⟨rfl, h5⟩
    have b5 := bmore b0 h5
    refine hK _ _ ⟨HKP.out _ b5, ?_⟩
    clear hK K
    refine lex_take (i := 6) (v := ?_) rfl (by kernel_rfl) (by kernel_rfl) (by kernel_rfl) (by rfl) (HKP.out _ b5) ?_ ?_
    rotate_left
    · ((intro W hW; obtain ⟨k0, k1, k2, k3, k4, k5, k6, k7, k8, k9, k10, k11⟩ := hW; go_simp) <;> with_reducible rfl)
    simp only [Act.put, List.setIfInBounds_toArray, List.set_cons_zero, List.set_cons_succ]
    refine lex_take (i := 7) (v := ?_) rfl (by kernel_rfl) (by kernel_rfl) (by kernel_rfl) (by rfl) (HKP.out _ b5) ?_ ?_
    rotate_left
    · ((intro W hW; obtain ⟨k0, k1, k2, k3, k4, k5, k6, k7, k8, k9, k10, k11⟩ := hW; go_simp) <;> with_reducible rfl)
    simp only [Act.put, List.setIfInBounds_toArray, List.set_cons_zero, List.set_cons_succ]
    refine lex_skip (i := 8) rfl (by kernel_rfl) (by kernel_rfl) (by kernel_rfl) (by rfl) (HKP.out _ b5) ?_
    simp only [Act.put, List.setIfInBounds_toArray, List.set_cons_zero, List.set_cons_succ]
    refine lex_skip (i := 9) rfl (by kernel_rfl) (by kernel_rfl) (by kernel_rfl) (by rfl) (HKP.out _ b5) ?_
    simp only [Act.put, List.setIfInBounds_toArray, List.set_cons_zero, List.set_cons_succ]
    refine lex_skip (i := 10) rfl (by kernel_rfl) (by kernel_rfl) (by kernel_rfl) (by rfl) (HKP.out _ b5) ?_
    simp only [Act.put, List.setIfInBounds_toArray, List.set_cons_zero, List.set_cons_succ]
    refine lex_take (i := 11) (v := ?_) rfl (by kernel_rfl) (by kernel_rfl) (by kernel_rfl) (by rfl) (HKP.out _ b5) ?_ ?_
    rotate_left
    · ((intro W hW; obtain ⟨k0, k1, k2, k3, k4, k5, k6, k7, k8, k9, k10, k11⟩ := hW; go_simp) <;> with_reducible rfl)
    simp only [Act.put, List.setIfInBounds_toArray, List.set_cons_zero, List.set_cons_succ]
    refine lex_take (i := 12) (v := ?_) rfl (by kernel_rfl) (by kernel_rfl) (by kernel_rfl) (by rfl) (HKP.out _ b5) ?_ ?_
    rotate_left
    · ((intro W hW; obtain ⟨k0, k1, k2, k3, k4, k5, k6, k7, k8, k9, k10, k11⟩ := hW; go_simp) <;> with_reducible rfl)
    simp only [Act.put, List.setIfInBounds_toArray, List.set_cons_zero, List.set_cons_succ]
    refine lex_done (by kernel_rfl) ?_
    have HZ := Lib.hid (bmore HA.out (bmore HU4.out b5))
    clear b5 h5
    go_wp2_with fail
    go_returns
    exact ⟨by rw [hq]; rfl, HZ.out⟩
  | true =>
    refine lex_start [0, 1, 2, 4, 5, 3, 6, 7, 8, 9, 10, 11, 12] (S := fun W => W.cell? ⟨w.heap.size, 0, none⟩ = some (.int .i64 1) ∧ W.cell? ⟨w.heap.size, 1, none⟩ = some (.int .i64 sa) ∧ W.cell? ⟨w.heap.size, 2, none⟩ = some (.int .i64 sb) ∧ W.cell? ⟨w.heap.size, 3, none⟩ = some (.int .i64 st) ∧ W.cell? ⟨nb, 0, none⟩ = some (.int .i64 k9) ∧ W.cell? ⟨nb, 1, none⟩ = some (.int .i64 f9) ∧ W.cell? ⟨nb, 2, none⟩ = some (.int .i64 t9) ∧ W.cell? ⟨nb, 3, none⟩ = some (.int .u64 m9) ∧ W.cell? ⟨nb, 4, none⟩ = some (.string e9) ∧ W.cell? ⟨nb, 5, none⟩ = some (.int .i64 a9) ∧ W.cell? ⟨nb, 6, none⟩ = some (.int .i64 b9) ∧ Below w4.heap.size w4 W) (by kernel_rfl) (HKP.out _ (bd _)) (fun hS => ?_)
    simp only [inOrder, List.filterMap, List.getElem?_cons_succ, List.getElem?_cons_zero]
    have b0 := bd w4
    refine lex_take (i := 0) (v := ?_) rfl (by kernel_rfl) (by kernel_rfl) (by kernel_rfl) (by rfl) (HKP.out _ b0) ?_ ?_
    rotate_left
    · ((intro W hW; obtain ⟨k0, k1, k2, k3, k4, k5, k6, k7, k8, k9, k10, k11⟩ := hW; go_simp) <;> with_reducible rfl)
    simp only [Act.put, List.setIfInBounds_toArray, List.set_cons_zero, List.set_cons_succ]
    refine lex_take (i := 1) (v := ?_) rfl (by kernel_rfl) (by kernel_rfl) (by kernel_rfl) (by rfl) (HKP.out _ b0) ?_ ?_
    rotate_left
    · ((intro W hW; obtain ⟨k0, k1, k2, k3, k4, k5, k6, k7, k8, k9, k10, k11⟩ := hW; go_simp) <;> with_reducible rfl)
    simp only [Act.put, List.setIfInBounds_toArray, List.set_cons_zero, List.set_cons_succ]
    refine lex_take (i := 2) (v := ?_) rfl (by kernel_rfl) (by kernel_rfl) (by kernel_rfl) (by rfl) (HKP.out _ b0) ?_ ?_
    rotate_left
    · ((intro W hW; obtain ⟨k0, k1, k2, k3, k4, k5, k6, k7, k8, k9, k10, k11⟩ := hW; go_simp) <;> with_reducible rfl)
    simp only [Act.put, List.setIfInBounds_toArray, List.set_cons_zero, List.set_cons_succ]
    refine lex_take (i := 4) (v := ?_) rfl (by kernel_rfl) (by kernel_rfl) (by kernel_rfl) (by rfl) (HKP.out _ b0) ?_ ?_
    rotate_left
    · ((intro W hW; obtain ⟨k0, k1, k2, k3, k4, k5, k6, k7, k8, k9, k10, k11⟩ := hW; go_simp) <;> with_reducible rfl)
    simp only [Act.put, List.setIfInBounds_toArray, List.set_cons_zero, List.set_cons_succ]
    refine lex_take (i := 5) (v := ?_) rfl (by kernel_rfl) (by kernel_rfl) (by kernel_rfl) (by rfl) (HKP.out _ b0) ?_ ?_
    rotate_left
    · ((intro W hW; obtain ⟨k0, k1, k2, k3, k4, k5, k6, k7, k8, k9, k10, k11⟩ := hW; go_simp) <;> with_reducible rfl)
    simp only [Act.put, List.setIfInBounds_toArray, List.set_cons_zero, List.set_cons_succ]
    refine lex_do (i := 3) rfl (by kernel_rfl) (by rfl) (fun K hK => ?_)
    go_simp
    refine (TK.out _).mono ?_
    rintro e w5 ⟨rfl, h5⟩
    have b5 := bmore b0 h5
    refine hK _ _ ⟨HKP.out _ b5, ?_⟩
    clear hK K
    refine lex_take (i := 6) (v := ?_) rfl (by kernel_rfl) (by kernel_rfl) (by kernel_rfl) (by rfl) (HKP.out _ b5) ?_ ?_
    rotate_left
    · ((intro W hW; obtain ⟨k0, k1, k2, k3, k4, k5, k6, k7, k8, k9, k10, k11⟩ := hW; go_simp) <;> with_reducible rfl)
    simp only [Act.put, List.setIfInBounds_toArray, List.set_cons_zero, List.set_cons_succ]
    refine lex_take (i := 7) (v := ?_) rfl (by kernel_rfl) (by kernel_rfl) (by kernel_rfl) (by rfl) (HKP.out _ b5) ?_ ?_
    rotate_left
    · ((intro W hW; obtain ⟨k0, k1, k2, k3, k4, k5, k6, k7, k8, k9, k10, k11⟩ := hW; go_simp) <;> with_reducible rfl)
    simp only [Act.put, List.setIfInBounds_toArray, List.set_cons_zero, List.set_cons_succ]
    refine lex_take (i := 8) (v := ?_) rfl (by kernel_rfl) (by kernel_rfl) (by kernel_rfl) (by rfl) (HKP.out _ b5) ?_ ?_
    rotate_left
    · ((intro W hW; obtain ⟨k0, k1, k2, k3, k4, k5, k6, k7, k8, k9, k10, k11⟩ := hW; go_simp) <;> with_reducible rfl)
    simp only [Act.put, List.setIfInBounds_toArray, List.set_cons_zero, List.set_cons_succ]
    refine lex_take (i := 9) (v := ?_) rfl (by kernel_rfl) (by kernel_rfl) (by kernel_rfl) (by rfl) (HKP.out _ b5) ?_ ?_
    rotate_left
    · ((intro W hW; obtain ⟨k0, k1, k2, k3, k4, k5, k6, k7, k8, k9, k10, k11⟩ := hW; go_simp) <;> with_reducible rfl)
    simp only [Act.put, List.setIfInBounds_toArray, List.set_cons_zero, List.set_cons_succ]
    refine lex_take (i := 10) (v := ?_) rfl (by kernel_rfl) (by kernel_rfl) (by kernel_rfl) (by rfl) (HKP.out _ b5) ?_ ?_
    rotate_left
    · ((intro W hW; obtain ⟨k0, k1, k2, k3, k4, k5, k6, k7, k8, k9, k10, k11⟩ := hW; go_simp) <;> with_reducible rfl)
    simp only [Act.put, List.setIfInBounds_toArray, List.set_cons_zero, List.set_cons_succ]
    refine lex_take (i := 11) (v := ?_) rfl (by kernel_rfl) (by kernel_rfl) (by kernel_rfl) (by rfl) (HKP.out _ b5) ?_ ?_
    rotate_left
    · ((intro W hW; obtain ⟨k0, k1, k2, k3, k4, k5, k6, k7, k8, k9, k10, k11⟩ := hW; go_simp) <;> with_reducible rfl)
    simp only [Act.put, List.setIfInBounds_toArray, List.set_cons_zero, List.set_cons_succ]
    refine lex_take (i := 12) (v := ?_) rfl (by kernel_rfl) (by kernel_rfl) (by kernel_rfl) (by rfl) (HKP.out _ b5) ?_ ?_
    rotate_left
    · ((intro W hW; obtain ⟨k0, k1, k2, k3, k4, k5, k6, k7, k8, k9, k10, k11⟩ := hW; go_simp) <;> with_reducible rfl)
    simp only [Act.put, List.setIfInBounds_toArray, List.set_cons_zero, List.set_cons_succ]
    refine lex_done (by kernel_rfl) ?_
    have HZ := Lib.hid (bmore HA.out (bmore HU4.out b5))
    clear b5 h5
    go_wp2_with fail
    go_returns
    exact ⟨by rw [hq]; rfl, HZ.out⟩
set_option maxRecDepth 100000 in
set_option maxHeartbeats 12800000 in
theorem follows_2 (hp : IsPool w B a b v p) {mh : Nat} {g : List Int} (hm : Met w mh g []) {vl : Value} {l : List St} (hl : Row w 4 vl l.length (sts l)) {sr sa sb st : Int} (hs : i64R st) (hr : sr = 2) (hin : inP p st = true) : Calls Tryz.prog 84 #[.pointer (some ⟨a, 0, none⟩), .map (some mh), vl, .agg #[.int .i64 sr, .int .i64 sa, .int .i64 sb, .int .i64 st]] w fun e w' => e = .returned (.bool (followsP p g l ⟨sr, sa, sb, st⟩)) ∧ Below w.heap.size w w' := by
  have bA := bA0 w (.cells #[.int .i64 sr, .int .i64 sa, .int .i64 sb, .int .i64 st] StT)
  have hb : (w.alloc (.cells #[.int .i64 sr, .int .i64 sa, .int .i64 sb, .int .i64 st] StT)).heap[w.heap.size]? = some (Obj.cells #[.int .i64 sr, .int .i64 sa, .int .i64 sb, .int .i64 st] StT) := heap_alloc_new _ _
  have HA := Lib.hid bA
  have HP := Lib.hid (hp.below bA)
  have HM := Lib.hid (hm.belowK bA)
  have HL := Lib.hid (hl.below bA)
  have HB := Lib.hid hb
  have HS := Lib.hid hs
  obtain ⟨va, vc, hvl⟩ := hl.shape
  subst hvl
  have s0 := cellB (j := 0) hb rfl
  have s1 := cellB (j := 1) hb rfl
  have s2 := cellB (j := 2) hb rfl
  have s3 := cellB (j := 3) hb rfl
  clear hp hm hl hb bA hs
  subst hr
  have HN := Lib.hid (pnode HP.out st)
  rw [hin] at HN
  generalize hnn : (atP p st).1 = n at *
  have HNN := Lib.hid hnn
  clear hnn
  obtain ⟨kk, ff, tt, uu, ss, xa, xb⟩ := n
  simp only [nodeA] at HN
  have HF : Hid (followsP p g l ⟨2, sa, sb, st⟩ = (takeN 2 (atP p (saidP l sa)).1 == st && sb == 0)) := Lib.hid (by unfold followsP; rw [hin]; rfl)
  rw [HF.out]
  clear hin
  have SAI := Lib.hid (fun (W : World) (h : Row W 4 (.slice va l.length vc) l.length (sts l)) => said_any h sa)
  have PN := Lib.hid (fun (W : World) (h : IsPool W B a b v p) => pnode h (saidP l sa))
  have TK := Lib.hid (fun (W : World) => taken_any 2 (atP p (saidP l sa)).1 W)
  generalize (atP p (saidP l sa)).1 = n2 at *
  generalize saidP l sa = z at *
  generalize takeN 2 n2 = tk at *
  generalize inP p z = iz at *
  obtain ⟨k9, f9, t9, m9, e9, a9, b9⟩ := n2
  simp only [nodeA] at PN TK
  go_enter Tryz.func84, Tryz.ntmps84
  go_wp2_with fail
  generalize (w.alloc (.cells #[.int .i64 2, .int .i64 sa, .int .i64 sb, .int .i64 st] StT)) = W at *
  refine HN.out.mono ?_
  rintro e w1 ⟨rfl, u1⟩
  have b2 := bA0 w1 (.cells #[.int .i64 kk, .int .i64 ff, .int .i64 tt, .int .u64 uu, .string ss, .int .i64 xa, .int .i64 xb] NodeT)
  have hn : (w1.alloc (.cells #[.int .i64 kk, .int .i64 ff, .int .i64 tt, .int .u64 uu, .string ss, .int .i64 xa, .int .i64 xb] NodeT)).heap[w1.heap.size]? = some (Obj.cells #[.int .i64 kk, .int .i64 ff, .int .i64 tt, .int .u64 uu, .string ss, .int .i64 xa, .int .i64 xb] NodeT) := heap_alloc_new _ _
  have HU2 := Lib.hid (bmore u1 b2)
  have HBN := Lib.hid hn
  have HB2 := Lib.hid (Hold.below (bmore u1 b2) _ _ HB.out)
  have y0 := cellB (j := 0) hn rfl
  have y1 := cellB (j := 1) hn rfl
  have y2 := cellB (j := 2) hn rfl
  have y3 := cellB (j := 3) hn rfl
  have y4 := cellB (j := 4) hn rfl
  have y5 := cellB (j := 5) hn rfl
  have y6 := cellB (j := 6) hn rfl
  replace s0 := bcellAt (bmore u1 b2) s0
  replace s1 := bcellAt (bmore u1 b2) s1
  replace s2 := bcellAt (bmore u1 b2) s2
  replace s3 := bcellAt (bmore u1 b2) s3
  clear u1 b2 hn
  have hL2 := HL.out.below HU2.out
  go_wp2_with fail
  refine (SAI.out _ hL2).mono ?_
  rintro e w2 ⟨rfl, rfl⟩
  go_wp2_with fail
  refine (PN.out _ (HP.out.below HU2.out)).mono ?_
  rintro e w3 ⟨rfl, u3⟩
  have b4 := bA0 w3 (.cells #[.int .i64 k9, .int .i64 f9, .int .i64 t9, .int .u64 m9, .string e9, .int .i64 a9, .int .i64 b9] NodeT)
  have hn4 : (w3.alloc (.cells #[.int .i64 k9, .int .i64 f9, .int .i64 t9, .int .u64 m9, .string e9, .int .i64 a9, .int .i64 b9] NodeT)).heap[w3.heap.size]? = some (Obj.cells #[.int .i64 k9, .int .i64 f9, .int .i64 t9, .int .u64 m9, .string e9, .int .i64 a9, .int .i64 b9] NodeT) := heap_alloc_new _ _
  have HU4 := Lib.hid (bmore HU2.out (bmore u3 b4))
  replace s0 := bcellAt (bmore u3 b4) s0
  replace s1 := bcellAt (bmore u3 b4) s1
  replace s2 := bcellAt (bmore u3 b4) s2
  replace s3 := bcellAt (bmore u3 b4) s3
  have x0 := cellB (j := 0) hn4 rfl
  have x1 := cellB (j := 1) hn4 rfl
  have x2 := cellB (j := 2) hn4 rfl
  have x3 := cellB (j := 3) hn4 rfl
  have x4 := cellB (j := 4) hn4 rfl
  have x5 := cellB (j := 5) hn4 rfl
  have x6 := cellB (j := 6) hn4 rfl
  clear u3 b4 hn4 y0 y1 y2 y3 y4 y5 y6
  go_upto_region 12 with fail
  generalize (w3.alloc (.cells #[.int .i64 k9, .int .i64 f9, .int .i64 t9, .int .u64 m9, .string e9, .int .i64 a9, .int .i64 b9] NodeT)) = w4 at *
  generalize w3.heap.size = nb at *
  have hkp : ∀ V : World, Below w4.heap.size w4 V → V.cell? ⟨w.heap.size, 0, none⟩ = some (.int .i64 2) ∧ V.cell? ⟨w.heap.size, 1, none⟩ = some (.int .i64 sa) ∧ V.cell? ⟨w.heap.size, 2, none⟩ = some (.int .i64 sb) ∧ V.cell? ⟨w.heap.size, 3, none⟩ = some (.int .i64 st) ∧ V.cell? ⟨nb, 0, none⟩ = some (.int .i64 k9) ∧ V.cell? ⟨nb, 1, none⟩ = some (.int .i64 f9) ∧ V.cell? ⟨nb, 2, none⟩ = some (.int .i64 t9) ∧ V.cell? ⟨nb, 3, none⟩ = some (.int .u64 m9) ∧ V.cell? ⟨nb, 4, none⟩ = some (.string e9) ∧ V.cell? ⟨nb, 5, none⟩ = some (.int .i64 a9) ∧ V.cell? ⟨nb, 6, none⟩ = some (.int .i64 b9) ∧ Below w4.heap.size w4 V := fun V hV => ⟨bcellAt hV s0, bcellAt hV s1, bcellAt hV s2, bcellAt hV s3, bcellAt hV x0, bcellAt hV x1, bcellAt hV x2, bcellAt hV x3, bcellAt hV x4, bcellAt hV x5, bcellAt hV x6, hV⟩
  have HKP := Lib.hid hkp
  clear hkp
  cases hq : tk == st with
  | false =>
    refine lex_start [0, 1, 2, 4, 5, 3, 6, 7, 8, 9, 10, 11, 12] (S := fun W => W.cell? ⟨w.heap.size, 0, none⟩ = some (.int .i64 2) ∧ W.cell? ⟨w.heap.size, 1, none⟩ = some (.int .i64 sa) ∧ W.cell? ⟨w.heap.size, 2, none⟩ = some (.int .i64 sb) ∧ W.cell? ⟨w.heap.size, 3, none⟩ = some (.int .i64 st) ∧ W.cell? ⟨nb, 0, none⟩ = some (.int .i64 k9) ∧ W.cell? ⟨nb, 1, none⟩ = some (.int .i64 f9) ∧ W.cell? ⟨nb, 2, none⟩ = some (.int .i64 t9) ∧ W.cell? ⟨nb, 3, none⟩ = some (.int .u64 m9) ∧ W.cell? ⟨nb, 4, none⟩ = some (.string e9) ∧ W.cell? ⟨nb, 5, none⟩ = some (.int .i64 a9) ∧ W.cell? ⟨nb, 6, none⟩ = some (.int .i64 b9) ∧ Below w4.heap.size w4 W) (by kernel_rfl) (HKP.out _ (bd _)) (fun hS => ?_)
    simp only [inOrder, List.filterMap, List.getElem?_cons_succ, List.getElem?_cons_zero]
    have b0 := bd w4
    refine lex_take (i := 0) (v := ?_) rfl (by kernel_rfl) (by kernel_rfl) (by kernel_rfl) (by rfl) (HKP.out _ b0) ?_ ?_
    rotate_left
    · ((intro W hW; obtain ⟨k0, k1, k2, k3, k4, k5, k6, k7, k8, k9, k10, k11⟩ := hW; go_simp) <;> with_reducible rfl)
    simp only [Act.put, List.setIfInBounds_toArray, List.set_cons_zero, List.set_cons_succ]
    refine lex_take (i := 1) (v := ?_) rfl (by kernel_rfl) (by kernel_rfl) (by kernel_rfl) (by rfl) (HKP.out _ b0) ?_ ?_
    rotate_left
    · ((intro W hW; obtain ⟨k0, k1, k2, k3, k4, k5, k6, k7, k8, k9, k10, k11⟩ := hW; go_simp) <;> with_reducible rfl)
    simp only [Act.put, List.setIfInBounds_toArray, List.set_cons_zero, List.set_cons_succ]
    refine lex_take (i := 2) (v := ?_) rfl (by kernel_rfl) (by kernel_rfl) (by kernel_rfl) (by rfl) (HKP.out _ b0) ?_ ?_
    rotate_left
    · ((intro W hW; obtain ⟨k0, k1, k2, k3, k4, k5, k6, k7, k8, k9, k10, k11⟩ := hW; go_simp) <;> with_reducible rfl)
    simp only [Act.put, List.setIfInBounds_toArray, List.set_cons_zero, List.set_cons_succ]
    refine lex_take (i := 4) (v := ?_) rfl (by kernel_rfl) (by kernel_rfl) (by kernel_rfl) (by rfl) (HKP.out _ b0) ?_ ?_
    rotate_left
    · ((intro W hW; obtain ⟨k0, k1, k2, k3, k4, k5, k6, k7, k8, k9, k10, k11⟩ := hW; go_simp) <;> with_reducible rfl)
    simp only [Act.put, List.setIfInBounds_toArray, List.set_cons_zero, List.set_cons_succ]
    refine lex_take (i := 5) (v := ?_) rfl (by kernel_rfl) (by kernel_rfl) (by kernel_rfl) (by rfl) (HKP.out _ b0) ?_ ?_
    rotate_left
    · ((intro W hW; obtain ⟨k0, k1, k2, k3, k4, k5, k6, k7, k8, k9, k10, k11⟩ := hW; go_simp) <;> with_reducible rfl)
    simp only [Act.put, List.setIfInBounds_toArray, List.set_cons_zero, List.set_cons_succ]
    refine lex_do (i := 3) rfl (by kernel_rfl) (by rfl) (fun K hK => ?_)
    go_simp
    refine (TK.out _).mono ?_
    rintro e w5 ⟨rfl, h5⟩
    have b5 := bmore b0 h5
    refine hK _ _ ⟨HKP.out _ b5, ?_⟩
    clear hK K
    refine lex_take (i := 6) (v := ?_) rfl (by kernel_rfl) (by kernel_rfl) (by kernel_rfl) (by rfl) (HKP.out _ b5) ?_ ?_
    rotate_left
    · ((intro W hW; obtain ⟨k0, k1, k2, k3, k4, k5, k6, k7, k8, k9, k10, k11⟩ := hW; go_simp) <;> with_reducible rfl)
    simp only [Act.put, List.setIfInBounds_toArray, List.set_cons_zero, List.set_cons_succ]
    refine lex_take (i := 7) (v := ?_) rfl (by kernel_rfl) (by kernel_rfl) (by kernel_rfl) (by rfl) (HKP.out _ b5) ?_ ?_
    rotate_left
    · ((intro W hW; obtain ⟨k0, k1, k2, k3, k4, k5, k6, k7, k8, k9, k10, k11⟩ := hW; go_simp) <;> with_reducible rfl)
    simp only [Act.put, List.setIfInBounds_toArray, List.set_cons_zero, List.set_cons_succ]
    refine lex_skip (i := 8) rfl (by kernel_rfl) (by kernel_rfl) (by kernel_rfl) (by rfl) (HKP.out _ b5) ?_
    simp only [Act.put, List.setIfInBounds_toArray, List.set_cons_zero, List.set_cons_succ]
    refine lex_skip (i := 9) rfl (by kernel_rfl) (by kernel_rfl) (by kernel_rfl) (by rfl) (HKP.out _ b5) ?_
    simp only [Act.put, List.setIfInBounds_toArray, List.set_cons_zero, List.set_cons_succ]
    refine lex_skip (i := 10) rfl (by kernel_rfl) (by kernel_rfl) (by kernel_rfl) (by rfl) (HKP.out _ b5) ?_
    simp only [Act.put, List.setIfInBounds_toArray, List.set_cons_zero, List.set_cons_succ]
    refine lex_take (i := 11) (v := ?_) rfl (by kernel_rfl) (by kernel_rfl) (by kernel_rfl) (by rfl) (HKP.out _ b5) ?_ ?_
    rotate_left
    · ((intro W hW; obtain ⟨k0, k1, k2, k3, k4, k5, k6, k7, k8, k9, k10, k11⟩ := hW; go_simp) <;> with_reducible rfl)
    simp only [Act.put, List.setIfInBounds_toArray, List.set_cons_zero, List.set_cons_succ]
    refine lex_take (i := 12) (v := ?_) rfl (by kernel_rfl) (by kernel_rfl) (by kernel_rfl) (by rfl) (HKP.out _ b5) ?_ ?_
    rotate_left
    · ((intro W hW; obtain ⟨k0, k1, k2, k3, k4, k5, k6, k7, k8, k9, k10, k11⟩ := hW; go_simp) <;> with_reducible rfl)
    simp only [Act.put, List.setIfInBounds_toArray, List.set_cons_zero, List.set_cons_succ]
    refine lex_done (by kernel_rfl) ?_
    have HZ := Lib.hid (bmore HA.out (bmore HU4.out b5))
    clear b5 h5
    go_wp2_with fail
    go_returns
    exact ⟨by rw [hq]; rfl, HZ.out⟩
  | true =>
    refine lex_start [0, 1, 2, 4, 5, 3, 6, 7, 8, 9, 10, 11, 12] (S := fun W => W.cell? ⟨w.heap.size, 0, none⟩ = some (.int .i64 2) ∧ W.cell? ⟨w.heap.size, 1, none⟩ = some (.int .i64 sa) ∧ W.cell? ⟨w.heap.size, 2, none⟩ = some (.int .i64 sb) ∧ W.cell? ⟨w.heap.size, 3, none⟩ = some (.int .i64 st) ∧ W.cell? ⟨nb, 0, none⟩ = some (.int .i64 k9) ∧ W.cell? ⟨nb, 1, none⟩ = some (.int .i64 f9) ∧ W.cell? ⟨nb, 2, none⟩ = some (.int .i64 t9) ∧ W.cell? ⟨nb, 3, none⟩ = some (.int .u64 m9) ∧ W.cell? ⟨nb, 4, none⟩ = some (.string e9) ∧ W.cell? ⟨nb, 5, none⟩ = some (.int .i64 a9) ∧ W.cell? ⟨nb, 6, none⟩ = some (.int .i64 b9) ∧ Below w4.heap.size w4 W) (by kernel_rfl) (HKP.out _ (bd _)) (fun hS => ?_)
    simp only [inOrder, List.filterMap, List.getElem?_cons_succ, List.getElem?_cons_zero]
    have b0 := bd w4
    refine lex_take (i := 0) (v := ?_) rfl (by kernel_rfl) (by kernel_rfl) (by kernel_rfl) (by rfl) (HKP.out _ b0) ?_ ?_
    rotate_left
    · ((intro W hW; obtain ⟨k0, k1, k2, k3, k4, k5, k6, k7, k8, k9, k10, k11⟩ := hW; go_simp) <;> with_reducible rfl)
    simp only [Act.put, List.setIfInBounds_toArray, List.set_cons_zero, List.set_cons_succ]
    refine lex_take (i := 1) (v := ?_) rfl (by kernel_rfl) (by kernel_rfl) (by kernel_rfl) (by rfl) (HKP.out _ b0) ?_ ?_
    rotate_left
    · ((intro W hW; obtain ⟨k0, k1, k2, k3, k4, k5, k6, k7, k8, k9, k10, k11⟩ := hW; go_simp) <;> with_reducible rfl)
    simp only [Act.put, List.setIfInBounds_toArray, List.set_cons_zero, List.set_cons_succ]
    refine lex_take (i := 2) (v := ?_) rfl (by kernel_rfl) (by kernel_rfl) (by kernel_rfl) (by rfl) (HKP.out _ b0) ?_ ?_
    rotate_left
    · ((intro W hW; obtain ⟨k0, k1, k2, k3, k4, k5, k6, k7, k8, k9, k10, k11⟩ := hW; go_simp) <;> with_reducible rfl)
    simp only [Act.put, List.setIfInBounds_toArray, List.set_cons_zero, List.set_cons_succ]
    refine lex_take (i := 4) (v := ?_) rfl (by kernel_rfl) (by kernel_rfl) (by kernel_rfl) (by rfl) (HKP.out _ b0) ?_ ?_
    rotate_left
    · ((intro W hW; obtain ⟨k0, k1, k2, k3, k4, k5, k6, k7, k8, k9, k10, k11⟩ := hW; go_simp) <;> with_reducible rfl)
    simp only [Act.put, List.setIfInBounds_toArray, List.set_cons_zero, List.set_cons_succ]
    refine lex_take (i := 5) (v := ?_) rfl (by kernel_rfl) (by kernel_rfl) (by kernel_rfl) (by rfl) (HKP.out _ b0) ?_ ?_
    rotate_left
    · ((intro W hW; obtain ⟨k0, k1, k2, k3, k4, k5, k6, k7, k8, k9, k10, k11⟩ := hW; go_simp) <;> with_reducible rfl)
    simp only [Act.put, List.setIfInBounds_toArray, List.set_cons_zero, List.set_cons_succ]
    refine lex_do (i := 3) rfl (by kernel_rfl) (by rfl) (fun K hK => ?_)
    go_simp
    refine (TK.out _).mono ?_
    rintro e w5 ⟨rfl, h5⟩
    have b5 := bmore b0 h5
    refine hK _ _ ⟨HKP.out _ b5, ?_⟩
    clear hK K
    refine lex_take (i := 6) (v := ?_) rfl (by kernel_rfl) (by kernel_rfl) (by kernel_rfl) (by rfl) (HKP.out _ b5) ?_ ?_
    rotate_left
    · ((intro W hW; obtain ⟨k0, k1, k2, k3, k4, k5, k6, k7, k8, k9, k10, k11⟩ := hW; go_simp) <;> with_reducible rfl)
    simp only [Act.put, List.setIfInBounds_toArray, List.set_cons_zero, List.set_cons_succ]
    refine lex_take (i := 7) (v := ?_) rfl (by kernel_rfl) (by kernel_rfl) (by kernel_rfl) (by rfl) (HKP.out _ b5) ?_ ?_
    rotate_left
    · ((intro W hW; obtain ⟨k0, k1, k2, k3, k4, k5, k6, k7, k8, k9, k10, k11⟩ := hW; go_simp) <;> with_reducible rfl)
    simp only [Act.put, List.setIfInBounds_toArray, List.set_cons_zero, List.set_cons_succ]
    refine lex_take (i := 8) (v := ?_) rfl (by kernel_rfl) (by kernel_rfl) (by kernel_rfl) (by rfl) (HKP.out _ b5) ?_ ?_
    rotate_left
    · ((intro W hW; obtain ⟨k0, k1, k2, k3, k4, k5, k6, k7, k8, k9, k10, k11⟩ := hW; go_simp) <;> with_reducible rfl)
    simp only [Act.put, List.setIfInBounds_toArray, List.set_cons_zero, List.set_cons_succ]
    refine lex_take (i := 9) (v := ?_) rfl (by kernel_rfl) (by kernel_rfl) (by kernel_rfl) (by rfl) (HKP.out _ b5) ?_ ?_
    rotate_left
    · ((intro W hW; obtain ⟨k0, k1, k2, k3, k4, k5, k6, k7, k8, k9, k10, k11⟩ := hW; go_simp) <;> with_reducible rfl)
    simp only [Act.put, List.setIfInBounds_toArray, List.set_cons_zero, List.set_cons_succ]
    refine lex_take (i := 10) (v := ?_) rfl (by kernel_rfl) (by kernel_rfl) (by kernel_rfl) (by rfl) (HKP.out _ b5) ?_ ?_
    rotate_left
    · ((intro W hW; obtain ⟨k0, k1, k2, k3, k4, k5, k6, k7, k8, k9, k10, k11⟩ := hW; go_simp) <;> with_reducible rfl)
    simp only [Act.put, List.setIfInBounds_toArray, List.set_cons_zero, List.set_cons_succ]
    refine lex_take (i := 11) (v := ?_) rfl (by kernel_rfl) (by kernel_rfl) (by kernel_rfl) (by rfl) (HKP.out _ b5) ?_ ?_
    rotate_left
    · ((intro W hW; obtain ⟨k0, k1, k2, k3, k4, k5, k6, k7, k8, k9, k10, k11⟩ := hW; go_simp) <;> with_reducible rfl)
    simp only [Act.put, List.setIfInBounds_toArray, List.set_cons_zero, List.set_cons_succ]
    refine lex_take (i := 12) (v := ?_) rfl (by kernel_rfl) (by kernel_rfl) (by kernel_rfl) (by rfl) (HKP.out _ b5) ?_ ?_
    rotate_left
    · ((intro W hW; obtain ⟨k0, k1, k2, k3, k4, k5, k6, k7, k8, k9, k10, k11⟩ := hW; go_simp) <;> with_reducible rfl)
    simp only [Act.put, List.setIfInBounds_toArray, List.set_cons_zero, List.set_cons_succ]
    refine lex_done (by kernel_rfl) ?_
    have HZ := Lib.hid (bmore HA.out (bmore HU4.out b5))
    clear b5 h5
    go_wp2_with fail
    go_returns
    exact ⟨by rw [hq]; rfl, HZ.out⟩
set_option maxRecDepth 100000 in
set_option maxHeartbeats 12800000 in
theorem follows_3 (hp : IsPool w B a b v p) {mh : Nat} {g : List Int} (hm : Met w mh g []) {vl : Value} {l : List St} (hl : Row w 4 vl l.length (sts l)) {sr sa sb st : Int} (hs : i64R st) (hr : sr = 3) (hin : inP p st = true) : Calls Tryz.prog 84 #[.pointer (some ⟨a, 0, none⟩), .map (some mh), vl, .agg #[.int .i64 sr, .int .i64 sa, .int .i64 sb, .int .i64 st]] w fun e w' => e = .returned (.bool (followsP p g l ⟨sr, sa, sb, st⟩)) ∧ Below w.heap.size w w' := by
  have bA := bA0 w (.cells #[.int .i64 sr, .int .i64 sa, .int .i64 sb, .int .i64 st] StT)
  have hb : (w.alloc (.cells #[.int .i64 sr, .int .i64 sa, .int .i64 sb, .int .i64 st] StT)).heap[w.heap.size]? = some (Obj.cells #[.int .i64 sr, .int .i64 sa, .int .i64 sb, .int .i64 st] StT) := heap_alloc_new _ _
  have HA := Lib.hid bA
  have HP := Lib.hid (hp.below bA)
  have HM := Lib.hid (hm.belowK bA)
  have HL := Lib.hid (hl.below bA)
  have HB := Lib.hid hb
  have HS := Lib.hid hs
  obtain ⟨va, vc, hvl⟩ := hl.shape
  subst hvl
  have s0 := cellB (j := 0) hb rfl
  have s1 := cellB (j := 1) hb rfl
  have s2 := cellB (j := 2) hb rfl
  have s3 := cellB (j := 3) hb rfl
  clear hp hm hl hb bA hs
  subst hr
  have HN := Lib.hid (pnode HP.out st)
  rw [hin] at HN
  generalize hnn : (atP p st).1 = n at *
  have HNN := Lib.hid hnn
  clear hnn
  obtain ⟨kk, ff, tt, uu, ss, xa, xb⟩ := n
  simp only [nodeA] at HN
  have HF : Hid (followsP p g l ⟨3, sa, sb, st⟩ = (takeN 3 (atP p (saidP l sa)).1 == st && sb == 0)) := Lib.hid (by unfold followsP; rw [hin]; rfl)
  rw [HF.out]
  clear hin
  have SAI := Lib.hid (fun (W : World) (h : Row W 4 (.slice va l.length vc) l.length (sts l)) => said_any h sa)
  have PN := Lib.hid (fun (W : World) (h : IsPool W B a b v p) => pnode h (saidP l sa))
  have TK := Lib.hid (fun (W : World) => taken_any 3 (atP p (saidP l sa)).1 W)
  generalize (atP p (saidP l sa)).1 = n2 at *
  generalize saidP l sa = z at *
  generalize takeN 3 n2 = tk at *
  generalize inP p z = iz at *
  obtain ⟨k9, f9, t9, m9, e9, a9, b9⟩ := n2
  simp only [nodeA] at PN TK
  go_enter Tryz.func84, Tryz.ntmps84
  go_wp2_with fail
  generalize (w.alloc (.cells #[.int .i64 3, .int .i64 sa, .int .i64 sb, .int .i64 st] StT)) = W at *
  refine HN.out.mono ?_
  rintro e w1 ⟨rfl, u1⟩
  have b2 := bA0 w1 (.cells #[.int .i64 kk, .int .i64 ff, .int .i64 tt, .int .u64 uu, .string ss, .int .i64 xa, .int .i64 xb] NodeT)
  have hn : (w1.alloc (.cells #[.int .i64 kk, .int .i64 ff, .int .i64 tt, .int .u64 uu, .string ss, .int .i64 xa, .int .i64 xb] NodeT)).heap[w1.heap.size]? = some (Obj.cells #[.int .i64 kk, .int .i64 ff, .int .i64 tt, .int .u64 uu, .string ss, .int .i64 xa, .int .i64 xb] NodeT) := heap_alloc_new _ _
  have HU2 := Lib.hid (bmore u1 b2)
  have HBN := Lib.hid hn
  have HB2 := Lib.hid (Hold.below (bmore u1 b2) _ _ HB.out)
  have y0 := cellB (j := 0) hn rfl
  have y1 := cellB (j := 1) hn rfl
  have y2 := cellB (j := 2) hn rfl
  have y3 := cellB (j := 3) hn rfl
  have y4 := cellB (j := 4) hn rfl
  have y5 := cellB (j := 5) hn rfl
  have y6 := cellB (j := 6) hn rfl
  replace s0 := bcellAt (bmore u1 b2) s0
  replace s1 := bcellAt (bmore u1 b2) s1
  replace s2 := bcellAt (bmore u1 b2) s2
  replace s3 := bcellAt (bmore u1 b2) s3
  clear u1 b2 hn
  have hL2 := HL.out.below HU2.out
  go_wp2_with fail
  refine (SAI.out _ hL2).mono ?_
  rintro e w2 ⟨rfl, rfl⟩
  go_wp2_with fail
  refine (PN.out _ (HP.out.below HU2.out)).mono ?_
  rintro e w3 ⟨rfl, u3⟩
  have b4 := bA0 w3 (.cells #[.int .i64 k9, .int .i64 f9, .int .i64 t9, .int .u64 m9, .string e9, .int .i64 a9, .int .i64 b9] NodeT)
  have hn4 : (w3.alloc (.cells #[.int .i64 k9, .int .i64 f9, .int .i64 t9, .int .u64 m9, .string e9, .int .i64 a9, .int .i64 b9] NodeT)).heap[w3.heap.size]? = some (Obj.cells #[.int .i64 k9, .int .i64 f9, .int .i64 t9, .int .u64 m9, .string e9, .int .i64 a9, .int .i64 b9] NodeT) := heap_alloc_new _ _
  have HU4 := Lib.hid (bmore HU2.out (bmore u3 b4))
  replace s0 := bcellAt (bmore u3 b4) s0
  replace s1 := bcellAt (bmore u3 b4) s1
  replace s2 := bcellAt (bmore u3 b4) s2
  replace s3 := bcellAt (bmore u3 b4) s3
  have x0 := cellB (j := 0) hn4 rfl
  have x1 := cellB (j := 1) hn4 rfl
  have x2 := cellB (j := 2) hn4 rfl
  have x3 := cellB (j := 3) hn4 rfl
  have x4 := cellB (j := 4) hn4 rfl
  have x5 := cellB (j := 5) hn4 rfl
  have x6 := cellB (j := 6) hn4 rfl
  clear u3 b4 hn4 y0 y1 y2 y3 y4 y5 y6
  go_upto_region 12 with fail
  generalize (w3.alloc (.cells #[.int .i64 k9, .int .i64 f9, .int .i64 t9, .int .u64 m9, .string e9, .int .i64 a9, .int .i64 b9] NodeT)) = w4 at *
  generalize w3.heap.size = nb at *
  have hkp : ∀ V : World, Below w4.heap.size w4 V → V.cell? ⟨w.heap.size, 0, none⟩ = some (.int .i64 3) ∧ V.cell? ⟨w.heap.size, 1, none⟩ = some (.int .i64 sa) ∧ V.cell? ⟨w.heap.size, 2, none⟩ = some (.int .i64 sb) ∧ V.cell? ⟨w.heap.size, 3, none⟩ = some (.int .i64 st) ∧ V.cell? ⟨nb, 0, none⟩ = some (.int .i64 k9) ∧ V.cell? ⟨nb, 1, none⟩ = some (.int .i64 f9) ∧ V.cell? ⟨nb, 2, none⟩ = some (.int .i64 t9) ∧ V.cell? ⟨nb, 3, none⟩ = some (.int .u64 m9) ∧ V.cell? ⟨nb, 4, none⟩ = some (.string e9) ∧ V.cell? ⟨nb, 5, none⟩ = some (.int .i64 a9) ∧ V.cell? ⟨nb, 6, none⟩ = some (.int .i64 b9) ∧ Below w4.heap.size w4 V := fun V hV => ⟨bcellAt hV s0, bcellAt hV s1, bcellAt hV s2, bcellAt hV s3, bcellAt hV x0, bcellAt hV x1, bcellAt hV x2, bcellAt hV x3, bcellAt hV x4, bcellAt hV x5, bcellAt hV x6, hV⟩
  have HKP := Lib.hid hkp
  clear hkp
  cases hq : tk == st with
  | false =>
    refine lex_start [0, 1, 2, 4, 5, 3, 6, 7, 8, 9, 10, 11, 12] (S := fun W => W.cell? ⟨w.heap.size, 0, none⟩ = some (.int .i64 3) ∧ W.cell? ⟨w.heap.size, 1, none⟩ = some (.int .i64 sa) ∧ W.cell? ⟨w.heap.size, 2, none⟩ = some (.int .i64 sb) ∧ W.cell? ⟨w.heap.size, 3, none⟩ = some (.int .i64 st) ∧ W.cell? ⟨nb, 0, none⟩ = some (.int .i64 k9) ∧ W.cell? ⟨nb, 1, none⟩ = some (.int .i64 f9) ∧ W.cell? ⟨nb, 2, none⟩ = some (.int .i64 t9) ∧ W.cell? ⟨nb, 3, none⟩ = some (.int .u64 m9) ∧ W.cell? ⟨nb, 4, none⟩ = some (.string e9) ∧ W.cell? ⟨nb, 5, none⟩ = some (.int .i64 a9) ∧ W.cell? ⟨nb, 6, none⟩ = some (.int .i64 b9) ∧ Below w4.heap.size w4 W) (by kernel_rfl) (HKP.out _ (bd _)) (fun hS => ?_)
    simp only [inOrder, List.filterMap, List.getElem?_cons_succ, List.getElem?_cons_zero]
    have b0 := bd w4
    refine lex_take (i := 0) (v := ?_) rfl (by kernel_rfl) (by kernel_rfl) (by kernel_rfl) (by rfl) (HKP.out _ b0) ?_ ?_
    rotate_left
    · ((intro W hW; obtain ⟨k0, k1, k2, k3, k4, k5, k6, k7, k8, k9, k10, k11⟩ := hW; go_simp) <;> with_reducible rfl)
    simp only [Act.put, List.setIfInBounds_toArray, List.set_cons_zero, List.set_cons_succ]
    refine lex_take (i := 1) (v := ?_) rfl (by kernel_rfl) (by kernel_rfl) (by kernel_rfl) (by rfl) (HKP.out _ b0) ?_ ?_
    rotate_left
    · ((intro W hW; obtain ⟨k0, k1, k2, k3, k4, k5, k6, k7, k8, k9, k10, k11⟩ := hW; go_simp) <;> with_reducible rfl)
    simp only [Act.put, List.setIfInBounds_toArray, List.set_cons_zero, List.set_cons_succ]
    refine lex_take (i := 2) (v := ?_) rfl (by kernel_rfl) (by kernel_rfl) (by kernel_rfl) (by rfl) (HKP.out _ b0) ?_ ?_
    rotate_left
    · ((intro W hW; obtain ⟨k0, k1, k2, k3, k4, k5, k6, k7, k8, k9, k10, k11⟩ := hW; go_simp) <;> with_reducible rfl)
    simp only [Act.put, List.setIfInBounds_toArray, List.set_cons_zero, List.set_cons_succ]
    refine lex_take (i := 4) (v := ?_) rfl (by kernel_rfl) (by kernel_rfl) (by kernel_rfl) (by rfl) (HKP.out _ b0) ?_ ?_
    rotate_left
    · ((intro W hW; obtain ⟨k0, k1, k2, k3, k4, k5, k6, k7, k8, k9, k10, k11⟩ := hW; go_simp) <;> with_reducible rfl)
    simp only [Act.put, List.setIfInBounds_toArray, List.set_cons_zero, List.set_cons_succ]
    refine lex_take (i := 5) (v := ?_) rfl (by kernel_rfl) (by kernel_rfl) (by kernel_rfl) (by rfl) (HKP.out _ b0) ?_ ?_
    rotate_left
    · ((intro W hW; obtain ⟨k0, k1, k2, k3, k4, k5, k6, k7, k8, k9, k10, k11⟩ := hW; go_simp) <;> with_reducible rfl)
    simp only [Act.put, List.setIfInBounds_toArray, List.set_cons_zero, List.set_cons_succ]
    refine lex_do (i := 3) rfl (by kernel_rfl) (by rfl) (fun K hK => ?_)
    go_simp
    refine (TK.out _).mono ?_
    rintro e w5 ⟨rfl, h5⟩
    have b5 := bmore b0 h5
    refine hK _ _ ⟨HKP.out _ b5, ?_⟩
    clear hK K
    refine lex_take (i := 6) (v := ?_) rfl (by kernel_rfl) (by kernel_rfl) (by kernel_rfl) (by rfl) (HKP.out _ b5) ?_ ?_
    rotate_left
    · ((intro W hW; obtain ⟨k0, k1, k2, k3, k4, k5, k6, k7, k8, k9, k10, k11⟩ := hW; go_simp) <;> with_reducible rfl)
    simp only [Act.put, List.setIfInBounds_toArray, List.set_cons_zero, List.set_cons_succ]
    refine lex_take (i := 7) (v := ?_) rfl (by kernel_rfl) (by kernel_rfl) (by kernel_rfl) (by rfl) (HKP.out _ b5) ?_ ?_
    rotate_left
    · ((intro W hW; obtain ⟨k0, k1, k2, k3, k4, k5, k6, k7, k8, k9, k10, k11⟩ := hW; go_simp) <;> with_reducible rfl)
    simp only [Act.put, List.setIfInBounds_toArray, List.set_cons_zero, List.set_cons_succ]
    refine lex_skip (i := 8) rfl (by kernel_rfl) (by kernel_rfl) (by kernel_rfl) (by rfl) (HKP.out _ b5) ?_
    simp only [Act.put, List.setIfInBounds_toArray, List.set_cons_zero, List.set_cons_succ]
    refine lex_skip (i := 9) rfl (by kernel_rfl) (by kernel_rfl) (by kernel_rfl) (by rfl) (HKP.out _ b5) ?_
    simp only [Act.put, List.setIfInBounds_toArray, List.set_cons_zero, List.set_cons_succ]
    refine lex_skip (i := 10) rfl (by kernel_rfl) (by kernel_rfl) (by kernel_rfl) (by rfl) (HKP.out _ b5) ?_
    simp only [Act.put, List.setIfInBounds_toArray, List.set_cons_zero, List.set_cons_succ]
    refine lex_take (i := 11) (v := ?_) rfl (by kernel_rfl) (by kernel_rfl) (by kernel_rfl) (by rfl) (HKP.out _ b5) ?_ ?_
    rotate_left
    · ((intro W hW; obtain ⟨k0, k1, k2, k3, k4, k5, k6, k7, k8, k9, k10, k11⟩ := hW; go_simp) <;> with_reducible rfl)
    simp only [Act.put, List.setIfInBounds_toArray, List.set_cons_zero, List.set_cons_succ]
    refine lex_take (i := 12) (v := ?_) rfl (by kernel_rfl) (by kernel_rfl) (by kernel_rfl) (by rfl) (HKP.out _ b5) ?_ ?_
    rotate_left
    · ((intro W hW; obtain ⟨k0, k1, k2, k3, k4, k5, k6, k7, k8, k9, k10, k11⟩ := hW; go_simp) <;> with_reducible rfl)
    simp only [Act.put, List.setIfInBounds_toArray, List.set_cons_zero, List.set_cons_succ]
    refine lex_done (by kernel_rfl) ?_
    have HZ := Lib.hid (bmore HA.out (bmore HU4.out b5))
    clear b5 h5
    go_wp2_with fail
    go_returns
    exact ⟨by rw [hq]; rfl, HZ.out⟩
  | true =>
    refine lex_start [0, 1, 2, 4, 5, 3, 6, 7, 8, 9, 10, 11, 12] (S := fun W => W.cell? ⟨w.heap.size, 0, none⟩ = some (.int .i64 3) ∧ W.cell? ⟨w.heap.size, 1, none⟩ = some (.int .i64 sa) ∧ W.cell? ⟨w.heap.size, 2, none⟩ = some (.int .i64 sb) ∧ W.cell? ⟨w.heap.size, 3, none⟩ = some (.int .i64 st) ∧ W.cell? ⟨nb, 0, none⟩ = some (.int .i64 k9) ∧ W.cell? ⟨nb, 1, none⟩ = some (.int .i64 f9) ∧ W.cell? ⟨nb, 2, none⟩ = some (.int .i64 t9) ∧ W.cell? ⟨nb, 3, none⟩ = some (.int .u64 m9) ∧ W.cell? ⟨nb, 4, none⟩ = some (.string e9) ∧ W.cell? ⟨nb, 5, none⟩ = some (.int .i64 a9) ∧ W.cell? ⟨nb, 6, none⟩ = some (.int .i64 b9) ∧ Below w4.heap.size w4 W) (by kernel_rfl) (HKP.out _ (bd _)) (fun hS => ?_)
    simp only [inOrder, List.filterMap, List.getElem?_cons_succ, List.getElem?_cons_zero]
    have b0 := bd w4
    refine lex_take (i := 0) (v := ?_) rfl (by kernel_rfl) (by kernel_rfl) (by kernel_rfl) (by rfl) (HKP.out _ b0) ?_ ?_
    rotate_left
    · ((intro W hW; obtain ⟨k0, k1, k2, k3, k4, k5, k6, k7, k8, k9, k10, k11⟩ := hW; go_simp) <;> with_reducible rfl)
    simp only [Act.put, List.setIfInBounds_toArray, List.set_cons_zero, List.set_cons_succ]
    refine lex_take (i := 1) (v := ?_) rfl (by kernel_rfl) (by kernel_rfl) (by kernel_rfl) (by rfl) (HKP.out _ b0) ?_ ?_
    rotate_left
    · ((intro W hW; obtain ⟨k0, k1, k2, k3, k4, k5, k6, k7, k8, k9, k10, k11⟩ := hW; go_simp) <;> with_reducible rfl)
    simp only [Act.put, List.setIfInBounds_toArray, List.set_cons_zero, List.set_cons_succ]
    refine lex_take (i := 2) (v := ?_) rfl (by kernel_rfl) (by kernel_rfl) (by kernel_rfl) (by rfl) (HKP.out _ b0) ?_ ?_
    rotate_left
    · ((intro W hW; obtain ⟨k0, k1, k2, k3, k4, k5, k6, k7, k8, k9, k10, k11⟩ := hW; go_simp) <;> with_reducible rfl)
    simp only [Act.put, List.setIfInBounds_toArray, List.set_cons_zero, List.set_cons_succ]
    refine lex_take (i := 4) (v := ?_) rfl (by kernel_rfl) (by kernel_rfl) (by kernel_rfl) (by rfl) (HKP.out _ b0) ?_ ?_
    rotate_left
    · ((intro W hW; obtain ⟨k0, k1, k2, k3, k4, k5, k6, k7, k8, k9, k10, k11⟩ := hW; go_simp) <;> with_reducible rfl)
    simp only [Act.put, List.setIfInBounds_toArray, List.set_cons_zero, List.set_cons_succ]
    refine lex_take (i := 5) (v := ?_) rfl (by kernel_rfl) (by kernel_rfl) (by kernel_rfl) (by rfl) (HKP.out _ b0) ?_ ?_
    rotate_left
    · ((intro W hW; obtain ⟨k0, k1, k2, k3, k4, k5, k6, k7, k8, k9, k10, k11⟩ := hW; go_simp) <;> with_reducible rfl)
    simp only [Act.put, List.setIfInBounds_toArray, List.set_cons_zero, List.set_cons_succ]
    refine lex_do (i := 3) rfl (by kernel_rfl) (by rfl) (fun K hK => ?_)
    go_simp
    refine (TK.out _).mono ?_
    rintro e w5 ⟨rfl, h5⟩
    have b5 := bmore b0 h5
    refine hK _ _ ⟨HKP.out _ b5, ?_⟩
    clear hK K
    refine lex_take (i := 6) (v := ?_) rfl (by kernel_rfl) (by kernel_rfl) (by kernel_rfl) (by rfl) (HKP.out _ b5) ?_ ?_
    rotate_left
    · ((intro W hW; obtain ⟨k0, k1, k2, k3, k4, k5, k6, k7, k8, k9, k10, k11⟩ := hW; go_simp) <;> with_reducible rfl)
    simp only [Act.put, List.setIfInBounds_toArray, List.set_cons_zero, List.set_cons_succ]
    refine lex_take (i := 7) (v := ?_) rfl (by kernel_rfl) (by kernel_rfl) (by kernel_rfl) (by rfl) (HKP.out _ b5) ?_ ?_
    rotate_left
    · ((intro W hW; obtain ⟨k0, k1, k2, k3, k4, k5, k6, k7, k8, k9, k10, k11⟩ := hW; go_simp) <;> with_reducible rfl)
    simp only [Act.put, List.setIfInBounds_toArray, List.set_cons_zero, List.set_cons_succ]
    refine lex_take (i := 8) (v := ?_) rfl (by kernel_rfl) (by kernel_rfl) (by kernel_rfl) (by rfl) (HKP.out _ b5) ?_ ?_
    rotate_left
    · ((intro W hW; obtain ⟨k0, k1, k2, k3, k4, k5, k6, k7, k8, k9, k10, k11⟩ := hW; go_simp) <;> with_reducible rfl)
    simp only [Act.put, List.setIfInBounds_toArray, List.set_cons_zero, List.set_cons_succ]
    refine lex_take (i := 9) (v := ?_) rfl (by kernel_rfl) (by kernel_rfl) (by kernel_rfl) (by rfl) (HKP.out _ b5) ?_ ?_
    rotate_left
    · ((intro W hW; obtain ⟨k0, k1, k2, k3, k4, k5, k6, k7, k8, k9, k10, k11⟩ := hW; go_simp) <;> with_reducible rfl)
    simp only [Act.put, List.setIfInBounds_toArray, List.set_cons_zero, List.set_cons_succ]
    refine lex_take (i := 10) (v := ?_) rfl (by kernel_rfl) (by kernel_rfl) (by kernel_rfl) (by rfl) (HKP.out _ b5) ?_ ?_
    rotate_left
    · ((intro W hW; obtain ⟨k0, k1, k2, k3, k4, k5, k6, k7, k8, k9, k10, k11⟩ := hW; go_simp) <;> with_reducible rfl)
    simp only [Act.put, List.setIfInBounds_toArray, List.set_cons_zero, List.set_cons_succ]
    refine lex_take (i := 11) (v := ?_) rfl (by kernel_rfl) (by kernel_rfl) (by kernel_rfl) (by rfl) (HKP.out _ b5) ?_ ?_
    rotate_left
    · ((intro W hW; obtain ⟨k0, k1, k2, k3, k4, k5, k6, k7, k8, k9, k10, k11⟩ := hW; go_simp) <;> with_reducible rfl)
    simp only [Act.put, List.setIfInBounds_toArray, List.set_cons_zero, List.set_cons_succ]
    refine lex_take (i := 12) (v := ?_) rfl (by kernel_rfl) (by kernel_rfl) (by kernel_rfl) (by rfl) (HKP.out _ b5) ?_ ?_
    rotate_left
    · ((intro W hW; obtain ⟨k0, k1, k2, k3, k4, k5, k6, k7, k8, k9, k10, k11⟩ := hW; go_simp) <;> with_reducible rfl)
    simp only [Act.put, List.setIfInBounds_toArray, List.set_cons_zero, List.set_cons_succ]
    refine lex_done (by kernel_rfl) ?_
    have HZ := Lib.hid (bmore HA.out (bmore HU4.out b5))
    clear b5 h5
    go_wp2_with fail
    go_returns
    exact ⟨by rw [hq]; rfl, HZ.out⟩
set_option maxRecDepth 100000 in
set_option maxHeartbeats 6400000 in
theorem follows_4 (hp : IsPool w B a b v p) {mh : Nat} {g : List Int} (hm : Met w mh g []) {vl : Value} {l : List St} (hl : Row w 4 vl l.length (sts l)) {sr sa sb st : Int} (hs : i64R st) (hr : sr = 4) (hin : inP p st = true) : Calls Tryz.prog 84 #[.pointer (some ⟨a, 0, none⟩), .map (some mh), vl, .agg #[.int .i64 sr, .int .i64 sa, .int .i64 sb, .int .i64 st]] w fun e w' => e = .returned (.bool (followsP p g l ⟨sr, sa, sb, st⟩)) ∧ Below w.heap.size w w' := by
  have bA := bA0 w (.cells #[.int .i64 sr, .int .i64 sa, .int .i64 sb, .int .i64 st] StT)
  have hb : (w.alloc (.cells #[.int .i64 sr, .int .i64 sa, .int .i64 sb, .int .i64 st] StT)).heap[w.heap.size]? = some (Obj.cells #[.int .i64 sr, .int .i64 sa, .int .i64 sb, .int .i64 st] StT) := heap_alloc_new _ _
  have HA := Lib.hid bA
  have HP := Lib.hid (hp.below bA)
  have HM := Lib.hid (hm.belowK bA)
  have HL := Lib.hid (hl.below bA)
  have HB := Lib.hid hb
  have HS := Lib.hid hs
  obtain ⟨va, vc, hvl⟩ := hl.shape
  subst hvl
  have s0 := cellB (j := 0) hb rfl
  have s1 := cellB (j := 1) hb rfl
  have s2 := cellB (j := 2) hb rfl
  have s3 := cellB (j := 3) hb rfl
  clear hp hm hl hb bA hs
  subst hr
  have HN := Lib.hid (pnode HP.out st)
  rw [hin] at HN
  generalize hnn : (atP p st).1 = n at *
  have HNN := Lib.hid hnn
  clear hnn
  obtain ⟨kk, ff, tt, uu, ss, xa, xb⟩ := n
  simp only [nodeA] at HN
  have HF : Hid (followsP p g l ⟨4, sa, sb, st⟩ = (freeB kk && (sa == 0 && sb == 0))) := Lib.hid (by unfold followsP; rw [hin, HNN.out]; rfl)
  rw [HF.out]
  clear hin
  have FR := Lib.hid (fun (W : World) => free_any (⟨kk, ff, tt, uu, ss, xa, xb⟩ : Nd) W)
  simp only [nodeA] at FR
  generalize freeB kk = q1 at *
  go_enter Tryz.func84, Tryz.ntmps84
  go_wp2_with fail
  generalize (w.alloc (.cells #[.int .i64 4, .int .i64 sa, .int .i64 sb, .int .i64 st] StT)) = W at *
  refine HN.out.mono ?_
  rintro e w1 ⟨rfl, u1⟩
  have b2 := bA0 w1 (.cells #[.int .i64 kk, .int .i64 ff, .int .i64 tt, .int .u64 uu, .string ss, .int .i64 xa, .int .i64 xb] NodeT)
  have hn : (w1.alloc (.cells #[.int .i64 kk, .int .i64 ff, .int .i64 tt, .int .u64 uu, .string ss, .int .i64 xa, .int .i64 xb] NodeT)).heap[w1.heap.size]? = some (Obj.cells #[.int .i64 kk, .int .i64 ff, .int .i64 tt, .int .u64 uu, .string ss, .int .i64 xa, .int .i64 xb] NodeT) := heap_alloc_new _ _
  have HU2 := Lib.hid (bmore u1 b2)
  have HBN := Lib.hid hn
  have HB2 := Lib.hid (Hold.below (bmore u1 b2) _ _ HB.out)
  have y0 := cellB (j := 0) hn rfl
  have y1 := cellB (j := 1) hn rfl
  have y2 := cellB (j := 2) hn rfl
  have y3 := cellB (j := 3) hn rfl
  have y4 := cellB (j := 4) hn rfl
  have y5 := cellB (j := 5) hn rfl
  have y6 := cellB (j := 6) hn rfl
  replace s0 := bcellAt (bmore u1 b2) s0
  replace s1 := bcellAt (bmore u1 b2) s1
  replace s2 := bcellAt (bmore u1 b2) s2
  replace s3 := bcellAt (bmore u1 b2) s3
  clear u1 b2 hn
  go_wp2_with fail
  refine (FR.out _).mono ?_
  rintro e w3 ⟨rfl, u3⟩
  have HUU := Lib.hid (bmore HA.out (bmore HU2.out u3))
  replace s0 := bcellAt u3 s0
  replace s1 := bcellAt u3 s1
  replace s2 := bcellAt u3 s2
  replace s3 := bcellAt u3 s3
  clear u3
  cases q1 with
  | false =>
    go_wp2_with fail
    go_returns
    exact ⟨rfl, HUU.out⟩
  | true =>
    cases h1 : sa == 0 with
    | false =>
      go_wp2_with fail
      go_returns
      exact ⟨(by rw [h1]; rfl), HUU.out⟩
    | true =>
      cases h2 : sb == 0 with
      | false =>
        go_wp2_with fail
        go_returns
        exact ⟨(by rw [h1, h2]; rfl), HUU.out⟩
      | true =>
        go_wp2_with fail
        go_returns
        exact ⟨(by rw [h1, h2]; rfl), HUU.out⟩
set_option maxRecDepth 100000 in
set_option maxHeartbeats 12800000 in
theorem follows_5 (hp : IsPool w B a b v p) {mh : Nat} {g : List Int} (hm : Met w mh g []) {vl : Value} {l : List St} (hl : Row w 4 vl l.length (sts l)) {sr sa sb st : Int} (hs : i64R st) (hr : sr = 5) (hin : inP p st = true) : Calls Tryz.prog 84 #[.pointer (some ⟨a, 0, none⟩), .map (some mh), vl, .agg #[.int .i64 sr, .int .i64 sa, .int .i64 sb, .int .i64 st]] w fun e w' => e = .returned (.bool (followsP p g l ⟨sr, sa, sb, st⟩)) ∧ Below w.heap.size w w' := by
  have bA := bA0 w (.cells #[.int .i64 sr, .int .i64 sa, .int .i64 sb, .int .i64 st] StT)
  have hb : (w.alloc (.cells #[.int .i64 sr, .int .i64 sa, .int .i64 sb, .int .i64 st] StT)).heap[w.heap.size]? = some (Obj.cells #[.int .i64 sr, .int .i64 sa, .int .i64 sb, .int .i64 st] StT) := heap_alloc_new _ _
  have HA := Lib.hid bA
  have HP := Lib.hid (hp.below bA)
  have HM := Lib.hid (hm.belowK bA)
  have HL := Lib.hid (hl.below bA)
  have HB := Lib.hid hb
  have HS := Lib.hid hs
  obtain ⟨va, vc, hvl⟩ := hl.shape
  subst hvl
  have s0 := cellB (j := 0) hb rfl
  have s1 := cellB (j := 1) hb rfl
  have s2 := cellB (j := 2) hb rfl
  have s3 := cellB (j := 3) hb rfl
  clear hp hm hl hb bA hs
  subst hr
  have HN := Lib.hid (pnode HP.out st)
  rw [hin] at HN
  generalize hnn : (atP p st).1 = n at *
  have HNN := Lib.hid hnn
  clear hnn
  obtain ⟨kk, ff, tt, uu, ss, xa, xb⟩ := n
  simp only [nodeA] at HN
  have HF : Hid (followsP p g l ⟨5, sa, sb, st⟩ = ((partP p (⟨kk, ff, tt, uu, ss, xa, xb⟩ : Nd)).2.2 && (saidP l sa == (partP p (⟨kk, ff, tt, uu, ss, xa, xb⟩ : Nd)).1 && (if (partP p (⟨kk, ff, tt, uu, ss, xa, xb⟩ : Nd)).2.1 = 0 then sb == 0 else saidP l sb == (partP p (⟨kk, ff, tt, uu, ss, xa, xb⟩ : Nd)).2.1)))) := Lib.hid (by unfold followsP; rw [hin, HNN.out]; rfl)
  clear hin
  have PA := Lib.hid (fun (W : World) (h : IsPool W B a b v p) => by have := parts_pool h (atP_nok h.nok st); rw [HNN.out] at this; exact this)
  simp only [nodeA] at PA
  have SA1 := Lib.hid (fun (W : World) (h : Row W 4 (.slice va l.length vc) l.length (sts l)) => said_any h sa)
  have SA2 := Lib.hid (fun (W : World) (h : Row W 4 (.slice va l.length vc) l.length (sts l)) => said_any h sb)
  generalize partP p (⟨kk, ff, tt, uu, ss, xa, xb⟩ : Nd) = pt at *
  obtain ⟨pa, pb, pm⟩ := pt
  simp only at PA HF
  generalize saidP l sa = z1 at *
  generalize saidP l sb = z2 at *
  go_enter Tryz.func84, Tryz.ntmps84
  go_wp2_with fail
  generalize (w.alloc (.cells #[.int .i64 5, .int .i64 sa, .int .i64 sb, .int .i64 st] StT)) = W at *
  refine HN.out.mono ?_
  rintro e w1 ⟨rfl, u1⟩
  have b2 := bA0 w1 (.cells #[.int .i64 kk, .int .i64 ff, .int .i64 tt, .int .u64 uu, .string ss, .int .i64 xa, .int .i64 xb] NodeT)
  have hn : (w1.alloc (.cells #[.int .i64 kk, .int .i64 ff, .int .i64 tt, .int .u64 uu, .string ss, .int .i64 xa, .int .i64 xb] NodeT)).heap[w1.heap.size]? = some (Obj.cells #[.int .i64 kk, .int .i64 ff, .int .i64 tt, .int .u64 uu, .string ss, .int .i64 xa, .int .i64 xb] NodeT) := heap_alloc_new _ _
  have HU2 := Lib.hid (bmore u1 b2)
  have HBN := Lib.hid hn
  have HB2 := Lib.hid (Hold.below (bmore u1 b2) _ _ HB.out)
  have y0 := cellB (j := 0) hn rfl
  have y1 := cellB (j := 1) hn rfl
  have y2 := cellB (j := 2) hn rfl
  have y3 := cellB (j := 3) hn rfl
  have y4 := cellB (j := 4) hn rfl
  have y5 := cellB (j := 5) hn rfl
  have y6 := cellB (j := 6) hn rfl
  replace s0 := bcellAt (bmore u1 b2) s0
  replace s1 := bcellAt (bmore u1 b2) s1
  replace s2 := bcellAt (bmore u1 b2) s2
  replace s3 := bcellAt (bmore u1 b2) s3
  clear u1 b2 hn
  go_wp2_with fail
  refine (PA.out _ (HP.out.below HU2.out)).mono ?_
  rintro e w3 ⟨rfl, u3⟩
  have HU3 := Lib.hid (bmore HU2.out u3)
  have HUU := Lib.hid (bmore HA.out (bmore HU2.out u3))
  replace s0 := bcellAt u3 s0
  replace s1 := bcellAt u3 s1
  replace s2 := bcellAt u3 s2
  replace s3 := bcellAt u3 s3
  clear u3
  have hL3 := HL.out.below HU3.out
  cases pm with
  | false =>
    go_wp2_with fail
    go_returns
    exact ⟨(by rw [HF.out]; rfl), HUU.out⟩
  | true =>
    go_wp2_with fail
    refine (SA1.out _ hL3).mono ?_
    rintro e w4 ⟨rfl, rfl⟩
    cases h1 : z1 == pa with
    | false =>
      have h1' : (z1 != pa) = true := by rw [bne, h1]; rfl
      go_wp2_with fail
      go_returns
      exact ⟨(by rw [HF.out, h1]; rfl), HUU.out⟩
    | true =>
      have h1' : (z1 != pa) = false := by rw [bne, h1]; rfl
      by_cases h2 : pb = 0
      · subst h2
        cases h3 : sb == 0
        all_goals
          go_wp2_with fail
          go_returns
          exact ⟨(by rw [HF.out, h1, if_pos trivial, h3]; rfl), HUU.out⟩
      · have h2' := ebF h2
        cases h3 : z2 == pb
        all_goals
          go_wp2_with fail
          refine (SA2.out _ hL3).mono ?_
          rintro e w5 ⟨rfl, rfl⟩
          go_wp2_with fail
          go_returns
          exact ⟨(by rw [HF.out, h1, if_neg h2, h3]; rfl), HUU.out⟩
set_option maxRecDepth 100000 in
set_option maxHeartbeats 6400000 in
theorem follows_x (hp : IsPool w B a b v p) {mh : Nat} {g : List Int} (hm : Met w mh g []) {vl : Value} {l : List St} (hl : Row w 4 vl l.length (sts l)) {sr sa sb st : Int} (hs : i64R st) (hr : sr ≠ 0 ∧ sr ≠ 1 ∧ sr ≠ 2 ∧ sr ≠ 3 ∧ sr ≠ 4 ∧ sr ≠ 5) (hin : inP p st = true) : Calls Tryz.prog 84 #[.pointer (some ⟨a, 0, none⟩), .map (some mh), vl, .agg #[.int .i64 sr, .int .i64 sa, .int .i64 sb, .int .i64 st]] w fun e w' => e = .returned (.bool (followsP p g l ⟨sr, sa, sb, st⟩)) ∧ Below w.heap.size w w' := by
  have bA := bA0 w (.cells #[.int .i64 sr, .int .i64 sa, .int .i64 sb, .int .i64 st] StT)
  have hb : (w.alloc (.cells #[.int .i64 sr, .int .i64 sa, .int .i64 sb, .int .i64 st] StT)).heap[w.heap.size]? = some (Obj.cells #[.int .i64 sr, .int .i64 sa, .int .i64 sb, .int .i64 st] StT) := heap_alloc_new _ _
  have HA := Lib.hid bA
  have HP := Lib.hid (hp.below bA)
  have HM := Lib.hid (hm.belowK bA)
  have HL := Lib.hid (hl.below bA)
  have HB := Lib.hid hb
  have HS := Lib.hid hs
  obtain ⟨va, vc, hvl⟩ := hl.shape
  subst hvl
  have s0 := cellB (j := 0) hb rfl
  have s1 := cellB (j := 1) hb rfl
  have s2 := cellB (j := 2) hb rfl
  have s3 := cellB (j := 3) hb rfl
  clear hp hm hl hb bA hs
  have HF : Hid (followsP p g l ⟨sr, sa, sb, st⟩ = false) := Lib.hid (by unfold followsP; rw [hin, if_neg hr.1, if_neg (by rintro (h | h | h); exact hr.2.1 h; exact hr.2.2.1 h; exact hr.2.2.2.1 h), if_neg hr.2.2.2.2.1, if_neg hr.2.2.2.2.2]; rfl)
  have HN := Lib.hid (pnode HP.out st)
  rw [hin] at HN
  generalize hnn : (atP p st).1 = n at *
  have HNN := Lib.hid hnn
  clear hnn
  obtain ⟨kk, ff, tt, uu, ss, xa, xb⟩ := n
  simp only [nodeA] at HN
  rw [HF.out]
  clear hin
  have r0 := ebF hr.1
  have r1 := ebF hr.2.1
  have r2 := ebF hr.2.2.1
  have r3 := ebF hr.2.2.2.1
  have r4 := ebF hr.2.2.2.2.1
  have r5 := ebF hr.2.2.2.2.2
  go_enter Tryz.func84, Tryz.ntmps84
  go_wp2_with fail
  generalize (w.alloc (.cells #[.int .i64 sr, .int .i64 sa, .int .i64 sb, .int .i64 st] StT)) = W at *
  refine HN.out.mono ?_
  rintro e w1 ⟨rfl, u1⟩
  have b2 := bA0 w1 (.cells #[.int .i64 kk, .int .i64 ff, .int .i64 tt, .int .u64 uu, .string ss, .int .i64 xa, .int .i64 xb] NodeT)
  have hn : (w1.alloc (.cells #[.int .i64 kk, .int .i64 ff, .int .i64 tt, .int .u64 uu, .string ss, .int .i64 xa, .int .i64 xb] NodeT)).heap[w1.heap.size]? = some (Obj.cells #[.int .i64 kk, .int .i64 ff, .int .i64 tt, .int .u64 uu, .string ss, .int .i64 xa, .int .i64 xb] NodeT) := heap_alloc_new _ _
  have HU2 := Lib.hid (bmore u1 b2)
  have HBN := Lib.hid hn
  have HB2 := Lib.hid (Hold.below (bmore u1 b2) _ _ HB.out)
  have y0 := cellB (j := 0) hn rfl
  have y1 := cellB (j := 1) hn rfl
  have y2 := cellB (j := 2) hn rfl
  have y3 := cellB (j := 3) hn rfl
  have y4 := cellB (j := 4) hn rfl
  have y5 := cellB (j := 5) hn rfl
  have y6 := cellB (j := 6) hn rfl
  replace s0 := bcellAt (bmore u1 b2) s0
  replace s1 := bcellAt (bmore u1 b2) s1
  replace s2 := bcellAt (bmore u1 b2) s2
  replace s3 := bcellAt (bmore u1 b2) s3
  clear u1 b2 hn
  go_wp2_with fail
  go_returns
  exact ⟨rfl, (bmore HA.out HU2.out)⟩
theorem follows_any (hp : IsPool w B a b v p) {mh : Nat} {g : List Int} (hm : Met w mh g []) {vl : Value} {l : List St} (hl : Row w 4 vl l.length (sts l)) {s : St} (hs : i64R s.t) : Calls Tryz.prog 84 #[.pointer (some ⟨a, 0, none⟩), .map (some mh), vl, .agg (stA s)] w fun e w' => e = .returned (.bool (followsP p g l s)) ∧ Below w.heap.size w w' := by
  obtain ⟨sr, sa, sb, st⟩ := s
  cases hin : inP p st with
  | false => exact follows_out hp hm hl hs hin
  | true =>
    by_cases h0 : sr = 0
    · exact follows_0 hp hm hl hs h0 hin
    by_cases h1 : sr = 1
    · exact follows_1 hp hm hl hs h1 hin
    by_cases h2 : sr = 2
    · exact follows_2 hp hm hl hs h2 hin
    by_cases h3 : sr = 3
    · exact follows_3 hp hm hl hs h3 hin
    by_cases h4 : sr = 4
    · exact follows_4 hp hm hl hs h4 hin
    by_cases h5 : sr = 5
    · exact follows_5 hp hm hl hs h5 hin
    exact follows_x hp hm hl hs ⟨h0, h1, h2, h3, h4, h5⟩ hin
end
end Go.Proofs.YtgaklaajbepfaaaGreatDoor
