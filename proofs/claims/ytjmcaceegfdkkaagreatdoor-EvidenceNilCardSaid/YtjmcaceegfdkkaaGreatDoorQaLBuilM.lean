/-
  Build in memory.
-/
import Derived.Test.YtjmcaceegfdkkaaGreatDoorQaLChk
namespace Go.Proofs.YtjmcaceegfdkkaaGreatDoor
open Go.RowKit Go.Maps
set_option linter.unusedVariables false
theorem tree_any {w : World} (hl : LaidK w) {l : Lt} (hc : chkP l = 0) {w0 : World} {E : Nat → Prop} (hB : w0.heap.size ≤ w.heap.size) (hE : ∀ b, w.heap.size ≤ b → E b) : Calls Tryz.prog 114 #[.agg (ltA l)] w (TP w0 E w (letT l true true)) := by
  obtain ⟨⟨k1, k2⟩, hfr, _, _, _⟩ := chk_ok.1 hc
  obtain ⟨lk, lf, lc, ls, lx⟩ := l
  simp only at k1 k2 hfr
  have hf : lf = 0 ∨ lf = 1 := by rcases hfr with h | h; exact .inl h; exact .inr h.1
  have hk : lk = 1 ∨ lk = 2 ∨ lk = 3 ∨ lk = 4 ∨ lk = 5 ∨ lk = 6 ∨ lk = 7 := by omega
  rcases hk with rfl | rfl | rfl | rfl | rfl | rfl | rfl
  · exact tree_1 hl hB hE hf
  · exact tree_2 hl hB hE hf
  · exact tree_3 hl hB hE hf
  · exact tree_4 hl hB hE hf
  · exact tree_5 hl hB hE hf
  · exact tree_6 hl hB hE hf
  · exact tree_7 hl hB hE hf
theorem small_i64 {n : Int} (h : -1000 ≤ n ∧ n ≤ 1000) : i64R n := by unfold i64R; omega
theorem size_le {s : ByteArray} (h : s.size ≤ 64) : s.size ≤ maxLen := by unfold maxLen; omega
theorem ndok_mk {k f t n : Int} {s : ByteArray} (hk : -1000 ≤ k ∧ k ≤ 1000) (hf : -1000 ≤ f ∧ f ≤ 1000) (ht : -1000 ≤ t ∧ t ≤ 1000) (hn : 0 ≤ n ∧ n ≤ 18446744073709551615) (hs : s.size ≤ 64) : NdOk ⟨k, f, t, n, s, 0, 0⟩ :=
  ⟨small_i64 hk, small_i64 hf, small_i64 ht, hn, size_le hs, small_i64 (by simp), small_i64 (by simp)⟩
def OkT (x : Tr) : Prop := OkF (one x)
theorem okt_data {s : ByteArray} (h : s.size ≤ 64) : OkT (dataT s) := ⟨ndok_mk (by omega) (by omega) (by omega) (by omega) h, rfl, rfl, trivial, trivial⟩
theorem okt_num {n : Int} (h : 0 ≤ n ∧ n ≤ 18446744073709551615) : OkT (numT n) := ⟨ndok_mk (by omega) (by omega) (by omega) h (by decide), rfl, rfl, trivial, trivial⟩
theorem okt_pair {x y : Tr} (hx : OkT x) (hy : OkT y) : OkT (pairT x y) := ⟨ndok_mk (by omega) (by omega) (by omega) (by omega) (by decide), rfl, rfl, ⟨hx.1, hx.2.1, hx.2.2.1, hx.2.2.2.1, hy⟩, trivial⟩
theorem okt_sign {x : Tr} {who : Int} (hw : -1000 ≤ who ∧ who ≤ 1000) (hx : OkT x) : OkT (signT who x) := ⟨ndok_mk (by omega) hw (by omega) (by omega) (by decide), rfl, rfl, hx, trivial⟩
theorem okt_prom {x : Tr} {who : Int} (hw : 0 ≤ who ∧ who ≤ 1) (hx : OkT x) (f : Bool) : OkT (promT who x f) := ⟨ndok_mk (by cases f <;> simp) (by omega) (by omega) (by omega) (by decide), rfl, rfl, hx, trivial⟩
theorem okt_deal {c : Int} {s : ByteArray} (hc : 0 ≤ c ∧ c ≤ 18446744073709551615) (hs : s.size ≤ 64) : OkT (dealT c s) := okt_pair (okt_data (by decide)) (okt_pair (okt_num hc) (okt_data hs))
theorem okt_let {l : Lt} (h : chkP l = 0) (hc : 0 ≤ l.c ∧ l.c ≤ 18446744073709551615) (f1 f2 : Bool) : OkT (letT l f1 f2) := by
  obtain ⟨_, hfr, _, _, hs⟩ := chk_ok.1 h
  have hf : l.frm = 0 ∨ l.frm = 1 := by rcases hfr with h | h; exact .inl h; exact .inr h.1
  have hd := okt_deal hc hs
  unfold letT
  split
  · exact okt_prom (by omega) hd _
  split
  · exact okt_sign (by omega) hd
  split
  · exact okt_sign (by omega) (okt_pair (okt_data (by decide)) (okt_num hc))
  split
  · exact okt_sign (by omega) (okt_pair (okt_data (by decide)) (okt_pair (okt_prom (by omega) hd _) (okt_prom (by omega) hd _)))
  split
  · exact okt_sign (by omega) (okt_pair (okt_data (by decide)) (okt_num hc))
  split
  · exact okt_sign (by omega) (okt_pair (okt_data (by decide)) hd)
  · exact okt_pair (okt_data (by decide)) (okt_num hc)
/-- What Build makes: there is room for twenty terms. -/
theorem let_of {l : Lt} (h : chkP l = 0) (f1 f2 : Bool) {p : Pl} (hp : Ok p) (hr : p.length + 20 ≤ 65536) (hb : Bare (one (letT l f1 f2))) : (lkT (letT l f1 f2).1 (letT l f1 f2).2 0 0).2 = 0 ∧ (grT (letT l f1 f2).1 (letT l f1 f2).2 p).2.1 = 0 ∧ ofP (letT l f1 f2).1 (letT l f1 f2).2 p = grT (letT l f1 f2).1 (letT l f1 f2).2 p ∧ RT (grT (letT l f1 f2).1 (letT l f1 f2).2 p).2.2 (grT (letT l f1 f2).1 (letT l f1 f2).2 p).1 (letT l f1 f2) ∧ Ok (grT (letT l f1 f2).1 (letT l f1 f2).2 p).2.2 ∧ ∃ e, (grT (letT l f1 f2).1 (letT l f1 f2).2 p).2.2 = p ++ e ∧ e.length ≤ 20 := by
  obtain ⟨g1, g2, g3⟩ := gd_let h f1 f2
  have hl := good_lkT g1 (Nat.le_trans g2 (by decide)) (Nat.le_trans g3 (by decide))
  have hs : (Fo.cons (letT l f1 f2).1 (letT l f1 f2).2 .nil).size ≤ 20 := g2
  rcases ofP_ok (letT l f1 f2).1 (letT l f1 f2).2 p hp hb (by omega) with ⟨h0, _⟩ | ⟨h0, h1, h2, h3, h4, e, h5, h6⟩
  · exact absurd hl h0
  · exact ⟨h0, h1, h2, h3, h4, e, h5, by omega⟩
def BuildPost (w : World) (B a b : Nat) (vv : Value) (p : Pl) (l : Lt) (e : Ending) (w' : World) : Prop :=
  (chkP l ≠ 0 ∧ e = .returned (.tuple #[.int .i64 0, .int .i64 (chkP l)]) ∧ Below w.heap.size w w') ∨ (chkP l = 0 ∧ OfPost w B a b vv (ofP (letT l true true).1 (letT l true true).2 p) e w')
section
variable {w : World} {B a b : Nat} {vv : Value} {p : Pl}
set_option maxRecDepth 100000 in
set_option maxHeartbeats 3200000 in
theorem build_any (hB : 1 < B) (hL : Laid w) (hl : LaidK w) (hp : IsPool w B a b vv p) {l : Lt} (hc : 0 ≤ l.c ∧ l.c ≤ 18446744073709551615) (hr : p.length + 20 ≤ 65536) : Calls Tryz.prog 62 #[.pointer (some ⟨a, 0, none⟩), .agg (ltA l)] w (BuildPost w B a b vv p l) := by
  have CK := Lib.hid (fun (W : World) (hb : Below w.heap.size w W) => check_any (hl.below hb) l)
  have TR := Lib.hid (fun (h0 : chkP l = 0) (W : World) (hb : Below w.heap.size w W) => tree_any (hl.below hb) h0 (w0 := w) (E := fun _ => True) hb.size (fun _ _ => trivial))
  have OFF := Lib.hid (fun (h0 : chkP l = 0) (W : World) (hb : Below w.heap.size w W) (v : Value) (hk : IsK W (NewE w (fun _ => True) W) v (letT l true true).2) => by
    have ho := okt_let h0 hc true true
    have hg := let_of h0 true true hp.ok hr ho.bare
    exact pof hB (hL.below hb) (hp.below hb) (IsK.newT (w := w) (B := B) (IsK.of (w' := W) hk fun b hg hl => hg.1)) ho.1 ho.2.1 ho.2.2.1 ho.2.2.2.1 (fun _ => hg.2.1))
  have HP := Lib.hid hp
  clear hB hL hl hp hc hr
  obtain ⟨ch, hch⟩ : ∃ ch, ch = chkP l := ⟨_, rfl⟩
  have HC := Lib.hid hch
  rw [← hch] at CK TR OFF
  unfold BuildPost
  rw [← hch]
  clear hch
  generalize letT l true true = T at *
  generalize ofP T.1 T.2 p = q at *
  obtain ⟨⟨k1, f1, t1, n1, s1, xa, xb⟩, kx⟩ := T
  obtain ⟨lk, lf, lc, ls, lx⟩ := l
  simp only [ltA] at *
  have b1 := bZ w (.cells #[.int .i64 lk, .int .i64 lf, .int .u64 lc, .string ls, .bool lx] LtT)
  have h1 := heap_alloc_new w (.cells #[.int .i64 lk, .int .i64 lf, .int .u64 lc, .string ls, .bool lx] LtT)
  have HB1 := Lib.hid b1
  have HH1 := Lib.hid h1
  clear b1 h1
  have l0 := cellB (j := 0) HH1.out rfl
  have l1 := cellB (j := 1) HH1.out rfl
  have l2 := cellB (j := 2) HH1.out rfl
  have l3 := cellB (j := 3) HH1.out rfl
  have l4 := cellB (j := 4) HH1.out rfl
  go_enter Tryz.func62, Tryz.ntmps62
  go_wp2_with fail
  generalize (w.alloc (.cells #[.int .i64 lk, .int .i64 lf, .int .u64 lc, .string ls, .bool lx] LtT)) = w1 at *
  refine (CK.out _ HB1.out).mono ?_
  rintro e w2 ⟨rfl, u2⟩
  have HB2 := Lib.hid (bmore HB1.out u2)
  have HH2 := Lib.hid (Hold.below u2 _ _ HH1.out)
  clear u2 l0 l1 l2 l3 l4 CK
  by_cases h0 : ch = 0
  case neg =>
    have hne : (ch != 0) = true := by simpa using h0
    have H0 := Lib.hid h0
    clear h0
    go_wp2_with fail
    go_returns
    exact .inl ⟨H0.out, rfl, HB2.out⟩
  have hne : (ch != 0) = false := by rw [h0]; rfl
  have l0 := cellB (j := 0) HH2.out rfl
  have l1 := cellB (j := 1) HH2.out rfl
  have l2 := cellB (j := 2) HH2.out rfl
  have l3 := cellB (j := 3) HH2.out rfl
  have l4 := cellB (j := 4) HH2.out rfl
  have TR2 := Lib.hid (TR.out h0)
  have OF2 := Lib.hid (OFF.out h0)
  have H0 := Lib.hid h0
  clear h0 TR OFF
  go_wp2_with fail
  refine (TR2.out _ HB2.out).mono ?_
  rintro e w3 ⟨v3, rfl, k3, u3⟩
  have OF3 := Lib.hid (OF2.out _ (bmore HB2.out u3) v3 k3)
  have HB3 := Lib.hid (bmore HB2.out u3)
  clear u3 k3 OF2 TR2 l0 l1 l2 l3 l4
  go_wp2_with fail
  refine OF3.out.mono ?_
  rintro e w4 ⟨rfl, g4⟩
  have HG := Lib.hid (Grew.after HP.out HB3.out g4)
  clear g4
  go_wp2_with fail
  go_returns
  exact .inr ⟨H0.out, rfl, HG.out⟩
end
end Go.Proofs.YtjmcaceegfdkkaaGreatDoor
