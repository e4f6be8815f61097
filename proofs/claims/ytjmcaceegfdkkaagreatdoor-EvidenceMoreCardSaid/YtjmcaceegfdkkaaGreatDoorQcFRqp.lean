/-
  evidence's own pair.
  A block that holds a zero tree is none of those in which the kids of a term's tree stand.
  The document's own reading of a letter, plain: it guesses the fields at their places, and asks that the tree is that letter's.
  Toward Request: where the two trees stand; Of of the wish.
-/
import Derived.Test.YtjmcaceegfdkkaaGreatDoorQcLTree
import Derived.Test.YtjmcaceegfdkkaaGreatDoorQcLPln
import Derived.Test.YtjmcaceegfdkkaaGreatDoorQcFCon
namespace Go.Proofs.YtjmcaceegfdkkaaGreatDoor
open Go.RowKit Go.Maps
set_option linter.unusedVariables false
set_option maxRecDepth 100000 in
set_option maxHeartbeats 3200000 in
theorem epair_any {x y : Tr} {vx vy : Value} {w0 w : World} {E : Nat → Prop} (hB : w0.heap.size ≤ w.heap.size) (hE : ∀ b, w.heap.size ≤ b → E b) (hx : IsK w (NewE w0 E w) vx x.2) (hy : IsK w (NewE w0 E w) vy y.2) : Calls Tryz.prog 91 #[.agg (treeA x.1 vx), .agg (treeA y.1 vy)] w (TP w0 E w (pairT x y)) := by
 obtain ⟨⟨k1, f1, t1, n1, s1, xa, xb⟩, kx⟩ := x
 obtain ⟨⟨k2, f2, t2, n2, s2, ya, yb⟩, ky⟩ := y
 obtain ⟨a1, c1, rfl, _⟩ := hx.shape
 obtain ⟨a2, c2, rfl, _⟩ := hy.shape
 have HBB := Lib.hid hB
 have HEE := Lib.hid hE
 have HX := Lib.hid hx
 have HY := Lib.hid hy
 clear hx hy hB hE
 simp only [treeA] at *
 have b1 := bZ w (.cells #[.int .i64 k1, .int .i64 f1, .int .i64 t1, .int .u64 n1, .string s1, .slice a1 kx.len c1] TrT)
 have h1 := heap_alloc_new w (.cells #[.int .i64 k1, .int .i64 f1, .int .i64 t1, .int .u64 n1, .string s1, .slice a1 kx.len c1] TrT)
 have b2 := bZ (w.alloc (.cells #[.int .i64 k1, .int .i64 f1, .int .i64 t1, .int .u64 n1, .string s1, .slice a1 kx.len c1] TrT)) (.cells #[.int .i64 k2, .int .i64 f2, .int .i64 t2, .int .u64 n2, .string s2, .slice a2 ky.len c2] TrT)
 have h2 := heap_alloc_new (w.alloc (.cells #[.int .i64 k1, .int .i64 f1, .int .i64 t1, .int .u64 n1, .string s1, .slice a1 kx.len c1] TrT)) (.cells #[.int .i64 k2, .int .i64 f2, .int .i64 t2, .int .u64 n2, .string s2, .slice a2 ky.len c2] TrT)
 have b3 := bZ ((w.alloc (.cells #[.int .i64 k1, .int .i64 f1, .int .i64 t1, .int .u64 n1, .string s1, .slice a1 kx.len c1] TrT)).alloc (.cells #[.int .i64 k2, .int .i64 f2, .int .i64 t2, .int .u64 n2, .string s2, .slice a2 ky.len c2] TrT)) (.cells #[.int .i64 0, .int .i64 0, .int .i64 0, .int .u64 0, .string ⟨#[]⟩, .slice none 0 0] TrT)
 have h3 := heap_alloc_new ((w.alloc (.cells #[.int .i64 k1, .int .i64 f1, .int .i64 t1, .int .u64 n1, .string s1, .slice a1 kx.len c1] TrT)).alloc (.cells #[.int .i64 k2, .int .i64 f2, .int .i64 t2, .int .u64 n2, .string s2, .slice a2 ky.len c2] TrT)) (.cells #[.int .i64 0, .int .i64 0, .int .i64 0, .int .u64 0, .string ⟨#[]⟩, .slice none 0 0] TrT)
 have hs3 : (((w.alloc (.cells #[.int .i64 k1, .int .i64 f1, .int .i64 t1, .int .u64 n1, .string s1, .slice a1 kx.len c1] TrT)).alloc (.cells #[.int .i64 k2, .int .i64 f2, .int .i64 t2, .int .u64 n2, .string s2, .slice a2 ky.len c2] TrT)).alloc (.cells #[.int .i64 0, .int .i64 0, .int .i64 0, .int .u64 0, .string ⟨#[]⟩, .slice none 0 0] TrT)).heap.size = w.heap.size + 3 := by simp
 have e1 := Hold.below (bmore b2 b3) _ _ h1
 have e2 := Hold.below b3 _ _ h2
 simp only [World.size_alloc] at e2 h3
 have HB3 := Lib.hid (bmore (bmore b1 b2) b3)
 have HS3 := Lib.hid hs3
 clear h1 h2 b1 b2 b3
 go_enter Tryz.func91, Tryz.ntmps91
 go_upto_region 1 with fail
 generalize (((w.alloc (.cells #[.int .i64 k1, .int .i64 f1, .int .i64 t1, .int .u64 n1, .string s1, .slice a1 kx.len c1] TrT)).alloc (.cells #[.int .i64 k2, .int .i64 f2, .int .i64 t2, .int .u64 n2, .string s2, .slice a2 ky.len c2] TrT)).alloc (.cells #[.int .i64 0, .int .i64 0, .int .i64 0, .int .u64 0, .string ⟨#[]⟩, .slice none 0 0] TrT)) = w3 at *
 have b4 := bZ w3 (.cells #[.int .i64 k1, .int .i64 f1, .int .i64 t1, .int .u64 n1, .string s1, .slice a1 kx.len c1, .int .i64 k2, .int .i64 f2, .int .i64 t2, .int .u64 n2, .string s2, .slice a2 ky.len c2] TrT)
 have h4 := heap_alloc_new w3 (.cells #[.int .i64 k1, .int .i64 f1, .int .i64 t1, .int .u64 n1, .string s1, .slice a1 kx.len c1, .int .i64 k2, .int .i64 f2, .int .i64 t2, .int .u64 n2, .string s2, .slice a2 ky.len c2] TrT)
 have e3 := Hold.below b4 _ _ h3
 have HB4 := Lib.hid (bmore HB3.out b4)
 have HH4 := Lib.hid h4
 have HE3 := Lib.hid e3
 have hn1 : ¬ w3.heap.size = w.heap.size + 1 + 1 := by omega
 have hn2 : ¬ w.heap.size + 1 + 1 = w3.heap.size := by omega
 obtain ⟨x0, x1, x2, x3, x4, x5⟩ := cs6 e1 rfl rfl rfl rfl rfl rfl
 obtain ⟨y0, y1, y2, y3, y4, y5⟩ := cs6 e2 rfl rfl rfl rfl rfl rfl
 obtain ⟨z0, z1, z2, z3, z4, z5⟩ := cs6 e3 rfl rfl rfl rfl rfl rfl
 obtain ⟨zf0, zf1, zf2, zf3, zf4, zf5⟩ := fz6 e3
 clear h3 h4 e1 e2 e3 b4 hs3
 go_wp2_with fail
 have hs6 := set6_at HE3.out (.int .i64 4) (.int .i64 0) (.int .i64 0) (.int .u64 0) (.string ⟨#[]⟩) (.slice (some ⟨w3.heap.size, 0, none⟩) 2 2)
 have hw6 := set6_below (b := (w.heap.size + 1 + 1)) HB4.out (by omega) (.int .i64 4) (.int .i64 0) (.int .i64 0) (.int .u64 0) (.string ⟨#[]⟩) (.slice (some ⟨w3.heap.size, 0, none⟩) 2 2)
 rw [show set6 (w3.alloc (.cells #[.int .i64 k1, .int .i64 f1, .int .i64 t1, .int .u64 n1, .string s1, .slice a1 kx.len c1, .int .i64 k2, .int .i64 f2, .int .i64 t2, .int .u64 n2, .string s2, .slice a2 ky.len c2] TrT)) (w.heap.size + 1 + 1) (.int .i64 4) (.int .i64 0) (.int .i64 0) (.int .u64 0) (.string ⟨#[]⟩) (.slice (some ⟨w3.heap.size, 0, none⟩) 2 2) = ((((((w3.alloc (.cells #[.int .i64 k1, .int .i64 f1, .int .i64 t1, .int .u64 n1, .string s1, .slice a1 kx.len c1, .int .i64 k2, .int .i64 f2, .int .i64 t2, .int .u64 n2, .string s2, .slice a2 ky.len c2] TrT)).setCell ⟨(w.heap.size + 1 + 1), 0, none⟩ (.int .i64 4)).setCell ⟨(w.heap.size + 1 + 1), 1, none⟩ (.int .i64 0)).setCell ⟨(w.heap.size + 1 + 1), 2, none⟩ (.int .i64 0)).setCell ⟨(w.heap.size + 1 + 1), 3, none⟩ (.int .u64 0)).setCell ⟨(w.heap.size + 1 + 1), 4, none⟩ (.string ⟨#[]⟩)).setCell ⟨(w.heap.size + 1 + 1), 5, none⟩ (.slice (some ⟨w3.heap.size, 0, none⟩) 2 2) from rfl] at hs6 hw6
 have ho6 := HH4.out
 rw [← set6_other (b := (w.heap.size + 1 + 1)) (by omega) (.int .i64 4) (.int .i64 0) (.int .i64 0) (.int .u64 0) (.string ⟨#[]⟩) (.slice (some ⟨w3.heap.size, 0, none⟩) 2 2)] at ho6
 rw [show set6 (w3.alloc (.cells #[.int .i64 k1, .int .i64 f1, .int .i64 t1, .int .u64 n1, .string s1, .slice a1 kx.len c1, .int .i64 k2, .int .i64 f2, .int .i64 t2, .int .u64 n2, .string s2, .slice a2 ky.len c2] TrT)) (w.heap.size + 1 + 1) (.int .i64 4) (.int .i64 0) (.int .i64 0) (.int .u64 0) (.string ⟨#[]⟩) (.slice (some ⟨w3.heap.size, 0, none⟩) 2 2) = ((((((w3.alloc (.cells #[.int .i64 k1, .int .i64 f1, .int .i64 t1, .int .u64 n1, .string s1, .slice a1 kx.len c1, .int .i64 k2, .int .i64 f2, .int .i64 t2, .int .u64 n2, .string s2, .slice a2 ky.len c2] TrT)).setCell ⟨(w.heap.size + 1 + 1), 0, none⟩ (.int .i64 4)).setCell ⟨(w.heap.size + 1 + 1), 1, none⟩ (.int .i64 0)).setCell ⟨(w.heap.size + 1 + 1), 2, none⟩ (.int .i64 0)).setCell ⟨(w.heap.size + 1 + 1), 3, none⟩ (.int .u64 0)).setCell ⟨(w.heap.size + 1 + 1), 4, none⟩ (.string ⟨#[]⟩)).setCell ⟨(w.heap.size + 1 + 1), 5, none⟩ (.slice (some ⟨w3.heap.size, 0, none⟩) 2 2) from rfl] at ho6
 have HW6 := Lib.hid hw6
 clear hw6
 generalize (((((((w3.alloc (.cells #[.int .i64 k1, .int .i64 f1, .int .i64 t1, .int .u64 n1, .string s1, .slice a1 kx.len c1, .int .i64 k2, .int .i64 f2, .int .i64 t2, .int .u64 n2, .string s2, .slice a2 ky.len c2] TrT)).setCell ⟨(w.heap.size + 1 + 1), 0, none⟩ (.int .i64 4)).setCell ⟨(w.heap.size + 1 + 1), 1, none⟩ (.int .i64 0)).setCell ⟨(w.heap.size + 1 + 1), 2, none⟩ (.int .i64 0)).setCell ⟨(w.heap.size + 1 + 1), 3, none⟩ (.int .u64 0)).setCell ⟨(w.heap.size + 1 + 1), 4, none⟩ (.string ⟨#[]⟩)).setCell ⟨(w.heap.size + 1 + 1), 5, none⟩ (.slice (some ⟨w3.heap.size, 0, none⟩) 2 2)) = w99 at *
 obtain ⟨q0, q1, q2, q3, q4, q5⟩ := cs6 hs6 rfl rfl rfl rfl rfl rfl
 refine bodyPost_ret (v := .agg #[.int .i64 4, .int .i64 0, .int .i64 0, .int .u64 0, .string ⟨#[]⟩, .slice (some ⟨w3.heap.size, 0, none⟩) 2 2]) (by simp [results, Tryz.results91, go_sem, q0, q1, q2, q3, q4, q5]) rfl ?_
 refine ⟨.slice (some ⟨w3.heap.size, 0, none⟩) 2 2, rfl, ⟨_, _, rfl, by simp [pairT, two, Fo.len], by decide, fun _ => ⟨w3.heap.size, 0, rfl, ⟨⟨Nat.le_trans HBB.out (Nat.le_trans (Nat.le_add_right _ 3) (Nat.le_of_eq HS3.out.symm)), _, ho6⟩, HEE.out _ (Nat.le_trans (Nat.le_add_right _ 3) (Nat.le_of_eq HS3.out.symm))⟩,
  AtF.mk (v := .slice a1 kx.len c1) (cellB (j := 0) ho6 rfl) (cellB (j := 1) ho6 rfl) (cellB (j := 2) ho6 rfl) (cellB (j := 3) ho6 rfl) (cellB (j := 4) ho6 rfl) (cellB (j := 5) ho6 rfl) (HX.out.newE HW6.out)
   (AtF.mk (v := .slice a2 ky.len c2) (cellB (j := 6) ho6 rfl) (cellB (j := 7) ho6 rfl) (cellB (j := 8) ho6 rfl) (cellB (j := 9) ho6 rfl) (cellB (j := 10) ho6 rfl) (cellB (j := 11) ho6 rfl) (HY.out.newE HW6.out) trivial)⟩⟩, HW6.out⟩
end Go.Proofs.YtjmcaceegfdkkaaGreatDoor
namespace Go.Proofs.YtjmcaceegfdkkaaGreatDoor
open Go.RowKit Go.Maps
set_option linter.unusedVariables false
def NzF : Fo → Prop
 | .nil => True
 | .cons n k r => n.kind ≠ 0 ∧ NzF k ∧ NzF r
abbrev zbx : Obj := .cells #[.int .i64 0, .int .i64 0, .int .i64 0, .int .u64 0, .string ⟨#[]⟩, .slice none 0 0] TrT
theorem zbx_all {w : World} {m : Nat} (h : w.heap[m]? = some zbx) : (w.cell? ⟨m, 0, none⟩ = some (.int .i64 0) ∧ w.cell? ⟨m, 1, none⟩ = some (.int .i64 0) ∧ w.cell? ⟨m, 2, none⟩ = some (.int .i64 0) ∧ w.cell? ⟨m, 3, none⟩ = some (.int .u64 0) ∧ w.cell? ⟨m, 4, none⟩ = some (.string ⟨#[]⟩) ∧ w.cell? ⟨m, 5, none⟩ = some (.slice none 0 0)) ∧ (w.frozen? ⟨m, 0, none⟩ = false ∧ w.frozen? ⟨m, 1, none⟩ = false ∧ w.frozen? ⟨m, 2, none⟩ = false ∧ w.frozen? ⟨m, 3, none⟩ = false ∧ w.frozen? ⟨m, 4, none⟩ = false ∧ w.frozen? ⟨m, 5, none⟩ = false) :=
 ⟨⟨cellB (j := 0) h rfl, cellB (j := 1) h rfl, cellB (j := 2) h rfl, cellB (j := 3) h rfl, cellB (j := 4) h rfl, cellB (j := 5) h rfl⟩, ⟨frozenB (j := 0) h, frozenB (j := 1) h, frozenB (j := 2) h, frozenB (j := 3) h, frozenB (j := 4) h, frozenB (j := 5) h⟩⟩
theorem zbx_cell {w : World} {m off : Nat} {k : Int} (hz : w.heap[m]? = some zbx) (h : w.cell? ⟨m, off, none⟩ = some (.int .i64 k)) : k = 0 := by
 rcases Nat.lt_or_ge off 6 with hlt | hge
 ·have h6 : off = 0 ∨ off = 1 ∨ off = 2 ∨ off = 3 ∨ off = 4 ∨ off = 5 := by omega
  rcases h6 with rfl | rfl | rfl | rfl | rfl | rfl
  ·have := (cellB (j := 0) hz rfl).symm.trans h; simp at this; exact this.symm
  ·have := (cellB (j := 1) hz rfl).symm.trans h; simp at this; exact this.symm
  ·have := (cellB (j := 2) hz rfl).symm.trans h; simp at this; exact this.symm
  ·have := (cellB (j := 3) hz rfl).symm.trans h; simp at this
  ·have := (cellB (j := 4) hz rfl).symm.trans h; simp at this
  ·have := (cellB (j := 5) hz rfl).symm.trans h; simp at this
 ·exfalso
  simp only [World.cell?, hz] at h
  obtain ⟨j, rfl⟩ : ∃ j, off = 6 + j := ⟨off - 6, by omega⟩
  simp at h
theorem nz_at {w : World} {G : Nat → Prop} {m : Nat} (hz : w.heap[m]? = some zbx) : ∀ (f : Fo) (b off : Nat), NzF f → AtF w G f b off → AtF w (fun b => G b ∧ b ≠ m) f b off ∧ (0 < f.len → b ≠ m) := by
 intro f
 induction f with
 | nil => intro b off _ _; exact ⟨trivial, fun h => absurd h (by simp [Fo.len])⟩
 | cons n k r ihk ihr =>
  intro b off hn h
  obtain ⟨h0, h1, h2, h3, h4, v, h5, h6, h7⟩ := h.cons
  obtain ⟨a, c, e1, e2, e3, e4⟩ := h6
  refine ⟨AtF.mk h0 h1 h2 h3 h4 h5 ⟨a, c, e1, e2, e3, fun hp => ?_⟩ (ihr _ _ hn.2.2 h7).1, fun _ e => ?_⟩
  ·obtain ⟨b', o', q1, q2, q3⟩ := e4 hp
   obtain ⟨r1, r2⟩ := ihk b' o' hn.2.1 q3
   exact ⟨b', o', q1, ⟨q2, r2 hp⟩, r1⟩
  ·subst e
   exact hn.1 (zbx_cell hz h0)
theorem IsK.nz {w : World} {G : Nat → Prop} {m : Nat} {v : Value} {k : Fo} (h : IsK w G v k) (hn : NzF k) (hz : w.heap[m]? = some zbx) : IsK w (fun b => G b ∧ b ≠ m) v k := by
 obtain ⟨a, c, e1, e2, e3, e4⟩ := h
 refine ⟨a, c, e1, e2, e3, fun hp => ?_⟩
 obtain ⟨b', o', q1, q2, q3⟩ := e4 hp
 obtain ⟨r1, r2⟩ := nz_at hz k b' o' hn q3
 exact ⟨b', o', q1, ⟨q2, r2 hp⟩, r1⟩
theorem RepF.nzf {p : Pl} (hp : Ok p) : ∀ {f : Fo} {ts : List Int}, RepF p ts f → NzF f
 | .nil, [], _ => trivial
 | .cons n k r, t :: ts, h => by
  obtain ⟨h1, ⟨ka, h2, h3, h4⟩, h5⟩ := h
  refine ⟨?_, RepF.nzf hp h2, RepF.nzf hp h5⟩
  have hk := (nd_plain (shp_at hp h1)).1
  rw [h4] at hk
  have : (nodeOf n ka).kind = n.kind := rfl
  omega
 | .nil, _ :: _, h => h.elim
 | .cons _ _ _, [], h => h.elim
end Go.Proofs.YtjmcaceegfdkkaaGreatDoor
namespace Go.Proofs.YtjmcaceegfdkkaaGreatDoor
set_option linter.unusedVariables false
def IsL (x : Tr) (l : Lt) : Prop := chkP l = 0 ∧ ∃ f1 f2, (l.kind = 4 → l.fake = (f1 || f2)) ∧ letT l f1 f2 = x
theorem rd_tree {p : Pl} (hp : Ok p) {t : Int} {x : Tr} (hx : RT p t x) (hb : Bare (one x)) {l : Lt} (hl : ∀ f1 f2, Bare (one (letT l f1 f2))) : rdP p t = some l ↔ IsL x l := by
 rw [rd_some hp]
 constructor
 ·rintro ⟨hc, f1, f2, hf, hr⟩
  have e := RepF.tree hr hx (hl f1 f2) hb
  refine ⟨hc, f1, f2, hf, ?_⟩
  generalize letT l f1 f2 = y at *
  obtain ⟨n, k⟩ := x
  obtain ⟨n', k'⟩ := y
  simp only [one, Fo.cons.injEq] at e
  rw [e.1, e.2.1]
 ·rintro ⟨hc, f1, f2, hf, rfl⟩
  exact ⟨hc, f1, f2, hf, hx⟩
theorem bare_pair {x y : Tr} (hx : Bare (one x)) (hy : Bare (one y)) : Bare (one (pairT x y)) := ⟨rfl, rfl, ⟨hx.1, hx.2.1, hx.2.2.1, hy⟩, trivial⟩
theorem bare_up {n : Nd} {x : Tr} (ha : n.a = 0) (hb : n.b = 0) (hx : Bare (one x)) : Bare (one (n, one x)) := ⟨ha, hb, hx, trivial⟩
theorem bare_leaf {n : Nd} (ha : n.a = 0) (hb : n.b = 0) : Bare (one (n, .nil)) := ⟨ha, hb, trivial, trivial⟩
theorem bare_deal (c : Int) (s : ByteArray) : Bare (one (dealT c s)) := bare_pair (bare_leaf rfl rfl) (bare_pair (bare_leaf rfl rfl) (bare_leaf rfl rfl))
theorem bare_let (l : Lt) (f1 f2 : Bool) : Bare (one (letT l f1 f2)) := by
 have hd := bare_deal l.c l.text
 have hn : Bare (one (numT l.c)) := bare_leaf rfl rfl
 have hs : ∀ s, Bare (one (dataT s)) := fun s => bare_leaf rfl rfl
 unfold letT
 split
 ·exact bare_up rfl rfl hd
 split
 ·exact bare_up rfl rfl hd
 split
 ·exact bare_up rfl rfl (bare_pair (hs _) hn)
 split
 ·exact bare_up rfl rfl (bare_pair (hs _) (bare_pair (bare_up rfl rfl hd) (bare_up rfl rfl hd)))
 split
 ·exact bare_up rfl rfl (bare_pair (hs _) hn)
 split
 ·exact bare_up rfl rfl (bare_pair (hs _) hd)
 ·exact bare_pair (hs _) hn
theorem rd_isL {p : Pl} (hp : Ok p) {t : Int} {x : Tr} (hx : RT p t x) (hb : Bare (one x)) (l : Lt) : rdP p t = some l ↔ IsL x l := rd_tree hp hx hb fun f1 f2 => bare_let l f1 f2
theorem rd_size {p : Pl} (hp : Ok p) {t : Int} {l : Lt} (h : rdP p t = some l) {x : Tr} (hx : RT p t x) (hb : Bare (one x)) : (one x).size ≤ 20 := by
 obtain ⟨hc, f1, f2, hf, rfl⟩ := (rd_isL hp hx hb l).1 h
 exact (gd_let hc f1 f2).2.1
end Go.Proofs.YtjmcaceegfdkkaaGreatDoor
namespace Go.Proofs.YtjmcaceegfdkkaaGreatDoor
open Go.RowKit Go.Maps
set_option linter.unusedVariables false
theorem set6_belw {n : Nat} {w w' : World} {b : Nat} (h : Below n w w') (hb : n ≤ b) {v0 v1 v2 v3 v4 v5 : Value} : Below n w ((((((w'.setCell ⟨b, 0, none⟩ v0).setCell ⟨b, 1, none⟩ v1).setCell ⟨b, 2, none⟩ v2).setCell ⟨b, 3, none⟩ v3).setCell ⟨b, 4, none⟩ v4).setCell ⟨b, 5, none⟩ v5) := set6_below h hb _ _ _ _ _ _
theorem box6 {w : World} {m : Nat} {v0 v1 v2 v3 v4 v5 : Value} (h : w.heap[m]? = some (.cells #[v0, v1, v2, v3, v4, v5] TrT)) : w.cell? ⟨m, 0, none⟩ = some v0 ∧ w.cell? ⟨m, 1, none⟩ = some v1 ∧ w.cell? ⟨m, 2, none⟩ = some v2 ∧ w.cell? ⟨m, 3, none⟩ = some v3 ∧ w.cell? ⟨m, 4, none⟩ = some v4 ∧ w.cell? ⟨m, 5, none⟩ = some v5 :=
 ⟨cellB (j := 0) h rfl, cellB (j := 1) h rfl, cellB (j := 2) h rfl, cellB (j := 3) h rfl, cellB (j := 4) h rfl, cellB (j := 5) h rfl⟩
theorem toE {w0 w1 w' : World} {v : Value} {k : Fo} (h : IsK w' (NewT w1 w') v k) (hs : w0.heap.size ≤ w1.heap.size) : IsK w' (NewE w0 (fun _ => True) w') v k := IsK.of (w' := w') h fun b hb _ => ⟨⟨Nat.le_trans hs hb.1, hb.2⟩, trivial⟩
theorem req_of {w W : World} {B a b : Nat} {vv : Value} {p : Pl} (hB : 1 < B) (hL : Laid w) (hp : IsPool w B a b vv p) (hb : Below w.heap.size w W) {who s t : Int} (hw : who = 0 ∨ who = 1) {Ta Tb : Tr} (r1 : RT p s Ta) (r2 : RT p t Tb) (o1 : OkT Ta) (o2 : OkT Tb) (s1 : (one Ta).size ≤ 20) (s2 : (one Tb).size ≤ 20) (hr : p.length + 50 ≤ 65536) {v : Value} (hk : IsK W (Safe W B) v (one (pairT (dataT resolveS) (pairT Ta Tb)))) : Calls Tryz.prog 64 #[.pointer (some ⟨a, 0, none⟩), .agg #[.int .i64 7, .int .i64 who, .int .i64 0, .int .u64 0, .string emptyS, v]] W (OfPost W B a b vv (ofP (signT who (pairT (dataT resolveS) (pairT Ta Tb))).1 (signT who (pairT (dataT resolveS) (pairT Ta Tb))).2 p)) := by
 have ho : OkT (signT who (pairT (dataT resolveS) (pairT Ta Tb))) := okt_sign (by omega) (okt_pair (okt_data (by decide)) (okt_pair o1 o2))
 have hs : (Fo.cons (signT who (pairT (dataT resolveS) (pairT Ta Tb))).1 (signT who (pairT (dataT resolveS) (pairT Ta Tb))).2 .nil).size ≤ 50 := by
  simp only [one, Fo.size] at s1 s2
  simp only [signT, pairT, dataT, one, two, Fo.size]
  omega
 refine pof hB (hL.below hb) (hp.below hb) (n := (signT who (pairT (dataT resolveS) (pairT Ta Tb))).1) (k := (signT who (pairT (dataT resolveS) (pairT Ta Tb))).2) hk ho.1 ho.2.1 ho.2.2.1 ho.2.2.2.1 fun h => ?_
 rcases ofP_ok _ _ p hp.ok ho.bare (Nat.le_trans (Nat.add_le_add_left hs _) hr) with ⟨h0, _⟩ | ⟨h0, h1, _⟩
 ·exact absurd h h0
 ·exact h1
theorem req_box {w4 w8 w9 : World} {m : Nat} {Ta Tb : Tr} {va : Option Addr} {vn vc : Nat} (hnz : NzF (pairT (dataT resolveS) (pairT Ta Tb)).2) (hk : IsK w8 (NewE w4 (fun _ => True) w8) (.slice va vn vc) (pairT (dataT resolveS) (pairT Ta Tb)).2)
  (h9 : (w8.heap[m]? = some zbx ∧ w9 = set6 w8 m (.int .i64 4) (.int .i64 0) (.int .i64 0) (.int .u64 0) (.string emptyS) (.slice va vn vc)) ∨ (m = w8.heap.size ∧ w9 = w8.alloc (.cells #[.int .i64 4, .int .i64 0, .int .i64 0, .int .u64 0, .string emptyS, .slice va vn vc] TrT))) :
  w9.heap[m]? = some (.cells #[.int .i64 4, .int .i64 0, .int .i64 0, .int .u64 0, .string emptyS, .slice va vn vc] TrT) ∧ IsK w9 (NewE w4 (fun _ => True) w9) (.slice va vn vc) (pairT (dataT resolveS) (pairT Ta Tb)).2 := by
 rcases h9 with ⟨hz, rfl⟩ | ⟨rfl, rfl⟩
 ·refine ⟨set6_at hz _ _ _ _ _ _, (hk.nz hnz hz).keep fun b hg hl => ?_⟩
  have he := set6_other (w := w8) hg.2 (.int .i64 4) (.int .i64 0) (.int .i64 0) (.int .u64 0) (.string emptyS) (.slice va vn vc)
  refine ⟨⟨⟨hg.1.1.1, ?_⟩, trivial⟩, he⟩
  obtain ⟨cs, hc⟩ := hg.1.1.2
  exact ⟨cs, by rw [he]; exact hc⟩
 ·exact ⟨heap_alloc_new _ _, hk.newE (bZ _ _)⟩
theorem req_kids {w4 w9 : World} {B : Nat} {Ta Tb : Tr} {va : Option Addr} {vn vc : Nat} (hk : IsK w9 (NewE w4 (fun _ => True) w9) (.slice va vn vc) (pairT (dataT resolveS) (pairT Ta Tb)).2) :
  IsK (w9.alloc (.cells #[.int .i64 4, .int .i64 0, .int .i64 0, .int .u64 0, .string emptyS, .slice va vn vc] TrT)) (Safe (w9.alloc (.cells #[.int .i64 4, .int .i64 0, .int .i64 0, .int .u64 0, .string emptyS, .slice va vn vc] TrT)) B) (.slice (some ⟨w9.heap.size, 0, none⟩) 1 1) (one (pairT (dataT resolveS) (pairT Ta Tb))) := by
 have h1 := heap_alloc_new w9 (.cells #[.int .i64 4, .int .i64 0, .int .i64 0, .int .u64 0, .string emptyS, .slice va vn vc] TrT)
 have h2 := hk.newE (bZ w9 (.cells #[.int .i64 4, .int .i64 0, .int .i64 0, .int .u64 0, .string emptyS, .slice va vn vc] TrT))
 generalize (w9.alloc (.cells #[.int .i64 4, .int .i64 0, .int .i64 0, .int .u64 0, .string emptyS, .slice va vn vc] TrT)) = w10 at *
 exact ⟨_, _, rfl, by simp [one, Fo.len], by decide, fun _ => ⟨w9.heap.size, 0, rfl, .inr ⟨_, h1⟩, AtF.mk (v := .slice va vn vc) (cellB (j := 0) h1 rfl) (cellB (j := 1) h1 rfl) (cellB (j := 2) h1 rfl) (cellB (j := 3) h1 rfl) (cellB (j := 4) h1 rfl) (cellB (j := 5) h1 rfl) (IsK.of (w' := w10) h2 fun b hb _ => .inr hb.1.2) trivial⟩⟩
end Go.Proofs.YtjmcaceegfdkkaaGreatDoor
