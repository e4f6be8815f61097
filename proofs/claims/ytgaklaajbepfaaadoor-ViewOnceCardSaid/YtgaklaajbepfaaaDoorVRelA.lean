/-
  What corresponds to what in the document's own lists: rows in memory, and what tells two nodes apart.
  The document's own comparison of two terms, in memory.
  The document's own answer: which lists look alike.
-/
import Derived.Test.YtgaklaajbepfaaaDoorVAlike
import Derived.Test.YtgaklaajbepfaaaDoorTRefP
import Derived.Test.YtgaklaajbepfaaaDoorTRef2
import Derived.Deep.QuietTactic
import Derived.BigQuiet
import Derived.Test.YtgaklaajbepfaaaDoorTRSub
namespace Go.Proofs.YtgaklaajbepfaaaDoor
open Go.RowKit Go.Maps Go.Shelf
set_option linter.unusedVariables false

abbrev RelT : TypeId := 83
def twoK (k : Int) : Bool := k == 8 || k == 9
def tellK (who f t : Int) : Bool := who == f || (who == t || who == 2)
theorem rtwo_any (k : Int) (w : World) : Calls Tryd.prog 63 #[.int .i64 k] w fun e w' => e = .returned (.bool (twoK k)) ∧ w = w' := by
  unfold twoK
  cases h1 : (k == (8 : Int)) with
  | true =>
    go_enter Tryd.func63, Tryd.ntmps63
    go_wp2_with fail
    go_returns
    exact ⟨rfl, rfl⟩
  | false =>
    cases h2 : (k == (9 : Int)) with
    | true =>
      go_enter Tryd.func63, Tryd.ntmps63
      go_wp2_with fail
      go_returns
      exact ⟨rfl, rfl⟩
    | false =>
      go_enter Tryd.func63, Tryd.ntmps63
      go_wp2_with fail
      go_returns
      exact ⟨rfl, rfl⟩
theorem rtellsk_any (who f t : Int) (w : World) : Calls Tryd.prog 46 #[.int .i64 who, .int .i64 f, .int .i64 t] w fun e w' => e = .returned (.bool (tellK who f t)) ∧ w = w' := by
  unfold tellK
  cases h1 : (who == f) with
  | true =>
    go_enter Tryd.func46, Tryd.ntmps46
    go_wp2_with fail
    go_returns
    exact ⟨rfl, rfl⟩
  | false =>
    cases h2 : (who == t) with
    | true =>
      go_enter Tryd.func46, Tryd.ntmps46
      go_wp2_with fail
      go_returns
      exact ⟨rfl, rfl⟩
    | false =>
      cases h3 : (who == (2 : Int)) with
      | true =>
        go_enter Tryd.func46, Tryd.ntmps46
        go_wp2_with fail
        go_returns
        exact ⟨rfl, rfl⟩
      | false =>
        go_enter Tryd.func46, Tryd.ntmps46
        go_wp2_with fail
        go_returns
        exact ⟨rfl, rfl⟩
def nameK (n : Int) : Bool := decide (0 ≤ n) && decide (n < 16)
theorem rname_any (n : Int) (w : World) : Calls Tryd.prog 15 #[.int .i64 n] w fun e w' => e = .returned (.bool (nameK n)) ∧ w = w' := by
  unfold nameK
  by_cases h1 : 0 ≤ n
  · by_cases h2 : n < 16
    · rw [decide_eq_true h1, decide_eq_true h2]
      go_enter Tryd.func15, Tryd.ntmps15
      go_wp2_with fail
      go_returns
      exact ⟨rfl, rfl⟩
    · rw [decide_eq_true h1, decide_eq_false h2]
      go_enter Tryd.func15, Tryd.ntmps15
      go_wp2_with fail
      go_returns
      exact ⟨rfl, rfl⟩
  · rw [decide_eq_false h1]
    go_enter Tryd.func15, Tryd.ntmps15
    go_wp2_with fail
    go_returns
    exact ⟨rfl, rfl⟩
/-- Whether a row of n terms' numbers, from 1 up, is what m tells: 0 for nothing. -/
structure ArM (w : World) (ab n : Nat) (m : Int → Option Int) : Prop where
  blk : ∃ sc, w.heap[ab]? = some (Obj.cells sc TermT) ∧ sc.size = n + 1 ∧ ∀ x : Nat, 1 ≤ x → x ≤ n → sc[x]? = some (.int .i64 ((m x).getD 0))
section
variable {w w' : World} {ab n x : Nat} {m : Int → Option Int}
theorem ArM.cell (h : ArM w ab n m) (h1 : 1 ≤ x) (h2 : x ≤ n) : w.cell? ⟨ab, x, none⟩ = some (.int .i64 ((m x).getD 0)) := by
  obtain ⟨sc, hb, hs, hc⟩ := h.blk
  exact cellB hb (hc x h1 h2)
theorem ArM.frozen (h : ArM w ab n m) : w.frozen? ⟨ab, x, none⟩ = false := by
  obtain ⟨sc, hb, hs, hc⟩ := h.blk
  exact frozenB hb
theorem ArM.put (h : ArM w ab n m) (h1 : 1 ≤ x) (h2 : x ≤ n) (u : Int) : ArM (w.setCell ⟨ab, x, none⟩ (.int .i64 u)) ab n (updO m x u) := by
  obtain ⟨sc, hb, hs, hc⟩ := h.blk
  refine ⟨_, setCellB hb, by simpa using hs, fun y y1 y2 => ?_⟩
  unfold updO
  by_cases e : x = y
  · subst e
    rw [if_pos rfl, Array.getElem?_setIfInBounds_self_of_lt (by omega)]; rfl
  · rw [if_neg (fun g => e (by omega)), Array.getElem?_setIfInBounds_ne e]; exact hc y y1 y2
theorem ArM.same (h : ArM w ab n m) (hs : w'.heap[ab]? = w.heap[ab]?) : ArM w' ab n m := by
  obtain ⟨sc, hb, hc⟩ := h.blk
  exact ⟨sc, by rw [hs]; exact hb, hc⟩
theorem ArM.below (h : ArM w ab n m) (hb : Below w.heap.size w w') : ArM w' ab n m := by
  obtain ⟨sc, hc, h1, h2⟩ := h.blk
  exact ⟨sc, Hold.below hb _ _ hc, h1, h2⟩
/-- What the document's own comparison leaves as it was. -/
structure RcG (B : Nat) (w w' : World) : Prop where
  below : Below B w w'
  hold : ∀ T, TermT ≠ T → Hold T w w'
theorem RcG.of {B : Nat} (hB : B ≤ w.heap.size) (h : Below w.heap.size w w') : RcG B w w' := ⟨h.mono hB, fun T _ => Hold.below h⟩
theorem RcG.trans {B : Nat} {a b c : World} (h : RcG B a b) (k : RcG B b c) : RcG B a c := ⟨h.below.trans k.below, fun T e => (h.hold T e).trans (k.hold T e)⟩
theorem RcG.put {B : Nat} (h : ArM w ab n m) (hB : B ≤ ab) (x : Nat) (u : Value) : RcG B w (w.setCell ⟨ab, x, none⟩ u) := by
  obtain ⟨sc, hb, hs, hc⟩ := h.blk
  exact ⟨Below.setCell (Below.refl _ _) (p := ⟨ab, x, none⟩) hB u, fun T e => Hold.setCell hb e⟩
theorem RcG.ref {B B0 a : Nat} {vl vs vd : Value} {p : Pl} (h : RcG B w w') (hp : IsRef w B0 a vl vs vd p) : IsRef w' B0 a vl vs vd p :=
  ⟨h.hold _ (by decide) _ _ hp.lay, hp.ga, own_hold hp.rl (h.hold _ (by decide)), own_hold hp.rs (h.hold _ (by decide)), own_hold hp.rd (h.hold _ (by decide)), hp.ap, hp.ok, hp.nok⟩
end
/-- The document's comparison of two nodes themselves. -/
theorem sameB_ne {who : Int} {k f t u k2 f2 t2 u2 xa xb ya yb : Int} {s s2 : ByteArray} (h : ¬ (f = f2 ∧ t = t2 ∧ u = u2 ∧ s = s2)) : sameB who ⟨k, f, t, u, s, xa, xb⟩ ⟨k2, f2, t2, u2, s2, ya, yb⟩ = false := by
  unfold sameB sameN
  rw [decide_eq_false_iff_not]
  intro e
  simp only [Nd.mk.injEq] at e
  exact h ⟨e.2.1, e.2.2.1, e.2.2.2.1, e.2.2.2.2.1⟩
theorem sameB_kind {who : Int} {k f t u k2 xa xb ya yb : Int} {s : ByteArray} : sameB who ⟨k, f, t, u, s, xa, xb⟩ ⟨k2, f, t, u, s, ya, yb⟩ = (k == k2 || (twoK k && (twoK k2 && !tellK who f t))) := by
  unfold sameB sameN veilB tellB likeB twoK tellK
  simp only [Nd.mk.injEq, and_true]
  rw [Bool.eq_iff_iff]
  simp only [decide_eq_true_eq]
  by_cases h1 : (k == 8 || k == 9) = true <;> by_cases h2 : (k2 == 8 || k2 == 9) = true <;> by_cases h3 : (who == f || (who == t || who == 2)) = true
  all_goals (try rw [Bool.not_eq_true] at h1); (try rw [Bool.not_eq_true] at h2); (try rw [Bool.not_eq_true] at h3); rw [h1, h2, h3]; simp
theorem rel_kids {p : Pl} (hp : Ok p) {t : Int} (hin : inP p t = true) : (1 ≤ kidsN (atP p t).1.kind → inP p (atP p t).1.a = true) ∧ (kidsN (atP p t).1.kind = 2 → inP p (atP p t).1.b = true) ∧ (kidsN (atP p t).1.kind = 0 → (atP p t).1.a = 0) ∧ (kidsN (atP p t).1.kind ≠ 2 → (atP p t).1.b = 0) := by
  obtain ⟨i, hi, rfl, e⟩ := atP_get hin
  have he := hp.mem _ (List.getElem_mem hi)
  rw [← e] at he
  generalize (atP p ((i : Int) + 1)).1 = n at *
  unfold errP at he
  by_cases h : shp n ≠ 0
  · rw [if_pos h] at he; exact absurd he h
  · rw [if_neg h] at he
    obtain ⟨q1, q2⟩ := kids_of_plain (Decidable.not_not.mp h)
    by_cases h2 : kidsBad p n = true
    · rw [if_pos h2] at he; cases he
    · have h2' : kidsBad p n = false := by simpa using h2
      unfold kidsBad at h2'
      simp only [Bool.or_eq_false_iff, Bool.and_eq_false_iff, decide_eq_false_iff_not, Bool.not_eq_false', beq_eq_false_iff_ne] at h2'
      exact ⟨fun h => h2'.1.resolve_left (fun g => g h), fun h => h2'.2.resolve_left (fun g => g h), q1, q2⟩
end Go.Proofs.YtgaklaajbepfaaaDoor
namespace Go.Proofs.YtgaklaajbepfaaaDoor
open Go.RowKit Go.Maps Go.Shelf
set_option linter.unusedVariables false

def RcPost (B ab bb : Nat) (p : Pl) (who : Int) (m : Int → Option Int) (x y : Int) (w : World) (e : Ending) (w' : World) : Prop :=
  ∃ (r : Bool) (m' n' : Int → Option Int), e = .returned (.bool r) ∧ ArM w' ab p.length m' ∧ ArM w' bb p.length n' ∧ CorP p who m x y r m' n' ∧ RcG B w w'
def RcC (B B0 a : Nat) (vl vs vd : Value) (p : Pl) (who : Int) (rb ab bb : Nat) (x y : Int) : Prop :=
  ∀ (W : World) (m n : Int → Option Int), B ≤ W.heap.size → IsRef W B0 a vl vs vd p → W.heap[rb]? = some (Obj.cells #[.pointer (some ⟨a, 0, none⟩), .int .i64 who, .slice (some ⟨ab, 0, none⟩) (p.length + 1) (p.length + 1), .slice (some ⟨bb, 0, none⟩) (p.length + 1) (p.length + 1)] RelT) → Cor p m n → ArM W ab p.length m → ArM W bb p.length n → Calls Tryd.prog 41 #[.pointer (some ⟨rb, 0, none⟩), .int .i64 x, .int .i64 y] W (RcPost B ab bb p who m x y W)
section
variable {B B0 a : Nat} {vl vs vd : Value} {p : Pl} {who : Int} {rb ab bb : Nat} {x y : Nat} {W : World} {m n : Int → Option Int}
set_option maxRecDepth 100000 in
set_option maxHeartbeats 6400000 in
theorem rc_met {o : Int} (hx : 1 ≤ x ∧ x ≤ p.length) (hy : 1 ≤ y ∧ y ≤ p.length) (hB : B ≤ W.heap.size) (hr : W.heap[rb]? = some (Obj.cells #[.pointer (some ⟨a, 0, none⟩), .int .i64 who, .slice (some ⟨ab, 0, none⟩) (p.length + 1) (p.length + 1), .slice (some ⟨bb, 0, none⟩) (p.length + 1) (p.length + 1)] RelT)) (hC : Cor p m n) (h1 : ArM W ab p.length m) (h2 : ArM W bb p.length n) (hm : m (x : Int) = some o) : Calls Tryd.prog 41 #[.pointer (some ⟨rb, 0, none⟩), .int .i64 (x : Int), .int .i64 (y : Int)] W (RcPost B ab bb p who m (x : Int) (y : Int) W) := by
  have HF : Hid (RcPost B ab bb p who m (x : Int) (y : Int) W (.returned (.bool (o == (y : Int)))) W) := Lib.hid ⟨_, m, n, rfl, h1, h2, corP_met hC hm, RcG.of hB (Below.refl _ _)⟩
  have c0 : W.cell? ⟨rb, 2, none⟩ = some (.slice (some ⟨ab, 0, none⟩) (p.length + 1) (p.length + 1)) := cellB (j := 2) hr rfl
  have c1 : W.cell? ⟨rb, 3, none⟩ = some (.slice (some ⟨bb, 0, none⟩) (p.length + 1) (p.length + 1)) := cellB (j := 3) hr rfl
  have c2 : W.cell? ⟨rb, 0, none⟩ = some (.pointer (some ⟨a, 0, none⟩)) := cellB (j := 0) hr rfl
  have ca := h1.cell hx.1 hx.2
  have cb := h2.cell hy.1 hy.2
  rw [hm] at ca
  simp only [Option.getD_some] at ca
  have ho : o ≠ 0 := by
    rcases hC.ins _ _ hm with ⟨e, _⟩ | ⟨_, e⟩
    · omega
    · unfold inP at e; simp at e; omega
  have ho1 : (o != 0) = true := by rw [bne, ebF ho]; rfl
  have j0 : (0 : Int) ≤ (x : Int) := by omega
  have j1 : (x : Int) < ((p.length + 1 : Nat) : Int) := by omega
  have k0 : (0 : Int) ≤ (y : Int) := by omega
  have k1 : (y : Int) < ((p.length + 1 : Nat) : Int) := by omega
  by_cases hoy : o = (y : Int)
  · rw [(hC.inv _ _).1 (hoy ▸ hm)] at cb
    simp only [Option.getD_some] at cb
    have e1 : (o == (y : Int)) = true := by rw [hoy]; simp
    have e2 : ((x : Int) == (x : Int)) = true := by simp
    rw [e1] at HF
    clear hC h1 h2 hm hoy hr ho hx hy
    go_enter Tryd.func41, Tryd.ntmps41
    go_wp2_with fail
    go_returns
    exact HF.out
  · have e1 : (o == (y : Int)) = false := ebF hoy
    rw [e1] at HF
    clear hC h1 h2 hm hoy hr ho hx hy
    go_enter Tryd.func41, Tryd.ntmps41
    go_wp2_with fail
    go_returns
    exact HF.out
set_option maxRecDepth 100000 in
set_option maxHeartbeats 6400000 in
theorem rc_taken {o : Int} (hx : 1 ≤ x ∧ x ≤ p.length) (hy : 1 ≤ y ∧ y ≤ p.length) (hB : B ≤ W.heap.size) (hr : W.heap[rb]? = some (Obj.cells #[.pointer (some ⟨a, 0, none⟩), .int .i64 who, .slice (some ⟨ab, 0, none⟩) (p.length + 1) (p.length + 1), .slice (some ⟨bb, 0, none⟩) (p.length + 1) (p.length + 1)] RelT)) (hC : Cor p m n) (h1 : ArM W ab p.length m) (h2 : ArM W bb p.length n) (hm : m (x : Int) = none) (hn : n (y : Int) = some o) : Calls Tryd.prog 41 #[.pointer (some ⟨rb, 0, none⟩), .int .i64 (x : Int), .int .i64 (y : Int)] W (RcPost B ab bb p who m (x : Int) (y : Int) W) := by
  have HF : Hid (RcPost B ab bb p who m (x : Int) (y : Int) W (.returned (.bool false)) W) := Lib.hid ⟨_, m, n, rfl, h1, h2, corP_taken hC hm hn, RcG.of hB (Below.refl _ _)⟩
  have c0 : W.cell? ⟨rb, 2, none⟩ = some (.slice (some ⟨ab, 0, none⟩) (p.length + 1) (p.length + 1)) := cellB (j := 2) hr rfl
  have c1 : W.cell? ⟨rb, 3, none⟩ = some (.slice (some ⟨bb, 0, none⟩) (p.length + 1) (p.length + 1)) := cellB (j := 3) hr rfl
  have c2 : W.cell? ⟨rb, 0, none⟩ = some (.pointer (some ⟨a, 0, none⟩)) := cellB (j := 0) hr rfl
  have ca := h1.cell hx.1 hx.2
  have cb := h2.cell hy.1 hy.2
  rw [hm] at ca
  rw [hn] at cb
  simp only [Option.getD_some, Option.getD_none] at ca cb
  have ho : o ≠ 0 := by
    rcases hC.ins _ _ ((hC.inv _ _).2 hn) with ⟨e, _⟩ | ⟨e, _⟩
    · intro q; omega
    · unfold inP at e; simp at e; omega
  have ho1 : (o != 0) = true := by rw [bne, ebF ho]; rfl
  have j0 : (0 : Int) ≤ (x : Int) := by omega
  have j1 : (x : Int) < ((p.length + 1 : Nat) : Int) := by omega
  have k0 : (0 : Int) ≤ (y : Int) := by omega
  have k1 : (y : Int) < ((p.length + 1 : Nat) : Int) := by omega
  have e1 : ((0 : Int) == (y : Int)) = false := ebF (by omega)
  clear hC h1 h2 hm hn hr ho hx hy
  go_enter Tryd.func41, Tryd.ntmps41
  go_wp2_with fail
  go_returns
  exact HF.out
set_option maxRecDepth 100000 in
set_option maxHeartbeats 51200000 in
theorem rc_new (hx : 1 ≤ x ∧ x ≤ p.length) (hy : 1 ≤ y ∧ y ≤ p.length) (hne : ab ≠ bb) (hab : B ≤ ab) (hbb : B ≤ bb)
    (ia : inP p (atP p (x : Int)).1.a = true → inP p (atP p (y : Int)).1.a = true → RcC B B0 a vl vs vd p who rb ab bb (atP p (x : Int)).1.a (atP p (y : Int)).1.a) (ib : inP p (atP p (x : Int)).1.b = true → inP p (atP p (y : Int)).1.b = true → RcC B B0 a vl vs vd p who rb ab bb (atP p (x : Int)).1.b (atP p (y : Int)).1.b)
    (hB : B ≤ W.heap.size) (hp : IsRef W B0 a vl vs vd p) (hr : W.heap[rb]? = some (Obj.cells #[.pointer (some ⟨a, 0, none⟩), .int .i64 who, .slice (some ⟨ab, 0, none⟩) (p.length + 1) (p.length + 1), .slice (some ⟨bb, 0, none⟩) (p.length + 1) (p.length + 1)] RelT)) (hC : Cor p m n) (h1 : ArM W ab p.length m) (h2 : ArM W bb p.length n) (hm : m (x : Int) = none) (hn : n (y : Int) = none) : Calls Tryd.prog 41 #[.pointer (some ⟨rb, 0, none⟩), .int .i64 (x : Int), .int .i64 (y : Int)] W (RcPost B ab bb p who m (x : Int) (y : Int) W) := by
  have hxi : inP p (x : Int) = true := by unfold inP; simp; omega
  have hyi : inP p (y : Int) = true := by unfold inP; simp; omega
  have HKX := Lib.hid (rel_kids hp.ok hxi)
  have HKY := Lib.hid (rel_kids hp.ok hyi)
  have c0 : W.cell? ⟨rb, 2, none⟩ = some (.slice (some ⟨ab, 0, none⟩) (p.length + 1) (p.length + 1)) := cellB (j := 2) hr rfl
  have c1 : W.cell? ⟨rb, 3, none⟩ = some (.slice (some ⟨bb, 0, none⟩) (p.length + 1) (p.length + 1)) := cellB (j := 3) hr rfl
  have c2 : W.cell? ⟨rb, 0, none⟩ = some (.pointer (some ⟨a, 0, none⟩)) := cellB (j := 0) hr rfl
  have ca := h1.cell hx.1 hx.2
  have cb := h2.cell hy.1 hy.2
  rw [hm] at ca
  rw [hn] at cb
  simp only [Option.getD_none] at ca cb
  have j0 : (0 : Int) ≤ (x : Int) := by omega
  have j1 : (x : Int) < ((p.length + 1 : Nat) : Int) := by omega
  have k0 : (0 : Int) ≤ (y : Int) := by omega
  have k1 : (y : Int) < ((p.length + 1 : Nat) : Int) := by omega
  have HXR := Lib.hid hx
  have HYR := Lib.hid hy
  have HNE := Lib.hid hne
  have HAB := Lib.hid hab
  have HBB := Lib.hid hbb
  have HSB := Lib.hid hB
  have HC8 := Lib.hid (hC.put hxi hyi hm hn)
  have IA := Lib.hid ia
  have IB := Lib.hid ib
  have HP := Lib.hid hp
  have HRR := Lib.hid hr
  have HA0 := Lib.hid h1
  have HB0 := Lib.hid h2
  have UNL := Lib.hid (fun (m' n' : Int → Option Int) => corP_unlike (who := who) (m := m) (b := (y : Int)) (m' := m') (n' := n') hxi)
  have LFT := Lib.hid (fun (m' n' : Int → Option Int) => corP_left (who := who) (m := m) (b := (y : Int)) (m' := m') (n' := n') hxi)
  have RGT := Lib.hid (fun (m1 n1 m' n' : Int → Option Int) => corP_right (who := who) (m := m) (b := (y : Int)) (m1 := m1) (n1 := n1) (m' := m') (n' := n') hxi)
  have BTH0 := Lib.hid (fun (m1 n1 m' n' : Int → Option Int) => corP_both (who := who) (m := m) (b := (y : Int)) (m1 := m1) (n1 := n1) (m' := m') (n' := n') hxi hm)
  have PX := Lib.hid (rnode hp (x : Int))
  have PY := Lib.hid (fun (V : World) (h : IsRef V B0 a vl vs vd p) => rnode h (y : Int))
  clear hx hy hne hab hbb ia ib hB hp hr hC h1 h2 hm hn hxi hyi
  generalize hxn : (atP p (x : Int)).1 = nx at *
  generalize hyn : (atP p (y : Int)).1 = ny at *
  clear hxn hyn
  obtain ⟨kk, ff, tt, uu, ss, xa, xb⟩ := nx
  obtain ⟨k2, f2, t2, u2, s2, a2, b2⟩ := ny
  simp only [nodeA] at PX PY
  go_enter Tryd.func41, Tryd.ntmps41
  go_wp2_with fail
  refine PX.out.mono ?_
  rintro e V3 ⟨rfl, u3⟩
  obtain ⟨bX, hbX⟩ := node_box V3 kk ff tt uu xa xb ss
  have HU4 := Lib.hid (bmore u3 bX)
  have HX4 := Lib.hid hbX
  clear PX u3 bX hbX c0 c1 c2 ca cb
  go_upto_region 4 with fail
  generalize (V3.alloc (.cells #[.int .i64 kk, .int .i64 ff, .int .i64 tt, .int .u64 uu, .string ss, .int .i64 xa, .int .i64 xb] NodeT)) = V4 at *
  generalize V3.heap.size = xn at *
  have c2 : V4.cell? ⟨rb, 0, none⟩ = some (.pointer (some ⟨a, 0, none⟩)) := cellB (j := 0) (Hold.below HU4.out _ _ HRR.out) rfl
  have PYV := Lib.hid (PY.out V4 (HP.out.below HU4.out))
  clear PY
  go_wp2_with fail
  refine PYV.out.mono ?_
  rintro e V5 ⟨rfl, u5⟩
  obtain ⟨bY, hbY⟩ := node_box V5 k2 f2 t2 u2 a2 b2 s2
  have HU6 := Lib.hid (bmore (bmore HU4.out u5) bY)
  have HX := Lib.hid (Hold.below (bmore u5 bY) _ _ HX4.out)
  have HY := Lib.hid hbY
  clear PYV c2 u5 bY hbY HX4 HU4
  go_upto_region 5 with fail
  generalize (V5.alloc (.cells #[.int .i64 k2, .int .i64 f2, .int .i64 t2, .int .u64 u2, .string s2, .int .i64 a2, .int .i64 b2] NodeT)) = V6 at *
  generalize V5.heap.size = yn at *
  have HG := Lib.hid (RcG.of HSB.out HU6.out)
  have HA := Lib.hid (HA0.out.below HU6.out)
  have HB2 := Lib.hid (HB0.out.below HU6.out)
  have HR := Lib.hid (Hold.below HU6.out _ _ HRR.out)
  have HRF := Lib.hid (HP.out.below HU6.out)
  clear HA0 HB0 HRR HP HU6
  have x0 : V6.cell? ⟨xn, 0, none⟩ = some (.int .i64 kk) := cellB (j := 0) HX.out rfl
  have x1 : V6.cell? ⟨xn, 1, none⟩ = some (.int .i64 ff) := cellB (j := 1) HX.out rfl
  have x2 : V6.cell? ⟨xn, 2, none⟩ = some (.int .i64 tt) := cellB (j := 2) HX.out rfl
  have x3 : V6.cell? ⟨xn, 3, none⟩ = some (.int .u64 uu) := cellB (j := 3) HX.out rfl
  have x4 : V6.cell? ⟨xn, 4, none⟩ = some (.string ss) := cellB (j := 4) HX.out rfl
  have y0 : V6.cell? ⟨yn, 0, none⟩ = some (.int .i64 k2) := cellB (j := 0) HY.out rfl
  have y1 : V6.cell? ⟨yn, 1, none⟩ = some (.int .i64 f2) := cellB (j := 1) HY.out rfl
  have y2 : V6.cell? ⟨yn, 2, none⟩ = some (.int .i64 t2) := cellB (j := 2) HY.out rfl
  have y3 : V6.cell? ⟨yn, 3, none⟩ = some (.int .u64 u2) := cellB (j := 3) HY.out rfl
  have y4 : V6.cell? ⟨yn, 4, none⟩ = some (.string s2) := cellB (j := 4) HY.out rfl
  have r1 : V6.cell? ⟨rb, 1, none⟩ = some (.int .i64 who) := cellB (j := 1) HR.out rfl
  by_cases hf : ff = f2
  case neg =>
    have hq : sameB who ⟨kk, ff, tt, uu, ss, xa, xb⟩ ⟨k2, f2, t2, u2, s2, a2, b2⟩ = false := sameB_ne (fun e => hf e.1)
    have e1 : (ff != f2) = true := by rw [bne, ebF hf]; rfl
    go_wp2_with fail
    go_returns
    exact ⟨false, _, _, rfl, HA.out, HB2.out, UNL.out _ _ hq, HG.out⟩
  have e_hf : (ff != f2) = false := by rw [hf]; simp
  by_cases ht : tt = t2
  case neg =>
    have hq : sameB who ⟨kk, ff, tt, uu, ss, xa, xb⟩ ⟨k2, f2, t2, u2, s2, a2, b2⟩ = false := sameB_ne (fun e => ht e.2.1)
    have e1 : (tt != t2) = true := by rw [bne, ebF ht]; rfl
    go_wp2_with fail
    go_returns
    exact ⟨false, _, _, rfl, HA.out, HB2.out, UNL.out _ _ hq, HG.out⟩
  have e_ht : (tt != t2) = false := by rw [ht]; simp
  by_cases hu : uu = u2
  case neg =>
    have hq : sameB who ⟨kk, ff, tt, uu, ss, xa, xb⟩ ⟨k2, f2, t2, u2, s2, a2, b2⟩ = false := sameB_ne (fun e => hu e.2.2.1)
    have e1 : (uu != u2) = true := by rw [bne, ebF hu]; rfl
    go_wp2_with fail
    go_returns
    exact ⟨false, _, _, rfl, HA.out, HB2.out, UNL.out _ _ hq, HG.out⟩
  have e_hu : (uu != u2) = false := by rw [hu]; simp
  by_cases hs : ss = s2
  case neg =>
    have hq : sameB who ⟨kk, ff, tt, uu, ss, xa, xb⟩ ⟨k2, f2, t2, u2, s2, a2, b2⟩ = false := sameB_ne (fun e => hs e.2.2.2)
    have e1 : (ss.toList == s2.toList) = false := ne_bytes hs
    go_wp2_with fail
    go_returns
    exact ⟨false, _, _, rfl, HA.out, HB2.out, UNL.out _ _ hq, HG.out⟩
  have e_hs : (ss.toList == s2.toList) = true := by rw [hs]; simp
  go_upto_region 7 with fail
  subst hf ht hu hs
  clear e_hf e_ht e_hu e_hs
  have sk := sameB_kind (who := who) (k := kk) (k2 := k2) (f := ff) (t := tt) (u := uu) (s := ss) (xa := xa) (xb := xb) (ya := a2) (yb := b2)
  have TW := Lib.hid (fun (k : Int) (V : World) => rtwo_any k V)
  have TL := Lib.hid (fun (V : World) => rtellsk_any who ff tt V)
  by_cases hk : kk = k2
  · subst hk
    have HKE : Hid (kidsN kk = kidsN kk) := Lib.hid rfl
    have hq : sameB who ⟨kk, ff, tt, uu, ss, xa, xb⟩ ⟨kk, ff, tt, uu, ss, a2, b2⟩ = true := by rw [sk]; simp
    have BTH := Lib.hid (fun (m1 n1 m' n' : Int → Option Int) => BTH0.out m1 n1 m' n' hq)
    have e1 : (kk != kk) = false := by simp
    clear sk hq
    go_quiet (fail)
    have hdn := bdn V6 nq
    replace HG := Lib.hid (HG.out.trans (RcG.of (Nat.le_trans HSB.out HG.out.below.size) hdn))
    replace HA := Lib.hid (HA.out.below hdn)
    replace HB2 := Lib.hid (HB2.out.below hdn)
    replace HR := Lib.hid (Hold.below hdn _ _ HR.out)
    replace HX := Lib.hid (Hold.below hdn _ _ HX.out)
    replace HY := Lib.hid (Hold.below hdn _ _ HY.out)
    replace HRF := Lib.hid (HRF.out.below hdn)
    clear hdn r1 x0 x1 x2 x3 x4 y0 y1 y2 y3 y4
    generalize (V6.drewN nq) = V6 at *
    have r2 : V6.cell? ⟨rb, 2, none⟩ = some (.slice (some ⟨ab, 0, none⟩) (p.length + 1) (p.length + 1)) := cellB (j := 2) HR.out rfl
    have fa : V6.frozen? ⟨ab, x, none⟩ = false := HA.out.frozen
    have ca := HA.out.cell HXR.out.1 HXR.out.2
    have j0 : (0 : Int) ≤ (x : Int) := by first | (have := HXR.out; have := HYR.out; omega) | omega
    have j1 : (x : Int) < ((p.length + 1 : Nat) : Int) := by first | (have := HXR.out; have := HYR.out; omega) | omega
    have k0 : (0 : Int) ≤ (y : Int) := by first | (have := HXR.out; have := HYR.out; omega) | omega
    have k1 : (y : Int) < ((p.length + 1 : Nat) : Int) := by first | (have := HXR.out; have := HYR.out; omega) | omega
    go_upto_region 10 with fail
    have hg7 : RcG B V6 (V6.setCell ⟨ab, x, none⟩ (.int .i64 (y : Int))) := RcG.put HA.out HAB.out x _
    have HA7 := Lib.hid (HA.out.put HXR.out.1 HXR.out.2 (y : Int))
    have HB7 : Hid (ArM (V6.setCell ⟨ab, x, none⟩ (.int .i64 (y : Int))) bb p.length n) := Lib.hid (HB2.out.same (Below.heap_setCell _ _ _ _ (fun e => HNE.out e.symm)))
    have HG7 := Lib.hid (HG.out.trans hg7)
    have HR7 := Lib.hid (hg7.hold RelT (by decide) _ _ HR.out)
    have HX7 := Lib.hid (hg7.hold NodeT (by decide) _ _ HX.out)
    have HY7 := Lib.hid (hg7.hold NodeT (by decide) _ _ HY.out)
    have HRF7 := Lib.hid (hg7.ref HRF.out)
    clear r2 fa ca hg7 HA HB2 HG HR HX HY HRF
    generalize (V6.setCell ⟨ab, x, none⟩ (.int .i64 (y : Int))) = V7 at *
    have r3 : V7.cell? ⟨rb, 3, none⟩ = some (.slice (some ⟨bb, 0, none⟩) (p.length + 1) (p.length + 1)) := cellB (j := 3) HR7.out rfl
    have fb : V7.frozen? ⟨bb, y, none⟩ = false := HB7.out.frozen
    have cb := HB7.out.cell HYR.out.1 HYR.out.2
    go_upto_region 11 with fail
    have hg8 : RcG B V7 (V7.setCell ⟨bb, y, none⟩ (.int .i64 (x : Int))) := RcG.put HB7.out HBB.out y _
    have HB8 := Lib.hid (HB7.out.put HYR.out.1 HYR.out.2 (x : Int))
    have HA8 : Hid (ArM (V7.setCell ⟨bb, y, none⟩ (.int .i64 (x : Int))) ab p.length _) := Lib.hid (HA7.out.same (Below.heap_setCell _ _ _ _ HNE.out))
    have HG8 := Lib.hid (HG7.out.trans hg8)
    have HR8 := Lib.hid (hg8.hold RelT (by decide) _ _ HR7.out)
    have HX8 := Lib.hid (hg8.hold NodeT (by decide) _ _ HX7.out)
    have HY8 := Lib.hid (hg8.hold NodeT (by decide) _ _ HY7.out)
    have HRF8 := Lib.hid (hg8.ref HRF7.out)
    clear r3 fb cb hg8 HA7 HB7 HG7 HR7 HX7 HY7 HRF7 j0 j1 k0 k1
    generalize (V7.setCell ⟨bb, y, none⟩ (.int .i64 (x : Int))) = V8 at *
    have HS8 : Hid (B ≤ V8.heap.size) := Lib.hid (Nat.le_trans HSB.out HG8.out.below.size)
    have x0 : V8.cell? ⟨xn, 0, none⟩ = some (.int .i64 kk) := cellB (j := 0) HX8.out rfl
    have x5 : V8.cell? ⟨xn, 5, none⟩ = some (.int .i64 xa) := cellB (j := 5) HX8.out rfl
    have y5 : V8.cell? ⟨yn, 5, none⟩ = some (.int .i64 a2) := cellB (j := 5) HY8.out rfl
    have x6 : V8.cell? ⟨xn, 6, none⟩ = some (.int .i64 xb) := cellB (j := 6) HX8.out rfl
    have y6 : V8.cell? ⟨yn, 6, none⟩ = some (.int .i64 b2) := cellB (j := 6) HY8.out rfl
    have KI := Lib.hid (fun V : World => rkids kk V)
    rcases kids_cases kk with hk | hk | hk
    · rw [hk] at KI
      have ea := HKX.out.2.2.1 hk
      have eb := HKX.out.2.2.2 (by rw [hk]; decide)
      have ea2 := HKY.out.2.2.1 (HKE.out.symm.trans hk)
      have eb2 := HKY.out.2.2.2 (by rw [← HKE.out, hk]; decide)
      try simp only at ea eb ea2 eb2
      subst ea eb ea2 eb2
      clear hk
      go_wp2_with fail
      refine (KI.out V8).mono ?_
      rintro e w9 ⟨rfl, rfl⟩
      go_wp2_with fail
      refine (KI.out V8).mono ?_
      rintro e w9 ⟨rfl, rfl⟩
      go_wp2_with fail
      go_returns
      have hz : ∀ M N, Cor p M N → CorP p who M 0 0 true M N := fun M N h => corP_met h h.zero
      exact ⟨true, _, _, rfl, HA8.out, HB8.out, BTH.out _ _ _ _ (hz _ _ HC8.out) (hz _ _ HC8.out), HG8.out⟩
    · rw [hk] at KI
      have eb := HKX.out.2.2.2 (by rw [hk]; decide)
      have eb2 := HKY.out.2.2.2 (by rw [← HKE.out, hk]; decide)
      have ia := HKX.out.1 (by omega)
      have ia2 := HKY.out.1 (by have := HKE.out; omega)
      try simp only at eb eb2
      subst eb eb2
      have CA := Lib.hid (IA.out ia ia2 V8 _ _ HS8.out HRF8.out HR8.out HC8.out HA8.out HB8.out)
      clear hk ia ia2
      go_wp2_with fail
      refine (KI.out V8).mono ?_
      rintro e w9 ⟨rfl, rfl⟩
      go_wp2_with fail
      refine CA.out.mono ?_
      rintro e V9 ⟨r1, m1, n1, rfl, a9, b9, q9, g9⟩
      have HX9 := Lib.hid (g9.hold NodeT (by decide) _ _ HX8.out)
      have z0 : V9.cell? ⟨xn, 0, none⟩ = some (.int .i64 kk) := cellB (j := 0) HX9.out rfl
      have HA9 := Lib.hid a9
      have HB9 := Lib.hid b9
      have HQ9 := Lib.hid q9
      have HG9 := Lib.hid (HG8.out.trans g9)
      clear a9 b9 q9 g9 x0 x5 y5 x6 y6 CA
      cases r1 with
      | false =>
        go_wp2_with fail
        go_returns
        exact ⟨false, _, _, rfl, HA9.out, HB9.out, LFT.out _ _ HQ9.out, HG9.out⟩
      | true =>
        go_wp2_with fail
        refine (KI.out V9).mono ?_
        rintro e w9 ⟨rfl, rfl⟩
        go_wp2_with fail
        go_returns
        have hz : ∀ M N, Cor p M N → CorP p who M 0 0 true M N := fun M N h => corP_met h h.zero
        exact ⟨true, _, _, rfl, HA9.out, HB9.out, BTH.out _ _ _ _ HQ9.out (hz _ _ (HQ9.out.1 rfl).1), HG9.out⟩
    · rw [hk] at KI
      have ia := HKX.out.1 (by omega)
      have ia2 := HKY.out.1 (by have := HKE.out; omega)
      have ib := HKX.out.2.1 hk
      have ib2 := HKY.out.2.1 (HKE.out.symm.trans hk)
      have CA := Lib.hid (IA.out ia ia2 V8 _ _ HS8.out HRF8.out HR8.out HC8.out HA8.out HB8.out)
      have CB := Lib.hid (IB.out ib ib2)
      clear hk ia ia2 ib ib2
      go_wp2_with fail
      refine (KI.out V8).mono ?_
      rintro e w9 ⟨rfl, rfl⟩
      go_wp2_with fail
      refine CA.out.mono ?_
      rintro e V9 ⟨r1, m1, n1, rfl, a9, b9, q9, g9⟩
      have HX9 := Lib.hid (g9.hold NodeT (by decide) _ _ HX8.out)
      have HY9 := Lib.hid (g9.hold NodeT (by decide) _ _ HY8.out)
      have z0 : V9.cell? ⟨xn, 0, none⟩ = some (.int .i64 kk) := cellB (j := 0) HX9.out rfl
      have z6 : V9.cell? ⟨xn, 6, none⟩ = some (.int .i64 xb) := cellB (j := 6) HX9.out rfl
      have u6 : V9.cell? ⟨yn, 6, none⟩ = some (.int .i64 b2) := cellB (j := 6) HY9.out rfl
      have HA9 := Lib.hid a9
      have HB9 := Lib.hid b9
      have HQ9 := Lib.hid q9
      have HG9 := Lib.hid (HG8.out.trans g9)
      have HRF9 := Lib.hid (g9.ref HRF8.out)
      have HR9 := Lib.hid (g9.hold RelT (by decide) _ _ HR8.out)
      have HS9 : Hid (B ≤ V9.heap.size) := Lib.hid (Nat.le_trans HS8.out g9.below.size)
      clear a9 b9 q9 g9 x0 x5 y5 x6 y6 CA
      cases r1 with
      | false =>
        go_wp2_with fail
        go_returns
        exact ⟨false, _, _, rfl, HA9.out, HB9.out, LFT.out _ _ HQ9.out, HG9.out⟩
      | true =>
        have CB9 := Lib.hid (CB.out V9 _ _ HS9.out HRF9.out HR9.out (HQ9.out.1 rfl).1 HA9.out HB9.out)
        go_wp2_with fail
        refine (KI.out V9).mono ?_
        rintro e w9 ⟨rfl, rfl⟩
        go_wp2_with fail
        refine CB9.out.mono ?_
        rintro e V10 ⟨r2, m2, n2, rfl, a9, b9, q9, g9⟩
        have HA10 := Lib.hid a9
        have HB10 := Lib.hid b9
        have HQ10 := Lib.hid q9
        have HG10 := Lib.hid (HG9.out.trans g9)
        clear a9 b9 q9 g9 CB9 z0 z6 u6
        go_wp2_with fail
        go_returns
        refine ⟨r2, _, _, rfl, HA10.out, HB10.out, ?_, HG10.out⟩
        cases r2 with
        | false => exact RGT.out _ _ _ _ HQ9.out HQ10.out
        | true => exact BTH.out _ _ _ _ HQ9.out HQ10.out
  · have e1 : (kk != k2) = true := by rw [bne, ebF hk]; rfl
    rw [ebF hk, Bool.false_or] at sk
    have T1 : Hid (∀ (V : World) (n : Nat), Calls Tryd.prog 63 #[.int .i64 kk] (V.drewN n) fun e w'' => e = .returned (.bool (twoK kk)) ∧ ∃ m, w'' = V.drewN m) := Lib.hid fun V n => (rtwo_any kk _).mono fun _ _ ⟨e, h⟩ => ⟨e, n, h.symm⟩
    have T2 : Hid (∀ (V : World) (n : Nat), Calls Tryd.prog 63 #[.int .i64 k2] (V.drewN n) fun e w'' => e = .returned (.bool (twoK k2)) ∧ ∃ m, w'' = V.drewN m) := Lib.hid fun V n => (rtwo_any k2 _).mono fun _ _ ⟨e, h⟩ => ⟨e, n, h.symm⟩
    have T3 : Hid (∀ (V : World) (n : Nat), Calls Tryd.prog 46 #[.int .i64 who, .int .i64 ff, .int .i64 tt] (V.drewN n) fun e w'' => e = .returned (.bool (tellK who ff tt)) ∧ ∃ m, w'' = V.drewN m) := Lib.hid fun V n => (rtellsk_any who ff tt _).mono fun _ _ ⟨e, h⟩ => ⟨e, n, h.symm⟩
    have HKE : Hid (twoK kk = true → twoK k2 = true → kidsN kk = kidsN k2) := Lib.hid fun h1 h2 => by
      unfold twoK at h1 h2
      simp only [Bool.or_eq_true, beq_iff_eq] at h1 h2
      unfold kidsN
      rcases h1 with rfl | rfl <;> rcases h2 with rfl | rfl <;> rfl
    clear TW TL
    generalize twoK kk = q1 at *
    generalize twoK k2 = q2 at *
    generalize tellK who ff tt = q3 at *
    cases q1 with
    | false =>
      have hq : sameB who ⟨kk, ff, tt, uu, ss, xa, xb⟩ ⟨k2, ff, tt, uu, ss, a2, b2⟩ = false := by rw [sk]; rfl
      go_quiet ((first | (go_at_call 63; first | exact T1.out _ _ | exact T2.out _ _) | (go_at_call 46; exact T3.out _ _)))
      go_wp2_with fail
      go_returns
      have hdn := bdn V6 nq
      exact ⟨false, _, _, rfl, HA.out.below hdn, HB2.out.below hdn, UNL.out _ _ hq, HG.out.trans (RcG.of (Nat.le_trans HSB.out HG.out.below.size) hdn)⟩
    | true =>
      cases q2 with
      | false =>
        have hq : sameB who ⟨kk, ff, tt, uu, ss, xa, xb⟩ ⟨k2, ff, tt, uu, ss, a2, b2⟩ = false := by rw [sk]; rfl
        go_quiet ((first | (go_at_call 63; first | exact T1.out _ _ | exact T2.out _ _) | (go_at_call 46; exact T3.out _ _)))
        go_wp2_with fail
        go_returns
        have hdn := bdn V6 nq
        exact ⟨false, _, _, rfl, HA.out.below hdn, HB2.out.below hdn, UNL.out _ _ hq, HG.out.trans (RcG.of (Nat.le_trans HSB.out HG.out.below.size) hdn)⟩
      | true =>
        cases q3 with
        | true =>
          have hq : sameB who ⟨kk, ff, tt, uu, ss, xa, xb⟩ ⟨k2, ff, tt, uu, ss, a2, b2⟩ = false := by rw [sk]; rfl
          go_quiet ((first | (go_at_call 63; first | exact T1.out _ _ | exact T2.out _ _) | (go_at_call 46; exact T3.out _ _)))
          go_wp2_with fail
          go_returns
          have hdn := bdn V6 nq
          exact ⟨false, _, _, rfl, HA.out.below hdn, HB2.out.below hdn, UNL.out _ _ hq, HG.out.trans (RcG.of (Nat.le_trans HSB.out HG.out.below.size) hdn)⟩
        | false =>
          have hq : sameB who ⟨kk, ff, tt, uu, ss, xa, xb⟩ ⟨k2, ff, tt, uu, ss, a2, b2⟩ = true := by rw [sk]; rfl
          replace HKE := Lib.hid (HKE.out rfl rfl)
          have BTH := Lib.hid (fun (m1 n1 m' n' : Int → Option Int) => BTH0.out m1 n1 m' n' hq)
          clear sk hq hk
          go_quiet ((first | (go_at_call 63; first | exact T1.out _ _ | exact T2.out _ _) | (go_at_call 46; exact T3.out _ _)))
          have hdn := bdn V6 nq
          replace HG := Lib.hid (HG.out.trans (RcG.of (Nat.le_trans HSB.out HG.out.below.size) hdn))
          replace HA := Lib.hid (HA.out.below hdn)
          replace HB2 := Lib.hid (HB2.out.below hdn)
          replace HR := Lib.hid (Hold.below hdn _ _ HR.out)
          replace HX := Lib.hid (Hold.below hdn _ _ HX.out)
          replace HY := Lib.hid (Hold.below hdn _ _ HY.out)
          replace HRF := Lib.hid (HRF.out.below hdn)
          clear hdn r1 x0 x1 x2 x3 x4 y0 y1 y2 y3 y4
          generalize (V6.drewN nq) = V6 at *
          have r2 : V6.cell? ⟨rb, 2, none⟩ = some (.slice (some ⟨ab, 0, none⟩) (p.length + 1) (p.length + 1)) := cellB (j := 2) HR.out rfl
          have fa : V6.frozen? ⟨ab, x, none⟩ = false := HA.out.frozen
          have ca := HA.out.cell HXR.out.1 HXR.out.2
          have j0 : (0 : Int) ≤ (x : Int) := by first | (have := HXR.out; have := HYR.out; omega) | omega
          have j1 : (x : Int) < ((p.length + 1 : Nat) : Int) := by first | (have := HXR.out; have := HYR.out; omega) | omega
          have k0 : (0 : Int) ≤ (y : Int) := by first | (have := HXR.out; have := HYR.out; omega) | omega
          have k1 : (y : Int) < ((p.length + 1 : Nat) : Int) := by first | (have := HXR.out; have := HYR.out; omega) | omega
          go_upto_region 10 with fail
          have hg7 : RcG B V6 (V6.setCell ⟨ab, x, none⟩ (.int .i64 (y : Int))) := RcG.put HA.out HAB.out x _
          have HA7 := Lib.hid (HA.out.put HXR.out.1 HXR.out.2 (y : Int))
          have HB7 : Hid (ArM (V6.setCell ⟨ab, x, none⟩ (.int .i64 (y : Int))) bb p.length n) := Lib.hid (HB2.out.same (Below.heap_setCell _ _ _ _ (fun e => HNE.out e.symm)))
          have HG7 := Lib.hid (HG.out.trans hg7)
          have HR7 := Lib.hid (hg7.hold RelT (by decide) _ _ HR.out)
          have HX7 := Lib.hid (hg7.hold NodeT (by decide) _ _ HX.out)
          have HY7 := Lib.hid (hg7.hold NodeT (by decide) _ _ HY.out)
          have HRF7 := Lib.hid (hg7.ref HRF.out)
          clear r2 fa ca hg7 HA HB2 HG HR HX HY HRF
          generalize (V6.setCell ⟨ab, x, none⟩ (.int .i64 (y : Int))) = V7 at *
          have r3 : V7.cell? ⟨rb, 3, none⟩ = some (.slice (some ⟨bb, 0, none⟩) (p.length + 1) (p.length + 1)) := cellB (j := 3) HR7.out rfl
          have fb : V7.frozen? ⟨bb, y, none⟩ = false := HB7.out.frozen
          have cb := HB7.out.cell HYR.out.1 HYR.out.2
          go_upto_region 11 with fail
          have hg8 : RcG B V7 (V7.setCell ⟨bb, y, none⟩ (.int .i64 (x : Int))) := RcG.put HB7.out HBB.out y _
          have HB8 := Lib.hid (HB7.out.put HYR.out.1 HYR.out.2 (x : Int))
          have HA8 : Hid (ArM (V7.setCell ⟨bb, y, none⟩ (.int .i64 (x : Int))) ab p.length _) := Lib.hid (HA7.out.same (Below.heap_setCell _ _ _ _ HNE.out))
          have HG8 := Lib.hid (HG7.out.trans hg8)
          have HR8 := Lib.hid (hg8.hold RelT (by decide) _ _ HR7.out)
          have HX8 := Lib.hid (hg8.hold NodeT (by decide) _ _ HX7.out)
          have HY8 := Lib.hid (hg8.hold NodeT (by decide) _ _ HY7.out)
          have HRF8 := Lib.hid (hg8.ref HRF7.out)
          clear r3 fb cb hg8 HA7 HB7 HG7 HR7 HX7 HY7 HRF7 j0 j1 k0 k1
          generalize (V7.setCell ⟨bb, y, none⟩ (.int .i64 (x : Int))) = V8 at *
          have HS8 : Hid (B ≤ V8.heap.size) := Lib.hid (Nat.le_trans HSB.out HG8.out.below.size)
          have x0 : V8.cell? ⟨xn, 0, none⟩ = some (.int .i64 kk) := cellB (j := 0) HX8.out rfl
          have x5 : V8.cell? ⟨xn, 5, none⟩ = some (.int .i64 xa) := cellB (j := 5) HX8.out rfl
          have y5 : V8.cell? ⟨yn, 5, none⟩ = some (.int .i64 a2) := cellB (j := 5) HY8.out rfl
          have x6 : V8.cell? ⟨xn, 6, none⟩ = some (.int .i64 xb) := cellB (j := 6) HX8.out rfl
          have y6 : V8.cell? ⟨yn, 6, none⟩ = some (.int .i64 b2) := cellB (j := 6) HY8.out rfl
          have KI := Lib.hid (fun V : World => rkids kk V)
          rcases kids_cases kk with hk | hk | hk
          · rw [hk] at KI
            have ea := HKX.out.2.2.1 hk
            have eb := HKX.out.2.2.2 (by rw [hk]; decide)
            have ea2 := HKY.out.2.2.1 (HKE.out.symm.trans hk)
            have eb2 := HKY.out.2.2.2 (by rw [← HKE.out, hk]; decide)
            try simp only at ea eb ea2 eb2
            subst ea eb ea2 eb2
            clear hk
            go_wp2_with fail
            refine (KI.out V8).mono ?_
            rintro e w9 ⟨rfl, rfl⟩
            go_wp2_with fail
            refine (KI.out V8).mono ?_
            rintro e w9 ⟨rfl, rfl⟩
            go_wp2_with fail
            go_returns
            have hz : ∀ M N, Cor p M N → CorP p who M 0 0 true M N := fun M N h => corP_met h h.zero
            exact ⟨true, _, _, rfl, HA8.out, HB8.out, BTH.out _ _ _ _ (hz _ _ HC8.out) (hz _ _ HC8.out), HG8.out⟩
          · rw [hk] at KI
            have eb := HKX.out.2.2.2 (by rw [hk]; decide)
            have eb2 := HKY.out.2.2.2 (by rw [← HKE.out, hk]; decide)
            have ia := HKX.out.1 (by omega)
            have ia2 := HKY.out.1 (by have := HKE.out; omega)
            try simp only at eb eb2
            subst eb eb2
            have CA := Lib.hid (IA.out ia ia2 V8 _ _ HS8.out HRF8.out HR8.out HC8.out HA8.out HB8.out)
            clear hk ia ia2
            go_wp2_with fail
            refine (KI.out V8).mono ?_
            rintro e w9 ⟨rfl, rfl⟩
            go_wp2_with fail
            refine CA.out.mono ?_
            rintro e V9 ⟨r1, m1, n1, rfl, a9, b9, q9, g9⟩
            have HX9 := Lib.hid (g9.hold NodeT (by decide) _ _ HX8.out)
            have z0 : V9.cell? ⟨xn, 0, none⟩ = some (.int .i64 kk) := cellB (j := 0) HX9.out rfl
            have HA9 := Lib.hid a9
            have HB9 := Lib.hid b9
            have HQ9 := Lib.hid q9
            have HG9 := Lib.hid (HG8.out.trans g9)
            clear a9 b9 q9 g9 x0 x5 y5 x6 y6 CA
            cases r1 with
            | false =>
              go_wp2_with fail
              go_returns
              exact ⟨false, _, _, rfl, HA9.out, HB9.out, LFT.out _ _ HQ9.out, HG9.out⟩
            | true =>
              go_wp2_with fail
              refine (KI.out V9).mono ?_
              rintro e w9 ⟨rfl, rfl⟩
              go_wp2_with fail
              go_returns
              have hz : ∀ M N, Cor p M N → CorP p who M 0 0 true M N := fun M N h => corP_met h h.zero
              exact ⟨true, _, _, rfl, HA9.out, HB9.out, BTH.out _ _ _ _ HQ9.out (hz _ _ (HQ9.out.1 rfl).1), HG9.out⟩
          · rw [hk] at KI
            have ia := HKX.out.1 (by omega)
            have ia2 := HKY.out.1 (by have := HKE.out; omega)
            have ib := HKX.out.2.1 hk
            have ib2 := HKY.out.2.1 (HKE.out.symm.trans hk)
            have CA := Lib.hid (IA.out ia ia2 V8 _ _ HS8.out HRF8.out HR8.out HC8.out HA8.out HB8.out)
            have CB := Lib.hid (IB.out ib ib2)
            clear hk ia ia2 ib ib2
            go_wp2_with fail
            refine (KI.out V8).mono ?_
            rintro e w9 ⟨rfl, rfl⟩
            go_wp2_with fail
            refine CA.out.mono ?_
            rintro e V9 ⟨r1, m1, n1, rfl, a9, b9, q9, g9⟩
            have HX9 := Lib.hid (g9.hold NodeT (by decide) _ _ HX8.out)
            have HY9 := Lib.hid (g9.hold NodeT (by decide) _ _ HY8.out)
            have z0 : V9.cell? ⟨xn, 0, none⟩ = some (.int .i64 kk) := cellB (j := 0) HX9.out rfl
            have z6 : V9.cell? ⟨xn, 6, none⟩ = some (.int .i64 xb) := cellB (j := 6) HX9.out rfl
            have u6 : V9.cell? ⟨yn, 6, none⟩ = some (.int .i64 b2) := cellB (j := 6) HY9.out rfl
            have HA9 := Lib.hid a9
            have HB9 := Lib.hid b9
            have HQ9 := Lib.hid q9
            have HG9 := Lib.hid (HG8.out.trans g9)
            have HRF9 := Lib.hid (g9.ref HRF8.out)
            have HR9 := Lib.hid (g9.hold RelT (by decide) _ _ HR8.out)
            have HS9 : Hid (B ≤ V9.heap.size) := Lib.hid (Nat.le_trans HS8.out g9.below.size)
            clear a9 b9 q9 g9 x0 x5 y5 x6 y6 CA
            cases r1 with
            | false =>
              go_wp2_with fail
              go_returns
              exact ⟨false, _, _, rfl, HA9.out, HB9.out, LFT.out _ _ HQ9.out, HG9.out⟩
            | true =>
              have CB9 := Lib.hid (CB.out V9 _ _ HS9.out HRF9.out HR9.out (HQ9.out.1 rfl).1 HA9.out HB9.out)
              go_wp2_with fail
              refine (KI.out V9).mono ?_
              rintro e w9 ⟨rfl, rfl⟩
              go_wp2_with fail
              refine CB9.out.mono ?_
              rintro e V10 ⟨r2, m2, n2, rfl, a9, b9, q9, g9⟩
              have HA10 := Lib.hid a9
              have HB10 := Lib.hid b9
              have HQ10 := Lib.hid q9
              have HG10 := Lib.hid (HG9.out.trans g9)
              clear a9 b9 q9 g9 CB9 z0 z6 u6
              go_wp2_with fail
              go_returns
              refine ⟨r2, _, _, rfl, HA10.out, HB10.out, ?_, HG10.out⟩
              cases r2 with
              | false => exact RGT.out _ _ _ _ HQ9.out HQ10.out
              | true => exact BTH.out _ _ _ _ HQ9.out HQ10.out
end
end Go.Proofs.YtgaklaajbepfaaaDoor
namespace Go.Proofs.YtgaklaajbepfaaaDoor
open Go.RowKit Go.Maps Go.Shelf
set_option linter.unusedVariables false

theorem in_nat {p : Pl} {t : Int} (h : inP p t = true) : ∃ n : Nat, t = (n : Int) ∧ 1 ≤ n ∧ n ≤ p.length := by
  unfold inP at h
  simp only [Bool.and_eq_true, decide_eq_true_eq] at h
  exact ⟨t.toNat, by omega, by omega, by omega⟩
section
variable {B B0 a : Nat} {vl vs vd : Value} {p : Pl} {who : Int} {rb ab bb : Nat}
theorem rc_all (hp0 : Ok p) (hne : ab ≠ bb) (hab : B ≤ ab) (hbb : B ≤ bb) : ∀ (k x y : Nat), x < k → (1 ≤ x ∧ x ≤ p.length) → (1 ≤ y ∧ y ≤ p.length) → RcC B B0 a vl vs vd p who rb ab bb (x : Int) (y : Int)
  | 0, _, _, h, _, _ => absurd h (Nat.not_lt_zero _)
  | k + 1, x, y, h, hx, hy => fun W m n hB hp hr hC h1 h2 => by
    cases hm : m (x : Int) with
    | some o => exact rc_met hx hy hB hr hC h1 h2 hm
    | none =>
      cases hn : n (y : Int) with
      | some o => exact rc_taken hx hy hB hr hC h1 h2 hm hn
      | none =>
        have hxi : inP p (x : Int) = true := by unfold inP; simp; omega
        obtain ⟨ka, kb⟩ := kid_less hp0 hxi
        refine rc_new hx hy hne hab hbb (fun i1 i2 => ?_) (fun i1 i2 => ?_) hB hp hr hC h1 h2 hm hn
        · obtain ⟨c, hc, c1, c2⟩ := in_nat i1
          obtain ⟨d, hd, d1, d2⟩ := in_nat i2
          rw [hc] at ka
          rw [hc, hd]
          exact rc_all hp0 hne hab hbb k c d (by rcases ka with e | e <;> omega) ⟨c1, c2⟩ ⟨d1, d2⟩
        · obtain ⟨c, hc, c1, c2⟩ := in_nat i1
          obtain ⟨d, hd, d1, d2⟩ := in_nat i2
          rw [hc] at kb
          rw [hc, hd]
          exact rc_all hp0 hne hab hbb k c d (by rcases kb with e | e <;> omega) ⟨c1, c2⟩ ⟨d1, d2⟩
end
def tmC (n : Nat) : Array Value := madeCells (Value.int .i64 0).cells (n * 1)
theorem tmC_size (n : Nat) : (tmC n).size = n := by rw [tmC, size_madeCells, Nat.mul_one]
theorem tmC_at (n j : Nat) (h : j < n) : (tmC n)[j]? = some (.int .i64 0) := by
  unfold tmC madeCells
  rw [show (Value.int .i64 0).cells = #[Value.int .i64 0] from rfl]
  simp [h, Nat.mod_one]
theorem rowTm : (Tryd.prog.info? TermT).map (fun i => (i.zero, i.size, i.bytes)) = some (some (.int .i64 0), 1, 8) := by kernel_rfl
theorem ArM.start {w : World} {ab n : Nat} (h : w.heap[ab]? = some (Obj.cells (tmC (n + 1)) TermT)) : ArM w ab n anew0 := by
  refine ⟨_, h, tmC_size _, fun x h1 h2 => ?_⟩
  rw [tmC_at _ _ (by omega)]
  unfold anew0
  rw [if_neg (by omega)]; rfl
theorem rin_mk {w : World} {B a : Nat} {vl vs vd : Value} {p : Pl} (h : IsRef w B a vl vs vd p) (t : Int) : ∀ n : Nat, Calls Tryd.prog 16 #[.pointer (some ⟨a, 0, none⟩), .int .i64 t] (w.drewN n) fun e w'' => e = .returned (.bool (inP p t)) ∧ ∃ m, w'' = w.drewN m :=
  fun n => (rin (h.below (bdn w n)) t).mono fun _ _ ⟨e, h⟩ => ⟨e, n, h.symm⟩
theorem AlikeP.not_in {p : Pl} {who : Int} {l m : List Int} {x : Int} (h : x ∈ l ∨ x ∈ m) (hx : inP p x = false) : ¬ AlikeP p who l m := fun g => by
  rcases h with h | h
  · rw [g.2.1 x h] at hx; cases hx
  · rw [g.2.2.1 x h] at hx; cases hx
theorem nameK_eq (n : Int) : nameK n = nameB n := rfl
theorem rel_start (w : World) (n : Nat) (cs : Array Value) : ArM ((((w.alloc (.cells (tmC (n + 1)) TermT)).alloc (.cells (tmC (n + 1)) TermT)).alloc (.cells cs RelT)).drew) w.heap.size n anew0 ∧ ArM ((((w.alloc (.cells (tmC (n + 1)) TermT)).alloc (.cells (tmC (n + 1)) TermT)).alloc (.cells cs RelT)).drew) (w.heap.size + 1) n anew0 ∧ ((((w.alloc (.cells (tmC (n + 1)) TermT)).alloc (.cells (tmC (n + 1)) TermT)).alloc (.cells cs RelT)).drew).heap[w.heap.size + 1 + 1]? = some (Obj.cells cs RelT) ∧ Below w.heap.size w ((((w.alloc (.cells (tmC (n + 1)) TermT)).alloc (.cells (tmC (n + 1)) TermT)).alloc (.cells cs RelT)).drew) := by
  have s1 : (w.alloc (.cells (tmC (n + 1)) TermT)).heap.size = w.heap.size + 1 := by simp [World.size_alloc]
  have s2 : ((w.alloc (.cells (tmC (n + 1)) TermT)).alloc (.cells (tmC (n + 1)) TermT)).heap.size = w.heap.size + 1 + 1 := by simp [World.size_alloc]
  have b1 := bA0 w (.cells (tmC (n + 1)) TermT)
  have b2 := bA0 (w.alloc (.cells (tmC (n + 1)) TermT)) (.cells (tmC (n + 1)) TermT)
  have b3 := bA0 ((w.alloc (.cells (tmC (n + 1)) TermT)).alloc (.cells (tmC (n + 1)) TermT)) (.cells cs RelT)
  have x1 : (w.alloc (.cells (tmC (n + 1)) TermT)).heap[w.heap.size]? = some (Obj.cells (tmC (n + 1)) TermT) := heap_alloc_new _ _
  have x2 : ((w.alloc (.cells (tmC (n + 1)) TermT)).alloc (.cells (tmC (n + 1)) TermT)).heap[w.heap.size + 1]? = some (Obj.cells (tmC (n + 1)) TermT) := by rw [← s1]; exact heap_alloc_new _ _
  have x3 : (((w.alloc (.cells (tmC (n + 1)) TermT)).alloc (.cells (tmC (n + 1)) TermT)).alloc (.cells cs RelT)).heap[w.heap.size + 1 + 1]? = some (Obj.cells cs RelT) := by rw [← s2]; exact heap_alloc_new _ _
  exact ⟨ArM.start (Hold.below (bd _) _ _ (Hold.below b3 _ _ (Hold.below b2 _ _ x1))), ArM.start (Hold.below (bd _) _ _ (Hold.below b3 _ _ x2)), Hold.below (bd _) _ _ x3, bmore (bmore (bmore b1 b2) b3) (bd _)⟩
set_option maxRecDepth 100000 in
set_option maxHeartbeats 51200000 in
theorem rAlike_any {w : World} {B a : Nat} {vl vs vd : Value} {p : Pl} (h : IsRef w B a vl vs vd p) (who : Int) {ul um : Value} {l m : List Int} (hl : Row w 1 ul l.length (ints l)) (hm : Row w 1 um m.length (ints m)) (hll : l.length ≤ 1000000) (hml : m.length ≤ 1000000) : Calls Tryd.prog 12 #[.pointer (some ⟨a, 0, none⟩), .int .i64 who, ul, um] w fun e w' => ∃ r, e = .returned (.bool r) ∧ (r = true ↔ AlikeP p who l m) ∧ Below w.heap.size w w' := by
  obtain ⟨la, lc, rfl, hlx⟩ := hl.at
  obtain ⟨ma, mc, rfl, hmx⟩ := hm.at
  obtain ⟨av, cv, rfl⟩ := (row_of_own h.rl).shape
  have c0 := cellB (j := 0) h.lay rfl
  have hlen := h.ok.len
  obtain ⟨i1, hi, hz0, hz1, hz2⟩ := info_parts rowTm
  have hmk : ∀ W : World, (Instr.makeSlice SlTT (.int .i64 ((p.length : Int) + 1)) (.int .i64 ((p.length : Int) + 1))).run Tryd.prog W = .ok (.slice (some ⟨W.heap.size, 0, none⟩) (p.length + 1) (p.length + 1)) (W.alloc (.cells (tmC (p.length + 1)) TermT)) := fun W => by
    have := run_make (P := Tryd.prog) W SlTT TermT i1 (.int .i64 0) Tryd.underlying23 hi hz0 .i64 .i64 (p.length + 1) (p.length + 1) (by omega) (Int.le_refl _) (by rw [hz2]; omega) (by omega)
    rw [hz1] at this
    simpa [tmC] using this
  have HNM := Lib.hid (nameK_eq who)
  have RN := rname_any who w
  have H := Lib.hid h
  have HL := Lib.hid hl
  have HM := Lib.hid hm
  have HLX := Lib.hid hlx
  have HMX := Lib.hid hmx
  clear h hl hm hlx hmx hi hz0 hz1 hz2
  generalize nameK who = qn at *
  cases qn with
  | false =>
    go_enter Tryd.func12, Tryd.ntmps12
    go_wp2_with fail
    refine RN.mono ?_
    rintro e w1 ⟨rfl, rfl⟩
    go_wp2_with fail
    go_returns
    exact ⟨false, rfl, ⟨fun e => (by cases e), fun g => by have := g.1; rw [← HNM.out] at this; cases this⟩, Below.refl _ _⟩
  | true =>
    by_cases hlm : l.length = m.length
    case neg =>
      have e1 : ((l.length : Int) != (m.length : Int)) = true := by rw [bne, ebF (by omega)]; rfl
      go_enter Tryd.func12, Tryd.ntmps12
      go_wp2_with fail
      refine RN.mono ?_
      rintro e w1 ⟨rfl, rfl⟩
      go_wp2_with fail
      go_returns
      exact ⟨false, rfl, ⟨fun e => (by cases e), fun g => absurd g.2.2.2.1 hlm⟩, Below.refl _ _⟩
    have e1 : ((l.length : Int) != (m.length : Int)) = false := by rw [hlm]; simp
    have HLM := Lib.hid hlm
    clear hlm
    go_enter Tryd.func12, Tryd.ntmps12
    go_wp2_with fail
    refine RN.mono ?_
    rintro e w1 ⟨rfl, rfl⟩
    go_upto_region 3 with fail
    have c1 : (w.alloc (.cells (tmC (p.length + 1)) TermT)).cell? ⟨a, 0, none⟩ = some (.slice av p.length cv) := bcellAt (bA0 w _) c0
    have hnn := List.length_nil (α := Int)
    go_region
    · obtain ⟨f1, f2, f3, f4⟩ := rel_start w p.length #[.pointer (some ⟨a, 0, none⟩), .int .i64 who, .slice (some ⟨w.heap.size, 0, none⟩) (p.length + 1) (p.length + 1), .slice (some ⟨(w.heap.size + 1), 0, none⟩) (p.length + 1) (p.length + 1)]
      have HA := Lib.hid f1
      have HB := Lib.hid f2
      have HRL := Lib.hid f3
      have HU := Lib.hid f4
      have HP := Lib.hid (H.out.below f4)
      clear f1 f2 f3 f4 c0 c1 hmk
      generalize ((((w.alloc (.cells (tmC (p.length + 1)) TermT)).alloc (.cells (tmC (p.length + 1)) TermT)).alloc (.cells #[.pointer (some ⟨a, 0, none⟩), .int .i64 who, .slice (some ⟨w.heap.size, 0, none⟩) (p.length + 1) (p.length + 1), .slice (some ⟨(w.heap.size + 1), 0, none⟩) (p.length + 1) (p.length + 1)] RelT)).drew) = W3 at *
      generalize w.heap.size + 1 + 1 = rb at *
      have HCO : Hid (∀ x y : Int, inP p x = true → inP p y = true → RcC w.heap.size B a (.slice av p.length cv) vs vd p who rb w.heap.size (w.heap.size + 1) x y) := Lib.hid fun x y hx hy => by
        obtain ⟨c, rfl, c1, c2⟩ := in_nat hx
        obtain ⟨d, rfl, d1, d2⟩ := in_nat hy
        exact rc_all H.out.ok (by omega) (by omega) (by omega) (c + 1) c d (Nat.lt_succ_self _) ⟨c1, c2⟩ ⟨d1, d2⟩
      obtain ⟨wo, hwo⟩ : ∃ wo, wo = W3 := ⟨_, rfl⟩
      go_wp2_with fail
      go_loopw [10] (fun v10 wr => ∃ (i : Nat), v10 = .int .i64 (i : Int) ∧ i ≤ l.length ∧ (∀ j (h : j < l.length) (h' : j < m.length), j < i → inP p l[j] = true ∧ inP p m[j] = true) ∧ ArM wr w.heap.size p.length anew0 ∧ ArM wr (w.heap.size + 1) p.length anew0 ∧ wr.heap[rb]? = some (Obj.cells #[.pointer (some ⟨a, 0, none⟩), .int .i64 who, .slice (some ⟨w.heap.size, 0, none⟩) (p.length + 1) (p.length + 1), .slice (some ⟨(w.heap.size + 1), 0, none⟩) (p.length + 1) (p.length + 1)] RelT) ∧ IsRef wr B a (.slice av p.length cv) vs vd p ∧ Below w.heap.size w wr) (fun v _ => l.length - (intOf v).toNat)
      case atStart => exact ⟨0, rfl, Nat.zero_le _, fun j _ _ h => absurd h (Nat.not_lt_zero _), HA.out, HB.out, HRL.out, HP.out, HU.out⟩
      case round =>
        clear HA HB HRL HP HU
        obtain ⟨i, rfl, hi, hin, ha, hb, hr, hp, hu⟩ := hrel
        have HIN := Lib.hid hin
        have HA := Lib.hid ha
        have HB := Lib.hid hb
        have HRL := Lib.hid hr
        have HP := Lib.hid hp
        have HU := Lib.hid hu
        clear hin ha hb hr hp
        by_cases hlt : i < l.length
        · have hlt2 : i < m.length := by have := HLM.out; omega
          obtain ⟨lb, lo, rfl, ql⟩ := HLX.out (by omega)
          obtain ⟨nb, no, rfl, qm⟩ := HMX.out (by omega)
          have cl := bcellAt hu (ql i _ (ints_at l i hlt))
          have cm := bcellAt hu (qm i _ (ints_at m i hlt2))
          have hi0 : (0 : Int) ≤ (i : Int) := by omega
          have hi1 : (i : Int) < (l.length : Int) := by omega
          have hi2 : (i : Int) < (m.length : Int) := by omega
          have HNL : Hid (inP p l[i] = false → ¬ AlikeP p who l m) := Lib.hid fun e => AlikeP.not_in (.inl (List.getElem_mem hlt)) e
          have HNM2 : Hid (inP p m[i] = false → ¬ AlikeP p who l m) := Lib.hid fun e => AlikeP.not_in (.inr (List.getElem_mem hlt2)) e
          have HNX : Hid (inP p l[i] = true → inP p m[i] = true → ∀ j (h : j < l.length) (h' : j < m.length), j < i + 1 → inP p l[j] = true ∧ inP p m[j] = true) := Lib.hid fun e1 e2 j h h' hj => by
            rcases Nat.lt_or_ge j i with hj' | hj'
            · exact HIN.out j h h' hj'
            · obtain rfl : j = i := by omega
              exact ⟨e1, e2⟩
          generalize l[i] = x at *
          generalize m[i] = y at *
          clear ql qm hu
          have RX := rin HP.out x
          have RY := rin HP.out y
          generalize inP p x = bx at *
          generalize inP p y = by' at *
          cases bx with
          | false =>
            go_wp2_with fail
            refine RX.mono ?_
            rintro e V ⟨rfl, rfl⟩
            go_wp2_with fail
            go_returns
            exact ⟨false, rfl, ⟨fun e => (by cases e), fun e => absurd e (HNL.out (by trivial))⟩, HU.out⟩
          | true =>
            cases by' with
            | false =>
              go_wp2_with fail
              refine RX.mono ?_
              rintro e V ⟨rfl, rfl⟩
              go_wp2_with fail
              refine RY.mono ?_
              rintro e V ⟨rfl, rfl⟩
              go_wp2_with fail
              go_returns
              exact ⟨false, rfl, ⟨fun e => (by cases e), fun e => absurd e (HNM2.out (by trivial))⟩, HU.out⟩
            | true =>
              go_wp2_with fail
              refine RX.mono ?_
              rintro e V ⟨rfl, rfl⟩
              go_wp2_with fail
              refine RY.mono ?_
              rintro e V ⟨rfl, rfl⟩
              go_wp2_with fail
              go_roundw
              case rel => exact ⟨i + 1, by go_num, by omega, HNX.out (by trivial) (by trivial), HA.out, HB.out, HRL.out, HP.out, HU.out⟩
              case measure => simp [intOf] <;> omega
        · obtain rfl : i = l.length := by omega
          have HLI : Hid (∀ x ∈ l, inP p x = true) := Lib.hid fun x hx => by
            obtain ⟨j, hj, rfl⟩ := List.getElem_of_mem hx
            have := HLM.out
            exact (HIN.out j hj (by omega) hj).1
          have HMI : Hid (∀ x ∈ m, inP p x = true) := Lib.hid fun x hx => by
            obtain ⟨j, hj, rfl⟩ := List.getElem_of_mem hx
            have := HLM.out
            exact (HIN.out j (by omega) hj (by omega)).2
          clear hlt hu HIN
          obtain ⟨wn, rfl⟩ : ∃ wn, wn = wr := ⟨_, rfl⟩
          go_wp2_with fail
          go_loopw [11] (fun v11 wr => ∃ (i : Nat) (m1 n1 : Int → Option Int), v11 = .int .i64 (i : Int) ∧ i ≤ l.length ∧ Upto p who l m i m1 n1 ∧ ArM wr w.heap.size p.length m1 ∧ ArM wr (w.heap.size + 1) p.length n1 ∧ wr.heap[rb]? = some (Obj.cells #[.pointer (some ⟨a, 0, none⟩), .int .i64 who, .slice (some ⟨w.heap.size, 0, none⟩) (p.length + 1) (p.length + 1), .slice (some ⟨(w.heap.size + 1), 0, none⟩) (p.length + 1) (p.length + 1)] RelT) ∧ IsRef wr B a (.slice av p.length cv) vs vd p ∧ Below w.heap.size w wr) (fun v _ => l.length - (intOf v).toNat)
          case atStart => exact ⟨0, _, _, rfl, Nat.zero_le _, Upto.start p who l m, HA.out, HB.out, HRL.out, HP.out, HU.out⟩
          case round =>
            clear HA HB HRL HP HU
            obtain ⟨i, m1, n1, rfl, hi, hup, ha, hb, hr, hp, hu⟩ := hrel
            have HUP := Lib.hid hup
            have HA := Lib.hid ha
            have HB := Lib.hid hb
            have HRL := Lib.hid hr
            have HP := Lib.hid hp
            have HU := Lib.hid hu
            clear hup ha hb hr hp
            by_cases hlt : i < l.length
            · have hlt2 : i < m.length := by have := HLM.out; omega
              obtain ⟨lb, lo, rfl, ql⟩ := HLX.out (by omega)
              obtain ⟨nb, no, rfl, qm⟩ := HMX.out (by omega)
              have cl := bcellAt hu (ql i _ (ints_at l i hlt))
              have cm := bcellAt hu (qm i _ (ints_at m i hlt2))
              have QL := Lib.hid (ql i _ (ints_at l i hlt))
              have QM := Lib.hid (qm i _ (ints_at m i hlt2))
              have hi0 : (0 : Int) ≤ (i : Int) := by omega
              have hi1 : (i : Int) < (l.length : Int) := by omega
              have hi2 : (i : Int) < (m.length : Int) := by omega
              have HSP := Lib.hid (fun (m2 n2 : Int → Option Int) => HUP.out.step (m2 := m2) (n2 := n2) hlt hlt2)
              have HFL := Lib.hid (fun (m2 n2 : Int → Option Int) => HUP.out.fail (m2 := m2) (n2 := n2) hlt hlt2)
              have CC := Lib.hid (HCO.out (l[i]) (m[i]) (HLI.out _ (List.getElem_mem hlt)) (HMI.out _ (List.getElem_mem hlt2)))
              generalize l[i] = x at *
              generalize m[i] = y at *
              have HCC := Lib.hid (fun (V : World) (hV : Below wr.heap.size wr V) => CC.out V m1 n1 (Nat.le_trans HU.out.size hV.size) (HP.out.below hV) (Hold.below hV _ _ HRL.out) HUP.out.cor (HA.out.below hV) (HB.out.below hV))
              have HKP : Hid (∀ V : World, Below w.heap.size wr V → V.cell? ⟨lb, lo + i, none⟩ = some (.int .i64 x) ∧ V.cell? ⟨nb, no + i, none⟩ = some (.int .i64 y)) := Lib.hid fun V h1 => ⟨bcellAt (HU.out.trans h1) QL.out, bcellAt (HU.out.trans h1) QM.out⟩
              have HBS : Hid (w.heap.size ≤ wr.heap.size) := Lib.hid HU.out.size
              clear ql qm hu CC
              go_upto_region 12 with fail
              go_region_held3 (fun w' => w'.cell? ⟨lb, lo + i, none⟩ = some (.int .i64 x) ∧ w'.cell? ⟨nb, no + i, none⟩ = some (.int .i64 y)) ((first | exact HKP.out _ ((bdn _ _).mono HBS.out) | exact HKP.out _ ((bd _).mono HBS.out) | exact HKP.out _ ((Below.mono (by first | exact bdn _ _ | exact bd _ | exact Below.refl _ _) HBS.out).trans g8.below)))
                (((with_reducible refine (HCC.out _ (by first | exact bdn _ _ | exact bd _ | exact Below.refl _ _)).mono ?_); rintro e V8 ⟨r1, m2, n2, rfl, a8, b8, r8, g8⟩))
              have hg8 : RcG w.heap.size wr V8 := (RcG.of HBS.out (by first | exact bdn _ _ | exact bd _ | exact Below.refl _ _)).trans g8
              have HA8 := Lib.hid a8
              have HB8 := Lib.hid b8
              have HR8 := Lib.hid r8
              have HL8 := Lib.hid (hg8.hold RelT (by decide) _ _ HRL.out)
              have HP8 := Lib.hid (hg8.ref HP.out)
              have HU8 := Lib.hid (HU.out.trans hg8.below)
              clear a8 b8 r8 g8 hg8 cl cm HCC HKP
              cases r1 with
              | false =>
                go_wp2_with fail
                go_returns
                exact ⟨false, rfl, ⟨fun e => (by cases e), fun e => absurd e (HFL.out _ _ HR8.out)⟩, HU8.out⟩
              | true =>
                go_wp2_with fail
                go_roundw
                case rel => exact ⟨i + 1, m2, n2, by go_num, by omega, HSP.out _ _ HR8.out, HA8.out, HB8.out, HL8.out, HP8.out, HU8.out⟩
                case measure => simp [intOf] <;> omega
            · obtain rfl : i = l.length := by omega
              have HF : Hid (AlikeP p who l m) := Lib.hid (HUP.out.done HNM.out.symm HLI.out HMI.out HLM.out)
              clear hlt hu
              go_wp2_with fail
              go_returns
              exact ⟨true, rfl, ⟨fun _ => HF.out, fun _ => rfl⟩, HU.out⟩
    · obtain ⟨f1, f2, f3, f4⟩ := rel_start w p.length #[.pointer (some ⟨a, 0, none⟩), .int .i64 who, .slice (some ⟨(w.heap.size + 1), 0, none⟩) (p.length + 1) (p.length + 1), .slice (some ⟨w.heap.size, 0, none⟩) (p.length + 1) (p.length + 1)]
      have HA := Lib.hid f2
      have HB := Lib.hid f1
      have HRL := Lib.hid f3
      have HU := Lib.hid f4
      have HP := Lib.hid (H.out.below f4)
      clear f1 f2 f3 f4 c0 c1 hmk
      generalize ((((w.alloc (.cells (tmC (p.length + 1)) TermT)).alloc (.cells (tmC (p.length + 1)) TermT)).alloc (.cells #[.pointer (some ⟨a, 0, none⟩), .int .i64 who, .slice (some ⟨(w.heap.size + 1), 0, none⟩) (p.length + 1) (p.length + 1), .slice (some ⟨w.heap.size, 0, none⟩) (p.length + 1) (p.length + 1)] RelT)).drew) = W3 at *
      generalize w.heap.size + 1 + 1 = rb at *
      have HCO : Hid (∀ x y : Int, inP p x = true → inP p y = true → RcC w.heap.size B a (.slice av p.length cv) vs vd p who rb (w.heap.size + 1) w.heap.size x y) := Lib.hid fun x y hx hy => by
        obtain ⟨c, rfl, c1, c2⟩ := in_nat hx
        obtain ⟨d, rfl, d1, d2⟩ := in_nat hy
        exact rc_all H.out.ok (by omega) (by omega) (by omega) (c + 1) c d (Nat.lt_succ_self _) ⟨c1, c2⟩ ⟨d1, d2⟩
      obtain ⟨wo, hwo⟩ : ∃ wo, wo = W3 := ⟨_, rfl⟩
      go_wp2_with fail
      go_loopw [10] (fun v10 wr => ∃ (i : Nat), v10 = .int .i64 (i : Int) ∧ i ≤ l.length ∧ (∀ j (h : j < l.length) (h' : j < m.length), j < i → inP p l[j] = true ∧ inP p m[j] = true) ∧ ArM wr (w.heap.size + 1) p.length anew0 ∧ ArM wr w.heap.size p.length anew0 ∧ wr.heap[rb]? = some (Obj.cells #[.pointer (some ⟨a, 0, none⟩), .int .i64 who, .slice (some ⟨(w.heap.size + 1), 0, none⟩) (p.length + 1) (p.length + 1), .slice (some ⟨w.heap.size, 0, none⟩) (p.length + 1) (p.length + 1)] RelT) ∧ IsRef wr B a (.slice av p.length cv) vs vd p ∧ Below w.heap.size w wr) (fun v _ => l.length - (intOf v).toNat)
      case atStart => exact ⟨0, rfl, Nat.zero_le _, fun j _ _ h => absurd h (Nat.not_lt_zero _), HA.out, HB.out, HRL.out, HP.out, HU.out⟩
      case round =>
        clear HA HB HRL HP HU
        obtain ⟨i, rfl, hi, hin, ha, hb, hr, hp, hu⟩ := hrel
        have HIN := Lib.hid hin
        have HA := Lib.hid ha
        have HB := Lib.hid hb
        have HRL := Lib.hid hr
        have HP := Lib.hid hp
        have HU := Lib.hid hu
        clear hin ha hb hr hp
        by_cases hlt : i < l.length
        · have hlt2 : i < m.length := by have := HLM.out; omega
          obtain ⟨lb, lo, rfl, ql⟩ := HLX.out (by omega)
          obtain ⟨nb, no, rfl, qm⟩ := HMX.out (by omega)
          have cl := bcellAt hu (ql i _ (ints_at l i hlt))
          have cm := bcellAt hu (qm i _ (ints_at m i hlt2))
          have hi0 : (0 : Int) ≤ (i : Int) := by omega
          have hi1 : (i : Int) < (l.length : Int) := by omega
          have hi2 : (i : Int) < (m.length : Int) := by omega
          have HNL : Hid (inP p l[i] = false → ¬ AlikeP p who l m) := Lib.hid fun e => AlikeP.not_in (.inl (List.getElem_mem hlt)) e
          have HNM2 : Hid (inP p m[i] = false → ¬ AlikeP p who l m) := Lib.hid fun e => AlikeP.not_in (.inr (List.getElem_mem hlt2)) e
          have HNX : Hid (inP p l[i] = true → inP p m[i] = true → ∀ j (h : j < l.length) (h' : j < m.length), j < i + 1 → inP p l[j] = true ∧ inP p m[j] = true) := Lib.hid fun e1 e2 j h h' hj => by
            rcases Nat.lt_or_ge j i with hj' | hj'
            · exact HIN.out j h h' hj'
            · obtain rfl : j = i := by omega
              exact ⟨e1, e2⟩
          generalize l[i] = x at *
          generalize m[i] = y at *
          clear ql qm hu
          have RX := rin HP.out x
          have RY := rin HP.out y
          generalize inP p x = bx at *
          generalize inP p y = by' at *
          cases bx with
          | false =>
            go_wp2_with fail
            refine RX.mono ?_
            rintro e V ⟨rfl, rfl⟩
            go_wp2_with fail
            go_returns
            exact ⟨false, rfl, ⟨fun e => (by cases e), fun e => absurd e (HNL.out (by trivial))⟩, HU.out⟩
          | true =>
            cases by' with
            | false =>
              go_wp2_with fail
              refine RX.mono ?_
              rintro e V ⟨rfl, rfl⟩
              go_wp2_with fail
              refine RY.mono ?_
              rintro e V ⟨rfl, rfl⟩
              go_wp2_with fail
              go_returns
              exact ⟨false, rfl, ⟨fun e => (by cases e), fun e => absurd e (HNM2.out (by trivial))⟩, HU.out⟩
            | true =>
              go_wp2_with fail
              refine RX.mono ?_
              rintro e V ⟨rfl, rfl⟩
              go_wp2_with fail
              refine RY.mono ?_
              rintro e V ⟨rfl, rfl⟩
              go_wp2_with fail
              go_roundw
              case rel => exact ⟨i + 1, by go_num, by omega, HNX.out (by trivial) (by trivial), HA.out, HB.out, HRL.out, HP.out, HU.out⟩
              case measure => simp [intOf] <;> omega
        · obtain rfl : i = l.length := by omega
          have HLI : Hid (∀ x ∈ l, inP p x = true) := Lib.hid fun x hx => by
            obtain ⟨j, hj, rfl⟩ := List.getElem_of_mem hx
            have := HLM.out
            exact (HIN.out j hj (by omega) hj).1
          have HMI : Hid (∀ x ∈ m, inP p x = true) := Lib.hid fun x hx => by
            obtain ⟨j, hj, rfl⟩ := List.getElem_of_mem hx
            have := HLM.out
            exact (HIN.out j (by omega) hj (by omega)).2
          clear hlt hu HIN
          obtain ⟨wn, rfl⟩ : ∃ wn, wn = wr := ⟨_, rfl⟩
          go_wp2_with fail
          go_loopw [11] (fun v11 wr => ∃ (i : Nat) (m1 n1 : Int → Option Int), v11 = .int .i64 (i : Int) ∧ i ≤ l.length ∧ Upto p who l m i m1 n1 ∧ ArM wr (w.heap.size + 1) p.length m1 ∧ ArM wr w.heap.size p.length n1 ∧ wr.heap[rb]? = some (Obj.cells #[.pointer (some ⟨a, 0, none⟩), .int .i64 who, .slice (some ⟨(w.heap.size + 1), 0, none⟩) (p.length + 1) (p.length + 1), .slice (some ⟨w.heap.size, 0, none⟩) (p.length + 1) (p.length + 1)] RelT) ∧ IsRef wr B a (.slice av p.length cv) vs vd p ∧ Below w.heap.size w wr) (fun v _ => l.length - (intOf v).toNat)
          case atStart => exact ⟨0, _, _, rfl, Nat.zero_le _, Upto.start p who l m, HA.out, HB.out, HRL.out, HP.out, HU.out⟩
          case round =>
            clear HA HB HRL HP HU
            obtain ⟨i, m1, n1, rfl, hi, hup, ha, hb, hr, hp, hu⟩ := hrel
            have HUP := Lib.hid hup
            have HA := Lib.hid ha
            have HB := Lib.hid hb
            have HRL := Lib.hid hr
            have HP := Lib.hid hp
            have HU := Lib.hid hu
            clear hup ha hb hr hp
            by_cases hlt : i < l.length
            · have hlt2 : i < m.length := by have := HLM.out; omega
              obtain ⟨lb, lo, rfl, ql⟩ := HLX.out (by omega)
              obtain ⟨nb, no, rfl, qm⟩ := HMX.out (by omega)
              have cl := bcellAt hu (ql i _ (ints_at l i hlt))
              have cm := bcellAt hu (qm i _ (ints_at m i hlt2))
              have QL := Lib.hid (ql i _ (ints_at l i hlt))
              have QM := Lib.hid (qm i _ (ints_at m i hlt2))
              have hi0 : (0 : Int) ≤ (i : Int) := by omega
              have hi1 : (i : Int) < (l.length : Int) := by omega
              have hi2 : (i : Int) < (m.length : Int) := by omega
              have HSP := Lib.hid (fun (m2 n2 : Int → Option Int) => HUP.out.step (m2 := m2) (n2 := n2) hlt hlt2)
              have HFL := Lib.hid (fun (m2 n2 : Int → Option Int) => HUP.out.fail (m2 := m2) (n2 := n2) hlt hlt2)
              have CC := Lib.hid (HCO.out (l[i]) (m[i]) (HLI.out _ (List.getElem_mem hlt)) (HMI.out _ (List.getElem_mem hlt2)))
              generalize l[i] = x at *
              generalize m[i] = y at *
              have HCC := Lib.hid (fun (V : World) (hV : Below wr.heap.size wr V) => CC.out V m1 n1 (Nat.le_trans HU.out.size hV.size) (HP.out.below hV) (Hold.below hV _ _ HRL.out) HUP.out.cor (HA.out.below hV) (HB.out.below hV))
              have HKP : Hid (∀ V : World, Below w.heap.size wr V → V.cell? ⟨lb, lo + i, none⟩ = some (.int .i64 x) ∧ V.cell? ⟨nb, no + i, none⟩ = some (.int .i64 y)) := Lib.hid fun V h1 => ⟨bcellAt (HU.out.trans h1) QL.out, bcellAt (HU.out.trans h1) QM.out⟩
              have HBS : Hid (w.heap.size ≤ wr.heap.size) := Lib.hid HU.out.size
              clear ql qm hu CC
              go_upto_region 12 with fail
              go_region_held3 (fun w' => w'.cell? ⟨lb, lo + i, none⟩ = some (.int .i64 x) ∧ w'.cell? ⟨nb, no + i, none⟩ = some (.int .i64 y)) ((first | exact HKP.out _ ((bdn _ _).mono HBS.out) | exact HKP.out _ ((bd _).mono HBS.out) | exact HKP.out _ ((Below.mono (by first | exact bdn _ _ | exact bd _ | exact Below.refl _ _) HBS.out).trans g8.below)))
                (((with_reducible refine (HCC.out _ (by first | exact bdn _ _ | exact bd _ | exact Below.refl _ _)).mono ?_); rintro e V8 ⟨r1, m2, n2, rfl, a8, b8, r8, g8⟩))
              have hg8 : RcG w.heap.size wr V8 := (RcG.of HBS.out (by first | exact bdn _ _ | exact bd _ | exact Below.refl _ _)).trans g8
              have HA8 := Lib.hid a8
              have HB8 := Lib.hid b8
              have HR8 := Lib.hid r8
              have HL8 := Lib.hid (hg8.hold RelT (by decide) _ _ HRL.out)
              have HP8 := Lib.hid (hg8.ref HP.out)
              have HU8 := Lib.hid (HU.out.trans hg8.below)
              clear a8 b8 r8 g8 hg8 cl cm HCC HKP
              cases r1 with
              | false =>
                go_wp2_with fail
                go_returns
                exact ⟨false, rfl, ⟨fun e => (by cases e), fun e => absurd e (HFL.out _ _ HR8.out)⟩, HU8.out⟩
              | true =>
                go_wp2_with fail
                go_roundw
                case rel => exact ⟨i + 1, m2, n2, by go_num, by omega, HSP.out _ _ HR8.out, HA8.out, HB8.out, HL8.out, HP8.out, HU8.out⟩
                case measure => simp [intOf] <;> omega
            · obtain rfl : i = l.length := by omega
              have HF : Hid (AlikeP p who l m) := Lib.hid (HUP.out.done HNM.out.symm HLI.out HMI.out HLM.out)
              clear hlt hu
              go_wp2_with fail
              go_returns
              exact ⟨true, rfl, ⟨fun _ => HF.out, fun _ => rfl⟩, HU.out⟩
end Go.Proofs.YtgaklaajbepfaaaDoor
