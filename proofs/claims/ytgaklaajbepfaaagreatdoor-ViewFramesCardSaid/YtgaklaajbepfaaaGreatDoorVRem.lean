/-
  A term made anew: the closure's walk.
-/
import Derived.Test.YtgaklaajbepfaaaGreatDoorVPlain
import Derived.Test.YtgaklaajbepfaaaGreatDoorVBase
namespace Go.Proofs.YtgaklaajbepfaaaGreatDoor
open Go.RowKit Go.Maps
set_option linter.unusedVariables false

abbrev VPoolT : TypeId := 26
abbrev KindFT : TypeId := 123
abbrev ReFT : TypeId := 80
abbrev WhoT : TypeId := 3
/-- What was made anew, in memory. -/
def AnM (w : World) (mb : Nat) (T : Int) (m : Int → Option Int) : Prop :=
  ∃ (n : Nat) (D : DataW Unit) (L : List Int), w.ownsMap Tryz.prog TermT (plainElem Tryz.prog TermT) mb n D ∧ (∀ x, i64R x → Maps.has D (.int .i64 x) = (m x).isSome ∧ D.atKey (.int .i64 x) (.lit (.int .i64 0)) = .lit (.int .i64 ((m x).getD 0))) ∧
    L.Nodup ∧ (∀ x ∈ L, 1 ≤ x ∧ x ≤ T ∧ (m x).isSome = true) ∧ n ≤ L.length + 1
theorem AnM.same {w w' : World} {mb : Nat} {T : Int} {m : Int → Option Int} (h : AnM w mb T m) (hs : ∀ es c, w.heap[mb]? = some (.map es c) → w'.heap[mb]? = some (.map es c)) : AnM w' mb T m := by
  obtain ⟨n, D, L, ⟨es, c, hb, r⟩, h2⟩ := h
  exact ⟨n, D, L, ⟨es, c, hs _ _ hb, r⟩, h2⟩
theorem AnM.mapb {w : World} {mb : Nat} {T : Int} {m : Int → Option Int} (h : AnM w mb T m) : ∃ es c, w.heap[mb]? = some (.map es c) := by
  obtain ⟨n, D, L, ⟨es, c, hb, r⟩, h2⟩ := h
  exact ⟨es, c, hb⟩
theorem AnM.lt {w : World} {mb : Nat} {T : Int} {m : Int → Option Int} (h : AnM w mb T m) : mb < w.heap.size := by
  obtain ⟨es, c, hb⟩ := h.mapb
  exact (Array.getElem?_eq_some_iff.1 hb).1
theorem AnM.below {w w' : World} {mb : Nat} {T : Int} {m : Int → Option Int} (h : AnM w mb T m) (hb : Below w.heap.size w w') : AnM w' mb T m :=
  h.same fun es c hm => by rw [hb.block mb h.lt]; exact hm
theorem AnM.look {w : World} {mb : Nat} {T : Int} {m : Int → Option Int} (h : AnM w mb T m) {x : Int} (hx : i64R x) : (Instr.lookup AnewT (.map (some mb)) (.int .i64 x) true).run Tryz.prog w = .ok (.tuple #[.int .i64 ((m x).getD 0), .bool (m x).isSome]) w := by
  obtain ⟨n, D, L, h1, h2, _⟩ := h
  obtain ⟨v, ps, hr, hv⟩ := h1.look_ok lawT Tryz.underlying153 (zeroTV w) (plainElem_int Tryz.underlying39 (by decide)) (keyT hx)
  obtain ⟨z, rfl, h3, _⟩ := plainElem_int_inv Tryz.underlying39 hv
  rw [(h2 x hx).2] at h3
  simp at h3
  obtain ⟨rfl, _⟩ := h3
  rw [hr, (h2 x hx).1]
/-- What a store asks, and what it leaves. -/
theorem AnM.store {w : World} {mb : Nat} {T : Int} {m : Int → Option Int} (h : AnM w mb T m) (hT : T ≤ 65536) {t : Int} (ht : i64R t) (hin : 1 ≤ t ∧ t ≤ T) (hn : m t = none) : ∃ (n : Nat) (D : DataW Unit), w.ownsMap Tryz.prog TermT (plainElem Tryz.prog TermT) mb n D ∧ n < maxLen ∧ ∀ (u : Int) (w' : World), w'.ownsMap Tryz.prog TermT (plainElem Tryz.prog TermT) mb (n + 1) (D.put (.int .i64 t) (.lit (.int .i64 u))) → AnM w' mb T (updO m t u) := by
  obtain ⟨n, D, L, h1, h2, h3, h4, h5⟩ := h
  have hl := nodup_upto h3 fun x hx => ⟨(h4 x hx).1, (h4 x hx).2.1⟩
  refine ⟨n, D, h1, by unfold maxLen; omega, fun u w' hw => ⟨n + 1, _, t :: L, hw, fun x hx => ?_, List.nodup_cons.2 ⟨fun hc => (by have := (h4 t hc).2.2; rw [hn] at this; cases this), h3⟩, fun x hx => ?_, by simp; omega⟩⟩
  · have hm := h1.isMap
    unfold updO
    by_cases e : x = t
    · subst e
      rw [has_put_same hm (lawT.key (keyT hx)), atKey_put_same hm (lawT.key (keyT hx)), if_pos rfl]; exact ⟨rfl, rfl⟩
    · rw [has_put_other (fun e' => e (by simpa using e')), atKey_put_other (fun e' => e (by simpa using e')), if_neg e]
      exact h2 x hx
  · unfold updO
    by_cases e : x = t
    · rw [if_pos e, e]; exact ⟨hin.1, hin.2, rfl⟩
    · rw [if_neg e]
      rcases List.mem_cons.1 hx with hx | hx
      · exact absurd hx e
      · exact h4 x hx

/-- What making anew leaves as it was. -/
structure ReG (w : World) (B b mb : Nat) (w' : World) : Prop where
  below : Below B w w'
  hold : ∀ T, T ≠ PoolT → T ≠ MadeT → Hold T w w'
  maps : ∀ j, j ≠ b → j ≠ mb → ∀ es c, w.heap[j]? = some (.map es c) → w'.heap[j]? = some (.map es c)
theorem ReG.of {w w' : World} {B b mb : Nat} (hB : B ≤ w.heap.size) (h : Below w.heap.size w w') : ReG w B b mb w' :=
  ⟨h.mono hB, fun T _ _ => Hold.below h, fun j _ _ es c hm => by rw [h.block j (Array.getElem?_eq_some_iff.1 hm).1]; exact hm⟩
theorem ReG.trans {x y z : World} {B b mb : Nat} (h : ReG x B b mb y) (k : ReG y B b mb z) : ReG x B b mb z :=
  ⟨h.below.trans k.below, fun T h1 h2 => (h.hold T h1 h2).trans (k.hold T h1 h2), fun j h1 h2 es c hm => k.maps j h1 h2 es c (h.maps j h1 h2 es c hm)⟩
theorem ReG.grew {w w' : World} {B a b mb : Nat} {v : Value} {p p' : Pl} (h : IsPool w B a b v p) (g : Grew w B a b v p' w') : ReG w B b mb w' :=
  ⟨g.1, fun T h1 h2 => g.hold h h1 h2, fun j h1 _ es c hm => by
    rw [g.2.1 j (Array.getElem?_eq_some_iff.1 hm).1 (fun e => ?_) h1 (fun e => ?_)]
    · exact hm
    · rw [e, h.lay] at hm; cases hm
    · obtain ⟨_, cur, hc⟩ := own_type h.row e
      rw [hc] at hm; cases hm⟩
theorem ReG.put {w w' : World} {B b mb : Nat} {es c} (hB : B ≤ w.heap.size) (hm : B ≤ mb) (h0 : w.heap[mb]? = some (.map es c)) (g : w.grownBy w' (some mb)) : ReG w B b mb w' :=
  ⟨grown_below g hB (fun k e => by cases e; exact hm), fun T _ _ => hold_map ⟨_, _, h0⟩ g T, fun j _ h2 es' c' hj => by
    rw [g.block j (Array.getElem?_eq_some_iff.1 hj).1 (fun e => h2 (Option.some.inj e))]; exact hj⟩
/-- A cell of a block that is new has turned. -/
theorem ReG.set {w w' : World} {B b mb : Nat} (hB : B ≤ w.heap.size) (h : ReG w B b mb w') {nb : Nat} (hn : w.heap.size ≤ nb) (j : Nat) (u : Value) : ReG w B b mb (w'.setCell ⟨nb, j, none⟩ u) :=
  ⟨h.below.setCell (p := ⟨nb, j, none⟩) (Nat.le_trans hB hn) u,
   fun T h1 h2 i cs hi => by
    rw [Below.heap_setCell _ _ _ _ (fun e => by have := (Array.getElem?_eq_some_iff.1 hi).1; simp only at e; omega)]
    exact h.hold T h1 h2 i cs hi,
   fun i h1 h2 es c hi => by
    rw [Below.heap_setCell _ _ _ _ (fun e => by have := (Array.getElem?_eq_some_iff.1 hi).1; simp only at e; omega)]
    exact h.maps i h1 h2 es c hi⟩

/-- What stands beside the pool and its own blocks stays; its row is the old one, or new. -/
structure ReF (w : World) (a b mb : Nat) (v : Value) (w' : World) (v' : Value) : Prop where
  size : w.heap.size ≤ w'.heap.size
  blk : ∀ k, k < w.heap.size → k ≠ a → k ≠ b → k ≠ mb → v.ownBlock ≠ some k → w'.heap[k]? = w.heap[k]?
  own : v'.ownBlock = v.ownBlock ∨ ∃ g, v'.ownBlock = some g ∧ w.heap.size ≤ g
theorem ReF.of {w w' : World} {a b mb : Nat} {v : Value} (h : Below w.heap.size w w') : ReF w a b mb v w' v := ⟨h.size, fun k hk _ _ _ _ => h.block k hk, .inl rfl⟩
theorem ReF.trans {x y z : World} {a b mb : Nat} {v v1 v2 : Value} (h : ReF x a b mb v y v1) (k : ReF y a b mb v1 z v2) : ReF x a b mb v z v2 := by
  refine ⟨Nat.le_trans h.size k.size, fun j hj h1 h2 h3 h4 => ?_, ?_⟩
  · rw [k.blk j (Nat.lt_of_lt_of_le hj h.size) h1 h2 h3 (fun e => ?_)]
    · exact h.blk j hj h1 h2 h3 h4
    · rcases h.own with g | ⟨g, g1, g2⟩
      · exact h4 (g.symm.trans e)
      · rw [g1] at e; cases e; omega
  · rcases k.own with g | ⟨g, g1, g2⟩
    · rcases h.own with q | ⟨q, q1, q2⟩
      · exact .inl (g.trans q)
      · exact .inr ⟨q, g.trans q1, q2⟩
    · exact .inr ⟨g, g1, Nat.le_trans h.size g2⟩
theorem ReF.set {w w' : World} {a b mb : Nat} {v v' : Value} (h : ReF w a b mb v w' v') {nb : Nat} (hn : w.heap.size ≤ nb) (j : Nat) (u : Value) : ReF w a b mb v (w'.setCell ⟨nb, j, none⟩ u) v' :=
  ⟨by simpa [World.setCell] using h.size, fun k hk h1 h2 h3 h4 => by
    rw [Below.heap_setCell _ _ _ _ (fun e => by simp only at e; omega)]
    exact h.blk k hk h1 h2 h3 h4, h.own⟩
theorem ReF.put {w x y : World} {a b mb : Nat} {v v' : Value} (h : ReF w a b mb v x v') (g : x.grownBy y (some mb)) : ReF w a b mb v y v' :=
  ⟨Nat.le_trans h.size g.size, fun k hk h1 h2 h3 h4 => by
    rw [g.block k (Nat.lt_of_lt_of_le hk h.size) (fun e => h3 (Option.some.inj e))]
    exact h.blk k hk h1 h2 h3 h4, h.own⟩
/-- The closure and what it holds. -/
structure IsRe (w : World) (ab pb kb rb mb a : Nat) (kv : Value) : Prop where
  an : w.heap[ab]? = some (Obj.cells #[.map (some mb)] AnewT)
  pl : w.heap[pb]? = some (Obj.cells #[.pointer (some ⟨a, 0, none⟩)] VPoolT)
  kd : w.heap[kb]? = some (Obj.cells #[kv] KindFT)
  re : w.heap[rb]? = some (Obj.cells #[.func (.func 107) #[] #[.pointer (some ⟨ab, 0, none⟩), .pointer (some ⟨pb, 0, none⟩), .pointer (some ⟨kb, 0, none⟩), .pointer (some ⟨rb, 0, none⟩)]] ReFT)
theorem IsRe.hold {w w' : World} {ab pb kb rb mb a : Nat} {kv : Value} (h : IsRe w ab pb kb rb mb a kv) (hh : ∀ T, T ≠ PoolT → T ≠ MadeT → Hold T w w') : IsRe w' ab pb kb rb mb a kv :=
  ⟨hh _ (by decide) (by decide) _ _ h.an, hh _ (by decide) (by decide) _ _ h.pl, hh _ (by decide) (by decide) _ _ h.kd, hh _ (by decide) (by decide) _ _ h.re⟩
theorem IsRe.below {w w' : World} {ab pb kb rb mb a : Nat} {kv : Value} (h : IsRe w ab pb kb rb mb a kv) (hb : Below w.heap.size w w') : IsRe w' ab pb kb rb mb a kv :=
  h.hold fun T _ _ => Hold.below hb
/-- What answers a kind. -/
structure KindF (f : Nd → Int) (fl : Nat) (who : Int) : Prop where
  run : ∀ (W : World) (ob : Nat) (n : Nd), NdOk n → W.heap[ob]? = some (Obj.cells #[.int .i64 who] WhoT) → Calls Tryz.prog fl #[.agg (nodeA n), .pointer (some ⟨ob, 0, none⟩)] W fun e w' => e = .returned (.int .i64 (f n)) ∧ Below W.heap.size W w'
  enter : ∀ args W, (callFunc fl args).run Tryz.prog W = .ok (.enter fl args) W
  kd : ∀ n, KdOk n (f n)
def RePost (B a b mb : Nat) (v : Value) (f : Nd → Int) (q : Pl) (T : Int) (m : Int → Option Int) (t : Int) (w : World) (e : Ending) (w' : World) : Prop :=
  ∃ (u : Int) (v' : Value) (p' : Pl) (m' : Int → Option Int), e = .returned (.tuple #[.int .i64 u, .int .i64 0]) ∧ IsPool w' B a b v' p' ∧ Anew f q T p' m' ∧ AnM w' mb T m' ∧ m' t = some u ∧ (∀ x z, m x = some z → m' x = some z) ∧ (∀ x, (m' x).isSome = true → (m x).isSome = true ∨ x ≤ t) ∧ ReG w B b mb w' ∧ ReF w a b mb v w' v'

section
variable {w0 : World} {B a b : Nat} {q : Pl} {T : Int} {f : Nd → Int} {fl : Nat} {who : Int} {ab pb kb rb mb ob : Nat}
/-- The closure's contract at a term. -/
def ReC (w0 : World) (B a b : Nat) (q : Pl) (T : Int) (f : Nd → Int) (fl : Nat) (who : Int) (ab pb kb rb mb ob : Nat) (t : Int) : Prop :=
  ∀ (W : World) (v : Value) (p : Pl) (m : Int → Option Int), Below w0.heap.size w0 W → IsPool W B a b v p → IsRe W ab pb kb rb mb a (.func (.func fl) #[] #[.pointer (some ⟨ob, 0, none⟩)]) → W.heap[ob]? = some (Obj.cells #[.int .i64 who] WhoT) → Anew f q T p m → AnM W mb T m →
    Calls Tryz.prog 107 #[.int .i64 t, .pointer (some ⟨ab, 0, none⟩), .pointer (some ⟨pb, 0, none⟩), .pointer (some ⟨kb, 0, none⟩), .pointer (some ⟨rb, 0, none⟩)] W (RePost B a b mb v f q T m t W)
set_option maxRecDepth 100000 in
set_option maxHeartbeats 12800000 in
theorem re_old {t u : Int} (ht : i64R t) {W : World} {v : Value} {p : Pl} {m : Int → Option Int} (hp : IsPool W B a b v p) (hr : IsRe W ab pb kb rb mb a (.func (.func fl) #[] #[.pointer (some ⟨ob, 0, none⟩)])) (hA : Anew f q T p m) (hM : AnM W mb T m) (hm : m t = some u) :
    Calls Tryz.prog 107 #[.int .i64 t, .pointer (some ⟨ab, 0, none⟩), .pointer (some ⟨pb, 0, none⟩), .pointer (some ⟨kb, 0, none⟩), .pointer (some ⟨rb, 0, none⟩)] W (RePost B a b mb v f q T m t W) := by
  have hlk := hM.look ht
  rw [hm] at hlk
  have c0 : W.cell? ⟨ab, 0, none⟩ = some (.map (some mb)) := cellB hr.an rfl
  have HF : Hid (∀ w', Below W.heap.size W w' → RePost B a b mb v f q T m t W (.returned (.tuple #[.int .i64 u, .int .i64 0])) w') := Lib.hid fun w' hb => ⟨u, v, p, m, rfl, hp.below hb, hA, hM.below hb, hm, fun _ _ h => h, fun _ h => .inl h, ReG.of (Nat.le_trans hp.ga (Nat.le_of_lt hp.lt)) hb, ReF.of hb⟩
  clear hp hr hA hM hm
  go_enter Tryz.func107, Tryz.ntmps107
  go_wp2_with fail
  go_returns
  exact HF.out _ (Below.refl _ _)
theorem idx0 (x y : Value) (W : World) : (Instr.index 165 (.agg #[x, y]) (.int .i64 0)).run Tryz.prog W = .ok x W := by kernel_rfl
theorem idx1 (x y : Value) (W : World) : (Instr.index 165 (.agg #[x, y]) (.int .i64 1)).run Tryz.prog W = .ok y W := by kernel_rfl
theorem IsPool.heldV {w w' : World} {B a b : Nat} {v : Value} {p : Pl} (h : IsPool w B a b v p) (h1 : Hold PoolT w w') (h2 : Hold MadeT w w') (h3 : ∀ es c, w.heap[b]? = some (.map es c) → w'.heap[b]? = some (.map es c)) : IsPool w' B a b v p := by
  obtain ⟨D, ⟨es, c, hm, r⟩, hd⟩ := h.dict
  exact ⟨h1 _ _ h.lay, h.ga, h.gb, own_hold h.row h2, ⟨D, ⟨es, c, h3 _ _ hm, r⟩, hd⟩, h.ok, h.nok⟩
theorem set_map {w : World} {nb j i : Nat} {cs : Array Value} {T : TypeId} {u : Value} {es c} (hn : w.heap[nb]? = some (Obj.cells cs T)) (hm : w.heap[i]? = some (.map es c)) : (w.setCell ⟨nb, j, none⟩ u).heap[i]? = some (.map es c) := by
  rw [Below.heap_setCell _ _ _ _ (fun e => by rw [show i = nb from e, hn] at hm; cases hm)]
  exact hm
theorem Grew.mapV {w w' : World} {B a b : Nat} {v : Value} {p p' : Pl} (h : IsPool w B a b v p) (g : Grew w B a b v p' w') {j : Nat} (hj : j ≠ b) {es c} (hm : w.heap[j]? = some (.map es c)) : w'.heap[j]? = some (.map es c) := by
  rw [g.2.1 j (Array.getElem?_eq_some_iff.1 hm).1 (fun e => ?_) hj (fun e => ?_)]
  · exact hm
  · rw [e, h.lay] at hm; cases hm
  · obtain ⟨_, cur, hc⟩ := own_type h.row e
    rw [hc] at hm; cases hm
set_option maxRecDepth 100000 in
set_option maxHeartbeats 51200000 in
theorem re_new (hq : Ok q) (hL : Laid w0) (hB : w0.heap.size ≤ B) (hF : KindF f fl who) (hT : T ≤ 65536) (hqr : q.length + T.toNat ≤ 65536) (hmbb : mb ≠ b) (hBmb : B ≤ mb) {t : Int} (hin : inP q t = true) (htT : t ≤ T)
    (ha : ReC w0 B a b q T f fl who ab pb kb rb mb ob (atP q t).1.a) (hb : ReC w0 B a b q T f fl who ab pb kb rb mb ob (atP q t).1.b) {W : World} {v : Value} {p : Pl} {m : Int → Option Int} (hw : Below w0.heap.size w0 W) (hp : IsPool W B a b v p) (hr : IsRe W ab pb kb rb mb a (.func (.func fl) #[] #[.pointer (some ⟨ob, 0, none⟩)])) (ho : W.heap[ob]? = some (Obj.cells #[.int .i64 who] WhoT)) (hA : Anew f q T p m) (hM : AnM W mb T m) (hm : m t = none) :
    Calls Tryz.prog 107 #[.int .i64 t, .pointer (some ⟨ab, 0, none⟩), .pointer (some ⟨pb, 0, none⟩), .pointer (some ⟨kb, 0, none⟩), .pointer (some ⟨rb, 0, none⟩)] W (RePost B a b mb v f q T m t W) := by
  have ht1 : 1 ≤ t ∧ t ≤ 65536 := by
    have := hq.len
    unfold inP at hin; simp at hin; omega
  have hti : i64R t := by unfold i64R; omega
  have hlk := hM.look hti
  rw [hm] at hlk
  have hat : atP p t = atP q t := by obtain ⟨e, rfl⟩ := hA.ext; exact atP_append hin
  have PN := Lib.hid (pnode hp t)
  rw [hat] at PN
  have HNO : Hid (NdOk (atP q t).1) := Lib.hid (by rw [← hat]; exact atP_nok hp.nok t)
  have STEP : Hid (∀ (p' : Pl) (m' : Int → Option Int) (x y : Int), Anew f q T p' m' → m' t = none → m' (atP q t).1.a = some x → m' (atP q t).1.b = some y → (mkP p' (kdN (f (atP q t).1) (abN (atP q t).1 x y))).2.1 = 0 ∧ Anew f q T (mkP p' (kdN (f (atP q t).1) (abN (atP q t).1 x y))).2.2 (updO m' t (mkP p' (kdN (f (atP q t).1) (abN (atP q t).1 x y))).1)) := Lib.hid fun p' m' x y h h1 h2 h3 => h.step hq hin htT h1 h2 h3 (hF.kd _) hqr
  obtain ⟨ka, kb'⟩ := kid_less hq hin
  have hka : (atP q t).1.a < t := by rcases ka with e | e <;> omega
  have hkb : (atP q t).1.b < t := by rcases kb' with e | e <;> omega
  have HKD := Lib.hid (hF.kd (atP q t).1)
  have c0 : W.cell? ⟨ab, 0, none⟩ = some (.map (some mb)) := cellB hr.an rfl
  have c1 : W.cell? ⟨pb, 0, none⟩ = some (.pointer (some ⟨a, 0, none⟩)) := cellB hr.pl rfl
  have HB := Lib.hid hB
  have HBW : Hid (B ≤ W.heap.size) := Lib.hid (Nat.le_trans hp.ga (Nat.le_of_lt hp.lt))
  have HW := Lib.hid hw
  have HP0 := Lib.hid hp
  have HR0 := Lib.hid hr
  have HO0 := Lib.hid ho
  have HA0 := Lib.hid hA
  have HM0 := Lib.hid hM
  have HM1 := Lib.hid hm
  have HL := Lib.hid hL
  have IA := Lib.hid ha
  have IB := Lib.hid hb
  have KR := Lib.hid hF.run
  have eg := hF.enter
  have HT6 : Hid (T ≤ 65536) := Lib.hid hT
  have HT1 : Hid (1 ≤ t ∧ t ≤ T) := Lib.hid ⟨ht1.1, htT⟩
  have HTI := Lib.hid hti
  have HMB := Lib.hid (show mb ≠ b from hmbb)
  have HBM := Lib.hid hBmb
  generalize hnn : (atP q t).1 = n at *
  obtain ⟨kk, ff, tt, uu, ss, xa, xb⟩ := n
  simp only [nodeA] at PN
  simp only at hka hkb IA IB
  clear hp hr ho hA hM hm hw hL hF ha hb hat hq hin htT hqr hB hBmb hmbb ka kb' hnn
  go_enter Tryz.func107, Tryz.ntmps107
  go_wp2_with fail
  refine PN.out.mono ?_
  rintro e W1 ⟨rfl, u1⟩
  have b2 := bA0 W1 (.cells #[.int .i64 kk, .int .i64 ff, .int .i64 tt, .int .u64 uu, .string ss, .int .i64 xa, .int .i64 xb] NodeT)
  have hn2 : (W1.alloc (.cells #[.int .i64 kk, .int .i64 ff, .int .i64 tt, .int .u64 uu, .string ss, .int .i64 xa, .int .i64 xb] NodeT)).heap[W1.heap.size]? = some (Obj.cells #[.int .i64 kk, .int .i64 ff, .int .i64 tt, .int .u64 uu, .string ss, .int .i64 xa, .int .i64 xb] NodeT) := heap_alloc_new _ _
  have HU2 := Lib.hid (bmore u1 b2)
  have HN2 := Lib.hid hn2
  have HNB : Hid (W.heap.size ≤ W1.heap.size) := Lib.hid u1.size
  clear u1 b2 hn2 PN c0 hlk
  go_upto_region 5 with fail
  generalize (W1.alloc (.cells #[.int .i64 kk, .int .i64 ff, .int .i64 tt, .int .u64 uu, .string ss, .int .i64 xa, .int .i64 xb] NodeT)) = W2 at *
  generalize W1.heap.size = nb at *
  have hn2 := HN2.out
  have y0 : W2.cell? ⟨nb, 0, none⟩ = some (.int .i64 kk) := cellB (j := 0) hn2 rfl
  have y1 : W2.cell? ⟨nb, 1, none⟩ = some (.int .i64 ff) := cellB (j := 1) hn2 rfl
  have y2 : W2.cell? ⟨nb, 2, none⟩ = some (.int .i64 tt) := cellB (j := 2) hn2 rfl
  have y3 : W2.cell? ⟨nb, 3, none⟩ = some (.int .u64 uu) := cellB (j := 3) hn2 rfl
  have y4 : W2.cell? ⟨nb, 4, none⟩ = some (.string ss) := cellB (j := 4) hn2 rfl
  have y5 : W2.cell? ⟨nb, 5, none⟩ = some (.int .i64 xa) := cellB (j := 5) hn2 rfl
  have y6 : W2.cell? ⟨nb, 6, none⟩ = some (.int .i64 xb) := cellB (j := 6) hn2 rfl
  have k2 : W2.cell? ⟨kb, 0, none⟩ = some (.func (.func fl) #[] #[.pointer (some ⟨ob, 0, none⟩)]) := bcellAt HU2.out (cellB HR0.out.kd rfl)
  have KC := Lib.hid (KR.out W2 ob ⟨kk, ff, tt, uu, ss, xa, xb⟩ HNO.out (Hold.below HU2.out _ _ HO0.out))
  simp only [nodeA] at KC
  generalize f ⟨kk, ff, tt, uu, ss, xa, xb⟩ = fk at *
  clear hn2 KR c1
  go_wp2_with fail
  refine KC.out.mono ?_
  rintro e W3 ⟨rfl, u3⟩
  have hn3 := Hold.below u3 _ _ HN2.out
  have z0 : W3.cell? ⟨nb, 0, none⟩ = some (.int .i64 kk) := cellB (j := 0) hn3 rfl
  have z1 : W3.frozen? ⟨nb, 0, none⟩ = false := frozenB (j := 0) hn3
  have HU3 := Lib.hid (bmore HU2.out u3)
  have HN4 : Hid ((W3.setCell ⟨nb, 0, none⟩ (.int .i64 fk)).heap[nb]? = some (Obj.cells #[.int .i64 fk, .int .i64 ff, .int .i64 tt, .int .u64 uu, .string ss, .int .i64 xa, .int .i64 xb] NodeT)) := Lib.hid (setCellB (j := 0) hn3)
  have HP4 := Lib.hid ((HP0.out.below HU3.out).heldV (Hold.setCell (o := 0) (v := .int .i64 fk) hn3 (by decide)) (Hold.setCell (o := 0) (v := .int .i64 fk) hn3 (by decide)) (fun es c h => set_map hn3 h))
  have HM4 := Lib.hid ((HM0.out.below HU3.out).same (w' := W3.setCell ⟨nb, 0, none⟩ (.int .i64 fk)) (fun es c h => set_map hn3 h))
  have HG4 := Lib.hid ((ReG.of (b := b) (mb := mb) HBW.out HU3.out).set HBW.out HNB.out 0 (.int .i64 fk))
  have HF4 := Lib.hid ((ReF.of (a := a) (b := b) (mb := mb) (v := v) HU3.out).set HNB.out 0 (.int .i64 fk))
  clear hn3 u3 KC y0 y1 y2 y3 y4 y5 y6 k2 HN2 HU2 HU3
  go_upto_region 6 with fail
  generalize (W3.setCell ⟨nb, 0, none⟩ (.int .i64 fk)) = W4 at *
  clear z0 z1
  obtain ⟨wo, hwo⟩ : ∃ wo, wo = W4 := ⟨_, rfl⟩
  go_wp2_with fail
  go_loopw [39] (fun v39 wr => ∃ (i ca cb : Int) (v' : Value) (p' : Pl) (m' : Int → Option Int), v39 = .int .i64 i ∧ ((i = 0 ∧ xa = ca ∧ xb = cb) ∨ (i = 1 ∧ m' xa = some ca ∧ xb = cb) ∨ (i = 2 ∧ m' xa = some ca ∧ m' xb = some cb)) ∧ wr.heap[nb]? = some (Obj.cells #[.int .i64 fk, .int .i64 ff, .int .i64 tt, .int .u64 uu, .string ss, .int .i64 ca, .int .i64 cb] NodeT) ∧ IsPool wr B a b v' p' ∧ Anew f q T p' m' ∧ AnM wr mb T m' ∧ (∀ x z, m x = some z → m' x = some z) ∧ (∀ x, (m' x).isSome = true → (m x).isSome = true ∨ x < t) ∧ ReG W B b mb wr ∧ ReF W a b mb v wr v') (fun v _ => 2 - (intOf v).toNat)
  case atStart => exact ⟨0, xa, xb, v, p, m, rfl, .inl ⟨rfl, rfl, rfl⟩, HN4.out, HP4.out, HA0.out, HM4.out, fun _ _ h => h, fun _ h => .inl h, HG4.out, HF4.out⟩
  case round =>
    clear HN4 HP4 HM4 HG4 HF4 HA0 HM0 HP0
    obtain ⟨i, ca, cb, v', p', m', rfl, hi, hn, hp, hA, hM, hx, hk, hg, hrf⟩ := hrel
    have HRF := Lib.hid hrf
    clear hrf
    have HN := Lib.hid hn
    have HP := Lib.hid hp
    have HA := Lib.hid hA
    have HM := Lib.hid hM
    have HX := Lib.hid hx
    have HK := Lib.hid hk
    have HG := Lib.hid hg
    have HR := Lib.hid (HR0.out.hold hg.hold)
    have HO := Lib.hid (hg.hold WhoT (by decide) (by decide) _ _ HO0.out)
    have HGB : Hid (B ≤ wr.heap.size) := Lib.hid (Nat.le_trans hp.ga (Nat.le_of_lt hp.lt))
    have HGS : Hid (W.heap.size ≤ wr.heap.size) := Lib.hid hg.below.size
    clear hn hp hA hM hx hk hg
    rcases hi with ⟨rfl, rfl, rfl⟩ | ⟨rfl, hca, rfl⟩ | ⟨rfl, hca, hcb⟩
    · skip
      have hix := fun W => idx0 (.pointer (some ⟨nb, 5, none⟩)) (.pointer (some ⟨nb, 6, none⟩)) W
      have hcl : wr.cell? ⟨nb, 5, none⟩ = some (.int .i64 xa) := cellB (j := 5) HN.out rfl
      have hcf : wr.cell? ⟨rb, 0, none⟩ = some (.func (.func 107) #[] #[.pointer (some ⟨ab, 0, none⟩), .pointer (some ⟨pb, 0, none⟩), .pointer (some ⟨kb, 0, none⟩), .pointer (some ⟨rb, 0, none⟩)]) := cellB HR.out.re rfl
      have HI : Hid (∀ V : World, Below wr.heap.size wr V → Calls Tryz.prog 107 #[.int .i64 xa, .pointer (some ⟨ab, 0, none⟩), .pointer (some ⟨pb, 0, none⟩), .pointer (some ⟨kb, 0, none⟩), .pointer (some ⟨rb, 0, none⟩)] V (RePost B a b mb v' f q T m' xa V)) := Lib.hid fun V hV => IA.out V v' p' m' (HW.out.trans ((HG.out.below.mono HB.out).trans (hV.mono (Nat.le_trans HW.out.size HGS.out)))) (HP.out.below hV) (HR.out.below hV) (Hold.below hV _ _ HO.out) HA.out (HM.out.below hV)
      have HKP : Hid (∀ V : World, Hold ReFT wr V → Hold NodeT wr V → V.cell? ⟨rb, 0, none⟩ = some (.func (.func 107) #[] #[.pointer (some ⟨ab, 0, none⟩), .pointer (some ⟨pb, 0, none⟩), .pointer (some ⟨kb, 0, none⟩), .pointer (some ⟨rb, 0, none⟩)]) ∧ V.cell? ⟨nb, 5, none⟩ = some (.int .i64 xa)) := Lib.hid fun V h1 h2 => ⟨cellB (h1 _ _ HR.out.re) rfl, cellB (j := 5) (h2 _ _ HN.out) rfl⟩
      go_upto_region 9 with fail
      go_region_held3 (fun w' => w'.cell? ⟨rb, 0, none⟩ = some (.func (.func 107) #[] #[.pointer (some ⟨ab, 0, none⟩), .pointer (some ⟨pb, 0, none⟩), .pointer (some ⟨kb, 0, none⟩), .pointer (some ⟨rb, 0, none⟩)]) ∧ w'.cell? ⟨nb, 5, none⟩ = some (.int .i64 xa)) ((first | exact HKP.out _ (Hold.below (bdn _ _)) (Hold.below (bdn _ _)) | exact HKP.out _ (Hold.below (bd _)) (Hold.below (bd _)) | exact HKP.out _ ((Hold.below (by first | exact bdn _ _ | exact bd _ | exact Below.refl _ _)).trans (g9.hold _ (by decide) (by decide))) ((Hold.below (by first | exact bdn _ _ | exact bd _ | exact Below.refl _ _)).trans (g9.hold _ (by decide) (by decide)))))
        (((with_reducible refine (HI.out _ (by first | exact bdn _ _ | exact bd _ | exact Below.refl _ _)).mono ?_); rintro e w9 ⟨u, v9, p9, m9, rfl, hp9, ha9, hm9, hu9, hx9, hk9, g9, f9⟩))
      have hg9 : ReG wr B b mb w9 := (ReG.of HGB.out (by first | exact bdn _ _ | exact bd _ | exact Below.refl _ _)).trans g9
      have hn9 := hg9.hold NodeT (by decide) (by decide) _ _ HN.out
      have d0 : w9.cell? ⟨nb, 5, none⟩ = some (.int .i64 xa) := cellB (j := 5) hn9 rfl
      have d1 : w9.frozen? ⟨nb, 5, none⟩ = false := frozenB (j := 5) hn9
      have HN2 : Hid ((w9.setCell ⟨nb, 5, none⟩ (.int .i64 u)).heap[nb]? = some (Obj.cells #[.int .i64 fk, .int .i64 ff, .int .i64 tt, .int .u64 uu, .string ss, .int .i64 u, .int .i64 xb] NodeT)) := Lib.hid (setCellB (j := 5) hn9)
      have HP2 := Lib.hid (hp9.heldV (Hold.setCell (o := 5) (v := .int .i64 u) hn9 (by decide)) (Hold.setCell (o := 5) (v := .int .i64 u) hn9 (by decide)) (fun es c h => set_map hn9 h))
      have HM2 := Lib.hid (hm9.same (w' := w9.setCell ⟨nb, 5, none⟩ (.int .i64 u)) (fun es c h => set_map hn9 h))
      have HG2 := Lib.hid ((HG.out.trans hg9).set HBW.out HNB.out 5 (.int .i64 u))
      have HF2 := Lib.hid ((HRF.out.trans ((ReF.of (by first | exact bdn _ _ | exact bd _ | exact Below.refl _ _)).trans f9)).set HNB.out 5 (.int .i64 u))
      have HA2 := Lib.hid ha9
      have HU2 := Lib.hid hu9
      have HX2 : Hid (∀ x z, m x = some z → m9 x = some z) := Lib.hid fun x z h => hx9 x z (HX.out x z h)
      have HE2 : Hid (∀ x z, m' x = some z → m9 x = some z) := Lib.hid hx9
      have HK2 : Hid (∀ x, (m9 x).isSome = true → (m x).isSome = true ∨ x < t) := Lib.hid fun x h => by
        rcases hk9 x h with h | h
        · exact HK.out x h
        · exact .inr (by have := hka; omega)
      clear hp9 ha9 hm9 hu9 hx9 hk9 g9 f9 hg9 hn9 hcl hcf HI HKP
      go_wp2_with fail
      go_roundw
      case rel => exact ⟨1, u, xb, _, p9, m9, rfl, .inr (.inl ⟨rfl, HU2.out, rfl⟩), HN2.out, HP2.out, HA2.out, HM2.out, HX2.out, HK2.out, HG2.out, HF2.out⟩
      case measure => simp [intOf]
    · have HCA := Lib.hid hca
      clear hca
      have hix := fun W => idx1 (.pointer (some ⟨nb, 5, none⟩)) (.pointer (some ⟨nb, 6, none⟩)) W
      have hcl : wr.cell? ⟨nb, 6, none⟩ = some (.int .i64 xb) := cellB (j := 6) HN.out rfl
      have hcf : wr.cell? ⟨rb, 0, none⟩ = some (.func (.func 107) #[] #[.pointer (some ⟨ab, 0, none⟩), .pointer (some ⟨pb, 0, none⟩), .pointer (some ⟨kb, 0, none⟩), .pointer (some ⟨rb, 0, none⟩)]) := cellB HR.out.re rfl
      have HI : Hid (∀ V : World, Below wr.heap.size wr V → Calls Tryz.prog 107 #[.int .i64 xb, .pointer (some ⟨ab, 0, none⟩), .pointer (some ⟨pb, 0, none⟩), .pointer (some ⟨kb, 0, none⟩), .pointer (some ⟨rb, 0, none⟩)] V (RePost B a b mb v' f q T m' xb V)) := Lib.hid fun V hV => IB.out V v' p' m' (HW.out.trans ((HG.out.below.mono HB.out).trans (hV.mono (Nat.le_trans HW.out.size HGS.out)))) (HP.out.below hV) (HR.out.below hV) (Hold.below hV _ _ HO.out) HA.out (HM.out.below hV)
      have HKP : Hid (∀ V : World, Hold ReFT wr V → Hold NodeT wr V → V.cell? ⟨rb, 0, none⟩ = some (.func (.func 107) #[] #[.pointer (some ⟨ab, 0, none⟩), .pointer (some ⟨pb, 0, none⟩), .pointer (some ⟨kb, 0, none⟩), .pointer (some ⟨rb, 0, none⟩)]) ∧ V.cell? ⟨nb, 6, none⟩ = some (.int .i64 xb)) := Lib.hid fun V h1 h2 => ⟨cellB (h1 _ _ HR.out.re) rfl, cellB (j := 6) (h2 _ _ HN.out) rfl⟩
      go_upto_region 9 with fail
      go_region_held3 (fun w' => w'.cell? ⟨rb, 0, none⟩ = some (.func (.func 107) #[] #[.pointer (some ⟨ab, 0, none⟩), .pointer (some ⟨pb, 0, none⟩), .pointer (some ⟨kb, 0, none⟩), .pointer (some ⟨rb, 0, none⟩)]) ∧ w'.cell? ⟨nb, 6, none⟩ = some (.int .i64 xb)) ((first | exact HKP.out _ (Hold.below (bdn _ _)) (Hold.below (bdn _ _)) | exact HKP.out _ (Hold.below (bd _)) (Hold.below (bd _)) | exact HKP.out _ ((Hold.below (by first | exact bdn _ _ | exact bd _ | exact Below.refl _ _)).trans (g9.hold _ (by decide) (by decide))) ((Hold.below (by first | exact bdn _ _ | exact bd _ | exact Below.refl _ _)).trans (g9.hold _ (by decide) (by decide)))))
        (((with_reducible refine (HI.out _ (by first | exact bdn _ _ | exact bd _ | exact Below.refl _ _)).mono ?_); rintro e w9 ⟨u, v9, p9, m9, rfl, hp9, ha9, hm9, hu9, hx9, hk9, g9, f9⟩))
      have hg9 : ReG wr B b mb w9 := (ReG.of HGB.out (by first | exact bdn _ _ | exact bd _ | exact Below.refl _ _)).trans g9
      have hn9 := hg9.hold NodeT (by decide) (by decide) _ _ HN.out
      have d0 : w9.cell? ⟨nb, 6, none⟩ = some (.int .i64 xb) := cellB (j := 6) hn9 rfl
      have d1 : w9.frozen? ⟨nb, 6, none⟩ = false := frozenB (j := 6) hn9
      have HN2 : Hid ((w9.setCell ⟨nb, 6, none⟩ (.int .i64 u)).heap[nb]? = some (Obj.cells #[.int .i64 fk, .int .i64 ff, .int .i64 tt, .int .u64 uu, .string ss, .int .i64 ca, .int .i64 u] NodeT)) := Lib.hid (setCellB (j := 6) hn9)
      have HP2 := Lib.hid (hp9.heldV (Hold.setCell (o := 6) (v := .int .i64 u) hn9 (by decide)) (Hold.setCell (o := 6) (v := .int .i64 u) hn9 (by decide)) (fun es c h => set_map hn9 h))
      have HM2 := Lib.hid (hm9.same (w' := w9.setCell ⟨nb, 6, none⟩ (.int .i64 u)) (fun es c h => set_map hn9 h))
      have HG2 := Lib.hid ((HG.out.trans hg9).set HBW.out HNB.out 6 (.int .i64 u))
      have HF2 := Lib.hid ((HRF.out.trans ((ReF.of (by first | exact bdn _ _ | exact bd _ | exact Below.refl _ _)).trans f9)).set HNB.out 6 (.int .i64 u))
      have HA2 := Lib.hid ha9
      have HU2 := Lib.hid hu9
      have HX2 : Hid (∀ x z, m x = some z → m9 x = some z) := Lib.hid fun x z h => hx9 x z (HX.out x z h)
      have HE2 : Hid (∀ x z, m' x = some z → m9 x = some z) := Lib.hid hx9
      have HK2 : Hid (∀ x, (m9 x).isSome = true → (m x).isSome = true ∨ x < t) := Lib.hid fun x h => by
        rcases hk9 x h with h | h
        · exact HK.out x h
        · exact .inr (by have := hkb; omega)
      clear hp9 ha9 hm9 hu9 hx9 hk9 g9 f9 hg9 hn9 hcl hcf HI HKP
      go_wp2_with fail
      go_roundw
      case rel => exact ⟨2, ca, u, _, p9, m9, rfl, .inr (.inr ⟨rfl, HE2.out _ _ HCA.out, HU2.out⟩), HN2.out, HP2.out, HA2.out, HM2.out, HX2.out, HK2.out, HG2.out, HF2.out⟩
      case measure => simp [intOf]
    · have HMN : Hid (m' t = none) := Lib.hid (by
        cases e : m' t with
        | none => rfl
        | some z =>
          rcases HK.out t (by rw [e]; rfl) with h | h
          · rw [HM1.out] at h; cases h
          · omega)
      have hkid : ∀ k z, m' k = some z → i64R z := fun k z hz => by
        rcases HA.out.at_ k z hz with ⟨_, rfl⟩ | ⟨_, _, h3, _⟩
        · unfold i64R; omega
        · exact in_i64 HA.out.ok.len (.inr h3)
      have hfk : i64R fk := by
        rcases HKD.out with h | ⟨_, h⟩
        · rw [h]; exact HNO.out.kind
        · unfold i64R; omega
      have hs := STEP.out p' m' ca cb HA.out HMN.out hca hcb
      have MK : Calls Tryz.prog 80 #[.pointer (some ⟨a, 0, none⟩), .agg #[.int .i64 fk, .int .i64 ff, .int .i64 tt, .int .u64 uu, .string ss, .int .i64 ca, .int .i64 cb]] wr fun e w' => e = .returned (.tuple #[.int .i64 (mkP p' ⟨fk, ff, tt, uu, ss, ca, cb⟩).1, .int .i64 (mkP p' ⟨fk, ff, tt, uu, ss, ca, cb⟩).2.1]) ∧ Grew wr B a b v' (mkP p' ⟨fk, ff, tt, uu, ss, ca, cb⟩).2.2 w' := pmake HP.out (HL.out.below (HW.out.trans (HG.out.below.mono HB.out))) (n := ⟨fk, ff, tt, uu, ss, ca, cb⟩) ⟨hfk, HNO.out.frm, HNO.out.to, HNO.out.num, HNO.out.text, hkid _ _ hca, hkid _ _ hcb⟩
      simp only [kdN, abN] at hs
      generalize mkP p' ⟨fk, ff, tt, uu, ss, ca, cb⟩ = r at hs MK
      obtain ⟨un, en, pn⟩ := r
      simp only at hs MK
      obtain ⟨rfl, hs2⟩ := hs
      have MKH := Lib.hid MK
      have HS2 := Lib.hid hs2
      have HUI : Hid (i64R un) := Lib.hid (by
        rcases hs2.at_ t un (by unfold updO; rw [if_pos rfl]) with ⟨h, _⟩ | ⟨_, _, h3, _⟩
        · omega
        · exact in_i64 hs2.ok.len (.inr h3))
      have y0 : wr.cell? ⟨nb, 0, none⟩ = some (.int .i64 fk) := cellB (j := 0) HN.out rfl
      have y1 : wr.cell? ⟨nb, 1, none⟩ = some (.int .i64 ff) := cellB (j := 1) HN.out rfl
      have y2 : wr.cell? ⟨nb, 2, none⟩ = some (.int .i64 tt) := cellB (j := 2) HN.out rfl
      have y3 : wr.cell? ⟨nb, 3, none⟩ = some (.int .u64 uu) := cellB (j := 3) HN.out rfl
      have y4 : wr.cell? ⟨nb, 4, none⟩ = some (.string ss) := cellB (j := 4) HN.out rfl
      have y5 : wr.cell? ⟨nb, 5, none⟩ = some (.int .i64 ca) := cellB (j := 5) HN.out rfl
      have y6 : wr.cell? ⟨nb, 6, none⟩ = some (.int .i64 cb) := cellB (j := 6) HN.out rfl
      have c1 : wr.cell? ⟨pb, 0, none⟩ = some (.pointer (some ⟨a, 0, none⟩)) := cellB HR.out.pl rfl
      clear hs2 MK hfk hkid hca hcb STEP IA IB
      go_wp2_with fail
      refine MKH.out.mono ?_
      rintro e w10 ⟨rfl, g10⟩
      have hg10 := ReG.grew (mb := mb) HP.out g10
      have HM10 := Lib.hid (HM.out.same (w' := w10) (fun es c h => g10.mapV HP.out HMB.out h))
      have c0 : w10.cell? ⟨ab, 0, none⟩ = some (.map (some mb)) := cellB (hg10.hold AnewT (by decide) (by decide) _ _ HR.out.an) rfl
      have HG10 := Lib.hid (HG.out.trans hg10)
      have HB10 : Hid (B ≤ w10.heap.size) := Lib.hid (Nat.le_trans HGB.out g10.1.size)
      obtain ⟨gs10, gk10, v10, hp10, go10⟩ := g10
      have HF10 : Hid (ReF wr a b mb v' w10 v10) := Lib.hid ⟨gs10.size, fun k h1 h2 h3 _ h5 => gk10 k h1 h2 h3 h5, go10⟩
      clear gs10 gk10 go10
      have HP10 := Lib.hid hp10
      clear hg10 hp10 y0 y1 y2 y3 y4 y5 y6 c1 MKH
      go_wp2_with (at_mapUpdate; obtain ⟨n0, D0, hown0, hn0, hst0⟩ := HM10.out.store HT6.out HTI.out HT1.out HMN.out; refine wpList_mapUpdate_own _ rfl _ _ _ AnewT rfl TermT TermT lawT Tryz.underlying153 (plainElem Tryz.prog TermT) mb n0 D0 rfl hown0 hn0 _ _ (.int .i64 t) rfl rfl (keyT HTI.out) (.lit (.int .i64 un)) [] (plainElem_int Tryz.underlying39 (wf_i64 HUI.out)) ?_; intro w11 hown11 hg11)
      go_returns
      obtain ⟨es0, cl0, hmb0⟩ := HM10.out.mapb
      have hg11' := ReG.put (b := b) HB10.out HBM.out hmb0 hg11
      exact ⟨un, v10, pn, updO m' t un, rfl, HP10.out.heldV (hold_map ⟨_, _, hmb0⟩ hg11 _) (hold_map ⟨_, _, hmb0⟩ hg11 _) (fun es c h => by rw [hg11.block b (Array.getElem?_eq_some_iff.1 h).1 (fun e => HMB.out (Option.some.inj e).symm)]; exact h), HS2.out, hst0 _ _ hown11, by unfold updO; rw [if_pos rfl], fun x z h => by unfold updO; rw [if_neg (fun e => by rw [e, HM1.out] at h; cases h)]; exact HX.out x z h, fun x h => by
        by_cases e : x = t
        · exact .inr (by omega)
        · unfold updO at h
          rw [if_neg e] at h
          rcases HK.out x h with h | h
          · exact .inl h
          · exact .inr (by omega), HG10.out.trans hg11', (HRF.out.trans HF10.out).put hg11⟩
/-- The closure, at every term. -/
theorem re_all (hq : Ok q) (hL : Laid w0) (hB : w0.heap.size ≤ B) (hF : KindF f fl who) (hT : T ≤ 65536) (hqr : q.length + T.toNat ≤ 65536) (hmbb : mb ≠ b) (hBmb : B ≤ mb) : ∀ (n : Nat) (t : Int), t.toNat < n → (t = 0 ∨ inP q t = true) → t ≤ T → ReC w0 B a b q T f fl who ab pb kb rb mb ob t
  | 0, _, h, _, _ => absurd h (Nat.not_lt_zero _)
  | n + 1, t, h, hi, hle => fun W v p m hw hp hr ho hA hM => by
    have hti : i64R t := by
      rcases hi with rfl | hi
      · unfold i64R; omega
      · exact in_i64 hq.len (.inr hi)
    cases hm : m t with
    | some u => exact re_old hti hp hr hA hM hm
    | none =>
      have hin : inP q t = true := by
        rcases hi with rfl | hi
        · rw [hA.zero] at hm; cases hm
        · exact hi
      have h1 : 1 ≤ t := by unfold inP at hin; simp at hin; omega
      obtain ⟨ka, kb'⟩ := kid_less hq hin
      have pos : ∀ x, inP q x = true → 1 ≤ x := fun x hx => by unfold inP at hx; simp at hx; omega
      refine re_new hq hL hB hF hT hqr hmbb hBmb hin hle ?_ ?_ hw hp hr ho hA hM hm
      · rcases ka with e | e
        · exact re_all hq hL hB hF hT hqr hmbb hBmb n _ (by omega) (.inl e) (by omega)
        · exact re_all hq hL hB hF hT hqr hmbb hBmb n _ (by omega) (.inr e.1) (by omega)
      · rcases kb' with e | e
        · exact re_all hq hL hB hF hT hqr hmbb hBmb n _ (by omega) (.inl e) (by omega)
        · exact re_all hq hL hB hF hT hqr hmbb hBmb n _ (by omega) (.inr e.1) (by omega)
end
end Go.Proofs.YtgaklaajbepfaaaGreatDoor
