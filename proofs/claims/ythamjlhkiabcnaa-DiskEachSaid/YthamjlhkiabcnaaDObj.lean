/-
  A disk in memory: a block of fields, of which the first three are slices of the call's own; and what an append to a row of the call's own makes.
-/
import Derived.Test.YthamjlhkiabcnaaDBase
namespace Go.Proofs.Ythamjlhkiabcnaa
open Go.RowKit

section
variable {P : Program} (w : World)
/-- The slice that an append answers lies where the old one lay, or in the newest block. -/
theorem append_where (t ty e : TypeId) (i : TypeInfo) (z : Value) (size bytes : Nat) (base : Nat) (ht : P.underlying t = some (.slice e)) (hi : P.info? e = some i) (hz : i.zero = some z)
    (hsize : i.size = size) (hby : i.bytes = bytes) {v : Value} {n : Nat} {xs : List Value} (hown : w.ownsRow base e size v n xs)
    {a : Addr} {m c : Nat} {news : List Value} (hl : news.length = m * size) (hnews : ∀ j u, news[j]? = some u → w.cell? (a.add j) = some u) (h1 : ∀ u ∈ news, u.oneCell' = true) (hm : 0 < m)
    (h63 : n + m ≤ maxLen) (hbytes : (n + m) * bytes ≤ 140737488355328) {v' : Value} {w' : World} (hr : (Builtin.append_ #[t, t] ty #[v, .slice (some a) m c]).run P w = .ok v' w') :
    v'.ownBlock = v.ownBlock ∨ v'.ownBlock = some w.heap.size := by
  subst hsize
  subst hby
  have hsmall : n + m ≤ 9223372036854775807 := by simp only [maxLen] at h63; omega
  rcases hown.2 with ⟨rfl, rfl⟩ | ⟨g, cap, cur, rfl, hbg, hg, hnc, hcm, hcs, htake⟩
  · have hr' := run_append_nil (P := P) w t ty e i z ht hi hz a m c news hl hnews hm (by omega) (by have hb := hbytes; simp only [Nat.zero_add] at hb; omega)
    rw [hr'] at hr
    simp only [Result.ok.injEq] at hr
    exact .inr (by rw [← hr.1]; rfl)
  · by_cases hroom : n + m ≤ cap
    · have hfit : n * i.size + news.length ≤ cur.size := by rw [hl, hcs, ← Nat.add_mul]; exact Nat.mul_le_mul_right _ hroom
      have hr' := run_append_room (P := P) w t ty e i ht hi g n cap cur hg a m c news hl hnews h1 hroom hfit
      rw [hr'] at hr
      simp only [Result.ok.injEq] at hr
      exact .inl (by rw [← hr.1]; rfl)
    · have holds : ∀ j u, xs[j]? = some u → w.cell? ((⟨g, 0, none⟩ : Addr).add j) = some u := hown.cells (g := g) rfl
      have hr' := run_append_grow (P := P) w t ty e i z ht hi hz ⟨g, 0, none⟩ n cap xs hown.1 holds a m c news hl hnews (by omega) (by omega) (growslice_fits (by omega) hbytes)
      rw [hr'] at hr
      simp only [Result.ok.injEq] at hr
      exact .inr (by rw [← hr.1]; rfl)

/-- append to a row of the call's own, and where the answer lies: one step of a walk. -/
theorem wp_append_at {o : Oper} {a : Act} {K : Act → World → Prop} {Q : Exit → Act → World → Prop} (s x : Operand) (t : TypeId)
    (ho : o.op = .call { callee := .builtin .append, args := #[s, x], argTypes := #[t, t] })
    (base : Nat) (e : TypeId) (i : TypeInfo) (z : Value) (size bytes : Nat) (ht : P.underlying t = some (.slice e)) (hi : P.info? e = some i) (hz : i.zero = some z)
    (hsize : i.size = size) (hby : i.bytes = bytes) (hzs : z.cells.size = size) (hsz : 0 < size)
    (v : Value) (n : Nat) (xs : List Value) (hs : a.eval s = v) (hown : w.ownsRow base e size v n xs)
    (ad : Addr) (m c : Nat) (news : List Value) (hx : a.eval x = .slice (some ad) m c) (hm : 0 < m) (hl : news.length = m * size) (hnews : ∀ j u, news[j]? = some u → w.cell? (ad.add j) = some u) (h1 : ∀ u ∈ news, u.oneCell' = true)
    (h63 : n + m ≤ maxLen) (hbytes : (n + m) * bytes ≤ 140737488355328) (hbase : base ≤ w.heap.size)
    (h : ∀ v' w', w'.ownsRow base e size v' (n + m) (xs ++ news) → w.grownBy w' v.ownBlock → (v'.ownBlock = v.ownBlock ∨ v'.ownBlock = some w.heap.size) → K (a.put o.dst v') w') : o.wp P a w K Q := by
  obtain ⟨v', w', hr, h2, h3, _⟩ := run_append_own (P := P) w base t o.type e i z size bytes ht hi hz hsize hby hzs hsz v n xs hown ad m c news hl hnews h1 h63 hbytes hbase
  have h4 := append_where w t o.type e i z size bytes base ht hi hz hsize hby hown hl hnews h1 hm h63 hbytes hr
  unfold Oper.wp execOp
  simp only [ho, resolve, invoke, builtin, Sem.run_bind, Sem.run_pure, Result.andThen_ok, List.map_toArray, List.map_cons, List.map_nil, hs, hx, hr]
  exact h v' w' h2 h3 h4

theorem wpList_append_at {ops : Array Oper} {rest : List Oper} {o : Oper} {a : Act} {Q : Exit → Act → World → Prop} (hgd : o.guard = none) (s x : Operand) (t : TypeId)
    (ho : o.op = .call { callee := .builtin .append, args := #[s, x], argTypes := #[t, t] })
    (base : Nat) (e : TypeId) (i : TypeInfo) (z : Value) (size bytes : Nat) (ht : P.underlying t = some (.slice e)) (hi : P.info? e = some i) (hz : i.zero = some z)
    (hsize : i.size = size) (hby : i.bytes = bytes) (hzs : z.cells.size = size) (hsz : 0 < size)
    (v : Value) (n : Nat) (xs : List Value) (hs : a.eval s = v) (hown : w.ownsRow base e size v n xs)
    (ad : Addr) (m c : Nat) (news : List Value) (hx : a.eval x = .slice (some ad) m c) (hm : 0 < m) (hl : news.length = m * size) (hnews : ∀ j u, news[j]? = some u → w.cell? (ad.add j) = some u) (h1 : ∀ u ∈ news, u.oneCell' = true)
    (h63 : n + m ≤ maxLen) (hbytes : (n + m) * bytes ≤ 140737488355328) (hbase : base ≤ w.heap.size)
    (h : ∀ v' w', w'.ownsRow base e size v' (n + m) (xs ++ news) → w.grownBy w' v.ownBlock → (v'.ownBlock = v.ownBlock ∨ v'.ownBlock = some w.heap.size) → wpList P ops Q rest (a.put o.dst v') w') : wpList P ops Q (o :: rest) a w :=
  wpList_plain hgd fun _ hK => wp_append_at w s x t ho base e i z size bytes ht hi hz hsize hby hzs hsz v n xs hs hown ad m c news hx hm hl hnews h1 h63 hbytes hbase fun v' w' h2 h3 h4 => hK _ _ (h v' w' h2 h3 h4)
end

/-- At block a lie three slices of the call's own (texts, texts, writes) and the cells tail; S: the blocks of all that. -/
structure IsObj (w : World) (B a : Nat) (T : TypeId) (tail : List Value) (fv bv lv : Value) (S : Nat → Prop) (fi now : List ByteArray) (log : List (Int × ByteArray)) : Prop where
  block : w.heap[a]? = some (.cells (fv :: bv :: lv :: tail).toArray T (0, 0))
  ofi : w.ownsRow B 9 1 fv fi.length (strs fi)
  onow : w.ownsRow B 9 1 bv now.length (strs now)
  olog : w.ownsRow B 51 2 lv log.length (wrs log)
  base : B ≤ a
  apF : ∀ k, fv.ownBlock = some k → k ≠ a ∧ bv.ownBlock ≠ some k ∧ lv.ownBlock ≠ some k
  apB : ∀ k, bv.ownBlock = some k → k ≠ a ∧ lv.ownBlock ≠ some k
  apL : ∀ k, lv.ownBlock = some k → k ≠ a
  foot : ∀ k, S k ↔ k = a ∨ fv.ownBlock = some k ∨ bv.ownBlock = some k ∨ lv.ownBlock = some k

namespace IsObj
variable {w : World} {B a : Nat} {T : TypeId} {tail : List Value} {fv bv lv : Value} {S : Nat → Prop} {fi now : List ByteArray} {log : List (Int × ByteArray)}

theorem lt (h : IsObj w B a T tail fv bv lv S fi now log) : ∀ k, S k → B ≤ k ∧ k < w.heap.size := by
  intro k hk
  rcases (h.foot k).1 hk with rfl | hk | hk | hk
  · exact ⟨h.base, (Array.getElem?_eq_some_iff.1 h.block).1⟩
  · exact h.ofi.lt k hk
  · exact h.onow.lt k hk
  · exact h.olog.lt k hk
theorem memA (h : IsObj w B a T tail fv bv lv S fi now log) : S a := (h.foot a).2 (.inl rfl)
theorem alt (h : IsObj w B a T tail fv bv lv S fi now log) : a < w.heap.size := (h.lt a h.memA).2
theorem memF (h : IsObj w B a T tail fv bv lv S fi now log) {k : Nat} (hk : fv.ownBlock = some k) : S k := (h.foot k).2 (.inr (.inl hk))
theorem memB (h : IsObj w B a T tail fv bv lv S fi now log) {k : Nat} (hk : bv.ownBlock = some k) : S k := (h.foot k).2 (.inr (.inr (.inl hk)))
theorem memL (h : IsObj w B a T tail fv bv lv S fi now log) {k : Nat} (hk : lv.ownBlock = some k) : S k := (h.foot k).2 (.inr (.inr (.inr hk)))
theorem c0 (h : IsObj w B a T tail fv bv lv S fi now log) : w.cell? ⟨a, 0, none⟩ = some fv := by simp [World.cell?, h.block]
theorem c1 (h : IsObj w B a T tail fv bv lv S fi now log) : w.cell? ⟨a, 1, none⟩ = some bv := by simp [World.cell?, h.block]
theorem c2 (h : IsObj w B a T tail fv bv lv S fi now log) : w.cell? ⟨a, 2, none⟩ = some lv := by simp [World.cell?, h.block]
theorem fz (h : IsObj w B a T tail fv bv lv S fi now log) (o : Nat) : w.frozen? ⟨a, o, none⟩ = false := by simp [World.frozen?, h.block]
theorem rfi (h : IsObj w B a T tail fv bv lv S fi now log) : Row w 1 fv fi.length (strs fi) := row_of_own h.ofi
theorem rnow (h : IsObj w B a T tail fv bv lv S fi now log) : Row w 1 bv now.length (strs now) := row_of_own h.onow
theorem rlog (h : IsObj w B a T tail fv bv lv S fi now log) : Row w 2 lv log.length (wrs log) := row_of_own h.olog

/-- What turns nothing of the disk's blocks leaves it. -/
theorem keep (h : IsObj w B a T tail fv bv lv S fi now log) {w' : World} {U : Nat → Prop} (ht : Touch U w w') (hU : ∀ k, S k → ¬ U k) : IsObj w' B a T tail fv bv lv S fi now log :=
  ⟨by rw [ht.block a h.alt (hU a h.memA)]; exact h.block, own_keep h.ofi ht fun k hk => hU k (h.memF hk), own_keep h.onow ht fun k hk => hU k (h.memB hk), own_keep h.olog ht fun k hk => hU k (h.memL hk), h.base, h.apF, h.apB, h.apL, h.foot⟩
theorem below (h : IsObj w B a T tail fv bv lv S fi now log) {w' : World} (hb : Below w.heap.size w w') : IsObj w' B a T tail fv bv lv S fi now log :=
  h.keep (touch_of_below hb fun _ => False) fun _ _ h => h

/-- A cell behind the three slices is stored. -/
theorem tailSet (h : IsObj w B a T tail fv bv lv S fi now log) (i : Nat) (u : Value) : IsObj (w.setCell ⟨a, 3 + i, none⟩ u) B a T (tail.set i u) fv bv lv S fi now log := by
  have ht : Touch (fun k => k = a) w (w.setCell ⟨a, 3 + i, none⟩ u) := touch_set w a (3 + i) u _ rfl
  refine ⟨?_, own_keep h.ofi ht fun k hk => (h.apF k hk).1, own_keep h.onow ht fun k hk => (h.apB k hk).1, own_keep h.olog ht fun k hk => h.apL k hk, h.base, h.apF, h.apB, h.apL, h.foot⟩
  simp [World.setCell, Array.getElem?_modify, h.block, show 3 + i = i + 1 + 1 + 1 by omega]

/-- A block of the disk is stored. -/
theorem nowSet {g n cap : Nat} (h : IsObj w B a T tail fv (.slice (some ⟨g, 0, none⟩) n cap) lv S fi now log) (hn : n = now.length) (j : Nat) (s : ByteArray) :
    IsObj (w.setCell ⟨g, j, none⟩ (.string s)) B a T tail fv (.slice (some ⟨g, 0, none⟩) n cap) lv S fi (now.set j s) log := by
  subst hn
  have ht : Touch (fun k => k = g) w (w.setCell ⟨g, j, none⟩ (.string s)) := touch_set w g j _ _ rfl
  refine ⟨?_, own_keep h.ofi ht fun k hk => ?_, ?_, own_keep h.olog ht fun k hk => ?_, h.base, h.apF, h.apB, h.apL, h.foot⟩
  · rw [ht.block a h.alt fun e => (h.apB g rfl).1 e.symm]; exact h.block
  · rintro rfl; exact (h.apF k hk).2.1 rfl
  · have := (h.onow.stored j (.string s)).1
    rw [strs_set, List.length_set]
    exact this
  · rintro rfl; exact (h.apB k rfl).2 hk

/-- A write stands behind the log. -/
theorem logPut (h : IsObj w B a T tail fv bv lv S fi now log) {w1 : World} {lv' : Value} {x : Int × ByteArray} (hown : w1.ownsRow B 51 2 lv' (log.length + 1) (wrs log ++ wrs [x])) (hg : w.grownBy w1 lv.ownBlock)
    (hw : lv'.ownBlock = lv.ownBlock ∨ ∃ k, lv'.ownBlock = some k ∧ w.heap.size ≤ k) :
    ∃ S', IsObj (w1.setCell ⟨a, 2, none⟩ lv') B a T tail fv bv lv' S' fi now (log ++ [x]) ∧ (∀ k, S' k → S k ∨ w.heap.size ≤ k) ∧ Touch S w (w1.setCell ⟨a, 2, none⟩ lv') := by
  have hgt : Touch (fun k => lv.ownBlock = some k) w w1 := touch_of_grown hg _ fun k hk => hk
  have ha1 : w1.heap[a]? = some (.cells (fv :: bv :: lv :: tail).toArray T (0, 0)) := by
    rw [hgt.block a h.alt fun e => h.apL a e rfl]; exact h.block
  have ht : Touch (fun k => k = a) w1 (w1.setCell ⟨a, 2, none⟩ lv') := touch_set w1 a 2 _ _ rfl
  have hnew : ∀ k, lv'.ownBlock = some k → lv.ownBlock = some k ∨ w.heap.size ≤ k := by
    intro k hk
    rcases hw with e | ⟨q, e, hq⟩
    · exact .inl (by rw [← e]; exact hk)
    · rw [e] at hk; simp only [Option.some.injEq] at hk; subst hk; exact .inr hq
  refine ⟨fun k => k = a ∨ fv.ownBlock = some k ∨ bv.ownBlock = some k ∨ lv'.ownBlock = some k, ⟨?_, ?_, ?_, ?_, h.base, ?_, ?_, ?_, fun k => Iff.rfl⟩, ?_, ?_⟩
  · simp [World.setCell, Array.getElem?_modify, ha1]
  · exact own_keep (own_keep h.ofi hgt fun k hk e => (h.apF k hk).2.2 e) ht fun k hk => (h.apF k hk).1
  · exact own_keep (own_keep h.onow hgt fun k hk e => (h.apB k hk).2 e) ht fun k hk => (h.apB k hk).1
  · refine own_keep (w := w1) ?_ ht fun k hk => ?_
    · rw [wrs_append, List.length_append]; exact hown
    · rcases hnew k hk with e | e
      · exact h.apL k e
      · have := h.alt; omega
  · intro k hk
    refine ⟨(h.apF k hk).1, (h.apF k hk).2.1, fun e => ?_⟩
    rcases hnew k e with e | e
    · exact (h.apF k hk).2.2 e
    · have := (h.ofi.lt k hk).2; omega
  · intro k hk
    refine ⟨(h.apB k hk).1, fun e => ?_⟩
    rcases hnew k e with e | e
    · exact (h.apB k hk).2 e
    · have := (h.onow.lt k hk).2; omega
  · intro k hk
    rcases hnew k hk with e | e
    · exact h.apL k e
    · have := h.alt; omega
  · rintro k (rfl | e | e | e)
    · exact .inl h.memA
    · exact .inl (h.memF e)
    · exact .inl (h.memB e)
    · rcases hnew k e with e | e
      · exact .inl (h.memL e)
      · exact .inr e
  · exact (hgt.mono fun k _ hk => h.memL hk).step (ht.mono (T := S) fun k _ hk => by subst hk; exact h.memA) fun k hk => .inl hk

/-- A disk that is laid: two slices and a block that have come one behind the other. -/
theorem made {w0 w1 w2 : World} {v1 v2 : Value} {l1 l2 : List ByteArray} (o1 : w1.ownsRow w0.heap.size 9 1 v1 l1.length (strs l1)) (b1 : Below w0.heap.size w0 w1)
    (o2 : w2.ownsRow w1.heap.size 9 1 v2 l2.length (strs l2)) (b2 : Below w1.heap.size w1 w2) (hB : B ≤ w0.heap.size) (T : TypeId) (tail : List Value) :
    ∃ S, IsObj (w2.alloc (.cells (v1 :: v2 :: .slice none 0 0 :: tail).toArray T)) B w2.heap.size T tail v1 v2 (.slice none 0 0) S l1 l2 [] ∧ (∀ k, S k → w0.heap.size ≤ k) := by
  have o1' := own_keep (own_keep o1 (touch_of_below b2 fun _ => False) fun _ _ h => h) (touch_alloc w2 (.cells (v1 :: v2 :: .slice none 0 0 :: tail).toArray T) fun _ => False) fun _ _ h => h
  have o2' := own_keep o2 (touch_alloc w2 (.cells (v1 :: v2 :: .slice none 0 0 :: tail).toArray T) fun _ => False) fun _ _ h => h
  refine ⟨fun k => k = w2.heap.size ∨ v1.ownBlock = some k ∨ v2.ownBlock = some k ∨ (Value.slice none 0 0).ownBlock = some k, ⟨heap_alloc_new w2 _, own_mono o1' hB, own_mono o2' (by have := b1.size; omega), World.ownsRow_nil _ _ _ _, by have := b1.size; have := b2.size; omega, ?_, ?_, ?_, fun _ => Iff.rfl⟩, ?_⟩
  · intro k hk
    have h1 := o1.lt k hk
    have := b2.size
    refine ⟨by omega, fun e => ?_, by simp [Value.ownBlock]⟩
    have := o2.lt k e
    omega
  · intro k hk
    have h1 := o2.lt k hk
    exact ⟨by omega, by simp [Value.ownBlock]⟩
  · intro k hk; simp [Value.ownBlock] at hk
  · rintro k (rfl | e | e | e)
    · have := b1.size; have := b2.size; omega
    · exact (o1.lt k e).1
    · have := b1.size; have := (o2.lt k e).1; omega
    · simp [Value.ownBlock] at e

/-- A disk's block that gets three new slices. -/
theorem copied {w0 w1 w2 w3 : World} {n0 : Nat} {v1 v2 v3 F G L : Value} {l1 l2 : List ByteArray} {log' : List (Int × ByteArray)} (o1 : w1.ownsRow w0.heap.size 9 1 v1 l1.length (strs l1)) (b1 : Below w0.heap.size w0 w1)
    (o2 : w2.ownsRow w1.heap.size 9 1 v2 l2.length (strs l2)) (b2 : Below w1.heap.size w1 w2) (o3 : w3.ownsRow w2.heap.size 51 2 v3 log'.length (wrs log')) (b3 : Below w2.heap.size w2 w3)
    (hn : n0 < w0.heap.size) (hB : B ≤ n0) (hblk : w3.heap[n0]? = some (.cells (F :: G :: L :: tail).toArray T (0, 0))) :
    ∃ S, IsObj (((w3.setCell ⟨n0, 0, none⟩ v1).setCell ⟨n0, 1, none⟩ v2).setCell ⟨n0, 2, none⟩ v3) B n0 T tail v1 v2 v3 S l1 l2 log' ∧ (∀ k, S k → k = n0 ∨ w0.heap.size ≤ k) := by
  have z1 := b1.size
  have z2 := b2.size
  have z3 := b3.size
  have ht : Touch (fun k => k = n0) w3 (((w3.setCell ⟨n0, 0, none⟩ v1).setCell ⟨n0, 1, none⟩ v2).setCell ⟨n0, 2, none⟩ v3) :=
    ((touch_set w3 n0 0 v1 (fun k => k = n0) rfl).trans (touch_set _ n0 1 v2 (fun k => k = n0) rfl)).trans (touch_set _ n0 2 v3 (fun k => k = n0) rfl)
  have n1 : ∀ k, v1.ownBlock = some k → w0.heap.size ≤ k ∧ k < w1.heap.size := o1.lt
  have n2 : ∀ k, v2.ownBlock = some k → w1.heap.size ≤ k ∧ k < w2.heap.size := o2.lt
  have n3 : ∀ k, v3.ownBlock = some k → w2.heap.size ≤ k ∧ k < w3.heap.size := o3.lt
  have nf : ∀ _ : Nat, False → False := fun _ h => h
  have p1 := own_keep (own_keep (own_keep o1 (touch_of_below b2 fun _ => False) fun _ _ h => h) (touch_of_below b3 fun _ => False) fun _ _ h => h) ht fun k hk e => by have := (n1 k hk).1; omega
  have p2 := own_keep (own_keep o2 (touch_of_below b3 fun _ => False) fun _ _ h => h) ht fun k hk e => by have := (n2 k hk).1; omega
  have p3 := own_keep o3 ht fun k hk e => by have := (n3 k hk).1; omega
  refine ⟨fun k => k = n0 ∨ v1.ownBlock = some k ∨ v2.ownBlock = some k ∨ v3.ownBlock = some k, ⟨?_, own_mono p1 (by omega), own_mono p2 (by omega), own_mono p3 (by omega), hB, ?_, ?_, ?_, fun _ => Iff.rfl⟩, ?_⟩
  · simp [World.setCell, Array.getElem?_modify, hblk]
  · intro k hk
    have h1 := n1 k hk
    refine ⟨by omega, fun e => ?_, fun e => ?_⟩
    · have := n2 k e; omega
    · have := n3 k e; omega
  · intro k hk
    have h1 := n2 k hk
    refine ⟨by omega, fun e => ?_⟩
    have := n3 k e; omega
  · intro k hk
    have h1 := n3 k hk
    omega
  · rintro k (rfl | e | e | e)
    · exact .inl rfl
    · exact .inr (n1 k e).1
    · have := (n2 k e).1; exact .inr (by omega)
    · have := (n3 k e).1; exact .inr (by omega)
end IsObj

end Go.Proofs.Ythamjlhkiabcnaa
