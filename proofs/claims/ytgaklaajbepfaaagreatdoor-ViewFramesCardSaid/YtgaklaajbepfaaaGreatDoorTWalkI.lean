/-
  The program's walk, its yield told only of terms of the pool.
-/
import Derived.Test.YtgaklaajbepfaaaGreatDoorTWalk
import Derived.Test.YtgaklaajbepfaaaGreatDoorTMet
import Derived.RangeFuncNested
import Derived.Deep.DeepCutAuto
namespace Go.Proofs.YtgaklaajbepfaaaGreatDoor
open Go.RowKit Go.Maps
attribute [local go_sem] Oper.semAt_some
set_option linter.unusedVariables false

/-- What walk asks: a pool that stays, a set at mb that stays, a round. -/
structure GoesI (B a b : Nat) (v : Value) (p : Pl) (l mb : Nat) (Kp : World → World → Prop) (J Jx : List Int → World → Prop) (N : Nat) : Prop where
  grow : ∀ W W' row, IsPool W B a b v p → W.grownBy W' row → (∀ r, row = some r → r = mb) → IsPool W' B a b v p
  keep : ∀ W W', Kp W W' → IsPool W B a b v p → IsPool W' B a b v p
  hold : ∀ W W', Kp W W' → Hold NodeT W W'
  map : ∀ W W' es c, Kp W W' → W.heap[mb]? = some (.map es c) → W'.heap[mb]? = some (.map es c)
  jgrow : ∀ s W W' row, J s W → W.grownBy W' row → (∀ r, row = some r → r = mb ∧ ∃ o : Obj, W.heap[r]? = some o ∧ o.isWalk = true) → J s W'
  round : ∀ m pre x W, inP p x = true → J pre W → pre.length < N → YieldAt Fence.wide m Tryz.prog l (encT x) W fun e W' => (e = .returned (.bool true) ∧ J (pre ++ [x]) W' ∧ Kp W W') ∨ (e = .returned (.bool false) ∧ Jx (pre ++ [x]) W')
variable {B a b : Nat} {v : Value} {p : Pl} {l mb : Nat} {Kp : World → World → Prop} {J Jx : List Int → World → Prop} {N : Nat}
set_option maxRecDepth 100000 in
set_option maxHeartbeats 4000000 in
/-- A term that was met, or none. -/
theorem walk_outI (hG : GoesI B a b v p l mb Kp J Jx N) (n : Nat) {t : Int} {acc anc : List Int} {W : World} (ht : t = 0 ∨ inP p t = true) (hc : ¬ (inP p t = true ∧ t ∉ acc)) (hp : IsPool W B a b v p) (hm : Met W mb acc anc) (hJ : J acc W) :
    CallsIn Fence.wide n Tryz.prog 103 #[.pointer (some ⟨a, 0, none⟩), .int .i64 t, .map (some mb), .func (.yield l) #[] #[]] W (WalkPost B a b v p mb J Jx acc anc acc W) := by
  have hi := in_i64 hp.ok.len ht
  obtain ⟨D, ho, hD⟩ := hm
  have hor : (Maps.has D (.int .i64 t) = true) ∨ (Maps.has D (.int .i64 t) = false ∧ t = 0) := by
    by_cases h : Maps.has D (.int .i64 t) = true
    · exact .inl h
    · refine .inr ⟨by simpa using h, ?_⟩
      rcases ht with h0 | h0
      · exact h0
      · exact absurd ⟨h0, fun h1 => h ((hD t hi).2 (.inl h1))⟩ hc
  have hfin : ∀ W', W.grownBy W' none → WalkPost B a b v p mb J Jx acc anc acc W (.returned (.bool true)) W' := fun W' hg =>
    .inl ⟨rfl, hG.grow _ _ _ hp hg (fun r e => by cases e), ⟨D, ho.kept hg (by simp), hD⟩, hG.jgrow _ _ _ _ hJ hg (fun r e => by cases e), fun k cs hk => by rw [hg.block k (Array.getElem?_eq_some_iff.1 hk).1 (by simp)]; exact hk⟩
  have HF := Lib.hid hfin
  refine callsIn_wide.2 ?_
  clear hG hp hJ hD hc ht hfin
  rcases hor with hq | ⟨hq, rfl⟩
  · go_enter Tryz.func103, Tryz.ntmps103
    go_wp2_with (at_lookup; refine wpList_lookup_own_unit _ rfl _ _ MetT rfl TermT UnT lawT Tryz.underlying137 (zeroU _) mb _ D rfl ho _ _ rfl (keyT hi) ?_; rw [hq])
    go_returns
    exact HF.out _ (World.grownBy_alloc _ _ _)
  · go_enter Tryz.func103, Tryz.ntmps103
    go_wp2_with (at_lookup; refine wpList_lookup_own_unit _ rfl _ _ MetT rfl TermT UnT lawT Tryz.underlying137 (zeroU _) mb _ D rfl ho _ _ rfl (keyT hi) ?_; rw [hq])
    go_returns
    exact HF.out _ (World.grownBy_alloc _ _ _)

set_option maxRecDepth 100000 in
set_option maxHeartbeats 4000000 in
/-- Every term. -/
theorem walk_anyI (hG : GoesI B a b v p l mb Kp J Jx N) (hN : N ≤ 65536) : ∀ (f n : Nat) (t : Int) (acc anc : List Int) (W : World), (t = 0 ∨ inP p t = true) → t.toNat ≤ f → (∀ x ∈ anc, t < x) → anc.length + f ≤ 65536 → IsPool W B a b v p → Met W mb acc anc → J acc W → (over p f t acc).length ≤ N →
    CallsIn Fence.wide n Tryz.prog 103 #[.pointer (some ⟨a, 0, none⟩), .int .i64 t, .map (some mb), .func (.yield l) #[] #[]] W (WalkPost B a b v p mb J Jx acc anc (over p f t acc) W) := by
  intro f
  induction f with
  | zero =>
    intro n t acc anc W ht htf _ _ hp hm hJ _
    exact walk_outI hG n ht (fun h => by have := h.1; unfold inP at this; simp at this; omega) hp hm hJ
  | succ f ih =>
    intro n t acc anc W ht htf hanc hlen hp hm hJ hNN
    by_cases hc : inP p t = true ∧ t ∉ acc
    · obtain ⟨hin, hna⟩ := hc
      have HINT := Lib.hid hin
      rw [over_in p f hin hna] at hNN ⊢
      obtain ⟨ka, kb⟩ := kid_less hp.ok hin
      have hi := in_i64 hp.ok.len (.inr hin)
      have h1t : 1 ≤ t := by unfold inP at hin; simp at hin; omega
      obtain ⟨D, ho, hD⟩ := hm
      have hq : Maps.has D (.int .i64 t) = false := by
        cases h : Maps.has D (.int .i64 t) with
        | false => rfl
        | true => exact absurd ((hD t hi).1 h) (by
            rintro (h | h)
            · exact hna h
            · exact absurd (hanc t h) (Int.lt_irrefl _))
      have ht0 : (t == 0) = false := by simp; omega
      have hroom : acc.length + anc.length < maxLen := by
        have h1 := (over_more p f (atP p t).1.a acc).length_le
        have h2 := (over_more p f (atP p t).1.b (over p f (atP p t).1.a acc)).length_le
        simp at hNN
        unfold maxLen; omega
      have hmap := ho.isMap
      have hfn := field_node
      have hpl := fun (X : World) (hX : IsPool X B a b v p) => plook hX t
      generalize hmm : atP p t = mm at *
      obtain ⟨⟨nk, nf, nt, nu, ns, ya, yb⟩, sz, dp⟩ := mm
      simp only [madeA] at hpl ka kb hNN ⊢
      have HPL := Lib.hid hpl
      have IH := Lib.hid ih
      have HG := Lib.hid hG
      have HD := Lib.hid hD
      have HP := Lib.hid hp
      have HJ := Lib.hid hJ
      have HNN := Lib.hid hNN
      have HA := Lib.hid hanc
      have HL := Lib.hid hlen
      have HTF := Lib.hid htf
      have HIN := Lib.hid hin
      have KA := Lib.hid ka
      have KB := Lib.hid kb
      clear ih hG hD hp hJ hNN hanc hlen htf hin hna ht hpl ka kb hmm
      refine callsIn_wide.2 ?_
      go_enter Tryz.func103, Tryz.ntmps103
      go_wp2_with (first
        | (at_lookup; refine wpList_lookup_own_unit _ rfl _ _ MetT rfl TermT UnT lawT Tryz.underlying137 (zeroU _) mb _ D rfl ho _ _ rfl (keyT hi) ?_; rw [hq])
        | (at_mapUpdate; refine wpList_mapUpdate_own _ rfl _ _ _ MetT rfl TermT UnT lawT Tryz.underlying137 unitElem mb _ D rfl (ho.alloc _) hroom _ _ _ rfl rfl (keyT hi) (.agg []) [] unitElem_mk ?_))
      intro w1 hown1 hgrow1
      have hh1 : Hold NodeT W w1 := fun k cs hk => by
        rw [hgrow1.block k (by have := (Array.getElem?_eq_some_iff.1 hk).1; simp; omega) (fun e => by
          obtain ⟨es, c, hb, _⟩ := ho
          rw [← Option.some.inj e, hk] at hb
          cases hb)]
        exact Hold.below ((Below.refl _ _).alloc (Nat.le_refl _) _) _ _ hk
      have hwk : ∃ o : Obj, (W.alloc (.cells #[] UnT)).heap[mb]? = some o ∧ o.isWalk = true := by
        obtain ⟨es, c, hb, _⟩ := ho.alloc (.cells #[] UnT)
        exact ⟨_, hb, rfl⟩
      have HM1 := Lib.hid (Met.enter hown1 hmap hi HD.out)
      have hnone : ∀ (X Y : World) (r : Nat), none = some r → r = mb := fun _ _ r e => by cases e
      have HP1 := Lib.hid (HG.out.grow _ _ _ (HG.out.grow _ _ _ HP.out (World.grownBy_alloc _ _ none) (fun r e => by cases e)) hgrow1 (fun r e => by cases e; rfl))
      have HJ1 := Lib.hid (HG.out.jgrow _ _ _ _ (HG.out.jgrow _ _ _ _ HJ.out (World.grownBy_alloc _ _ none) (fun r e => by cases e)) hgrow1 (fun r e => by cases e; exact ⟨rfl, hwk⟩))
      clear hwk hown1 hgrow1 ho HP HJ hmap hroom hq HD hnone
      go_wp2_with fail
      refine (HPL.out w1 HP1.out).mono ?_
      rintro e w2 ⟨rfl, u2⟩
      clear HPL
      have bA : Below w1.heap.size w1 (w2.alloc (.cells #[.int .i64 nk, .int .i64 nf, .int .i64 nt, .int .u64 nu, .string ns, .int .i64 ya, .int .i64 yb] NodeT)) := u2.alloc u2.size _
      have hgr : w1.grownBy (w2.alloc (.cells #[.int .i64 nk, .int .i64 nf, .int .i64 nt, .int .u64 nu, .string ns, .int .i64 ya, .int .i64 yb] NodeT)) none := ⟨bA.os, bA.tape, bA.output, bA.size, fun k hk _ => bA.block k hk⟩
      have hx : (w2.alloc (.cells #[.int .i64 nk, .int .i64 nf, .int .i64 nt, .int .u64 nu, .string ns, .int .i64 ya, .int .i64 yb] NodeT)).heap[w2.heap.size]? = some (Obj.cells #[.int .i64 nk, .int .i64 nf, .int .i64 nt, .int .u64 nu, .string ns, .int .i64 ya, .int .i64 yb] NodeT) := heap_alloc_new _ _
      have HX := Lib.hid hx
      have HH2 := Lib.hid (hh1.trans (Hold.below bA))
      have HP2 := Lib.hid (HG.out.grow _ _ _ HP1.out hgr (fun r e => by cases e))
      have HJ2 := Lib.hid (HG.out.jgrow _ _ _ _ HJ1.out hgr (fun r e => by cases e))
      have HM2 : Hid (Met (w2.alloc (.cells #[.int .i64 nk, .int .i64 nf, .int .i64 nt, .int .u64 nu, .string ns, .int .i64 ya, .int .i64 yb] NodeT)) mb acc (t :: anc)) := Lib.hid (by obtain ⟨D', o', d'⟩ := HM1.out; exact ⟨D', o'.kept hgr (by simp), d'⟩)
      clear HP1 HJ1 HM1 u2 bA hgr hx hh1
      go_upto_region 6 with fail
      generalize (w2.alloc (.cells #[.int .i64 nk, .int .i64 nf, .int .i64 nt, .int .u64 nu, .string ns, .int .i64 ya, .int .i64 yb] NodeT)) = w3 at *
      generalize w2.heap.size = nb at *
      have c5 := cellB (j := 5) HX.out rfl
      have c6 := cellB (j := 6) HX.out rfl
      refine (wpIn_wide (n := 3)).1 ?_
      gi_wp2_with fail
      have hka : ya = 0 ∨ inP p ya = true := KA.out.imp id (·.1)
      have hkb : yb = 0 ∨ inP p yb = true := KB.out.imp id (·.1)
      have hla : ya < t := by rcases KA.out with h | h <;> omega
      have hlb : yb < t := by rcases KB.out with h | h <;> omega
      have hsub := (over_more p f yb (over p f ya acc)).length_le
      refine ⟨trivial, (IH.out 2 ya acc (t :: anc) w3 hka (by have := HTF.out; omega) (fun x hx => by
        rcases List.mem_cons.1 hx with rfl | hx
        · exact hla
        · have := HA.out x hx; omega) (by have := HL.out; simp; omega) HP2.out HM2.out HJ2.out (by have := HNN.out; simp at this; omega)).mono ?_⟩
      rintro e w4 (⟨rfl, p4, m4, j4, h4⟩ | ⟨rfl, q, q1, q2, jx⟩)
      · have HH4 := Lib.hid (HH2.out.trans h4)
        have c6' := cellB (j := 6) (h4 _ _ HX.out) rfl
        have HP4 := Lib.hid p4
        have HM4 := Lib.hid m4
        have HJ4 := Lib.hid j4
        clear p4 m4 j4 h4 c5 c6 HP2 HM2 HJ2 HH2
        gi_wp2_with fail
        refine ⟨trivial, (IH.out 2 yb _ (t :: anc) w4 hkb (by have := HTF.out; omega) (fun x hx => by
          rcases List.mem_cons.1 hx with rfl | hx
          · exact hlb
          · have := HA.out x hx; omega) (by have := HL.out; simp; omega) HP4.out HM4.out HJ4.out (by have := HNN.out; simp at this; omega)).mono ?_⟩
        rintro e w5 (⟨rfl, p5, m5, j5, h5⟩ | ⟨rfl, q, q1, q2, jx⟩)
        · obtain ⟨fn, tmps, assign, body, hy, hR⟩ := HG.out.round 2 _ t w5 HINT.out j5 (by have := HNN.out; simp at this; omega)
          have HRR := Lib.hid hR
          have HP5 := Lib.hid p5
          have HM5 := Lib.hid m5
          have HH5 := Lib.hid (HH4.out.trans h5)
          clear hR p5 m5 j5 h5 c6' HP4 HM4 HJ4 HH4
          gi_wp2_with fail
          refine HRR.out.mono ?_
          rintro e w6 (⟨rfl, j6, k6⟩ | ⟨rfl, jx6⟩)
          · have HF := Lib.hid (show WalkPost B a b v p mb J Jx acc anc (over p f yb (over p f ya acc) ++ [t]) W (.returned (.bool true)) w6 from
              .inl ⟨rfl, HG.out.keep _ _ k6 HP5.out, (HM5.out.same (fun es c => HG.out.map _ _ es c k6)).leave, j6, HH5.out.trans (HG.out.hold _ _ k6)⟩)
            clear j6 k6 hy HRR
            gi_wp2_with fail
            go_wp2_with fail
            go_returns
            exact HF.out
          · have HF := Lib.hid (show WalkPost B a b v p mb J Jx acc anc (over p f yb (over p f ya acc) ++ [t]) W (.returned (.bool false)) w6 from
              .inr ⟨rfl, _, ((over_more p f ya acc).trans (over_more p f yb _)).trans (List.prefix_append _ _), List.prefix_refl _, jx6⟩)
            clear jx6 hy HRR
            gi_wp2_with fail
            go_wp2_with fail
            go_returns
            exact HF.out
        · have HF := Lib.hid (show ∀ X, X = w5 → WalkPost B a b v p mb J Jx acc anc (over p f yb (over p f ya acc) ++ [t]) W (.returned (.bool false)) X from
            fun X hX => by subst hX; exact .inr ⟨rfl, q, (over_more p f ya acc).trans q1, q2.trans (List.prefix_append _ _), jx⟩)
          clear jx q1 q2 c6'
          gi_wp2_with fail
          refine ⟨fun f h => (by cases h), ?_⟩
          gi_wp2_with fail
          go_wp2_with fail
          go_returns
          exact HF.out _ rfl
      · have HF := Lib.hid (show ∀ X, X = w4 → WalkPost B a b v p mb J Jx acc anc (over p f yb (over p f ya acc) ++ [t]) W (.returned (.bool false)) X from
            fun X hX => by subst hX; exact .inr ⟨rfl, q, q1, (q2.trans (over_more p f yb _)).trans (List.prefix_append _ _), jx⟩)
        clear jx q1 q2 c5 c6
        gi_wp2_with fail
        refine ⟨trivial, ?_⟩
        gi_wp2_with fail
        refine ⟨fun f h => (by cases h), ?_⟩
        gi_wp2_with fail
        go_wp2_with fail
        go_returns
        exact HF.out _ rfl
    · rw [over_out p _ hc] at hNN ⊢
      exact walk_outI hG n ht hc hp hm hJ
end Go.Proofs.YtgaklaajbepfaaaGreatDoor
