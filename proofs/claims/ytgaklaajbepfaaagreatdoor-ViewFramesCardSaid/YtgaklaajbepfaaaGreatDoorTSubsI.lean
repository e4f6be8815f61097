/-
  What Subs answers, the range's things being terms of the pool.
-/
import Derived.Test.YtgaklaajbepfaaaGreatDoorTSubs
import Derived.Test.YtgaklaajbepfaaaGreatDoorTWalkI
namespace Go.Proofs.YtgaklaajbepfaaaGreatDoor
open Go.RowKit Go.Maps
set_option linter.unusedVariables false

section
variable {w : World} {B a b : Nat} {v : Value} {p : Pl}
/-- A term of a pool. -/
abbrev InT (p : Pl) := {x : Int // inP p x = true}
def encI (x : InT p) : Array Value := #[.int .i64 x.1]
set_option maxRecDepth 100000 in
set_option maxHeartbeats 1600000 in
/-- What Subs answers goes over the subterms, or a part of them from the front. -/
theorem stopsI (n : Nat) (Kp : World → World → Prop) (hKP : ∀ W W', Kp W W' → IsPool W B a b v p → IsPool W' B a b v p) (hKN : ∀ W W', Kp W W' → Hold NodeT W W')
    (hKM : ∀ W W' k es c, Kp W W' → w.heap.size ≤ k → W.heap[k]? = some (.map es c) → W'.heap[k]? = some (.map es c)) (h : IsPool w B a b v p) {bp bt : Nat} {t : Int}
    (h0 : w.heap[bp]? = some (Obj.cells #[.pointer (some ⟨a, 0, none⟩)] PPoolT)) (h1 : w.heap[bt]? = some (Obj.cells #[.int .i64 t] TermT)) (ht : t = 0 ∨ inP p t = true) :
    SeqStopsK Fence.wide n Tryz.prog 102 #[.pointer (some ⟨bp, 0, none⟩), .pointer (some ⟨bt, 0, none⟩)] (encI (p := p)) Kp (fun ys => ys.map (·.1) = subs p t) (fun pre => pre.map (·.1) <+: subs p t) (subs p t).length w := by
  intro l J Jx W hW hJ hJx hY hJ0
  have hlt : ∀ k, k = a ∨ k = b ∨ v.ownBlock = some k → k < W.heap.size := fun k hk => by
    have := hW.size
    have hap := h.apart
    rcases hk with rfl | rfl | hk
    · have := h.lt; omega
    · obtain ⟨D, ho, _⟩ := h.dict
      have := ho.lt; omega
    · have := (hap.2 k hk).2.2.1; omega
  have hG : GoesI B a b v p l W.heap.size Kp (fun s X => ∃ s' : List (InT p), s'.map (·.1) = s ∧ J s' X) (fun s X => ∃ s' : List (InT p), s'.map (·.1) = s ∧ Jx s' X) (subs p t).length := by
    refine ⟨fun X Y row hX hg hr => hX.kept hg (fun r e => ?_), hKP, hKN, fun X Y es c hk hm => hKM X Y _ es c hk hW.size hm, fun s X Y row hs hg hr => ?_, fun m pre x X hin hj hl => ?_⟩
    · obtain rfl := hr r e
      exact ⟨fun e => absurd (hlt _ (.inl e)) (Nat.lt_irrefl _), fun e => absurd (hlt _ (.inr (.inl e))) (Nat.lt_irrefl _), fun e => absurd (hlt _ (.inr (.inr e))) (Nat.lt_irrefl _)⟩
    · obtain ⟨s', e, hj⟩ := hs
      exact ⟨s', e, hJ s' X Y row hj hg (fun r e => ⟨Nat.le_of_eq (hr r e).1.symm, (hr r e).2⟩)⟩
    · obtain ⟨s', e, hj⟩ := hj
      obtain ⟨fn, tmps, assign, body, hy, hR⟩ := hY s' ⟨x, hin⟩ X hj (by rw [← e] at hl; simpa using hl)
      have hR' := RoundIn.mono (R' := fun e W' => (e = .returned (.bool true) ∧ (∃ s' : List (InT p), s'.map (·.1) = pre ++ [x] ∧ J s' W') ∧ Kp X W') ∨ (e = .returned (.bool false) ∧ ∃ s' : List (InT p), s'.map (·.1) = pre ++ [x] ∧ Jx s' W')) hR (fun e' W' h => by
        rcases h with ⟨h1, h2, h3⟩ | ⟨h1, h2⟩
        · exact .inl ⟨h1, ⟨_, by rw [List.map_append, e]; rfl, h2⟩, h3⟩
        · exact .inr ⟨h1, _, by rw [List.map_append, e]; rfl, h2⟩)
      exact ⟨fn, tmps, assign, body, hy, hR'.1, fun c cs _ => hR'.2 c cs (fun d h => by cases h)⟩
  have c0 := bcellAt hW (cellB (j := 0) h0 rfl)
  have c1 := bcellAt hW (cellB (j := 0) h1 rfl)
  have hPW := h.below hW
  have hN : p.length ≤ 65536 := h.ok.len
  have hN2 := Nat.le_trans (subs_len h.ok t) hN
  have htl : t.toNat ≤ p.length := by
    rcases ht with rfl | ht
    · exact Nat.zero_le _
    · unfold inP at ht; simp at ht; omega
  have hg0 : W.grownBy (W.alloc (.map #[] 0)) none := World.grownBy_alloc _ _ none
  have hwa := walk_anyI hG hN2 p.length (n - 1) t [] [] (W.alloc (.map #[] 0)) ht htl (fun x hx => by cases hx) (by simpa using hN) (hPW.kept hg0 (fun r e => by cases e)) (Met.new W) ⟨[], rfl, hJ [] _ _ none hJ0 hg0 (fun r e => by cases e)⟩ (Nat.le_refl _)
  have HWA := Lib.hid hwa
  clear hwa hg0 htl hN hN2 hPW hG hlt h h0 h1 hKP hKN hKM hJ hJx hY hJ0 hW ht
  have hmm := @run_makeMap Tryz.prog
  refine callsIn_wide.2 ?_
  go_enter Tryz.func102, Tryz.ntmps102
  go_wp2_with fail
  refine (callsIn_wide.1 HWA.out).mono ?_
  rintro e W1 (⟨rfl, _, _, hJ1, _⟩ | ⟨rfl, q, _, hq, hx⟩)
  · have HJ1 := Lib.hid hJ1
    clear hJ1
    go_wp2_with fail
    go_returns
    obtain ⟨s', e, hj⟩ := HJ1.out
    exact ⟨⟨_, rfl⟩, .inl ⟨s', e, hj⟩⟩
  · have HX := Lib.hid hx
    have HQ := Lib.hid hq
    clear hx hq
    go_wp2_with fail
    go_returns
    obtain ⟨s', e, hj⟩ := HX.out
    exact ⟨⟨_, rfl⟩, .inr ⟨s', by rw [e]; exact HQ.out, hj⟩⟩
end
end Go.Proofs.YtgaklaajbepfaaaGreatDoor
