/-
  Subs, and what it answers: the subterms of a term, or a part of them from the front.
-/
import Derived.Test.YtgaklaajbepfaaaGreatDoorTWalk
import Derived.Test.YtgaklaajbepfaaaGreatDoorTAdd
namespace Go.Proofs.YtgaklaajbepfaaaGreatDoor
open Go.RowKit Go.Maps
attribute [local go_sem] Oper.semAt_some
set_option linter.unusedVariables false

abbrev PPoolT : TypeId := 26
variable {B a b : Nat} {v : Value} {p : Pl} {w : World}
theorem IsPool.kept (h : IsPool w B a b v p) {w' : World} {row : Option Nat} (hg : w.grownBy w' row) (hr : ∀ r, row = some r → r ≠ a ∧ r ≠ b ∧ v.ownBlock ≠ some r) : IsPool w' B a b v p := by
  obtain ⟨D, ho, hd⟩ := h.dict
  exact ⟨by rw [hg.block a h.lt (fun e => (hr a e.symm).1 rfl)]; exact h.lay, h.ga, h.gb, own_kept h.row hg (fun r e e' => (hr r e).2.2 e'), ⟨D, ho.kept hg (fun e => (hr b e.symm).2.1 rfl), hd⟩, h.ok, h.nok⟩
def termIn (p : Pl) (t : Int) : Int := if inP p t = true then t else 0
theorem termIn_or (p : Pl) (t : Int) : termIn p t = 0 ∨ inP p (termIn p t) = true := by
  unfold termIn
  by_cases h : inP p t = true
  · rw [if_pos h]; exact .inr h
  · rw [if_neg h]; exact .inl rfl
theorem subs_termIn (p : Pl) (t : Int) : subs p (termIn p t) = subs p t := by
  unfold termIn
  by_cases h : inP p t = true
  · rw [if_pos h]
  · rw [if_neg h]
    unfold subs
    rw [over_out p _ (fun x => by rw [inP_zero] at x; exact absurd x.1 (by decide)), over_out p _ (fun x => h x.1)]

theorem two_boxes (w : World) (a : Nat) (t : Int) : Below w.heap.size w ((w.alloc (.cells #[.pointer (some ⟨a, 0, none⟩)] PPoolT)).alloc (.cells #[.int .i64 t] TermT)) ∧
    ((w.alloc (.cells #[.pointer (some ⟨a, 0, none⟩)] PPoolT)).alloc (.cells #[.int .i64 t] TermT)).heap[w.heap.size]? = some (Obj.cells #[.pointer (some ⟨a, 0, none⟩)] PPoolT) ∧
    ((w.alloc (.cells #[.pointer (some ⟨a, 0, none⟩)] PPoolT)).alloc (.cells #[.int .i64 t] TermT)).heap[w.heap.size + 1]? = some (Obj.cells #[.int .i64 t] TermT) := by
  refine ⟨((Below.refl _ _).alloc (Nat.le_refl _) _).alloc (by simp) _, ?_, ?_⟩
  · rw [(((Below.refl _ _).alloc (Nat.le_refl _) _ : Below (w.alloc (.cells #[.pointer (some ⟨a, 0, none⟩)] PPoolT)).heap.size (w.alloc (.cells #[.pointer (some ⟨a, 0, none⟩)] PPoolT)) _)).block _ (by simp)]
    exact heap_alloc_new _ _
  · have e : w.heap.size + 1 = (w.alloc (.cells #[.pointer (some ⟨a, 0, none⟩)] PPoolT)).heap.size := by simp
    rw [e]; exact heap_alloc_new _ _
set_option maxRecDepth 100000 in
set_option maxHeartbeats 1600000 in
theorem psubs (h : IsPool w B a b v p) (t : Int) : Calls Tryz.prog 70 #[.pointer (some ⟨a, 0, none⟩), .int .i64 t] w fun e w' => e = .returned (.func (.func 102) #[] #[.pointer (some ⟨w.heap.size, 0, none⟩), .pointer (some ⟨w.heap.size + 1, 0, none⟩)]) ∧
    w'.heap[w.heap.size]? = some (Obj.cells #[.pointer (some ⟨a, 0, none⟩)] PPoolT) ∧ w'.heap[w.heap.size + 1]? = some (Obj.cells #[.int .i64 (termIn p t)] TermT) ∧ Below w.heap.size w w' := by
  obtain ⟨b0, h0, h1⟩ := two_boxes w a t
  have HZ := Lib.hid (two_boxes w a 0)
  have hp := h.below b0
  have HP := Lib.hid hp
  have HB := Lib.hid b0
  have H0 := Lib.hid h0
  have H1 := Lib.hid h1
  have HT : Hid (termIn p t = if inP p t = true then t else 0) := Lib.hid rfl
  clear h hp b0 h0 h1
  go_enter Tryz.func70, Tryz.ntmps70
  have c0 := cellB (j := 0) H0.out rfl
  have c1 := cellB (j := 0) H1.out rfl
  have f1 := frozenB (j := 0) H1.out
  go_wp2_with fail
  refine (pholds HP.out t).mono ?_
  rintro e w2 ⟨rfl, rfl⟩
  cases hin : inP p t with
  | true =>
    rw [hin, if_pos rfl] at HT
    go_wp2_with fail
    go_returns
    exact ⟨rfl, H0.out, by rw [HT.out]; exact H1.out, HB.out⟩
  | false =>
    rw [hin, if_neg (by decide)] at HT
    go_wp2_with fail
    go_returns
    exact ⟨rfl, HZ.out.2.1, by rw [HT.out]; exact HZ.out.2.2, HZ.out.1⟩

set_option maxRecDepth 100000 in
set_option maxHeartbeats 1600000 in
/-- What Subs answers goes over the subterms, or a part of them from the front. -/
theorem stopsT (n : Nat) (Kp : World → World → Prop) (hKP : ∀ W W', Kp W W' → IsPool W B a b v p → IsPool W' B a b v p) (hKN : ∀ W W', Kp W W' → Hold NodeT W W')
    (hKM : ∀ W W' k es c, Kp W W' → w.heap.size ≤ k → W.heap[k]? = some (.map es c) → W'.heap[k]? = some (.map es c)) (h : IsPool w B a b v p) {bp bt : Nat} {t : Int}
    (h0 : w.heap[bp]? = some (Obj.cells #[.pointer (some ⟨a, 0, none⟩)] PPoolT)) (h1 : w.heap[bt]? = some (Obj.cells #[.int .i64 t] TermT)) (ht : t = 0 ∨ inP p t = true) :
    SeqStopsK Fence.wide n Tryz.prog 102 #[.pointer (some ⟨bp, 0, none⟩), .pointer (some ⟨bt, 0, none⟩)] encT Kp (fun ys => ys = subs p t) (fun pre => pre <+: subs p t) (subs p t).length w := by
  intro l J Jx W hW hJ _ hY hJ0
  have hlt : ∀ k, k = a ∨ k = b ∨ v.ownBlock = some k → k < W.heap.size := fun k hk => by
    have := hW.size
    have hap := h.apart
    rcases hk with rfl | rfl | hk
    · have := h.lt; omega
    · obtain ⟨D, ho, _⟩ := h.dict
      have := ho.lt; omega
    · have := (hap.2 k hk).2.2.1; omega
  have hG : Goes B a b v p l W.heap.size Kp J Jx (subs p t).length := by
    refine ⟨fun X Y row hX hg hr => hX.kept hg (fun r e => ?_), hKP, hKN, fun X Y es c hk hm => hKM X Y _ es c hk hW.size hm, fun s X Y row hs hg hr => hJ s X Y row hs hg (fun r e => ⟨Nat.le_of_eq (hr r e).1.symm, (hr r e).2⟩), fun m pre x X hj hl => ?_⟩
    · obtain rfl := hr r e
      exact ⟨fun e => absurd (hlt _ (.inl e)) (Nat.lt_irrefl _), fun e => absurd (hlt _ (.inr (.inl e))) (Nat.lt_irrefl _), fun e => absurd (hlt _ (.inr (.inr e))) (Nat.lt_irrefl _)⟩
    · obtain ⟨fn, tmps, assign, body, hy, hR⟩ := hY pre x X hj hl
      exact ⟨fn, tmps, assign, body, hy, hR.1, fun c cs _ => hR.2 c cs (fun d h => by cases h)⟩
  have c0 := bcellAt hW (cellB (j := 0) h0 rfl)
  have c1 := bcellAt hW (cellB (j := 0) h1 rfl)
  have hPW := h.below hW
  have hN : p.length ≤ 65536 := h.ok.len
  have hN2 := Nat.le_trans (subs_len h.ok t) hN
  have htl : t.toNat ≤ p.length := by
    rcases ht with rfl | ht
    · exact Nat.zero_le _
    · unfold inP at ht; simp at ht; omega
  have hg0 : W.grownBy (W.alloc (.map #[] 0)) none := World.grownBy_alloc _ _ none
  have hwa := walk_any hG hN2 p.length (n - 1) t [] [] (W.alloc (.map #[] 0)) ht htl (fun x hx => by cases hx) (by simpa using hN) (hPW.kept hg0 (fun r e => by cases e)) (Met.new W) (hJ [] _ _ none hJ0 hg0 (fun r e => by cases e)) (Nat.le_refl _)
  have HWA := Lib.hid hwa
  clear hwa hg0 htl hN hN2 hPW hG hlt h h0 h1 hKP hKN hKM hJ hY hJ0 hW ht
  have hmm := @run_makeMap Tryz.prog
  refine callsIn_wide.2 ?_
  go_enter Tryz.func102, Tryz.ntmps102
  go_wp2_with fail
  refine (callsIn_wide.1 HWA.out).mono ?_
  rintro e W1 (⟨rfl, _, _, hJ1, _⟩ | ⟨rfl, q, _, hq, hx⟩)
  · have HJ1 := Lib.hid hJ1
    clear hJ1
    go_wp2_with fail
    go_returns
    exact ⟨⟨_, rfl⟩, .inl ⟨_, rfl, HJ1.out⟩⟩
  · have HX := Lib.hid hx
    have HQ := Lib.hid hq
    clear hx hq
    go_wp2_with fail
    go_returns
    exact ⟨⟨_, rfl⟩, .inr ⟨q, HQ.out, HX.out⟩⟩
end Go.Proofs.YtgaklaajbepfaaaGreatDoor
