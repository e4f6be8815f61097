/-
  refuse; remaking; View, Swap, Tells.
-/
import Derived.Test.YtgaklaajbepfaaaGreatDoorVKind
import Derived.Test.YtgaklaajbepfaaaGreatDoorTLive
namespace Go.Proofs.YtgaklaajbepfaaaGreatDoor
open Go.RowKit Go.Maps Go.Shelf
set_option linter.unusedVariables false

theorem run_store_funcV (P : Program) (w : World) (a : Addr) (fn : Fn) (x y : Array Value) (m : Mode) : (store a (.func fn x y) m).run P w = stored P w a (.func fn x y) m := run_store P w a _ m rfl
attribute [local go_sem] run_store_funcV
/-- What making anew starts with. -/
def anew0 : Int → Option Int := fun x => if x = 0 then some 0 else none
theorem anew_new (w : World) (T : Int) : ∃ w', (Instr.mapUpdate AnewT (.map (some w.heap.size)) (.int .i64 0) (.int .i64 0)).run Tryz.prog (w.alloc (.map #[] 0)) = .ok () w' ∧ AnM w' w.heap.size T anew0 ∧ (w.alloc (.map #[] 0)).grownBy w' (some w.heap.size) := by
  have hmade : (w.alloc (.map #[] 0)).ownsMap Tryz.prog TermT (plainElem (H := Unit) Tryz.prog TermT) w.heap.size 0 _ := World.ownsMap_made w _ _ _
  have hm := hmade.isMap
  have h0 : i64R 0 := by unfold i64R; omega
  obtain ⟨w', h1, h2, h3⟩ := hmade.update lawT Tryz.underlying153 (by unfold maxLen; omega) (keyT h0) (plainElem_int Tryz.underlying39 (wf_i64 h0))
  refine ⟨w', h1, ⟨1, _, [], h2, fun x hx => ?_, List.nodup_nil, fun x hx => (by cases hx), Nat.le_refl _⟩, h3⟩
  unfold anew0
  by_cases e : x = 0
  · subst e
    rw [has_put_same hm (lawT.key (keyT hx)), atKey_put_same hm (lawT.key (keyT hx)), if_pos rfl]; exact ⟨rfl, rfl⟩
  · rw [has_put_other (fun e' => e (by simpa using e')), atKey_put_other (fun e' => e (by simpa using e')), if_neg e]
    exact ⟨rfl, rfl⟩
theorem re_boxes (w w4 : World) (a fl ob : Nat) (T : Int) (hA : AnM w4 (w.heap.size + 1 + 1) T anew0) (hg : (((w.alloc (.cells #[.pointer (some ⟨a, 0, none⟩)] VPoolT)).alloc (.cells #[.func (.func fl) #[] #[.pointer (some ⟨ob, 0, none⟩)]] KindFT)).alloc (.map #[] 0)).grownBy w4 (some (w.heap.size + 1 + 1))) :
    IsRe ((w4.alloc (.cells #[.map (some (w.heap.size + 1 + 1))] AnewT)).alloc (.cells #[.func (.func 107) #[] #[.pointer (some ⟨w4.heap.size, 0, none⟩), .pointer (some ⟨w.heap.size, 0, none⟩), .pointer (some ⟨w.heap.size + 1, 0, none⟩), .pointer (some ⟨w4.heap.size + 1, 0, none⟩)]] ReFT)) w4.heap.size w.heap.size (w.heap.size + 1) (w4.heap.size + 1) (w.heap.size + 1 + 1) a (.func (.func fl) #[] #[.pointer (some ⟨ob, 0, none⟩)]) ∧ AnM ((w4.alloc (.cells #[.map (some (w.heap.size + 1 + 1))] AnewT)).alloc (.cells #[.func (.func 107) #[] #[.pointer (some ⟨w4.heap.size, 0, none⟩), .pointer (some ⟨w.heap.size, 0, none⟩), .pointer (some ⟨w.heap.size + 1, 0, none⟩), .pointer (some ⟨w4.heap.size + 1, 0, none⟩)]] ReFT)) (w.heap.size + 1 + 1) T anew0 ∧ Below w.heap.size w ((w4.alloc (.cells #[.map (some (w.heap.size + 1 + 1))] AnewT)).alloc (.cells #[.func (.func 107) #[] #[.pointer (some ⟨w4.heap.size, 0, none⟩), .pointer (some ⟨w.heap.size, 0, none⟩), .pointer (some ⟨w.heap.size + 1, 0, none⟩), .pointer (some ⟨w4.heap.size + 1, 0, none⟩)]] ReFT)) := by
  have s1 : (w.alloc (.cells #[.pointer (some ⟨a, 0, none⟩)] VPoolT)).heap.size = w.heap.size + 1 := by simp [World.size_alloc]
  have s2 : ((w.alloc (.cells #[.pointer (some ⟨a, 0, none⟩)] VPoolT)).alloc (.cells #[.func (.func fl) #[] #[.pointer (some ⟨ob, 0, none⟩)]] KindFT)).heap.size = w.heap.size + 1 + 1 := by simp [World.size_alloc]
  have hp : (w.alloc (.cells #[.pointer (some ⟨a, 0, none⟩)] VPoolT)).heap[w.heap.size]? = some (Obj.cells #[.pointer (some ⟨a, 0, none⟩)] VPoolT) := heap_alloc_new _ _
  have hk : ((w.alloc (.cells #[.pointer (some ⟨a, 0, none⟩)] VPoolT)).alloc (.cells #[.func (.func fl) #[] #[.pointer (some ⟨ob, 0, none⟩)]] KindFT)).heap[w.heap.size + 1]? = some (Obj.cells #[.func (.func fl) #[] #[.pointer (some ⟨ob, 0, none⟩)]] KindFT) := by rw [← s1]; exact heap_alloc_new _ _
  have hm : (((w.alloc (.cells #[.pointer (some ⟨a, 0, none⟩)] VPoolT)).alloc (.cells #[.func (.func fl) #[] #[.pointer (some ⟨ob, 0, none⟩)]] KindFT)).alloc (.map #[] 0)).heap[w.heap.size + 1 + 1]? = some (Obj.map #[] 0) := by rw [← s2]; exact heap_alloc_new _ _
  have b2 : Below w.heap.size w ((w.alloc (.cells #[.pointer (some ⟨a, 0, none⟩)] VPoolT)).alloc (.cells #[.func (.func fl) #[] #[.pointer (some ⟨ob, 0, none⟩)]] KindFT)) := bmore (bA0 _ _) (bA0 _ _)
  have b3 : Below w.heap.size w (((w.alloc (.cells #[.pointer (some ⟨a, 0, none⟩)] VPoolT)).alloc (.cells #[.func (.func fl) #[] #[.pointer (some ⟨ob, 0, none⟩)]] KindFT)).alloc (.map #[] 0)) := bmore b2 (bA0 _ _)
  have b4 : Below w.heap.size w w4 := b3.trans (grown_below hg b3.size (fun k e => by cases e; omega))
  have b56 : Below w4.heap.size w4 ((w4.alloc (.cells #[.map (some (w.heap.size + 1 + 1))] AnewT)).alloc (.cells #[.func (.func 107) #[] #[.pointer (some ⟨w4.heap.size, 0, none⟩), .pointer (some ⟨w.heap.size, 0, none⟩), .pointer (some ⟨w.heap.size + 1, 0, none⟩), .pointer (some ⟨w4.heap.size + 1, 0, none⟩)]] ReFT)) := bmore (bA0 _ _) (bA0 _ _)
  have hp4 := hold_map ⟨_, _, hm⟩ hg VPoolT _ _ (Hold.below (bA0 ((w.alloc (.cells #[.pointer (some ⟨a, 0, none⟩)] VPoolT)).alloc (.cells #[.func (.func fl) #[] #[.pointer (some ⟨ob, 0, none⟩)]] KindFT)) (.map #[] 0)) _ _ (Hold.below (bA0 (w.alloc (.cells #[.pointer (some ⟨a, 0, none⟩)] VPoolT)) (.cells #[.func (.func fl) #[] #[.pointer (some ⟨ob, 0, none⟩)]] KindFT)) _ _ hp))
  have hk4 := hold_map ⟨_, _, hm⟩ hg KindFT _ _ (Hold.below (bA0 ((w.alloc (.cells #[.pointer (some ⟨a, 0, none⟩)] VPoolT)).alloc (.cells #[.func (.func fl) #[] #[.pointer (some ⟨ob, 0, none⟩)]] KindFT)) (.map #[] 0)) _ _ hk)
  have ha5 : (w4.alloc (.cells #[.map (some (w.heap.size + 1 + 1))] AnewT)).heap[w4.heap.size]? = some (Obj.cells #[.map (some (w.heap.size + 1 + 1))] AnewT) := heap_alloc_new _ _
  have s5 : (w4.alloc (.cells #[.map (some (w.heap.size + 1 + 1))] AnewT)).heap.size = w4.heap.size + 1 := by simp [World.size_alloc]
  have hr6 : ((w4.alloc (.cells #[.map (some (w.heap.size + 1 + 1))] AnewT)).alloc (.cells #[.func (.func 107) #[] #[.pointer (some ⟨w4.heap.size, 0, none⟩), .pointer (some ⟨w.heap.size, 0, none⟩), .pointer (some ⟨w.heap.size + 1, 0, none⟩), .pointer (some ⟨w4.heap.size + 1, 0, none⟩)]] ReFT)).heap[w4.heap.size + 1]? = some (Obj.cells #[.func (.func 107) #[] #[.pointer (some ⟨w4.heap.size, 0, none⟩), .pointer (some ⟨w.heap.size, 0, none⟩), .pointer (some ⟨w.heap.size + 1, 0, none⟩), .pointer (some ⟨w4.heap.size + 1, 0, none⟩)]] ReFT) := by rw [← s5]; exact heap_alloc_new _ _
  exact ⟨⟨Hold.below (bA0 (w4.alloc (.cells #[.map (some (w.heap.size + 1 + 1))] AnewT)) _) _ _ ha5, Hold.below b56 _ _ hp4, Hold.below b56 _ _ hk4, hr6⟩, hA.below b56, bmore b4 b56⟩
set_option maxRecDepth 100000 in
set_option maxHeartbeats 6400000 in
theorem remaking_any (w : World) (a fl ob : Nat) (T : Int) : Calls Tryz.prog 75 #[.pointer (some ⟨a, 0, none⟩), .func (.func fl) #[] #[.pointer (some ⟨ob, 0, none⟩)]] w fun e w' => ∃ ab pb kb rb mb, e = .returned (.func (.func 107) #[] #[.pointer (some ⟨ab, 0, none⟩), .pointer (some ⟨pb, 0, none⟩), .pointer (some ⟨kb, 0, none⟩), .pointer (some ⟨rb, 0, none⟩)]) ∧ IsRe w' ab pb kb rb mb a (.func (.func fl) #[] #[.pointer (some ⟨ob, 0, none⟩)]) ∧ AnM w' mb T anew0 ∧ w.heap.size ≤ mb ∧ Below w.heap.size w w' := by
  have hmm := @run_makeMap Tryz.prog
  have b1 := bA0 w (.cells #[.pointer (some ⟨a, 0, none⟩)] VPoolT)
  have b2 := bmore b1 (bA0 (w.alloc (.cells #[.pointer (some ⟨a, 0, none⟩)] VPoolT)) (.cells #[.func (.func fl) #[] #[.pointer (some ⟨ob, 0, none⟩)]] KindFT))
  obtain ⟨w4, hins, hA, hg⟩ := anew_new ((w.alloc (.cells #[.pointer (some ⟨a, 0, none⟩)] VPoolT)).alloc (.cells #[.func (.func fl) #[] #[.pointer (some ⟨ob, 0, none⟩)]] KindFT)) T
  have hsz : ((w.alloc (.cells #[.pointer (some ⟨a, 0, none⟩)] VPoolT)).alloc (.cells #[.func (.func fl) #[] #[.pointer (some ⟨ob, 0, none⟩)]] KindFT)).heap.size = w.heap.size + 1 + 1 := by simp [World.size_alloc]
  rw [hsz] at hins hA hg
  have hmf : ∀ (fn : Fn) (first cap : Array Value) (w : World), (Instr.makeFunc fn first cap).run Tryz.prog w = .ok (.func fn first cap) w := fun _ _ _ _ => rfl
  have HA := Lib.hid hA
  have HG := Lib.hid hg
  have HB2 := Lib.hid b2
  clear hA hg b1 b2
  go_enter Tryz.func75, Tryz.ntmps75
  go_wp2_with fail
  go_returns
  obtain ⟨f1, f2, f3⟩ := re_boxes w w4 a fl ob T HA.out HG.out
  exact ⟨_, _, _, _, _, rfl, f1, f2, by omega, f3⟩
theorem seenBy_any (w : World) (who : Int) : Calls Tryz.prog 76 #[.int .i64 who] w fun e w' => e = .returned (.func (.func 108) #[] #[.pointer (some ⟨w.heap.size, 0, none⟩)]) ∧ w'.heap[w.heap.size]? = some (Obj.cells #[.int .i64 who] WhoT) ∧ Below w.heap.size w w' := by
  have hmf : ∀ (fn : Fn) (first cap : Array Value) (w : World), (Instr.makeFunc fn first cap).run Tryz.prog w = .ok (.func fn first cap) w := fun _ _ _ _ => rfl
  have HF : Hid ((w.alloc (.cells #[.int .i64 who] WhoT)).heap[w.heap.size]? = some (Obj.cells #[.int .i64 who] WhoT) ∧ Below w.heap.size w (w.alloc (.cells #[.int .i64 who] WhoT))) := Lib.hid ⟨heap_alloc_new _ _, bA0 _ _⟩
  go_enter Tryz.func76, Tryz.ntmps76
  go_wp2_with fail
  go_returns
  exact ⟨rfl, HF.out⟩
theorem madeBy_any (w : World) (who : Int) : Calls Tryz.prog 77 #[.int .i64 who] w fun e w' => e = .returned (.func (.func 110) #[] #[.pointer (some ⟨w.heap.size, 0, none⟩)]) ∧ w'.heap[w.heap.size]? = some (Obj.cells #[.int .i64 who] WhoT) ∧ Below w.heap.size w w' := by
  have hmf : ∀ (fn : Fn) (first cap : Array Value) (w : World), (Instr.makeFunc fn first cap).run Tryz.prog w = .ok (.func fn first cap) w := fun _ _ _ _ => rfl
  have HF : Hid ((w.alloc (.cells #[.int .i64 who] WhoT)).heap[w.heap.size]? = some (Obj.cells #[.int .i64 who] WhoT) ∧ Below w.heap.size w (w.alloc (.cells #[.int .i64 who] WhoT))) := Lib.hid ⟨heap_alloc_new _ _, bA0 _ _⟩
  go_enter Tryz.func77, Tryz.ntmps77
  go_wp2_with fail
  go_returns
  exact ⟨rfl, HF.out⟩
/-- What refuse tells. -/
def rfsP (p : Pl) (who : Int) (l : List Int) : Int := if nameB who = false then 50 else if l.all (inP p) = true then 0 else 51
set_option maxRecDepth 100000 in
set_option maxHeartbeats 6400000 in
theorem refuse_any {w : World} {B a b : Nat} {v : Value} {p : Pl} (h : IsPool w B a b v p) (who : Int) {vl : Value} {l : List Int} (hl : Row w 1 vl l.length (ints l)) (hll : l.length ≤ 1000000) : Calls Tryz.prog 74 #[.pointer (some ⟨a, 0, none⟩), .int .i64 who, vl] w fun e w' => e = .returned (.int .i64 (rfsP p who l)) ∧ Below w.heap.size w w' := by
  obtain ⟨la, lc, rfl, hlx⟩ := hl.at
  have HP := Lib.hid h
  have HLX := Lib.hid hlx
  clear h hl hlx
  by_cases hn0 : who < 0
  · have HR : Hid (rfsP p who l = 50) := Lib.hid (by unfold rfsP; rw [if_pos (by unfold nameB; simp; omega)])
    rw [HR.out]
    go_enter Tryz.func74, Tryz.ntmps74
    go_wp2_with fail
    go_returns
    exact ⟨rfl, Below.refl _ _⟩
  · have hn0' : decide (who < 0) = false := decide_eq_false hn0
    by_cases hn1 : 16 ≤ who
    · have HR : Hid (rfsP p who l = 50) := Lib.hid (by unfold rfsP; rw [if_pos (by unfold nameB; simp; omega)])
      rw [HR.out]
      go_enter Tryz.func74, Tryz.ntmps74
      go_wp2_with fail
      go_returns
      exact ⟨rfl, Below.refl _ _⟩
    · have hn1' : decide (16 ≤ who) = false := decide_eq_false hn1
      have HNM : Hid (nameB who = true) := Lib.hid (by unfold nameB; simp; omega)
      clear hn0 hn1
      go_enter Tryz.func74, Tryz.ntmps74
      go_wp2_with fail
      obtain ⟨wo, hwo⟩ : ∃ wo, wo = w := ⟨_, rfl⟩
      go_loopw [23] (fun v23 wr => ∃ i : Nat, v23 = .int .i64 (i : Int) ∧ i ≤ l.length ∧ (∀ x ∈ l.take i, inP p x = true) ∧ Below w.heap.size w wr) (fun v _ => l.length - (intOf v).toNat)
      case atStart => exact ⟨0, rfl, Nat.zero_le _, by simp, Below.refl _ _⟩
      case round =>
        obtain ⟨i, rfl, hi, hall, hb⟩ := hrel
        have HB := Lib.hid hb
        have HAL := Lib.hid hall
        clear hall
        by_cases hlt : i < l.length
        · obtain ⟨gb, go, rfl, q⟩ := HLX.out (by omega)
          have c0 := bcellAt hb (q i _ (ints_at l i hlt))
          have hi0 : (0 : Int) ≤ (i : Int) := by omega
          have hi1 : (i : Int) < (l.length : Int) := by omega
          have HTK : Hid (l.take (i + 1) = l.take i ++ [l[i]]) := Lib.hid (by simp)
          have HME : Hid (l[i] ∈ l) := Lib.hid (List.getElem_mem hlt)
          generalize l[i] = x at *
          have PN := Lib.hid (pnode (HP.out.below hb) x)
          cases hx : inP p x with
          | true =>
            have HXT := Lib.hid hx
            rw [hx] at PN
            clear q hb
            go_wp2_with fail
            refine PN.out.mono ?_
            rintro e w2 ⟨rfl, u2⟩
            have HB2 := Lib.hid (bmore HB.out u2)
            clear u2 PN c0
            generalize (atP p x).1 = n at *
            obtain ⟨kk, ff, tt, uu, ss, xa, xb⟩ := n
            simp only [nodeA]
            have HB3 := Lib.hid (bmore HB2.out (node_box w2 kk ff tt uu xa xb ss).1)
            go_wp2_with fail
            go_roundw
            case rel => exact ⟨i + 1, by go_num, by omega, fun y hy => by
              rw [HTK.out, List.mem_append, List.mem_singleton] at hy
              rcases hy with hy | hy
              · exact HAL.out y hy
              · rw [hy]; exact HXT.out, HB3.out⟩
            case measure => simp [intOf] <;> omega
          | false =>
            have HR : Hid (rfsP p who l = 51) := Lib.hid (by
              unfold rfsP
              rw [if_neg (by rw [HNM.out]; decide), if_neg (fun h => by rw [List.all_eq_true] at h; have := h x HME.out; rw [hx] at this; cases this)])
            rw [hx] at PN
            clear q hb
            go_wp2_with fail
            refine PN.out.mono ?_
            rintro e w2 ⟨rfl, u2⟩
            have HB2 := Lib.hid (bmore HB.out u2)
            clear u2 PN c0
            generalize (atP p x).1 = n at *
            obtain ⟨kk, ff, tt, uu, ss, xa, xb⟩ := n
            simp only [nodeA]
            have HB3 := Lib.hid (bmore HB2.out (node_box w2 kk ff tt uu xa xb ss).1)
            go_wp2_with fail
            go_returns
            exact ⟨by rw [HR.out]; rfl, HB3.out⟩
        · obtain rfl : i = l.length := by omega
          have HR : Hid (rfsP p who l = 0) := Lib.hid (by
            unfold rfsP
            rw [if_neg (by rw [HNM.out]; decide), if_pos (by rw [List.all_eq_true]; intro x hx; exact HAL.out x (by rw [List.take_of_length_le (Nat.le_refl _)]; exact hx))])
          clear hb hlt
          go_wp2_with fail
          go_returns
          exact ⟨by rw [HR.out]; rfl, HB.out⟩
set_option maxRecDepth 100000 in
set_option maxHeartbeats 3200000 in
theorem refuse_nil (w : World) (who : Int) (a : Option Addr) (n c : Nat) : Calls Tryz.prog 74 #[.pointer none, .int .i64 who, .slice a n c] w fun e w' => e = .returned (.int .i64 7) ∧ w = w' := by
  go_enter Tryz.func74, Tryz.ntmps74
  go_wp2_with fail
  go_returns
  exact ⟨rfl, rfl⟩
/-- What View, Swap answer where all is well. -/
def AnewPost (w : World) (B a b : Nat) (f : Nd → Int) (q : Pl) (t : Int) (e : Ending) (w' : World) : Prop :=
  ∃ (u : Int) (v' : Value) (p' : Pl) (m' : Int → Option Int), e = .returned (.tuple #[.int .i64 u, .int .i64 0]) ∧ IsPool w' B a b v' p' ∧ Anew f q t p' m' ∧ m' t = some u ∧ ReG w B b w.heap.size w'
theorem ReG.fresh {w w' : World} {B b mb mb' : Nat} (h : ReG w B b mb w') (h1 : w.heap.size ≤ mb) (h2 : w.heap.size ≤ mb') : ReG w B b mb' w' :=
  ⟨h.below, h.hold, fun j hj _ es c hm => h.maps j hj (fun e => by have := (Array.getElem?_eq_some_iff.1 hm).1; omega) es c hm⟩
theorem row_alloc1 (w : World) (t : Int) : Row (w.alloc (.cells #[.int .i64 t] TermT)) 1 (.slice (some ⟨w.heap.size, 0, none⟩) 1 1) [t].length (ints [t]) := row_of_own (row_one w 0 (Nat.zero_le _) t)
set_option maxRecDepth 100000 in
set_option maxHeartbeats 6400000 in
theorem view_bad {w : World} {B a b : Nat} {v : Value} {p : Pl} (h : IsPool w B a b v p) (who t : Int) (hr : rfsP p who [t] ≠ 0) : Calls Tryz.prog 24 #[.pointer (some ⟨a, 0, none⟩), .int .i64 who, .int .i64 t] w fun e w' => e = .returned (.tuple #[.int .i64 0, .int .i64 (rfsP p who [t])]) ∧ Below w.heap.size w w' := by
  have RF := Lib.hid (refuse_any (h.below (bA0 w (.cells #[.int .i64 t] TermT))) who (row_alloc1 w t) (by simp))
  have hne : (rfsP p who [t] == 0) = false := ebF hr
  have HB := Lib.hid (bA0 w (.cells #[.int .i64 t] TermT))
  generalize rfsP p who [t] = r at *
  clear h hr
  go_enter Tryz.func24, Tryz.ntmps24
  go_wp2_with fail
  refine RF.out.mono ?_
  rintro e w2 ⟨rfl, u2⟩
  have HB2 := Lib.hid (bmore HB.out u2)
  clear u2 RF
  go_wp2_with fail
  go_returns
  exact ⟨rfl, HB2.out⟩
set_option maxRecDepth 100000 in
set_option maxHeartbeats 3200000 in
theorem view_nil (w : World) (who t : Int) : Calls Tryz.prog 24 #[.pointer none, .int .i64 who, .int .i64 t] w fun e w' => e = .returned (.tuple #[.int .i64 0, .int .i64 7]) ∧ Below w.heap.size w w' := by
  have HB := Lib.hid (bA0 w (.cells #[.int .i64 t] TermT))
  go_enter Tryz.func24, Tryz.ntmps24
  go_wp2_with fail
  refine (refuse_nil _ who _ _ _).mono ?_
  rintro e w2 ⟨rfl, rfl⟩
  go_wp2_with fail
  go_returns
  exact ⟨rfl, HB.out⟩
set_option maxRecDepth 100000 in
set_option maxHeartbeats 12800000 in
theorem view_any {w w0 : World} {B a b : Nat} {v : Value} {p : Pl} (hL : Laid w0) (hB : w0.heap.size ≤ B) (hw : Below w0.heap.size w0 w) (h : IsPool w B a b v p) (who : Int) {t : Int} (hn : nameB who = true) (hin : inP p t = true) (hroom : p.length + t.toNat ≤ 65536) : Calls Tryz.prog 24 #[.pointer (some ⟨a, 0, none⟩), .int .i64 who, .int .i64 t] w (AnewPost w B a b (seeK who) p t) := by
  have RF := Lib.hid (refuse_any (h.below (bA0 w (.cells #[.int .i64 t] TermT))) who (row_alloc1 w t) (by simp))
  have hr0 : rfsP p who [t] = 0 := by
    unfold rfsP
    rw [if_neg (by rw [hn]; decide), if_pos (by simp [hin])]
  rw [hr0] at RF
  have HB := Lib.hid (bA0 w (.cells #[.int .i64 t] TermT))
  have HP := Lib.hid h
  have HW := Lib.hid hw
  have ht : t ≤ 65536 := by
    have := h.ok.len
    unfold inP at hin; simp at hin; omega
  have HRE := Lib.hid (fun (ab pb kb rb mb ob : Nat) (h1 : mb ≠ b) (h2 : B ≤ mb) => re_all (ab := ab) (pb := pb) (kb := kb) (rb := rb) (ob := ob) (mb := mb) (a := a) h.ok hL hB (seeF who) ht hroom h1 h2 _ t (Nat.lt_succ_self _) (.inr hin) (Int.le_refl _))
  have HST := Lib.hid (Anew.start (seeK who) h.ok t)
  clear h hL hw hr0 ht hroom hn hin
  go_enter Tryz.func24, Tryz.ntmps24
  go_wp2_with fail
  refine RF.out.mono ?_
  rintro e w2 ⟨rfl, u2⟩
  have HB2 := Lib.hid (bmore HB.out u2)
  clear u2 RF
  go_wp2_with fail
  refine (seenBy_any w2 who).mono ?_
  rintro e w3 ⟨rfl, ho, u3⟩
  have HO3 := Lib.hid ho
  have HB3 := Lib.hid (bmore HB2.out u3)
  have hs3 : w.heap.size ≤ w3.heap.size := HB3.out.size
  clear ho u3
  generalize w2.heap.size = ob at *
  go_wp2_with fail
  refine (remaking_any w3 a _ ob t).mono ?_
  rintro e w4 ⟨ab, pb, kb, rb, mb, rfl, hre, hanm, hmb, u4⟩
  have HO4 := Lib.hid (Hold.below u4 _ _ HO3.out)
  have HB4 := Lib.hid (bmore HB3.out u4)
  have hmbw : w.heap.size ≤ mb := Nat.le_trans hs3 hmb
  have hbw : b < w.heap.size := by obtain ⟨D, ho, _⟩ := HP.out.dict; exact ho.lt
  have hBw : B ≤ w.heap.size := Nat.le_trans HP.out.ga (Nat.le_of_lt HP.out.lt)
  have RC := Lib.hid (HRE.out ab pb kb rb mb ob (by omega) (Nat.le_trans hBw hmbw) w4 v p _ (HW.out.trans (HB4.out.mono HW.out.size)) (HP.out.below HB4.out) hre HO4.out HST.out hanm)
  have HMB := Lib.hid hmbw
  have HBW := Lib.hid hBw
  have eg := enters_of Tryz.func107 (by kernel_rfl) rfl
  clear hre hanm hmb u4 HRE hbw hBw hmbw
  go_wp2_with fail
  refine RC.out.mono ?_
  rintro e w5 ⟨u, v5, p5, m5, rfl, hp5, ha5, _, hu5, _, _, g5, _⟩
  have HF : Hid (AnewPost w B a b (seeK who) p t (.returned (.tuple #[.int .i64 u, .int .i64 0])) w5) := Lib.hid ⟨u, v5, p5, m5, rfl, hp5, ha5, hu5, ((ReG.of HBW.out HB4.out).trans g5).fresh HMB.out (Nat.le_refl _)⟩
  clear hp5 ha5 hu5 g5 RC
  go_wp2_with fail
  go_returns
  exact HF.out
set_option maxRecDepth 100000 in
set_option maxHeartbeats 6400000 in
theorem swap_bad {w : World} {B a b : Nat} {v : Value} {p : Pl} (h : IsPool w B a b v p) (who t : Int) (hr : rfsP p who [t] ≠ 0) : Calls Tryz.prog 25 #[.pointer (some ⟨a, 0, none⟩), .int .i64 who, .int .i64 t] w fun e w' => e = .returned (.tuple #[.int .i64 0, .int .i64 (rfsP p who [t])]) ∧ Below w.heap.size w w' := by
  have RF := Lib.hid (refuse_any (h.below (bA0 w (.cells #[.int .i64 t] TermT))) who (row_alloc1 w t) (by simp))
  have hne : (rfsP p who [t] == 0) = false := ebF hr
  have HB := Lib.hid (bA0 w (.cells #[.int .i64 t] TermT))
  generalize rfsP p who [t] = r at *
  clear h hr
  go_enter Tryz.func25, Tryz.ntmps25
  go_wp2_with fail
  refine RF.out.mono ?_
  rintro e w2 ⟨rfl, u2⟩
  have HB2 := Lib.hid (bmore HB.out u2)
  clear u2 RF
  go_wp2_with fail
  go_returns
  exact ⟨rfl, HB2.out⟩
set_option maxRecDepth 100000 in
set_option maxHeartbeats 3200000 in
theorem swap_nil (w : World) (who t : Int) : Calls Tryz.prog 25 #[.pointer none, .int .i64 who, .int .i64 t] w fun e w' => e = .returned (.tuple #[.int .i64 0, .int .i64 7]) ∧ Below w.heap.size w w' := by
  have HB := Lib.hid (bA0 w (.cells #[.int .i64 t] TermT))
  go_enter Tryz.func25, Tryz.ntmps25
  go_wp2_with fail
  refine (refuse_nil _ who _ _ _).mono ?_
  rintro e w2 ⟨rfl, rfl⟩
  go_wp2_with fail
  go_returns
  exact ⟨rfl, HB.out⟩
set_option maxRecDepth 100000 in
set_option maxHeartbeats 12800000 in
theorem swap_any {w w0 : World} {B a b : Nat} {v : Value} {p : Pl} (hL : Laid w0) (hB : w0.heap.size ≤ B) (hw : Below w0.heap.size w0 w) (h : IsPool w B a b v p) (who : Int) {t : Int} (hn : nameB who = true) (hin : inP p t = true) (hroom : p.length + t.toNat ≤ 65536) : Calls Tryz.prog 25 #[.pointer (some ⟨a, 0, none⟩), .int .i64 who, .int .i64 t] w (AnewPost w B a b (makeK who) p t) := by
  have RF := Lib.hid (refuse_any (h.below (bA0 w (.cells #[.int .i64 t] TermT))) who (row_alloc1 w t) (by simp))
  have hr0 : rfsP p who [t] = 0 := by
    unfold rfsP
    rw [if_neg (by rw [hn]; decide), if_pos (by simp [hin])]
  rw [hr0] at RF
  have HB := Lib.hid (bA0 w (.cells #[.int .i64 t] TermT))
  have HP := Lib.hid h
  have HW := Lib.hid hw
  have ht : t ≤ 65536 := by
    have := h.ok.len
    unfold inP at hin; simp at hin; omega
  have HRE := Lib.hid (fun (ab pb kb rb mb ob : Nat) (h1 : mb ≠ b) (h2 : B ≤ mb) => re_all (ab := ab) (pb := pb) (kb := kb) (rb := rb) (ob := ob) (mb := mb) (a := a) h.ok hL hB (makeF who) ht hroom h1 h2 _ t (Nat.lt_succ_self _) (.inr hin) (Int.le_refl _))
  have HST := Lib.hid (Anew.start (makeK who) h.ok t)
  clear h hL hw hr0 ht hroom hn hin
  go_enter Tryz.func25, Tryz.ntmps25
  go_wp2_with fail
  refine RF.out.mono ?_
  rintro e w2 ⟨rfl, u2⟩
  have HB2 := Lib.hid (bmore HB.out u2)
  clear u2 RF
  go_wp2_with fail
  refine (madeBy_any w2 who).mono ?_
  rintro e w3 ⟨rfl, ho, u3⟩
  have HO3 := Lib.hid ho
  have HB3 := Lib.hid (bmore HB2.out u3)
  have hs3 : w.heap.size ≤ w3.heap.size := HB3.out.size
  clear ho u3
  generalize w2.heap.size = ob at *
  go_wp2_with fail
  refine (remaking_any w3 a _ ob t).mono ?_
  rintro e w4 ⟨ab, pb, kb, rb, mb, rfl, hre, hanm, hmb, u4⟩
  have HO4 := Lib.hid (Hold.below u4 _ _ HO3.out)
  have HB4 := Lib.hid (bmore HB3.out u4)
  have hmbw : w.heap.size ≤ mb := Nat.le_trans hs3 hmb
  have hbw : b < w.heap.size := by obtain ⟨D, ho, _⟩ := HP.out.dict; exact ho.lt
  have hBw : B ≤ w.heap.size := Nat.le_trans HP.out.ga (Nat.le_of_lt HP.out.lt)
  have RC := Lib.hid (HRE.out ab pb kb rb mb ob (by omega) (Nat.le_trans hBw hmbw) w4 v p _ (HW.out.trans (HB4.out.mono HW.out.size)) (HP.out.below HB4.out) hre HO4.out HST.out hanm)
  have HMB := Lib.hid hmbw
  have HBW := Lib.hid hBw
  have eg := enters_of Tryz.func107 (by kernel_rfl) rfl
  clear hre hanm hmb u4 HRE hbw hBw hmbw
  go_wp2_with fail
  refine RC.out.mono ?_
  rintro e w5 ⟨u, v5, p5, m5, rfl, hp5, ha5, _, hu5, _, _, g5, _⟩
  have HF : Hid (AnewPost w B a b (makeK who) p t (.returned (.tuple #[.int .i64 u, .int .i64 0])) w5) := Lib.hid ⟨u, v5, p5, m5, rfl, hp5, ha5, hu5, ((ReG.of HBW.out HB4.out).trans g5).fresh HMB.out (Nat.le_refl _)⟩
  clear hp5 ha5 hu5 g5 RC
  go_wp2_with fail
  go_returns
  exact HF.out
set_option maxRecDepth 100000 in
set_option maxHeartbeats 3200000 in
theorem Tells_any {w : World} {B a b : Nat} {v : Value} {p : Pl} (h : IsPool w B a b v p) (who t : Int) : Calls Tryz.prog 18 #[.pointer (some ⟨a, 0, none⟩), .int .i64 who, .int .i64 t] w fun e w' => e = .returned (.bool (tellB who (atP p t).1)) ∧ Below w.heap.size w w' := by
  have PN := Lib.hid (pnode h t)
  have TL := Lib.hid (fun W => vtells_any who (atP p t).1 W)
  generalize tellB who (atP p t).1 = r at *
  generalize (atP p t).1 = n at *
  obtain ⟨kk, ff, tt, uu, ss, xa, xb⟩ := n
  simp only [nodeA] at PN TL
  clear h
  go_enter Tryz.func18, Tryz.ntmps18
  go_wp2_with fail
  refine PN.out.mono ?_
  rintro e w2 ⟨rfl, u2⟩
  obtain ⟨bA, hb⟩ := node_box w2 kk ff tt uu xa xb ss
  have HB := Lib.hid (bmore u2 bA)
  have y0 : (w2.alloc (.cells #[.int .i64 kk, .int .i64 ff, .int .i64 tt, .int .u64 uu, .string ss, .int .i64 xa, .int .i64 xb] NodeT)).cell? ⟨w2.heap.size, 0, none⟩ = some (.int .i64 kk) := cellB (j := 0) hb rfl
  have y1 : (w2.alloc (.cells #[.int .i64 kk, .int .i64 ff, .int .i64 tt, .int .u64 uu, .string ss, .int .i64 xa, .int .i64 xb] NodeT)).cell? ⟨w2.heap.size, 1, none⟩ = some (.int .i64 ff) := cellB (j := 1) hb rfl
  have y2 : (w2.alloc (.cells #[.int .i64 kk, .int .i64 ff, .int .i64 tt, .int .u64 uu, .string ss, .int .i64 xa, .int .i64 xb] NodeT)).cell? ⟨w2.heap.size, 2, none⟩ = some (.int .i64 tt) := cellB (j := 2) hb rfl
  have y3 : (w2.alloc (.cells #[.int .i64 kk, .int .i64 ff, .int .i64 tt, .int .u64 uu, .string ss, .int .i64 xa, .int .i64 xb] NodeT)).cell? ⟨w2.heap.size, 3, none⟩ = some (.int .u64 uu) := cellB (j := 3) hb rfl
  have y4 : (w2.alloc (.cells #[.int .i64 kk, .int .i64 ff, .int .i64 tt, .int .u64 uu, .string ss, .int .i64 xa, .int .i64 xb] NodeT)).cell? ⟨w2.heap.size, 4, none⟩ = some (.string ss) := cellB (j := 4) hb rfl
  have y5 : (w2.alloc (.cells #[.int .i64 kk, .int .i64 ff, .int .i64 tt, .int .u64 uu, .string ss, .int .i64 xa, .int .i64 xb] NodeT)).cell? ⟨w2.heap.size, 5, none⟩ = some (.int .i64 xa) := cellB (j := 5) hb rfl
  have y6 : (w2.alloc (.cells #[.int .i64 kk, .int .i64 ff, .int .i64 tt, .int .u64 uu, .string ss, .int .i64 xa, .int .i64 xb] NodeT)).cell? ⟨w2.heap.size, 6, none⟩ = some (.int .i64 xb) := cellB (j := 6) hb rfl
  clear u2 bA hb PN
  go_wp2_with fail
  refine (TL.out _).mono ?_
  rintro e w3 ⟨rfl, u3⟩
  have HB3 := Lib.hid (bmore HB.out u3)
  clear u3 y0 y1 y2 y3 y4 y5 y6
  go_wp2_with fail
  go_returns
  exact ⟨rfl, HB3.out⟩
end Go.Proofs.YtgaklaajbepfaaaGreatDoor
