/-
  Alike, of every two lists.
-/
import Derived.Test.YtgaklaajbepfaaaDoorVCorM
namespace Go.Proofs.YtgaklaajbepfaaaDoor
open Go.RowKit Go.Maps Go.Shelf
set_option linter.unusedVariables false

theorem run_store_funcW (P : Program) (w : World) (a : Addr) (fn : Fn) (x y : Array Value) (m : Mode) : (store a (.func fn x y) m).run P w = stored P w a (.func fn x y) m := run_store P w a _ m rfl
attribute [local go_sem] run_store_funcW
/-- Whether two lists look alike. -/
def AlikeP (p : Pl) (who : Int) (l m : List Int) : Prop :=
  nameB who = true ∧ (∀ x ∈ l, inP p x = true) ∧ (∀ x ∈ m, inP p x = true) ∧ l.length = m.length ∧ ∃ R, Bij p who R ∧ ∀ i (h : i < l.length) (h' : i < m.length), R l[i] m[i]
theorem rfs_zero {p : Pl} {who : Int} {l : List Int} : rfsP p who l = 0 ↔ nameB who = true ∧ ∀ x ∈ l, inP p x = true := by
  unfold rfsP
  by_cases h : nameB who = false
  · rw [if_pos h]
    exact ⟨fun e => (by cases e), fun e => by rw [h] at e; cases e.1⟩
  · rw [if_neg h]
    by_cases h2 : l.all (inP p) = true
    · rw [if_pos h2]
      exact ⟨fun _ => ⟨by simpa using h, List.all_eq_true.1 h2⟩, fun _ => rfl⟩
    · rw [if_neg h2]
      exact ⟨fun e => (by cases e), fun e => absurd (List.all_eq_true.2 e.2) h2⟩
/-- All pairs up to i correspond, and nothing but what they ask. -/
structure Upto (p : Pl) (who : Int) (l m : List Int) (i : Nat) (m1 n1 : Int → Option Int) : Prop where
  cor : Cor p m1 n1
  pair : ∀ j (h : j < l.length) (h' : j < m.length), j < i → m1 l[j] = some m[j]
  closed : ∀ x y, m1 x = some y → Closed p who m1 x y
  sub : ∀ R, Bij p who R → (∀ j (h : j < l.length) (h' : j < m.length), j < i → R l[j] m[j]) → ∀ x y, m1 x = some y → R x y
theorem Upto.start (p : Pl) (who : Int) (l m : List Int) : Upto p who l m 0 anew0 anew0 := by
  refine ⟨Cor.start p, fun j _ _ h => absurd h (Nat.not_lt_zero _), fun x y h => ?_, fun R hR _ x y h => ?_⟩
  · unfold anew0 at h
    split at h
    · rename_i e; exact .inl ⟨e, (Option.some.inj h).symm⟩
    · cases h
  · unfold anew0 at h
    split at h
    · rename_i e; rw [e, ← Option.some.inj h]; exact hR.zero
    · cases h
theorem Upto.step {p : Pl} {who : Int} {l m : List Int} {i : Nat} {m1 n1 m2 n2 : Int → Option Int} (h : Upto p who l m i m1 n1) (hi : i < l.length) (hj : i < m.length) (hc : CorP p who m1 l[i] m[i] true m2 n2) : Upto p who l m (i + 1) m2 n2 := by
  obtain ⟨c, e, k, d, s⟩ := hc.1 rfl
  refine ⟨c, fun j h1 h2 hlt => ?_, fun x y hxy => ?_, fun R hR hp => ?_⟩
  · rcases Nat.lt_or_ge j i with hj' | hj'
    · exact e _ _ (h.pair j h1 h2 hj')
    · obtain rfl : j = i := by omega
      exact k
  · rcases d x y hxy with h1 | h1
    · exact (h.closed x y h1).more e
    · exact h1
  · exact s R hR (h.sub R hR fun j h1 h2 hlt => hp j h1 h2 (by omega)) (hp i hi hj (by omega))
theorem Upto.fail {p : Pl} {who : Int} {l m : List Int} {i : Nat} {m1 n1 m2 n2 : Int → Option Int} (h : Upto p who l m i m1 n1) (hi : i < l.length) (hj : i < m.length) (hc : CorP p who m1 l[i] m[i] false m2 n2) : ¬ AlikeP p who l m := by
  rintro ⟨_, _, _, _, R, hR, hp⟩
  exact hc.2 rfl R hR (h.sub R hR fun j h1 h2 _ => hp j h1 h2) (hp i hi hj)
theorem Upto.done {p : Pl} {who : Int} {l m : List Int} {m1 n1 : Int → Option Int} (h : Upto p who l m l.length m1 n1) (hn : nameB who = true) (hl : ∀ x ∈ l, inP p x = true) (hm : ∀ x ∈ m, inP p x = true) (he : l.length = m.length) : AlikeP p who l m := by
  refine ⟨hn, hl, hm, he, fun x y => m1 x = some y, ⟨fun a b b' h1 h2 => Option.some.inj (h1.symm.trans h2), fun a a' b h1 h2 => ?_, h.cor.zero, fun a b hab => ?_⟩, fun i h1 h2 => h.pair i h1 h2 h1⟩
  · have e1 := (h.cor.inv a b).1 h1
    have e2 := (h.cor.inv a' b).1 h2
    exact Option.some.inj (e1.symm.trans e2)
  · rcases h.cor.ins a b hab with h1 | ⟨h1, h2⟩
    · exact .inl h1
    · rcases h.closed a b hab with ⟨e, _⟩ | ⟨h3, h4, h5⟩
      · rw [e, inP_zero] at h1; cases h1
      · exact .inr ⟨h1, h2, h3, h4, h5⟩

theorem co_boxes {w4 V1 V2 : World} {a pb wb : Nat} {who T : Int} (hpb : w4.heap[pb]? = some (Obj.cells #[.pointer (some ⟨a, 0, none⟩)] VPoolT)) (hwb : w4.heap[wb]? = some (Obj.cells #[.int .i64 who] WhoT)) (hA1 : AnM V1 w4.heap.size T anew0) (hg1 : (w4.alloc (.map #[] 0)).grownBy V1 (some w4.heap.size)) (hA2 : AnM V2 V1.heap.size T anew0) (hg2 : (V1.alloc (.map #[] 0)).grownBy V2 (some V1.heap.size)) :
    IsCo (((V2.alloc (.cells #[.map (some w4.heap.size)] AnewT)).alloc (.cells #[.map (some V1.heap.size)] AnewT)).alloc (.cells #[.func (.func 38) #[] #[.pointer (some ⟨V2.heap.size, 0, none⟩), .pointer (some ⟨V2.heap.size + 1, 0, none⟩), .pointer (some ⟨pb, 0, none⟩), .pointer (some ⟨wb, 0, none⟩), .pointer (some ⟨V2.heap.size + 1 + 1, 0, none⟩)]] CoFT)) V2.heap.size (V2.heap.size + 1) pb wb (V2.heap.size + 1 + 1) w4.heap.size V1.heap.size a who ∧ AnM (((V2.alloc (.cells #[.map (some w4.heap.size)] AnewT)).alloc (.cells #[.map (some V1.heap.size)] AnewT)).alloc (.cells #[.func (.func 38) #[] #[.pointer (some ⟨V2.heap.size, 0, none⟩), .pointer (some ⟨V2.heap.size + 1, 0, none⟩), .pointer (some ⟨pb, 0, none⟩), .pointer (some ⟨wb, 0, none⟩), .pointer (some ⟨V2.heap.size + 1 + 1, 0, none⟩)]] CoFT)) w4.heap.size T anew0 ∧ AnM (((V2.alloc (.cells #[.map (some w4.heap.size)] AnewT)).alloc (.cells #[.map (some V1.heap.size)] AnewT)).alloc (.cells #[.func (.func 38) #[] #[.pointer (some ⟨V2.heap.size, 0, none⟩), .pointer (some ⟨V2.heap.size + 1, 0, none⟩), .pointer (some ⟨pb, 0, none⟩), .pointer (some ⟨wb, 0, none⟩), .pointer (some ⟨V2.heap.size + 1 + 1, 0, none⟩)]] CoFT)) V1.heap.size T anew0 ∧ Below w4.heap.size w4 (((V2.alloc (.cells #[.map (some w4.heap.size)] AnewT)).alloc (.cells #[.map (some V1.heap.size)] AnewT)).alloc (.cells #[.func (.func 38) #[] #[.pointer (some ⟨V2.heap.size, 0, none⟩), .pointer (some ⟨V2.heap.size + 1, 0, none⟩), .pointer (some ⟨pb, 0, none⟩), .pointer (some ⟨wb, 0, none⟩), .pointer (some ⟨V2.heap.size + 1 + 1, 0, none⟩)]] CoFT)) ∧ w4.heap.size < V1.heap.size := by
  have bm1 := bA0 w4 (.map #[] 0)
  have hm1 : (w4.alloc (.map #[] 0)).heap[w4.heap.size]? = some (Obj.map #[] 0) := heap_alloc_new _ _
  have b1 : Below w4.heap.size w4 V1 := bm1.trans (grown_below hg1 bm1.size (fun k e => by cases e; omega))
  have hlt : w4.heap.size < V1.heap.size := hA1.lt
  have bm2 := bA0 V1 (.map #[] 0)
  have hm2 : (V1.alloc (.map #[] 0)).heap[V1.heap.size]? = some (Obj.map #[] 0) := heap_alloc_new _ _
  have b2 : Below V1.heap.size V1 V2 := bm2.trans (grown_below hg2 bm2.size (fun k e => by cases e; omega))
  have b4 : Below V2.heap.size V2 (((V2.alloc (.cells #[.map (some w4.heap.size)] AnewT)).alloc (.cells #[.map (some V1.heap.size)] AnewT)).alloc (.cells #[.func (.func 38) #[] #[.pointer (some ⟨V2.heap.size, 0, none⟩), .pointer (some ⟨V2.heap.size + 1, 0, none⟩), .pointer (some ⟨pb, 0, none⟩), .pointer (some ⟨wb, 0, none⟩), .pointer (some ⟨V2.heap.size + 1 + 1, 0, none⟩)]] CoFT)) := bmore (bmore (bA0 _ _) (bA0 _ _)) (bA0 _ _)
  have s7 : (V2.alloc (.cells #[.map (some w4.heap.size)] AnewT)).heap.size = V2.heap.size + 1 := by simp [World.size_alloc]
  have s8 : ((V2.alloc (.cells #[.map (some w4.heap.size)] AnewT)).alloc (.cells #[.map (some V1.heap.size)] AnewT)).heap.size = V2.heap.size + 1 + 1 := by simp [World.size_alloc]
  have x1 : (((V2.alloc (.cells #[.map (some w4.heap.size)] AnewT)).alloc (.cells #[.map (some V1.heap.size)] AnewT)).alloc (.cells #[.func (.func 38) #[] #[.pointer (some ⟨V2.heap.size, 0, none⟩), .pointer (some ⟨V2.heap.size + 1, 0, none⟩), .pointer (some ⟨pb, 0, none⟩), .pointer (some ⟨wb, 0, none⟩), .pointer (some ⟨V2.heap.size + 1 + 1, 0, none⟩)]] CoFT)).heap[V2.heap.size]? = some (Obj.cells #[.map (some w4.heap.size)] AnewT) := Hold.below (bA0 ((V2.alloc (.cells #[.map (some w4.heap.size)] AnewT)).alloc (.cells #[.map (some V1.heap.size)] AnewT)) _) _ _ (Hold.below (bA0 (V2.alloc (.cells #[.map (some w4.heap.size)] AnewT)) _) _ _ (heap_alloc_new _ _))
  have x2 : (((V2.alloc (.cells #[.map (some w4.heap.size)] AnewT)).alloc (.cells #[.map (some V1.heap.size)] AnewT)).alloc (.cells #[.func (.func 38) #[] #[.pointer (some ⟨V2.heap.size, 0, none⟩), .pointer (some ⟨V2.heap.size + 1, 0, none⟩), .pointer (some ⟨pb, 0, none⟩), .pointer (some ⟨wb, 0, none⟩), .pointer (some ⟨V2.heap.size + 1 + 1, 0, none⟩)]] CoFT)).heap[V2.heap.size + 1]? = some (Obj.cells #[.map (some V1.heap.size)] AnewT) := Hold.below (bA0 ((V2.alloc (.cells #[.map (some w4.heap.size)] AnewT)).alloc (.cells #[.map (some V1.heap.size)] AnewT)) _) _ _ (by rw [← s7]; exact heap_alloc_new _ _)
  have x3 : (((V2.alloc (.cells #[.map (some w4.heap.size)] AnewT)).alloc (.cells #[.map (some V1.heap.size)] AnewT)).alloc (.cells #[.func (.func 38) #[] #[.pointer (some ⟨V2.heap.size, 0, none⟩), .pointer (some ⟨V2.heap.size + 1, 0, none⟩), .pointer (some ⟨pb, 0, none⟩), .pointer (some ⟨wb, 0, none⟩), .pointer (some ⟨V2.heap.size + 1 + 1, 0, none⟩)]] CoFT)).heap[V2.heap.size + 1 + 1]? = some (Obj.cells #[.func (.func 38) #[] #[.pointer (some ⟨V2.heap.size, 0, none⟩), .pointer (some ⟨V2.heap.size + 1, 0, none⟩), .pointer (some ⟨pb, 0, none⟩), .pointer (some ⟨wb, 0, none⟩), .pointer (some ⟨V2.heap.size + 1 + 1, 0, none⟩)]] CoFT) := by rw [← s8]; exact heap_alloc_new _ _
  have b := bmore (bmore b1 b2) b4
  exact ⟨⟨x1, x2, Hold.below b _ _ hpb, Hold.below b _ _ hwb, x3⟩, (hA1.below b2).below b4, hA2.below b4, b, hlt⟩
set_option maxRecDepth 100000 in
set_option maxHeartbeats 51200000 in
theorem Alike_any {w : World} {B a b : Nat} {v : Value} {p : Pl} (h : IsPool w B a b v p) (who : Int) {vl vm : Value} {l m : List Int} (hl : Row w 1 vl l.length (ints l)) (hm : Row w 1 vm m.length (ints m)) (hll : l.length ≤ 1000000) (hml : m.length ≤ 1000000) : Calls Tryd.prog 11 #[.pointer (some ⟨a, 0, none⟩), .int .i64 who, vl, vm] w fun e w' => ∃ r, e = .returned (.bool r) ∧ (r = true ↔ AlikeP p who l m) ∧ Below w.heap.size w w' := by
  have hmm := @run_makeMap Tryd.prog
  have hmf : ∀ (fn : Fn) (first cap : Array Value) (w : World), (Instr.makeFunc fn first cap).run Tryd.prog w = .ok (.func fn first cap) w := fun _ _ _ _ => rfl
  obtain ⟨la, lc, rfl, hlx⟩ := hl.at
  obtain ⟨ma, mc, rfl, hmx⟩ := hm.at
  have b1 := bA0 w (.cells #[.pointer (some ⟨a, 0, none⟩)] VPoolT)
  have b2 := bmore b1 (bA0 (w.alloc (.cells #[.pointer (some ⟨a, 0, none⟩)] VPoolT)) (.cells #[.int .i64 who] WhoT))
  have s1 : (w.alloc (.cells #[.pointer (some ⟨a, 0, none⟩)] VPoolT)).heap.size = w.heap.size + 1 := by simp [World.size_alloc]
  have hpb : ((w.alloc (.cells #[.pointer (some ⟨a, 0, none⟩)] VPoolT)).alloc (.cells #[.int .i64 who] WhoT)).heap[w.heap.size]? = some (Obj.cells #[.pointer (some ⟨a, 0, none⟩)] VPoolT) := Hold.below (bA0 _ _) _ _ (heap_alloc_new _ _)
  have hwb : ((w.alloc (.cells #[.pointer (some ⟨a, 0, none⟩)] VPoolT)).alloc (.cells #[.int .i64 who] WhoT)).heap[w.heap.size + 1]? = some (Obj.cells #[.int .i64 who] WhoT) := by rw [← s1]; exact heap_alloc_new _ _
  have HU2 := Lib.hid b2
  have HPB := Lib.hid hpb
  have HWB := Lib.hid hwb
  have HP := Lib.hid h
  have HL := Lib.hid hl
  have HM := Lib.hid hm
  have HLX := Lib.hid hlx
  have HMX := Lib.hid hmx
  clear h hl hm b1 b2 s1 hpb hwb hlx hmx
  go_enter Tryd.func11, Tryd.ntmps11
  go_upto_region 1 with fail
  generalize ((w.alloc (.cells #[.pointer (some ⟨a, 0, none⟩)] VPoolT)).alloc (.cells #[.int .i64 who] WhoT)) = w2 at *
  have c0 : w2.cell? ⟨w.heap.size, 0, none⟩ = some (.pointer (some ⟨a, 0, none⟩)) := cellB HPB.out rfl
  have c1 : w2.cell? ⟨w.heap.size + 1, 0, none⟩ = some (.int .i64 who) := cellB HWB.out rfl
  have RL := Lib.hid (refuse_any (HP.out.below HU2.out) who (HL.out.below HU2.out) hll)
  obtain ⟨rl, hrl⟩ : ∃ rl, rl = rfsP p who l := ⟨_, rfl⟩
  rw [← hrl] at RL
  have HRL := Lib.hid hrl
  clear hrl
  go_wp2_with fail
  refine RL.out.mono ?_
  rintro e w3 ⟨rfl, u3⟩
  have HU3 := Lib.hid (bmore HU2.out u3)
  have HPB3 := Lib.hid (Hold.below u3 _ _ HPB.out)
  have HWB3 := Lib.hid (Hold.below u3 _ _ HWB.out)
  clear u3 RL c0 c1 HPB HWB
  by_cases hr0 : rl = 0
  · subst hr0
    have c0 : w3.cell? ⟨w.heap.size, 0, none⟩ = some (.pointer (some ⟨a, 0, none⟩)) := cellB HPB3.out rfl
    have c1 : w3.cell? ⟨w.heap.size + 1, 0, none⟩ = some (.int .i64 who) := cellB HWB3.out rfl
    have RM := Lib.hid (refuse_any (HP.out.below HU3.out) who (HM.out.below HU3.out) hml)
    obtain ⟨rm, hrm⟩ : ∃ rm, rm = rfsP p who m := ⟨_, rfl⟩
    rw [← hrm] at RM
    have HRM := Lib.hid hrm
    clear hrm
    go_wp2_with fail
    refine RM.out.mono ?_
    rintro e w4 ⟨rfl, u4⟩
    have HU4 := Lib.hid (bmore HU3.out u4)
    have HPB4 := Lib.hid (Hold.below u4 _ _ HPB3.out)
    have HWB4 := Lib.hid (Hold.below u4 _ _ HWB3.out)
    clear u4 RM c0 c1 HPB3 HWB3
    by_cases hr1 : rm = 0
    · subst hr1
      by_cases hlen : l.length = m.length
      · obtain ⟨V1, hins1, hA1, hg1⟩ := anew_new w4 (p.length : Int)
        obtain ⟨V2, hins2, hA2, hg2⟩ := anew_new V1 (p.length : Int)
        have hll2 : ((l.length : Int) != (m.length : Int)) = false := by rw [hlen]; simp
        obtain ⟨f1, f2, f3, f4, f5⟩ := co_boxes HPB4.out HWB4.out hA1 hg1 hA2 hg2
        have hbw : b < w.heap.size := by obtain ⟨D, ho, _⟩ := HP.out.dict; exact ho.lt
        have hw4 : w.heap.size ≤ w4.heap.size := HU4.out.size
        have HIC := Lib.hid f1
        have HA1 := Lib.hid f2
        have HA2 := Lib.hid f3
        have HU9 := Lib.hid (bmore HU4.out f4)
        have HP9 := Lib.hid (HP.out.below (bmore HU4.out f4))
        have HNM : Hid (nameB who = true ∧ (∀ x ∈ l, inP p x = true) ∧ (∀ x ∈ m, inP p x = true)) := Lib.hid ⟨(rfs_zero.1 HRL.out.symm).1, (rfs_zero.1 HRL.out.symm).2, (rfs_zero.1 HRM.out.symm).2⟩
        clear f1 f2 f3 f4 hA1 hg1 hA2 hg2 HPB4 HWB4 HRL HRM
        go_wp2_with fail
        clear hins1 hins2
        generalize (((V2.alloc (.cells #[.map (some w4.heap.size)] AnewT)).alloc (.cells #[.map (some V1.heap.size)] AnewT)).alloc (.cells #[.func (.func 38) #[] #[.pointer (some ⟨V2.heap.size, 0, none⟩), .pointer (some ⟨V2.heap.size + 1, 0, none⟩), .pointer (some ⟨w.heap.size, 0, none⟩), .pointer (some ⟨w.heap.size + 1, 0, none⟩), .pointer (some ⟨V2.heap.size + 1 + 1, 0, none⟩)]] CoFT)) = w9 at *
        generalize htb : V2.heap.size = tb at *
        have HCO := Lib.hid (fun (x y : Int) (hx : inP p x = true) (hy : inP p y = true) => co_all (B := w.heap.size) (B0 := B) (a := a) (b := b) (v := v) (who := who) (tb := tb) (bb := tb + 1) (pb := w.heap.size) (wb := w.heap.size + 1) (cb := tb + 1 + 1) (mb1 := w4.heap.size) (mb2 := V1.heap.size) HP.out.ok (by omega) (by omega) (by omega) hw4 (by omega) (x.toNat + 1) x y (Nat.lt_succ_self _) (.inr hx) (.inr hy))
        have hb1 : b ≠ w4.heap.size := by omega
        have hb2 : b ≠ V1.heap.size := by omega
        clear hbw hw4 f5 htb
        generalize w4.heap.size = mb1 at *
        generalize V1.heap.size = mb2 at *
        obtain ⟨wo, hwo⟩ : ∃ wo, wo = w9 := ⟨_, rfl⟩
        go_loopw [39] (fun v39 wr => ∃ (i : Nat) (m1 n1 : Int → Option Int), v39 = .int .i64 (i : Int) ∧ i ≤ l.length ∧ Upto p who l m i m1 n1 ∧ AnM wr mb1 (p.length : Int) m1 ∧ AnM wr mb2 (p.length : Int) n1 ∧ IsCo wr tb (tb + 1) w.heap.size (w.heap.size + 1) (tb + 1 + 1) mb1 mb2 a who ∧ IsPool wr B a b v p ∧ Below w.heap.size w wr) (fun v _ => l.length - (intOf v).toNat)
        case atStart => exact ⟨0, _, _, rfl, Nat.zero_le _, Upto.start p who l m, HA1.out, HA2.out, HIC.out, HP9.out, HU9.out⟩
        case round =>
          clear HA1 HA2 HIC HP9 HU9
          obtain ⟨i, m1, n1, rfl, hi, hup, ha1, ha2, hic, hpw, hb⟩ := hrel
          have HUP := Lib.hid hup
          have HA1 := Lib.hid ha1
          have HA2 := Lib.hid ha2
          have HIC := Lib.hid hic
          have HPW := Lib.hid hpw
          have HB := Lib.hid hb
          clear hup ha1 ha2 hic hpw
          by_cases hlt : i < l.length
          · have hlt2 : i < m.length := by omega
            obtain ⟨lb, lo, rfl, ql⟩ := HLX.out (by omega)
            obtain ⟨nb, no, rfl, qm⟩ := HMX.out (by omega)
            have cl := bcellAt hb (ql i _ (ints_at l i hlt))
            have cm := bcellAt hb (qm i _ (ints_at m i hlt2))
            have QL := Lib.hid (ql i _ (ints_at l i hlt))
            have QM := Lib.hid (qm i _ (ints_at m i hlt2))
            have hi0 : (0 : Int) ≤ (i : Int) := by omega
            have hi1 : (i : Int) < (l.length : Int) := by omega
            have hi2 : (i : Int) < (m.length : Int) := by omega
            have HSP := Lib.hid (fun (m2 n2 : Int → Option Int) => HUP.out.step (m2 := m2) (n2 := n2) hlt hlt2)
            have HFL := Lib.hid (fun (m2 n2 : Int → Option Int) => HUP.out.fail (m2 := m2) (n2 := n2) hlt hlt2)
            have CC := Lib.hid (HCO.out (l[i]) (m[i]) (HNM.out.2.1 _ (List.getElem_mem hlt)) (HNM.out.2.2 _ (List.getElem_mem hlt2)))
            generalize l[i] = x at *
            generalize m[i] = y at *
            have cf : wr.cell? ⟨tb + 1 + 1, 0, none⟩ = some (.func (.func 38) #[] #[.pointer (some ⟨tb, 0, none⟩), .pointer (some ⟨tb + 1, 0, none⟩), .pointer (some ⟨w.heap.size, 0, none⟩), .pointer (some ⟨w.heap.size + 1, 0, none⟩), .pointer (some ⟨tb + 1 + 1, 0, none⟩)]) := cellB HIC.out.co rfl
            have HCC := Lib.hid (fun (V : World) (hV : Below wr.heap.size wr V) => CC.out V m1 n1 (Nat.le_trans HB.out.size hV.size) (HPW.out.below hV) (HIC.out.hold (fun T => Hold.below hV)) HUP.out.cor (HA1.out.below hV) (HA2.out.below hV))
            have HKP : Hid (∀ V : World, Below w.heap.size wr V → (∀ T, Hold T wr V) → V.cell? ⟨tb + 1 + 1, 0, none⟩ = some (.func (.func 38) #[] #[.pointer (some ⟨tb, 0, none⟩), .pointer (some ⟨tb + 1, 0, none⟩), .pointer (some ⟨w.heap.size, 0, none⟩), .pointer (some ⟨w.heap.size + 1, 0, none⟩), .pointer (some ⟨tb + 1 + 1, 0, none⟩)]) ∧ V.cell? ⟨lb, lo + i, none⟩ = some (.int .i64 x) ∧ V.cell? ⟨nb, no + i, none⟩ = some (.int .i64 y)) := Lib.hid fun V h1 h2 => ⟨cellB (h2 _ _ _ HIC.out.co) rfl, bcellAt (HB.out.trans h1) QL.out, bcellAt (HB.out.trans h1) QM.out⟩
            have HBS : Hid (w.heap.size ≤ wr.heap.size) := Lib.hid HB.out.size
            clear ql qm hb CC
            go_upto_region 9 with fail
            go_region_held3 (fun w' => w'.cell? ⟨tb + 1 + 1, 0, none⟩ = some (.func (.func 38) #[] #[.pointer (some ⟨tb, 0, none⟩), .pointer (some ⟨tb + 1, 0, none⟩), .pointer (some ⟨w.heap.size, 0, none⟩), .pointer (some ⟨w.heap.size + 1, 0, none⟩), .pointer (some ⟨tb + 1 + 1, 0, none⟩)]) ∧ w'.cell? ⟨lb, lo + i, none⟩ = some (.int .i64 x) ∧ w'.cell? ⟨nb, no + i, none⟩ = some (.int .i64 y)) ((first | exact HKP.out _ ((bdn _ _).mono HBS.out) (fun T => Hold.below (bdn _ _)) | exact HKP.out _ ((bd _).mono HBS.out) (fun T => Hold.below (bd _)) | exact HKP.out _ ((Below.mono (by first | exact bdn _ _ | exact bd _ | exact Below.refl _ _) HBS.out).trans g8.below) (fun T => (Hold.below (by first | exact bdn _ _ | exact bd _ | exact Below.refl _ _)).trans (g8.hold T))))
              (((with_reducible refine (HCC.out _ (by first | exact bdn _ _ | exact bd _ | exact Below.refl _ _)).mono ?_); rintro e V8 ⟨r1, m2, n2, rfl, a8, b8, r8, g8⟩))
            have hg8 : CoG wr w.heap.size mb1 mb2 V8 := (CoG.of HBS.out (by first | exact bdn _ _ | exact bd _ | exact Below.refl _ _)).trans g8
            have HM18 := Lib.hid a8
            have HM28 := Lib.hid b8
            have HR8 := Lib.hid r8
            have HI8 := Lib.hid (HIC.out.hold hg8.hold)
            have HP8 := Lib.hid (hg8.pool HPW.out hb1 hb2)
            have HB8 := Lib.hid (HB.out.trans hg8.below)
            clear a8 b8 r8 g8 hg8 cf cl cm HCC HKP
            cases r1 with
            | false =>
              go_wp2_with fail
              go_returns
              exact ⟨false, rfl, ⟨fun e => (by cases e), fun e => absurd e (HFL.out _ _ HR8.out)⟩, HB8.out⟩
            | true =>
              go_wp2_with fail
              go_roundw
              case rel => exact ⟨i + 1, m2, n2, by go_num, by omega, HSP.out _ _ HR8.out, HM18.out, HM28.out, HI8.out, HP8.out, HB8.out⟩
              case measure => simp [intOf] <;> omega
          · obtain rfl : i = l.length := by omega
            have HF : Hid (AlikeP p who l m) := Lib.hid (HUP.out.done HNM.out.1 HNM.out.2.1 HNM.out.2.2 hlen)
            clear hlt hb
            go_wp2_with fail
            go_returns
            exact ⟨true, rfl, ⟨fun _ => HF.out, fun _ => rfl⟩, HB.out⟩
      · have hne : ((l.length : Int) == (m.length : Int)) = false := by
          rw [beq_eq_false_iff_ne]; intro e; exact hlen (by omega)
        have hne4 : ((l.length : Int) != (m.length : Int)) = true := by simp [bne, hne]
        have HF : Hid (¬ AlikeP p who l m) := Lib.hid fun h => hlen h.2.2.2.1
        clear hlen hne
        go_wp2_with fail
        go_returns
        exact ⟨false, rfl, ⟨fun e => (by cases e), fun e => absurd e HF.out⟩, HU4.out⟩
    · have hne : (rm == 0) = false := ebF hr1
      have HF : Hid (¬ AlikeP p who l m) := Lib.hid fun h => hr1 (by rw [HRM.out]; exact rfs_zero.2 ⟨h.1, h.2.2.1⟩)
      go_wp2_with fail
      go_returns
      exact ⟨false, rfl, ⟨fun e => (by cases e), fun e => absurd e HF.out⟩, HU4.out⟩
  · have hne : (rl == 0) = false := ebF hr0
    have HF : Hid (¬ AlikeP p who l m) := Lib.hid fun h => hr0 (by rw [HRL.out]; exact rfs_zero.2 ⟨h.1, h.2.1⟩)
    go_wp2_with fail
    go_returns
    exact ⟨false, rfl, ⟨fun e => (by cases e), fun e => absurd e HF.out⟩, HU3.out⟩
end Go.Proofs.YtgaklaajbepfaaaDoor
