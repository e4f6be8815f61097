/-
  The statement DiskEach: what goes over the blocks that are not empty. No condition.
-/
import Derived.Test.YthamjlhkiabcnaaDEachA
import Derived.Test.YthamjlhkiabcnaaDNil
import Derived.Test.YthamjlhkiabcnaaDAgain
import Derived.JoinedCond
import Derived.LoopN
namespace Go.Proofs.Ythamjlhkiabcnaa
open Go.Shelf Go.ChangeShapes Go.WideShapes Go.ChangeAt Go.RowKit
set_option linter.unusedVariables false
attribute [local go_sem] Oper.semAt_some

/-- The end of the function: true, with whatever marks. -/
def EachEnd (w : World) (e : Ending) (w' : World) : Prop := e = .returned (.bool true) ∧ Below w.heap.size w w'

theorem boxed_below {W W' : World} {B n : Nat} {t : TypeId} {v : Value} (h : Boxed W B t v) (hb : Below n W W') (hB : B < n) : Boxed W' B t v := (hb.block B hB).trans h

/-- The function's three boxes: the image, the number, the answer. -/
structure Stands (w : World) (v : Value) (stop : Int) (W : World) : Prop where
  img : Boxed W w.heap.size 22 v
  num : Boxed W (w.heap.size + 1) 3 (.int .i64 stop)
  ans : Boxed W (w.heap.size + 1 + 1) 4 (.bool false)
  bel : Below w.heap.size w W
theorem Stands.first (w : World) (v : Value) (stop : Int) : Stands w v stop (((w.alloc (.cells #[v] 22)).alloc (.cells #[.int .i64 stop] 3)).alloc (.cells #[.bool false] 4)) := by
  have h3 := Boxed.new ((w.alloc (.cells #[v] 22)).alloc (.cells #[.int .i64 stop] 3)) 4 (.bool false)
  rw [World.size_alloc, World.size_alloc] at h3
  have h2 := Boxed.new (w.alloc (.cells #[v] 22)) 3 (.int .i64 stop)
  rw [World.size_alloc] at h2
  exact ⟨((Boxed.new w _ _).alloc _).alloc _, h2.alloc _, h3, (((Below.refl _ _).alloc (Nat.le_refl _) _).alloc (by simp) _).alloc (by simp; omega) _⟩
theorem Stands.size {w : World} {v : Value} {stop : Int} {W : World} (h : Stands w v stop W) : w.heap.size + 3 ≤ W.heap.size := by have := h.ans.lt; omega
theorem Stands.below {w : World} {v : Value} {stop : Int} {W W' : World} (h : Stands w v stop W) (hb : Below (w.heap.size + 3) W W') : Stands w v stop W' :=
  ⟨boxed_below h.img hb (by omega), boxed_below h.num hb (by omega), boxed_below h.ans hb (by omega), h.bel.trans (hb.mono (by omega))⟩
theorem Stands.next {w : World} {v : Value} {stop : Int} {W W' : World} (h : Stands w v stop W) (hb : Below W.heap.size W W') : Stands w v stop W' := h.below (hb.mono h.size)

theorem boxed_own' {W W' : World} {B n : Nat} {t : TypeId} {v : Value} {row : Option Nat} (h : Boxed W B t v) (hg : W.grownBy W' row) (hr : ∀ r, row = some r → n ≤ r ∧ ∃ o : Obj, W.heap[r]? = some o ∧ o.isCells = false) : Boxed W' B t v :=
  h.kept hg fun e => by
    obtain ⟨_, o, ho, hc⟩ := hr B e.symm
    rw [show W.heap[B]? = _ from h] at ho
    cases ho
    simp [Obj.isCells] at hc
/-- The number that a box holds. -/
def numAt (W : World) (b : Nat) : Nat := (intOf ((W.cell? ⟨b, 0, none⟩).getD undef)).toNat
theorem numAt_eq {W : World} {b : Nat} {t : TypeId} {k : Nat} (h : Boxed W b t (.int .i64 (k : Int))) : numAt W b = k := by
  unfold numAt
  rw [h.cell]
  simp [intOf]
/-- What holds between two rounds of the range. -/
def Between (image : List ByteArray) (n0 bn bc : Nat) (Wr : World) (pre : List EachX) (W : World) : Prop :=
  (∃ k : Nat, k ≤ image.length ∧ pre = nonE image k ∧ Boxed W bn 3 (.int .i64 (k : Int)) ∧ Boxed W bc 3 (.int .i64 (pre.length : Int))) ∧ Below n0 Wr W
theorem between_own (image : List ByteArray) {n0 bn bc n : Nat} {Wr : World} (h1 : n0 ≤ Wr.heap.size) (h2 : n0 ≤ n) : OwnFrom n (Between image n0 bn bc Wr) := by
  rintro s A B row ⟨⟨k, hk, hp, hb1, hb2⟩, hb⟩ hg hr
  exact ⟨⟨k, hk, hp, boxed_own' hb1 hg hr, boxed_own' hb2 hg hr⟩, hb.grown hg (Nat.le_trans h1 hb.size) fun q e => by have := (hr q e).1; omega⟩

/-- How a round leaves. -/
def Leaves (br : Prop) (image : List ByteArray) (n0 : Nat) (Wr : World) (c : Code) (pre : List EachX) (W : World) : Prop :=
  (c = .ret ∧ ¬ pre <+: nonE image image.length) ∨ (br ∧ c = .exit 2 ∧ Below n0 Wr W)
theorem leaves_own (br : Prop) (image : List ByteArray) {n0 n : Nat} {Wr : World} (h1 : n0 ≤ Wr.heap.size) (h2 : n0 ≤ n) (c : Code) : OwnFrom n (Leaves br image n0 Wr c) := by
  rintro s A B row (h | ⟨h, hc, hb⟩) hg hr
  · exact .inl h
  · exact .inr ⟨h, hc, hb.grown hg (Nat.le_trans h1 hb.size) fun q e => by have := (hr q e).1; omega⟩
/-- What holds between two rounds of the loop over what is empty. -/
def Skips (image : List ByteArray) (n0 m bn bc : Nat) (pre : List EachX) (Wr X wr : World) : Prop :=
  ∃ k : Nat, k ≤ image.length ∧ pre = nonE image k ∧ Boxed wr bn 3 (.int .i64 (k : Int)) ∧ Boxed wr bc 3 (.int .i64 (pre.length : Int)) ∧ Below n0 Wr wr ∧ Below n0 X wr ∧ KeepsOthers X wr

/-- What stays from the loop on. -/
structure Ready (w : World) (v : Value) (stop : Int) (image : List ByteArray) (n0 Bn : Nat) (ve : Value) (W : World) : Prop where
  st : Stands w v stop W
  box : Boxed W Bn 22 ve
  hB : Bn < n0
  row : Row W 1 ve image.length (strs image)
  low : ∀ k, ve.ownBlock = some k → k < n0
  h0 : w.heap.size + 3 ≤ n0
  hn : n0 ≤ W.heap.size
theorem Ready.below {w : World} {v : Value} {stop : Int} {image : List ByteArray} {n0 Bn : Nat} {ve : Value} {W W' : World} (h : Ready w v stop image n0 Bn ve W) (hb : Below n0 W W') : Ready w v stop image n0 Bn ve W' :=
  ⟨h.st.below (hb.mono h.h0), boxed_below h.box hb h.hB, h.hB, h.row.keep (S := fun k => n0 ≤ k) ⟨hb.os, hb.tape, hb.output, hb.size, fun k hk hs => hb.block k (by omega)⟩ (fun k hk => by have := h.low k hk; omega), h.low, h.h0, Nat.le_trans h.hn hb.size⟩

set_option maxRecDepth 20000 in
set_option maxHeartbeats 12800000 in
theorem each_in {w : World} {v1 v2 : Value} {image other : List ByteArray} (stop : Int) (h1 : Row w 1 v1 image.length (strs image)) (h2 : Row w 1 v2 other.length (strs other)) (hi : image.length ≤ maxLen) (ho : other.length ≤ maxLen)
    (hs1 : ∀ s ∈ image, s.size ≤ maxLen) (hs2 : ∀ s ∈ other, s.size ≤ maxLen) :
    CallsIn Fence.wide 3 Try.prog 8 #[v1, v2, .int .i64 stop] w (EachEnd w) := by
  have R1 := Lib.hid h1
  have R2 := Lib.hid h2
  have HS1 := Lib.hid hs1
  have HS2 := Lib.hid hs2
  obtain ⟨a1, c1, rfl, _, r1⟩ := h1.room
  have RR := Lib.hid r1
  clear r1
  obtain ⟨a2, c2, rfl⟩ := h2.shape
  have HL1 := Lib.hid fun (W : World) (hb : Below w.heap.size w W) => long_any (R1.out.below hb) (Row.nils W 3) (l := []) hi (by simp) hs1 (by simp)
  have HL2 := Lib.hid fun (W : World) (hb : Below w.heap.size w W) => long_any (R2.out.below hb) (Row.nils W 3) (l := []) ho (by simp) hs2 (by simp)
  clear h1 h2 hs1 hs2
  refine callsIn_of_wp_marks Try.func8 rfl trivial ?_ rfl
  simp only [Try.ntmps8, List.size_toArray, List.length_cons, List.length_nil, Nat.reduceAdd, Nat.reduceSub, Array.replicate_succ, Array.replicate_zero, List.push_toArray, List.append_toArray, List.nil_append, List.cons_append]
  refine wpIn_wide.2 ?_
  go_wp2_with fail
  have hS := Stands.first w (.slice a1 image.length c1) stop
  generalize (((w.alloc (.cells #[.slice a1 image.length c1] 22)).alloc (.cells #[.int .i64 stop] 3)).alloc (.cells #[.bool false] 4)) = W0 at *
  have HS0 := Lib.hid hS
  clear hS
  refine (HL1.out _ HS0.out.bel).mono ?_
  rintro e w1 ⟨⟨b, rfl, hb1⟩, rfl⟩
  have HB1 := Lib.hid hb1
  clear hb1
  cases b
  case true =>
    go_wp2_with fail
    refine (live_any _).mono ?_
    rintro e wL ⟨rfl, hbL⟩
    have HSL := Lib.hid (HS0.out.next hbL)
    have xL := HSL.out.ans.cell
    have fL := HSL.out.ans.frozen
    clear hbL
    go_wp2_with fail
    refine ⟨.bool true, ?_, rfl, HSL.out.bel.setCell (p := ⟨w.heap.size + 1 + 1, 0, none⟩) (by simp; omega) _⟩
    have hcL := (HSL.out.ans.set (.bool true)).cell
    simp [results, Try.f8, go_sem, hcL]
  case false =>
    go_wp2_with fail
    refine (HL2.out _ HS0.out.bel).mono ?_
    rintro e w1 ⟨⟨b, rfl, hb2⟩, rfl⟩
    have HB2 := Lib.hid hb2
    clear hb2
    cases b
    case true =>
      go_wp2_with fail
      refine (live_any _).mono ?_
      rintro e wL ⟨rfl, hbL⟩
      have HSL := Lib.hid (HS0.out.next hbL)
      have xL := HSL.out.ans.cell
      have fL := HSL.out.ans.frozen
      clear hbL
      go_wp2_with fail
      refine ⟨.bool true, ?_, rfl, HSL.out.bel.setCell (p := ⟨w.heap.size + 1 + 1, 0, none⟩) (by simp; omega) _⟩
      have hcL := (HSL.out.ans.set (.bool true)).cell
      simp [results, Try.f8, go_sem, hcL]
    case false =>
      have hl1 : image.length ≤ 40 := (HB1.out (by simp)).1
      have hl2 : other.length ≤ 40 := (HB2.out (by simp)).1
      clear HB1 HB2
      have xi := HS0.out.img.cell
      have HA := Lib.hid (load_each (B := w.heap.size + 3) (R1.out.below HS0.out.bel) hl1 HS1.out HS0.out.size)
      clear HL1 HL2
      go_wp2_with fail
      refine HA.out.mono ?_
      rintro e W1 ⟨p, c, rfl, hb1, hc⟩
      have HSt1 := Lib.hid (HS0.out.next hb1)
      have HC := Lib.hid hc
      clear hc HA xi hb1 HS0
      have HA := Lib.hid (load_each (B := w.heap.size + 3) (R2.out.below HSt1.out.bel) hl2 HS2.out HSt1.out.size)
      go_wp2_with fail
      refine HA.out.mono ?_
      rintro e W2 ⟨p2, c2, rfl, hb2, hc2⟩
      have HSt2 := Lib.hid (HSt1.out.next hb2)
      have HC2 := Lib.hid hc2
      have HBel := Lib.hid hb2
      clear hc2 HA hb2
      go_wp2_with fail
      refine (num_any _ _).mono ?_
      rintro e w9 ⟨rfl, rfl⟩
      by_cases hc0 : c = 0
      · subst hc0
        go_wp2_with fail
        refine (num_any _ _).mono ?_
        rintro e w9 ⟨rfl, rfl⟩
        by_cases hc20 : c2 = 0
        · subst hc20
          obtain ⟨a, S, rfl, hd, hSq⟩ : ∃ a S, p = some ⟨a, 0, none⟩ ∧ IsDisk W1 (w.heap.size + 3) a S (fresh0 image) ∧ ∀ q, S q → _ ≤ q := by
            rcases HC.out with h | ⟨_, h⟩
            · exact absurd rfl h
            · exact h
          obtain ⟨a', S', rfl, hd', hSq'⟩ : ∃ a S, p2 = some ⟨a, 0, none⟩ ∧ IsDisk W2 (w.heap.size + 3) a S (fresh0 other) ∧ ∀ q, S q → _ ≤ q := by
            rcases HC2.out with h | ⟨_, h⟩
            · exact absurd rfl h
            · exact h
          have HD := Lib.hid (hd.below HBel.out)
          have HD' := Lib.hid hd'
          have himg : 1 ≤ image.length := hd.2.pos
          clear HC HC2 HBel HSt1 hd hd' hSq hSq'
          have xi := HSt2.out.img.cell
          have hdr := fun n => below_drewN (Below.refl W2.heap.size W2) n
          obtain ⟨bq, hbq⟩ : ∃ b, decide (image = other) = b := ⟨_, rfl⟩
          have T1 := Lib.hid fun n => same_any (w := W2.drewN n) (HD.out.below (hdr n)) (HD'.out.below (hdr n))
          have T2 := Lib.hid fun n => texts_any (w := W2.drewN n) (R1.out.below (HSt2.out.next (hdr n)).bel) (R2.out.below (HSt2.out.next (hdr n)).bel) (by omega)
          have T3 := Lib.hid fun n => same_any (w := W2.drewN n) (HD.out.below (hdr n)) (HD.out.below (hdr n))
          rw [show decide ((fresh0 image).now = (fresh0 other).now) = bq from hbq] at T1
          rw [hbq] at T2
          rw [decide_eq_true rfl] at T3
          clear hbq hdr
          go_wp2_with fail
          cases bq
          all_goals (go_quiet ((first
            | (go_at_call 28; first | with_reducible exact told_quiet T1.out _ | with_reducible exact told_quiet T3.out _)
            | (go_at_call 24; exact told_quiet T2.out _))))
          · have hnq := below_drewN (Below.refl W2.heap.size W2) nq
            have HSt3 := Lib.hid (HSt2.out.next hnq)
            have HD3 := Lib.hid (HD.out.below hnq)
            clear T1 T2 T3 HD HD' HSt2 xi hnq
            generalize W2.drewN nq = W3 at *
            have hnf := fun W fn x y => eql_func_nil W fn x y
            go_wp2_with fail
            refine (each_any HD3.out).mono ?_
            rintro e W4 ⟨Bn, ve, rfl, hBn, hbox, hown, hb4⟩
            have HBox := Lib.hid hbox
            have HOwn := Lib.hid hown
            have HB4 := Lib.hid hb4
            clear hbox hown hb4
            go_wp2_with fail
            refine (write_any (HD3.out.below HB4.out) 0 ⟨#[108, 97, 116, 101, 114]⟩ (by decide) (by simp [fresh0])).mono ?_
            rintro e W5 ⟨rfl, ht⟩
            have HR5 : Hid (Ready w (.slice a1 image.length c1) stop image W5.heap.size Bn ve W5) := by
              obtain ⟨S5, hd5, _, hto⟩ := ht
              have hsz := hto.size
              refine Lib.hid ⟨(HSt3.out.next HB4.out).below (hto.below (HSt3.out.next HB4.out).size fun k hk => (HD3.out.lt k hk).1), ?_, ?_, ?_, ?_, ?_, Nat.le_refl _⟩
              · exact (hto.block Bn HBox.out.lt fun hs => by have := (HD3.out.lt Bn hs).2; omega).trans HBox.out
              · have := HBox.out.lt; omega
              · exact row_of_own (own_keep HOwn.out hto fun k hk hs => by have := (HD3.out.lt k hs).2; have := (HOwn.out.lt k hk).1; omega)
              · intro k hk; have := (HOwn.out.lt k hk).2; omega
              · have := (HSt3.out.next HB4.out).size; omega
            clear ht HBox HOwn HB4 HD3 HSt3
            go_wp2_with fail
            have HRd : Hid (Boxed (W5.alloc (.cells #[.int .i64 0] 3)) W5.heap.size 3 (.int .i64 0)) := Lib.hid (Boxed.new _ _ _)
            have HR6 : Hid (Ready w (.slice a1 image.length c1) stop image W5.heap.size Bn ve (W5.alloc (.cells #[.int .i64 0] 3))) := Lib.hid (HR5.out.below ((Below.refl _ _).alloc (Nat.le_refl _) _))
            clear HR5
            generalize (W5.alloc (.cells #[.int .i64 0] 3)) = W6 at *
            generalize W5.heap.size = n0 at *
            obtain ⟨ib, io, rfl, hib, q1⟩ := RR.out (by omega)
            have Q1 := Lib.hid q1
            clear q1
            refine wp_loop_rounds 3 ?_
            rw [rounds_succ]
            have xr := HRd.out.cell
            go_wp2_with fail
            clear xr
            have hnx := Lib.hid ((Boxed.new W6 (3) (.int .i64 0)).alloc (.cells #[.int .i64 0] 3))
            have hct := Boxed.new (W6.alloc (.cells #[.int .i64 0] 3)) (3) (.int .i64 0)
            rw [World.size_alloc] at hct
            have HCT := Lib.hid hct
            clear hct
            have HbA : Hid (Below W6.heap.size W6 ((W6.alloc (.cells #[.int .i64 0] 3)).alloc (.cells #[.int .i64 0] 3))) := Lib.hid (((Below.refl _ _).alloc (Nat.le_refl _) _).alloc (by simp) _)
            have hsz : ((W6.alloc (.cells #[.int .i64 0] 3)).alloc (.cells #[.int .i64 0] 3)).heap.size = W6.heap.size + 2 := by simp
            have hWn := HR6.out.hn
            generalize ((W6.alloc (.cells #[.int .i64 0] 3)).alloc (.cells #[.int .i64 0] 3)) = V6 at *
            have HRV6 := Lib.hid (HR6.out.below (HbA.out.mono hWn))
            have HRdV6 := Lib.hid (boxed_below HRd.out HbA.out HRd.out.lt)
            refine (wpIn_wide (n := 3)).1 ?_
            refine wpIn_rangeFunc_ownF rfl (by decide) (gf := 51) (lb := #[.pointer (some ⟨Bn, 0, none⟩)]) rfl trivial (enters_of Try.func51 (by kernel_rfl) rfl)
              (each_stops Fence.wide 2 trivial rfl (by decide) Bn W6.heap.size ve image V6 (Nat.lt_of_lt_of_le HRV6.out.hB hWn) HRV6.out.box.cell HRV6.out.row (fun k hk => Nat.lt_of_lt_of_le (HRV6.out.low k hk) hWn) (by omega) (by omega)) belowK_t (belowK_b (by omega)) (Below.refl _ _) (fun _ => rfl)
              (Between image W6.heap.size W6.heap.size (W6.heap.size + 1) V6) (Leaves True image W6.heap.size V6) (between_own image (by omega) (by omega)) (leaves_own _ image (by omega) (by omega)) ⟨⟨0, Nat.zero_le _, rfl, hnx.out, HCT.out⟩, Below.refl _ _⟩ ?a1x ?assignx ?bodyx ?donex ?stopx
            case assignx =>
              intro l x X K hK
              gi_wp2
              exact hK
            case bodyx =>
              rintro l pre ⟨xi, xs⟩ X ⟨⟨k, hk, hpre, hnX, hcX⟩, hbX⟩ hlen
              have HnX := Lib.hid hnX
              have HcX := Lib.hid hcX
              have HbX := Lib.hid hbX
              have Hpre := Lib.hid hpre
              clear hnX hcX hbX hpre hnx HCT HbA
              gi_wp2
              gi_loopw [] (fun wr => Skips image W6.heap.size W6.heap.size W6.heap.size (W6.heap.size + 1) pre V6 X wr) (fun wr => image.length - numAt wr W6.heap.size)
              case atStart => exact ⟨k, hk, Hpre.out, HnX.out, HcX.out, HbX.out, Below.refl _ _, KeepsOthers.refl _⟩
              case round =>
                obtain ⟨j, hj, hpj, hnW, hcW, hbW, hbXW, hkW⟩ := hrel
                have HRW := Lib.hid (HRV6.out.below (hbW.mono hWn))
                have HRdW := Lib.hid (boxed_below HRdV6.out hbW HRd.out.lt)
                have HkW := Lib.hid hkW
                have HbW := Lib.hid hbW
                have HbXW := Lib.hid hbXW
                have HnW := Lib.hid hnW
                have HcW := Lib.hid hcW
                have Hpj := Lib.hid hpj
                have xim := HRW.out.st.img.cell
                have xn := hnW.cell
                have fn := hnW.frozen
                have xc := hcW.cell
                have fc := hcW.frozen
                have xr := HRdW.out.cell
                have xst := HRW.out.st.num.cell
                have xan := HRW.out.st.ans.cell
                have fan := HRW.out.st.ans.frozen
                have hlow := HRW.out.h0
                have hrl := HRd.out.lt
                clear hkW hbW hbXW hnW hcW hpj HnX HcX HbX Hpre
                by_cases hlt : j < image.length
                · have xk := (HRW.out.st.bel.cell (p := ⟨ib, io + j, none⟩) hib).trans (Q1.out j _ (strs_at image j hlt))
                  have HNE := Lib.hid fun h => nonE_empty image (k := j) hlt h
                  have HNF := Lib.hid fun h => nonE_full image (k := j) hlt h
                  have HNO := Lib.hid fun h => nonE_other image (k := j) hlt h
                  generalize image[j] = s at *
                  by_cases he : s.toList = []
                  · gi_wp2
                    have HnW2 := HnW.out.set (.int .i64 ((j : Int) + 1))
                    have e1 : ((j + 1 : Nat) : Int) = (j : Int) + 1 := by omega
                    rw [← e1] at HnW2 ⊢
                    refine ⟨⟨j + 1, by omega, by rw [HNE.out he]; exact Hpj.out, HnW2, HcW.out.kept (grownBy_setCell' _ _ _) (by simp), HbW.out.setCell (p := ⟨W6.heap.size, 0, none⟩) (Nat.le_refl _) _, HbXW.out.setCell (p := ⟨W6.heap.size, 0, none⟩) (Nat.le_refl _) _, HkW.out.trans (KeepsOthers.setCell _ _ _)⟩, ?_⟩
                    rw [numAt_eq HnW2, numAt_eq HnW.out]
                    omega
                  · have hKs := fun (a : Addr) (v : Value) => HkW.out.trans (KeepsOthers.setCell wr a v)
                    have he2 : s.toList.isEmpty = false := by simpa using he
                    by_cases hxi : xi = (j : Int)
                    · by_cases hxs : xs.toList = s.toList
                      · gi_wp2
                        all_goals (
                          have HnW2 := HnW.out.set (.int .i64 ((j : Int) + 1))
                          have e1 : ((j + 1 : Nat) : Int) = (j : Int) + 1 := by omega
                          have e2 : ((pre.length + 1 : Nat) : Int) = (pre.length : Int) + 1 := by omega
                          have hxx : xs = s := by
                            have h := beq_text xs s
                            rw [hxs] at h
                            simpa using h
                          have HcW2 := (HcW.out.kept (grownBy_setCell' wr W6.heap.size (.int .i64 ((j : Int) + 1))) (by simp)).set (.int .i64 ((pre.length : Int) + 1))
                          have hKO := (hKs ⟨W6.heap.size, 0, none⟩ (.int .i64 ((j : Int) + 1))).trans (KeepsOthers.setCell _ ⟨W6.heap.size + 1, 0, none⟩ (.int .i64 ((pre.length : Int) + 1)))
                          have hBV := (HbW.out.setCell (p := ⟨W6.heap.size, 0, none⟩) (Nat.le_refl _) (.int .i64 ((j : Int) + 1))).setCell (p := ⟨W6.heap.size + 1, 0, none⟩) (by simp) (.int .i64 ((pre.length : Int) + 1))
                          have hBX := (HbXW.out.setCell (p := ⟨W6.heap.size, 0, none⟩) (Nat.le_refl _) (.int .i64 ((j : Int) + 1))).setCell (p := ⟨W6.heap.size + 1, 0, none⟩) (by simp) (.int .i64 ((pre.length : Int) + 1))
                          have HnW3 := HnW2.kept (grownBy_setCell' _ (W6.heap.size + 1) (.int .i64 ((pre.length : Int) + 1))) (by simp)
                          have hpp : pre ++ [(xi, xs)] = nonE image (j + 1) := by rw [HNF.out he, hxi, hxx, ← Hpj.out])
                        · exact ⟨hKO, .inr ⟨trivial, rfl, hBV⟩⟩
                        exact ⟨hKO, hBX, ⟨j + 1, by omega, hpp, by rw [e1]; exact HnW3, by rw [List.length_append, List.length_singleton, e2]; exact HcW2⟩, hBV⟩
                      · have hxs2 : (xs.toList == s.toList) = false := by simpa using hxs
                        gi_wp2
                        exact ⟨hKs _ _, .inl ⟨rfl, by rw [Hpj.out]; exact HNO.out he _ fun e => hxs (congrArg (fun q => q.2.toList) e)⟩⟩
                    · gi_wp2
                      exact ⟨hKs _ _, .inl ⟨rfl, by rw [Hpj.out]; exact HNO.out he _ fun e => hxi (congrArg Prod.fst e)⟩⟩
                · obtain rfl : j = image.length := by omega
                  gi_wp2
                  exact ⟨HkW.out.trans (KeepsOthers.setCell _ _ _), .inl ⟨rfl, by rw [Hpj.out]; exact nonE_over image _⟩⟩
            case donex =>
              rintro D ys W' hD hS ⟨⟨k, hk, hpre, hnW, hcW⟩, hbW⟩ hK
              have HRW := Lib.hid (HRV6.out.below (hbW.mono hWn))
              have HRdW := Lib.hid (boxed_below HRdV6.out hbW HRd.out.lt)
              have HbW := Lib.hid hbW
              have HK := Lib.hid hK
              have xr := HRdW.out.cell
              clear hbW hnW hcW hK hnx HCT HbA hpre hk
              go_wp2_with fail
              refine wp_loop_rounds 1 ?_
              rw [rounds_succ]
              go_wp2_with fail
              have HRd1 : Hid (Boxed (W'.alloc (.cells #[.int .i64 1] 3)) W'.heap.size 3 (.int .i64 1)) := Lib.hid (Boxed.new _ _ _)
              have HR7 := Lib.hid (HRW.out.below ((Below.refl _ W').alloc HRW.out.hn (.cells #[.int .i64 1] 3)))
              have hDW : D < W'.heap.size := (Array.getElem?_eq_some_iff.1 HK.out).1
              have HK7 := Lib.hid ((Below.heap_alloc W' (.cells #[.int .i64 1] 3) D hDW).trans HK.out)
              have hDW7 : D < (W'.alloc (.cells #[.int .i64 1] 3)).heap.size := by simp; omega
              have hDlo : w.heap.size + 3 ≤ D := by have := HR6.out.h0; omega
              clear HK xr HRW HRdW hD hS
              generalize (W'.alloc (.cells #[.int .i64 1] 3)) = W7 at *
              generalize W'.heap.size = n1 at *
              clear HRV6 HRdV6 HRd HR6 hsz hWn HbW
              rw [rounds_succ]
              have xr := HRd1.out.cell
              go_wp2_with fail
              clear xr
              have hnx := Lib.hid ((Boxed.new W7 (3) (.int .i64 0)).alloc (.cells #[.int .i64 0] 3))
              have hct := Boxed.new (W7.alloc (.cells #[.int .i64 0] 3)) (3) (.int .i64 0)
              rw [World.size_alloc] at hct
              have HCT := Lib.hid hct
              clear hct
              have HbA : Hid (Below W7.heap.size W7 ((W7.alloc (.cells #[.int .i64 0] 3)).alloc (.cells #[.int .i64 0] 3))) := Lib.hid (((Below.refl _ _).alloc (Nat.le_refl _) _).alloc (by simp) _)
              have hsz : ((W7.alloc (.cells #[.int .i64 0] 3)).alloc (.cells #[.int .i64 0] 3)).heap.size = W7.heap.size + 2 := by simp
              have hWn := HR7.out.hn
              generalize ((W7.alloc (.cells #[.int .i64 0] 3)).alloc (.cells #[.int .i64 0] 3)) = V7 at *
              have HRV7 := Lib.hid (HR7.out.below (HbA.out.mono hWn))
              have HKV := Lib.hid ((HbA.out.block D hDW7).trans HK7.out)
              have HRdV7 := Lib.hid (boxed_below HRd1.out HbA.out HRd1.out.lt)
              refine (wpIn_wide (n := 3)).1 ?_
              refine wpIn_rangeFunc_ownF rfl (by decide) (gf := 51) (lb := #[.pointer (some ⟨Bn, 0, none⟩)]) rfl trivial (enters_of Try.func51 (by kernel_rfl) rfl)
                (each_stops Fence.wide 2 trivial rfl (by decide) Bn W7.heap.size ve image V7 (Nat.lt_of_lt_of_le HRV7.out.hB hWn) HRV7.out.box.cell HRV7.out.row (fun k hk => Nat.lt_of_lt_of_le (HRV7.out.low k hk) hWn) (by omega) (by omega)) belowK_t (belowK_b (by omega)) (Below.refl _ _) (fun _ => rfl)
                (Between image W7.heap.size W7.heap.size (W7.heap.size + 1) V7) (Leaves False image W7.heap.size V7) (between_own image (by omega) (by omega)) (leaves_own _ image (by omega) (by omega)) ⟨⟨0, Nat.zero_le _, rfl, hnx.out, HCT.out⟩, Below.refl _ _⟩ ?a1xa ?assignxa ?bodyxa ?donexa ?stopxa
              case assignxa =>
                intro l x X K hK
                gi_wp2
                exact hK
              case bodyxa =>
                rintro l pre ⟨xi, xs⟩ X ⟨⟨k, hk, hpre, hnX, hcX⟩, hbX⟩ hlen
                have HnX := Lib.hid hnX
                have HcX := Lib.hid hcX
                have HbX := Lib.hid hbX
                have Hpre := Lib.hid hpre
                clear hnX hcX hbX hpre hnx HCT HbA
                gi_wp2
                gi_loopw [] (fun wr => Skips image W7.heap.size W7.heap.size W7.heap.size (W7.heap.size + 1) pre V7 X wr) (fun wr => image.length - numAt wr W7.heap.size)
                case atStart => exact ⟨k, hk, Hpre.out, HnX.out, HcX.out, HbX.out, Below.refl _ _, KeepsOthers.refl _⟩
                case round =>
                  obtain ⟨j, hj, hpj, hnW, hcW, hbW, hbXW, hkW⟩ := hrel
                  have HRW := Lib.hid (HRV7.out.below (hbW.mono hWn))
                  have HRdW := Lib.hid (boxed_below HRdV7.out hbW HRd1.out.lt)
                  have HkW := Lib.hid hkW
                  have HbW := Lib.hid hbW
                  have HbXW := Lib.hid hbXW
                  have HnW := Lib.hid hnW
                  have HcW := Lib.hid hcW
                  have Hpj := Lib.hid hpj
                  have xim := HRW.out.st.img.cell
                  have xn := hnW.cell
                  have fn := hnW.frozen
                  have xc := hcW.cell
                  have fc := hcW.frozen
                  have xr := HRdW.out.cell
                  have xst := HRW.out.st.num.cell
                  have xan := HRW.out.st.ans.cell
                  have fan := HRW.out.st.ans.frozen
                  have hlow := HRW.out.h0
                  have hrl := HRd1.out.lt
                  clear hkW hbW hbXW hnW hcW hpj HnX HcX HbX Hpre
                  by_cases hlt : j < image.length
                  · have xk := (HRW.out.st.bel.cell (p := ⟨ib, io + j, none⟩) hib).trans (Q1.out j _ (strs_at image j hlt))
                    have HNE := Lib.hid fun h => nonE_empty image (k := j) hlt h
                    have HNF := Lib.hid fun h => nonE_full image (k := j) hlt h
                    have HNO := Lib.hid fun h => nonE_other image (k := j) hlt h
                    generalize image[j] = s at *
                    by_cases he : s.toList = []
                    · gi_wp2
                      have HnW2 := HnW.out.set (.int .i64 ((j : Int) + 1))
                      have e1 : ((j + 1 : Nat) : Int) = (j : Int) + 1 := by omega
                      rw [← e1] at HnW2 ⊢
                      refine ⟨⟨j + 1, by omega, by rw [HNE.out he]; exact Hpj.out, HnW2, HcW.out.kept (grownBy_setCell' _ _ _) (by simp), HbW.out.setCell (p := ⟨W7.heap.size, 0, none⟩) (Nat.le_refl _) _, HbXW.out.setCell (p := ⟨W7.heap.size, 0, none⟩) (Nat.le_refl _) _, HkW.out.trans (KeepsOthers.setCell _ _ _)⟩, ?_⟩
                      rw [numAt_eq HnW2, numAt_eq HnW.out]
                      omega
                    · have hKs := fun (a : Addr) (v : Value) => HkW.out.trans (KeepsOthers.setCell wr a v)
                      have he2 : s.toList.isEmpty = false := by simpa using he
                      by_cases hxi : xi = (j : Int)
                      · by_cases hxs : xs.toList = s.toList
                        · gi_wp2
                          all_goals (
                            have HnW2 := HnW.out.set (.int .i64 ((j : Int) + 1))
                            have e1 : ((j + 1 : Nat) : Int) = (j : Int) + 1 := by omega
                            have e2 : ((pre.length + 1 : Nat) : Int) = (pre.length : Int) + 1 := by omega
                            have hxx : xs = s := by
                              have h := beq_text xs s
                              rw [hxs] at h
                              simpa using h
                            have HcW2 := (HcW.out.kept (grownBy_setCell' wr W7.heap.size (.int .i64 ((j : Int) + 1))) (by simp)).set (.int .i64 ((pre.length : Int) + 1))
                            have hKO := (hKs ⟨W7.heap.size, 0, none⟩ (.int .i64 ((j : Int) + 1))).trans (KeepsOthers.setCell _ ⟨W7.heap.size + 1, 0, none⟩ (.int .i64 ((pre.length : Int) + 1)))
                            have hBV := (HbW.out.setCell (p := ⟨W7.heap.size, 0, none⟩) (Nat.le_refl _) (.int .i64 ((j : Int) + 1))).setCell (p := ⟨W7.heap.size + 1, 0, none⟩) (by simp) (.int .i64 ((pre.length : Int) + 1))
                            have hBX := (HbXW.out.setCell (p := ⟨W7.heap.size, 0, none⟩) (Nat.le_refl _) (.int .i64 ((j : Int) + 1))).setCell (p := ⟨W7.heap.size + 1, 0, none⟩) (by simp) (.int .i64 ((pre.length : Int) + 1))
                            have HnW3 := HnW2.kept (grownBy_setCell' _ (W7.heap.size + 1) (.int .i64 ((pre.length : Int) + 1))) (by simp)
                            have hpp : pre ++ [(xi, xs)] = nonE image (j + 1) := by rw [HNF.out he, hxi, hxx, ← Hpj.out])
                          exact ⟨hKO, hBX, ⟨j + 1, by omega, hpp, by rw [e1]; exact HnW3, by rw [List.length_append, List.length_singleton, e2]; exact HcW2⟩, hBV⟩
                        · have hxs2 : (xs.toList == s.toList) = false := by simpa using hxs
                          gi_wp2
                          exact ⟨hKs _ _, .inl ⟨rfl, by rw [Hpj.out]; exact HNO.out he _ fun e => hxs (congrArg (fun q => q.2.toList) e)⟩⟩
                      · gi_wp2
                        exact ⟨hKs _ _, .inl ⟨rfl, by rw [Hpj.out]; exact HNO.out he _ fun e => hxi (congrArg Prod.fst e)⟩⟩
                  · obtain rfl : j = image.length := by omega
                    gi_wp2
                    exact ⟨HkW.out.trans (KeepsOthers.setCell _ _ _), .inl ⟨rfl, by rw [Hpj.out]; exact nonE_over image _⟩⟩
              case donexa =>
                rintro D2 ys W' hD hS ⟨⟨k, hk, hpre, hnW, hcW⟩, hbW⟩ hK
                have HbW := Lib.hid hbW
                have HnW := Lib.hid hnW
                have HK := Lib.hid hK
                have Hpre := Lib.hid (hpre.symm.trans hS)
                have hneD : D2 ≠ W7.heap.size := by omega
                have hDD : W7.heap.size < D2 := by omega
                clear hbW hnW hcW hK hnx HCT HbA hpre
                go_wp2_with fail
                go_loopw [] (fun wr => ∃ j : Nat, j ≤ image.length ∧ nonE image j = nonE image image.length ∧ Boxed wr W7.heap.size 3 (.int .i64 (j : Int)) ∧ Below W7.heap.size V7 wr ∧ wr.heap[D2]? = some (.deferred (some []))) (fun wr => image.length - numAt wr W7.heap.size)
                case atStart => exact ⟨k, hk, Hpre.out, HnW.out, HbW.out, HK.out⟩
                case round =>
                  obtain ⟨j, hj, hnj, hnW, hbW, hKW⟩ := hrel
                  have HRW := Lib.hid (HRV7.out.below (hbW.mono hWn))
                  have HRdW := Lib.hid (boxed_below HRdV7.out hbW HRd1.out.lt)
                  have Hnj := Lib.hid hnj
                  have HbW2 := Lib.hid hbW
                  have HnW2 := Lib.hid hnW
                  have HKW := Lib.hid hKW
                  have xn := hnW.cell
                  have fn := hnW.frozen
                  have xr := HRdW.out.cell
                  have xim := HRW.out.st.img.cell
                  have hrl := HRd1.out.lt
                  clear hbW hKW hnW hnj HnW HbW HK Hpre
                  by_cases hlt : j < image.length
                  · have xk := (HRW.out.st.bel.cell (p := ⟨ib, io + j, none⟩) hib).trans (Q1.out j _ (strs_at image j hlt))
                    have he := nonE_rest image hlt Hnj.out
                    have HNE := Lib.hid (nonE_empty image (k := j) hlt he)
                    generalize image[j] = s at *
                    have he2 : s.toList.isEmpty = true := by simp [he]
                    go_wp2_with fail
                    have HnW3 := HnW2.out.set (.int .i64 ((j : Int) + 1))
                    have e1 : ((j + 1 : Nat) : Int) = (j : Int) + 1 := by omega
                    rw [← e1] at HnW3 ⊢
                    exact ⟨⟨j + 1, by omega, by rw [HNE.out]; exact Hnj.out, HnW3, HbW2.out.setCell (p := ⟨W7.heap.size, 0, none⟩) (Nat.le_refl _) _, (Below.heap_setCell _ _ _ _ hneD).trans HKW.out⟩, by rw [numAt_eq HnW3, numAt_eq HnW2.out]; omega⟩
                  · obtain rfl : j = image.length := by omega
                    go_wp2_with fail
                    have hD2 : D2 < wr.heap.size := (Array.getElem?_eq_some_iff.1 HKW.out).1
                    have hDr : D < wr.heap.size := by have := HbW2.out.size; omega
                    have HKa := Lib.hid ((Below.heap_alloc wr (.cells #[.int .i64 2] 3) D2 hD2).trans HKW.out)
                    have HKb := Lib.hid ((Below.heap_alloc wr (.cells #[.int .i64 2] 3) D hDr).trans ((HbW2.out.block D (by omega)).trans HKV.out))
                    have HSf := Lib.hid (HRW.out.below ((Below.refl _ wr).alloc HRW.out.hn (.cells #[.int .i64 2] 3))).st
                    have xr2 := (Boxed.new wr 3 (.int .i64 2)).cell
                    have hszf : (wr.alloc (.cells #[.int .i64 2] 3)).heap.size = wr.heap.size + 1 := by simp
                    clear xr xn fn xim HKW HnW2 HRW HRdW
                    generalize (wr.alloc (.cells #[.int .i64 2] 3)) = Wf at *
                    rw [rounds_succ]
                    go_wp2_with fail
                    refine (live_any _).mono ?_
                    rintro e wL ⟨rfl, hbL⟩
                    have HSL := Lib.hid (HSf.out.next hbL)
                    have xL := HSL.out.ans.cell
                    have fL := HSL.out.ans.frozen
                    have HKaL := Lib.hid ((hbL.block D2 (by omega)).trans HKa.out)
                    have HKbL := Lib.hid ((hbL.block D (by omega)).trans HKb.out)
                    clear hbL xr2
                    go_wp2_with fail
                    have hn2 : D2 ≠ w.heap.size + 1 + 1 := by omega
                    have hn1 : D ≠ w.heap.size + 1 + 1 := by omega
                    have hK2 : (wL.setCell ⟨w.heap.size + 1 + 1, 0, none⟩ (.bool true)).heap[D2]? = some (.deferred (some [])) := (Below.heap_setCell _ _ _ _ hn2).trans HKaL.out
                    have hK1 : (wL.setCell ⟨w.heap.size + 1 + 1, 0, none⟩ (.bool true)).heap[D]? = some (.deferred (some [])) := (Below.heap_setCell _ _ _ _ hn1).trans HKbL.out
                    have hK1' : ((wL.setCell ⟨w.heap.size + 1 + 1, 0, none⟩ (.bool true)).putObj D2 (.deferred none)).heap[D]? = some (.deferred (some [])) := ((grownBy_putObj' _ D2 (.deferred none)).block D ((Array.getElem?_eq_some_iff.1 hK1).1) (fun e => by cases e; omega)).trans hK1
                    refine ⟨by simp, .inl ⟨_, _, rfl, run_takeDeferred hK2, ?_⟩⟩
                    refine ⟨by simp, .inl ⟨_, _, rfl, run_takeDeferred hK1', ?_⟩⟩
                    have hc := (HSL.out.ans.set (.bool true)).cell
                    have hc1 := cell_kept hc (grownBy_putObj' _ D2 (.deferred none)) (fun r e => by cases e; exact ⟨_, hK2, rfl⟩)
                    have hc2 := cell_kept hc1 (grownBy_putObj' _ D (.deferred none)) (fun r e => by cases e; exact ⟨_, hK1', rfl⟩)
                    refine ⟨.bool true, ?_, rfl, ?_⟩
                    · simp [results, Try.f8, go_sem, hc2]
                    · have hbS := HSL.out.bel.setCell (p := ⟨w.heap.size + 1 + 1, 0, none⟩) (by simp; omega) (.bool true)
                      have hbT := hbS.grown (grownBy_putObj' _ D2 (.deferred none)) hbS.size (fun k e => by cases e; omega)
                      exact hbT.grown (grownBy_putObj' _ D (.deferred none)) hbT.size (fun k e => by cases e; omega)
              case stopxa =>
                rintro D2 c ys W' hD hS (⟨rfl, hno⟩ | ⟨h, _⟩) hK
                · exact absurd hS hno
                · exact h.elim
            case stopx =>
              rintro D c ys W' hD hS (⟨rfl, hno⟩ | ⟨_, rfl, hbW⟩) hK
              · exact absurd hS hno
              · have HRW := Lib.hid (HRV6.out.below (hbW.mono hWn))
                have HRdW := Lib.hid (boxed_below HRdV6.out hbW HRd.out.lt)
                have HbW := Lib.hid hbW
                have HK := Lib.hid hK
                have xr := HRdW.out.cell
                clear hbW hK hnx HCT HbA
                gi_wp2
                go_wp2_with fail
                refine wp_loop_rounds 1 ?_
                rw [rounds_succ]
                go_wp2_with fail
                have HRd1 : Hid (Boxed (W'.alloc (.cells #[.int .i64 1] 3)) W'.heap.size 3 (.int .i64 1)) := Lib.hid (Boxed.new _ _ _)
                have HR7 := Lib.hid (HRW.out.below ((Below.refl _ W').alloc HRW.out.hn (.cells #[.int .i64 1] 3)))
                have hDW : D < W'.heap.size := (Array.getElem?_eq_some_iff.1 HK.out).1
                have HK7 := Lib.hid ((Below.heap_alloc W' (.cells #[.int .i64 1] 3) D hDW).trans HK.out)
                have hDW7 : D < (W'.alloc (.cells #[.int .i64 1] 3)).heap.size := by simp; omega
                have hDlo : w.heap.size + 3 ≤ D := by have := HR6.out.h0; omega
                clear HK xr HRW HRdW hD hS
                generalize (W'.alloc (.cells #[.int .i64 1] 3)) = W7 at *
                generalize W'.heap.size = n1 at *
                clear HRV6 HRdV6 HRd HR6 hsz hWn HbW
                rw [rounds_succ]
                have xr := HRd1.out.cell
                go_wp2_with fail
                clear xr
                have hnx := Lib.hid ((Boxed.new W7 (3) (.int .i64 0)).alloc (.cells #[.int .i64 0] 3))
                have hct := Boxed.new (W7.alloc (.cells #[.int .i64 0] 3)) (3) (.int .i64 0)
                rw [World.size_alloc] at hct
                have HCT := Lib.hid hct
                clear hct
                have HbA : Hid (Below W7.heap.size W7 ((W7.alloc (.cells #[.int .i64 0] 3)).alloc (.cells #[.int .i64 0] 3))) := Lib.hid (((Below.refl _ _).alloc (Nat.le_refl _) _).alloc (by simp) _)
                have hsz : ((W7.alloc (.cells #[.int .i64 0] 3)).alloc (.cells #[.int .i64 0] 3)).heap.size = W7.heap.size + 2 := by simp
                have hWn := HR7.out.hn
                generalize ((W7.alloc (.cells #[.int .i64 0] 3)).alloc (.cells #[.int .i64 0] 3)) = V7 at *
                have HRV7 := Lib.hid (HR7.out.below (HbA.out.mono hWn))
                have HKV := Lib.hid ((HbA.out.block D hDW7).trans HK7.out)
                have HRdV7 := Lib.hid (boxed_below HRd1.out HbA.out HRd1.out.lt)
                refine (wpIn_wide (n := 3)).1 ?_
                refine wpIn_rangeFunc_ownF rfl (by decide) (gf := 51) (lb := #[.pointer (some ⟨Bn, 0, none⟩)]) rfl trivial (enters_of Try.func51 (by kernel_rfl) rfl)
                  (each_stops Fence.wide 2 trivial rfl (by decide) Bn W7.heap.size ve image V7 (Nat.lt_of_lt_of_le HRV7.out.hB hWn) HRV7.out.box.cell HRV7.out.row (fun k hk => Nat.lt_of_lt_of_le (HRV7.out.low k hk) hWn) (by omega) (by omega)) belowK_t (belowK_b (by omega)) (Below.refl _ _) (fun _ => rfl)
                  (Between image W7.heap.size W7.heap.size (W7.heap.size + 1) V7) (Leaves False image W7.heap.size V7) (between_own image (by omega) (by omega)) (leaves_own _ image (by omega) (by omega)) ⟨⟨0, Nat.zero_le _, rfl, hnx.out, HCT.out⟩, Below.refl _ _⟩ ?a1xb ?assignxb ?bodyxb ?donexb ?stopxb
                case assignxb =>
                  intro l x X K hK
                  gi_wp2
                  exact hK
                case bodyxb =>
                  rintro l pre ⟨xi, xs⟩ X ⟨⟨k, hk, hpre, hnX, hcX⟩, hbX⟩ hlen
                  have HnX := Lib.hid hnX
                  have HcX := Lib.hid hcX
                  have HbX := Lib.hid hbX
                  have Hpre := Lib.hid hpre
                  clear hnX hcX hbX hpre hnx HCT HbA
                  gi_wp2
                  gi_loopw [] (fun wr => Skips image W7.heap.size W7.heap.size W7.heap.size (W7.heap.size + 1) pre V7 X wr) (fun wr => image.length - numAt wr W7.heap.size)
                  case atStart => exact ⟨k, hk, Hpre.out, HnX.out, HcX.out, HbX.out, Below.refl _ _, KeepsOthers.refl _⟩
                  case round =>
                    obtain ⟨j, hj, hpj, hnW, hcW, hbW, hbXW, hkW⟩ := hrel
                    have HRW := Lib.hid (HRV7.out.below (hbW.mono hWn))
                    have HRdW := Lib.hid (boxed_below HRdV7.out hbW HRd1.out.lt)
                    have HkW := Lib.hid hkW
                    have HbW := Lib.hid hbW
                    have HbXW := Lib.hid hbXW
                    have HnW := Lib.hid hnW
                    have HcW := Lib.hid hcW
                    have Hpj := Lib.hid hpj
                    have xim := HRW.out.st.img.cell
                    have xn := hnW.cell
                    have fn := hnW.frozen
                    have xc := hcW.cell
                    have fc := hcW.frozen
                    have xr := HRdW.out.cell
                    have xst := HRW.out.st.num.cell
                    have xan := HRW.out.st.ans.cell
                    have fan := HRW.out.st.ans.frozen
                    have hlow := HRW.out.h0
                    have hrl := HRd1.out.lt
                    clear hkW hbW hbXW hnW hcW hpj HnX HcX HbX Hpre
                    by_cases hlt : j < image.length
                    · have xk := (HRW.out.st.bel.cell (p := ⟨ib, io + j, none⟩) hib).trans (Q1.out j _ (strs_at image j hlt))
                      have HNE := Lib.hid fun h => nonE_empty image (k := j) hlt h
                      have HNF := Lib.hid fun h => nonE_full image (k := j) hlt h
                      have HNO := Lib.hid fun h => nonE_other image (k := j) hlt h
                      generalize image[j] = s at *
                      by_cases he : s.toList = []
                      · gi_wp2
                        have HnW2 := HnW.out.set (.int .i64 ((j : Int) + 1))
                        have e1 : ((j + 1 : Nat) : Int) = (j : Int) + 1 := by omega
                        rw [← e1] at HnW2 ⊢
                        refine ⟨⟨j + 1, by omega, by rw [HNE.out he]; exact Hpj.out, HnW2, HcW.out.kept (grownBy_setCell' _ _ _) (by simp), HbW.out.setCell (p := ⟨W7.heap.size, 0, none⟩) (Nat.le_refl _) _, HbXW.out.setCell (p := ⟨W7.heap.size, 0, none⟩) (Nat.le_refl _) _, HkW.out.trans (KeepsOthers.setCell _ _ _)⟩, ?_⟩
                        rw [numAt_eq HnW2, numAt_eq HnW.out]
                        omega
                      · have hKs := fun (a : Addr) (v : Value) => HkW.out.trans (KeepsOthers.setCell wr a v)
                        have he2 : s.toList.isEmpty = false := by simpa using he
                        by_cases hxi : xi = (j : Int)
                        · by_cases hxs : xs.toList = s.toList
                          · gi_wp2
                            all_goals (
                              have HnW2 := HnW.out.set (.int .i64 ((j : Int) + 1))
                              have e1 : ((j + 1 : Nat) : Int) = (j : Int) + 1 := by omega
                              have e2 : ((pre.length + 1 : Nat) : Int) = (pre.length : Int) + 1 := by omega
                              have hxx : xs = s := by
                                have h := beq_text xs s
                                rw [hxs] at h
                                simpa using h
                              have HcW2 := (HcW.out.kept (grownBy_setCell' wr W7.heap.size (.int .i64 ((j : Int) + 1))) (by simp)).set (.int .i64 ((pre.length : Int) + 1))
                              have hKO := (hKs ⟨W7.heap.size, 0, none⟩ (.int .i64 ((j : Int) + 1))).trans (KeepsOthers.setCell _ ⟨W7.heap.size + 1, 0, none⟩ (.int .i64 ((pre.length : Int) + 1)))
                              have hBV := (HbW.out.setCell (p := ⟨W7.heap.size, 0, none⟩) (Nat.le_refl _) (.int .i64 ((j : Int) + 1))).setCell (p := ⟨W7.heap.size + 1, 0, none⟩) (by simp) (.int .i64 ((pre.length : Int) + 1))
                              have hBX := (HbXW.out.setCell (p := ⟨W7.heap.size, 0, none⟩) (Nat.le_refl _) (.int .i64 ((j : Int) + 1))).setCell (p := ⟨W7.heap.size + 1, 0, none⟩) (by simp) (.int .i64 ((pre.length : Int) + 1))
                              have HnW3 := HnW2.kept (grownBy_setCell' _ (W7.heap.size + 1) (.int .i64 ((pre.length : Int) + 1))) (by simp)
                              have hpp : pre ++ [(xi, xs)] = nonE image (j + 1) := by rw [HNF.out he, hxi, hxx, ← Hpj.out])
                            exact ⟨hKO, hBX, ⟨j + 1, by omega, hpp, by rw [e1]; exact HnW3, by rw [List.length_append, List.length_singleton, e2]; exact HcW2⟩, hBV⟩
                          · have hxs2 : (xs.toList == s.toList) = false := by simpa using hxs
                            gi_wp2
                            exact ⟨hKs _ _, .inl ⟨rfl, by rw [Hpj.out]; exact HNO.out he _ fun e => hxs (congrArg (fun q => q.2.toList) e)⟩⟩
                        · gi_wp2
                          exact ⟨hKs _ _, .inl ⟨rfl, by rw [Hpj.out]; exact HNO.out he _ fun e => hxi (congrArg Prod.fst e)⟩⟩
                    · obtain rfl : j = image.length := by omega
                      gi_wp2
                      exact ⟨HkW.out.trans (KeepsOthers.setCell _ _ _), .inl ⟨rfl, by rw [Hpj.out]; exact nonE_over image _⟩⟩
                case donexb =>
                  rintro D2 ys W' hD hS ⟨⟨k, hk, hpre, hnW, hcW⟩, hbW⟩ hK
                  have HbW := Lib.hid hbW
                  have HnW := Lib.hid hnW
                  have HK := Lib.hid hK
                  have Hpre := Lib.hid (hpre.symm.trans hS)
                  have hneD : D2 ≠ W7.heap.size := by omega
                  have hDD : W7.heap.size < D2 := by omega
                  clear hbW hnW hcW hK hnx HCT HbA hpre
                  go_wp2_with fail
                  go_loopw [] (fun wr => ∃ j : Nat, j ≤ image.length ∧ nonE image j = nonE image image.length ∧ Boxed wr W7.heap.size 3 (.int .i64 (j : Int)) ∧ Below W7.heap.size V7 wr ∧ wr.heap[D2]? = some (.deferred (some []))) (fun wr => image.length - numAt wr W7.heap.size)
                  case atStart => exact ⟨k, hk, Hpre.out, HnW.out, HbW.out, HK.out⟩
                  case round =>
                    obtain ⟨j, hj, hnj, hnW, hbW, hKW⟩ := hrel
                    have HRW := Lib.hid (HRV7.out.below (hbW.mono hWn))
                    have HRdW := Lib.hid (boxed_below HRdV7.out hbW HRd1.out.lt)
                    have Hnj := Lib.hid hnj
                    have HbW2 := Lib.hid hbW
                    have HnW2 := Lib.hid hnW
                    have HKW := Lib.hid hKW
                    have xn := hnW.cell
                    have fn := hnW.frozen
                    have xr := HRdW.out.cell
                    have xim := HRW.out.st.img.cell
                    have hrl := HRd1.out.lt
                    clear hbW hKW hnW hnj HnW HbW HK Hpre
                    by_cases hlt : j < image.length
                    · have xk := (HRW.out.st.bel.cell (p := ⟨ib, io + j, none⟩) hib).trans (Q1.out j _ (strs_at image j hlt))
                      have he := nonE_rest image hlt Hnj.out
                      have HNE := Lib.hid (nonE_empty image (k := j) hlt he)
                      generalize image[j] = s at *
                      have he2 : s.toList.isEmpty = true := by simp [he]
                      go_wp2_with fail
                      have HnW3 := HnW2.out.set (.int .i64 ((j : Int) + 1))
                      have e1 : ((j + 1 : Nat) : Int) = (j : Int) + 1 := by omega
                      rw [← e1] at HnW3 ⊢
                      exact ⟨⟨j + 1, by omega, by rw [HNE.out]; exact Hnj.out, HnW3, HbW2.out.setCell (p := ⟨W7.heap.size, 0, none⟩) (Nat.le_refl _) _, (Below.heap_setCell _ _ _ _ hneD).trans HKW.out⟩, by rw [numAt_eq HnW3, numAt_eq HnW2.out]; omega⟩
                    · obtain rfl : j = image.length := by omega
                      go_wp2_with fail
                      have hD2 : D2 < wr.heap.size := (Array.getElem?_eq_some_iff.1 HKW.out).1
                      have hDr : D < wr.heap.size := by have := HbW2.out.size; omega
                      have HKa := Lib.hid ((Below.heap_alloc wr (.cells #[.int .i64 2] 3) D2 hD2).trans HKW.out)
                      have HKb := Lib.hid ((Below.heap_alloc wr (.cells #[.int .i64 2] 3) D hDr).trans ((HbW2.out.block D (by omega)).trans HKV.out))
                      have HSf := Lib.hid (HRW.out.below ((Below.refl _ wr).alloc HRW.out.hn (.cells #[.int .i64 2] 3))).st
                      have xr2 := (Boxed.new wr 3 (.int .i64 2)).cell
                      have hszf : (wr.alloc (.cells #[.int .i64 2] 3)).heap.size = wr.heap.size + 1 := by simp
                      clear xr xn fn xim HKW HnW2 HRW HRdW
                      generalize (wr.alloc (.cells #[.int .i64 2] 3)) = Wf at *
                      rw [rounds_succ]
                      go_wp2_with fail
                      refine (live_any _).mono ?_
                      rintro e wL ⟨rfl, hbL⟩
                      have HSL := Lib.hid (HSf.out.next hbL)
                      have xL := HSL.out.ans.cell
                      have fL := HSL.out.ans.frozen
                      have HKaL := Lib.hid ((hbL.block D2 (by omega)).trans HKa.out)
                      have HKbL := Lib.hid ((hbL.block D (by omega)).trans HKb.out)
                      clear hbL xr2
                      go_wp2_with fail
                      have hn2 : D2 ≠ w.heap.size + 1 + 1 := by omega
                      have hn1 : D ≠ w.heap.size + 1 + 1 := by omega
                      have hK2 : (wL.setCell ⟨w.heap.size + 1 + 1, 0, none⟩ (.bool true)).heap[D2]? = some (.deferred (some [])) := (Below.heap_setCell _ _ _ _ hn2).trans HKaL.out
                      have hK1 : (wL.setCell ⟨w.heap.size + 1 + 1, 0, none⟩ (.bool true)).heap[D]? = some (.deferred (some [])) := (Below.heap_setCell _ _ _ _ hn1).trans HKbL.out
                      have hK1' : ((wL.setCell ⟨w.heap.size + 1 + 1, 0, none⟩ (.bool true)).putObj D2 (.deferred none)).heap[D]? = some (.deferred (some [])) := ((grownBy_putObj' _ D2 (.deferred none)).block D ((Array.getElem?_eq_some_iff.1 hK1).1) (fun e => by cases e; omega)).trans hK1
                      refine ⟨by simp, .inl ⟨_, _, rfl, run_takeDeferred hK2, ?_⟩⟩
                      refine ⟨by simp, .inl ⟨_, _, rfl, run_takeDeferred hK1', ?_⟩⟩
                      have hc := (HSL.out.ans.set (.bool true)).cell
                      have hc1 := cell_kept hc (grownBy_putObj' _ D2 (.deferred none)) (fun r e => by cases e; exact ⟨_, hK2, rfl⟩)
                      have hc2 := cell_kept hc1 (grownBy_putObj' _ D (.deferred none)) (fun r e => by cases e; exact ⟨_, hK1', rfl⟩)
                      refine ⟨.bool true, ?_, rfl, ?_⟩
                      · simp [results, Try.f8, go_sem, hc2]
                      · have hbS := HSL.out.bel.setCell (p := ⟨w.heap.size + 1 + 1, 0, none⟩) (by simp; omega) (.bool true)
                        have hbT := hbS.grown (grownBy_putObj' _ D2 (.deferred none)) hbS.size (fun k e => by cases e; omega)
                        exact hbT.grown (grownBy_putObj' _ D (.deferred none)) hbT.size (fun k e => by cases e; omega)
                case stopxb =>
                  rintro D2 c ys W' hD hS (⟨rfl, hno⟩ | ⟨h, _⟩) hK
                  · exact absurd hS hno
                  · exact h.elim
          · have hnq := below_drewN (Below.refl W2.heap.size W2) nq
            have HSt3 := Lib.hid (HSt2.out.next hnq)
            have HD3 := Lib.hid (HD.out.below hnq)
            clear T1 T2 T3 HD HD' HSt2 xi hnq
            generalize W2.drewN nq = W3 at *
            have hnf := fun W fn x y => eql_func_nil W fn x y
            go_wp2_with fail
            refine (each_any HD3.out).mono ?_
            rintro e W4 ⟨Bn, ve, rfl, hBn, hbox, hown, hb4⟩
            have HBox := Lib.hid hbox
            have HOwn := Lib.hid hown
            have HB4 := Lib.hid hb4
            clear hbox hown hb4
            go_wp2_with fail
            refine (write_any (HD3.out.below HB4.out) 0 ⟨#[108, 97, 116, 101, 114]⟩ (by decide) (by simp [fresh0])).mono ?_
            rintro e W5 ⟨rfl, ht⟩
            have HR5 : Hid (Ready w (.slice a1 image.length c1) stop image W5.heap.size Bn ve W5) := by
              obtain ⟨S5, hd5, _, hto⟩ := ht
              have hsz := hto.size
              refine Lib.hid ⟨(HSt3.out.next HB4.out).below (hto.below (HSt3.out.next HB4.out).size fun k hk => (HD3.out.lt k hk).1), ?_, ?_, ?_, ?_, ?_, Nat.le_refl _⟩
              · exact (hto.block Bn HBox.out.lt fun hs => by have := (HD3.out.lt Bn hs).2; omega).trans HBox.out
              · have := HBox.out.lt; omega
              · exact row_of_own (own_keep HOwn.out hto fun k hk hs => by have := (HD3.out.lt k hs).2; have := (HOwn.out.lt k hk).1; omega)
              · intro k hk; have := (HOwn.out.lt k hk).2; omega
              · have := (HSt3.out.next HB4.out).size; omega
            clear ht HBox HOwn HB4 HD3 HSt3
            go_wp2_with fail
            have HRd : Hid (Boxed (W5.alloc (.cells #[.int .i64 0] 3)) W5.heap.size 3 (.int .i64 0)) := Lib.hid (Boxed.new _ _ _)
            have HR6 : Hid (Ready w (.slice a1 image.length c1) stop image W5.heap.size Bn ve (W5.alloc (.cells #[.int .i64 0] 3))) := Lib.hid (HR5.out.below ((Below.refl _ _).alloc (Nat.le_refl _) _))
            clear HR5
            generalize (W5.alloc (.cells #[.int .i64 0] 3)) = W6 at *
            generalize W5.heap.size = n0 at *
            obtain ⟨ib, io, rfl, hib, q1⟩ := RR.out (by omega)
            have Q1 := Lib.hid q1
            clear q1
            refine wp_loop_rounds 3 ?_
            rw [rounds_succ]
            have xr := HRd.out.cell
            go_wp2_with fail
            clear xr
            have hnx := Lib.hid ((Boxed.new W6 (3) (.int .i64 0)).alloc (.cells #[.int .i64 0] 3))
            have hct := Boxed.new (W6.alloc (.cells #[.int .i64 0] 3)) (3) (.int .i64 0)
            rw [World.size_alloc] at hct
            have HCT := Lib.hid hct
            clear hct
            have HbA : Hid (Below W6.heap.size W6 ((W6.alloc (.cells #[.int .i64 0] 3)).alloc (.cells #[.int .i64 0] 3))) := Lib.hid (((Below.refl _ _).alloc (Nat.le_refl _) _).alloc (by simp) _)
            have hsz : ((W6.alloc (.cells #[.int .i64 0] 3)).alloc (.cells #[.int .i64 0] 3)).heap.size = W6.heap.size + 2 := by simp
            have hWn := HR6.out.hn
            generalize ((W6.alloc (.cells #[.int .i64 0] 3)).alloc (.cells #[.int .i64 0] 3)) = V6 at *
            have HRV6 := Lib.hid (HR6.out.below (HbA.out.mono hWn))
            have HRdV6 := Lib.hid (boxed_below HRd.out HbA.out HRd.out.lt)
            refine (wpIn_wide (n := 3)).1 ?_
            refine wpIn_rangeFunc_ownF rfl (by decide) (gf := 51) (lb := #[.pointer (some ⟨Bn, 0, none⟩)]) rfl trivial (enters_of Try.func51 (by kernel_rfl) rfl)
              (each_stops Fence.wide 2 trivial rfl (by decide) Bn W6.heap.size ve image V6 (Nat.lt_of_lt_of_le HRV6.out.hB hWn) HRV6.out.box.cell HRV6.out.row (fun k hk => Nat.lt_of_lt_of_le (HRV6.out.low k hk) hWn) (by omega) (by omega)) belowK_t (belowK_b (by omega)) (Below.refl _ _) (fun _ => rfl)
              (Between image W6.heap.size W6.heap.size (W6.heap.size + 1) V6) (Leaves True image W6.heap.size V6) (between_own image (by omega) (by omega)) (leaves_own _ image (by omega) (by omega)) ⟨⟨0, Nat.zero_le _, rfl, hnx.out, HCT.out⟩, Below.refl _ _⟩ ?a1y ?assigny ?bodyy ?doney ?stopy
            case assigny =>
              intro l x X K hK
              gi_wp2
              exact hK
            case bodyy =>
              rintro l pre ⟨xi, xs⟩ X ⟨⟨k, hk, hpre, hnX, hcX⟩, hbX⟩ hlen
              have HnX := Lib.hid hnX
              have HcX := Lib.hid hcX
              have HbX := Lib.hid hbX
              have Hpre := Lib.hid hpre
              clear hnX hcX hbX hpre hnx HCT HbA
              gi_wp2
              gi_loopw [] (fun wr => Skips image W6.heap.size W6.heap.size W6.heap.size (W6.heap.size + 1) pre V6 X wr) (fun wr => image.length - numAt wr W6.heap.size)
              case atStart => exact ⟨k, hk, Hpre.out, HnX.out, HcX.out, HbX.out, Below.refl _ _, KeepsOthers.refl _⟩
              case round =>
                obtain ⟨j, hj, hpj, hnW, hcW, hbW, hbXW, hkW⟩ := hrel
                have HRW := Lib.hid (HRV6.out.below (hbW.mono hWn))
                have HRdW := Lib.hid (boxed_below HRdV6.out hbW HRd.out.lt)
                have HkW := Lib.hid hkW
                have HbW := Lib.hid hbW
                have HbXW := Lib.hid hbXW
                have HnW := Lib.hid hnW
                have HcW := Lib.hid hcW
                have Hpj := Lib.hid hpj
                have xim := HRW.out.st.img.cell
                have xn := hnW.cell
                have fn := hnW.frozen
                have xc := hcW.cell
                have fc := hcW.frozen
                have xr := HRdW.out.cell
                have xst := HRW.out.st.num.cell
                have xan := HRW.out.st.ans.cell
                have fan := HRW.out.st.ans.frozen
                have hlow := HRW.out.h0
                have hrl := HRd.out.lt
                clear hkW hbW hbXW hnW hcW hpj HnX HcX HbX Hpre
                by_cases hlt : j < image.length
                · have xk := (HRW.out.st.bel.cell (p := ⟨ib, io + j, none⟩) hib).trans (Q1.out j _ (strs_at image j hlt))
                  have HNE := Lib.hid fun h => nonE_empty image (k := j) hlt h
                  have HNF := Lib.hid fun h => nonE_full image (k := j) hlt h
                  have HNO := Lib.hid fun h => nonE_other image (k := j) hlt h
                  generalize image[j] = s at *
                  by_cases he : s.toList = []
                  · gi_wp2
                    have HnW2 := HnW.out.set (.int .i64 ((j : Int) + 1))
                    have e1 : ((j + 1 : Nat) : Int) = (j : Int) + 1 := by omega
                    rw [← e1] at HnW2 ⊢
                    refine ⟨⟨j + 1, by omega, by rw [HNE.out he]; exact Hpj.out, HnW2, HcW.out.kept (grownBy_setCell' _ _ _) (by simp), HbW.out.setCell (p := ⟨W6.heap.size, 0, none⟩) (Nat.le_refl _) _, HbXW.out.setCell (p := ⟨W6.heap.size, 0, none⟩) (Nat.le_refl _) _, HkW.out.trans (KeepsOthers.setCell _ _ _)⟩, ?_⟩
                    rw [numAt_eq HnW2, numAt_eq HnW.out]
                    omega
                  · have hKs := fun (a : Addr) (v : Value) => HkW.out.trans (KeepsOthers.setCell wr a v)
                    have he2 : s.toList.isEmpty = false := by simpa using he
                    by_cases hxi : xi = (j : Int)
                    · by_cases hxs : xs.toList = s.toList
                      · gi_wp2
                        all_goals (
                          have HnW2 := HnW.out.set (.int .i64 ((j : Int) + 1))
                          have e1 : ((j + 1 : Nat) : Int) = (j : Int) + 1 := by omega
                          have e2 : ((pre.length + 1 : Nat) : Int) = (pre.length : Int) + 1 := by omega
                          have hxx : xs = s := by
                            have h := beq_text xs s
                            rw [hxs] at h
                            simpa using h
                          have HcW2 := (HcW.out.kept (grownBy_setCell' wr W6.heap.size (.int .i64 ((j : Int) + 1))) (by simp)).set (.int .i64 ((pre.length : Int) + 1))
                          have hKO := (hKs ⟨W6.heap.size, 0, none⟩ (.int .i64 ((j : Int) + 1))).trans (KeepsOthers.setCell _ ⟨W6.heap.size + 1, 0, none⟩ (.int .i64 ((pre.length : Int) + 1)))
                          have hBV := (HbW.out.setCell (p := ⟨W6.heap.size, 0, none⟩) (Nat.le_refl _) (.int .i64 ((j : Int) + 1))).setCell (p := ⟨W6.heap.size + 1, 0, none⟩) (by simp) (.int .i64 ((pre.length : Int) + 1))
                          have hBX := (HbXW.out.setCell (p := ⟨W6.heap.size, 0, none⟩) (Nat.le_refl _) (.int .i64 ((j : Int) + 1))).setCell (p := ⟨W6.heap.size + 1, 0, none⟩) (by simp) (.int .i64 ((pre.length : Int) + 1))
                          have HnW3 := HnW2.kept (grownBy_setCell' _ (W6.heap.size + 1) (.int .i64 ((pre.length : Int) + 1))) (by simp)
                          have hpp : pre ++ [(xi, xs)] = nonE image (j + 1) := by rw [HNF.out he, hxi, hxx, ← Hpj.out])
                        · exact ⟨hKO, .inr ⟨trivial, rfl, hBV⟩⟩
                        exact ⟨hKO, hBX, ⟨j + 1, by omega, hpp, by rw [e1]; exact HnW3, by rw [List.length_append, List.length_singleton, e2]; exact HcW2⟩, hBV⟩
                      · have hxs2 : (xs.toList == s.toList) = false := by simpa using hxs
                        gi_wp2
                        exact ⟨hKs _ _, .inl ⟨rfl, by rw [Hpj.out]; exact HNO.out he _ fun e => hxs (congrArg (fun q => q.2.toList) e)⟩⟩
                    · gi_wp2
                      exact ⟨hKs _ _, .inl ⟨rfl, by rw [Hpj.out]; exact HNO.out he _ fun e => hxi (congrArg Prod.fst e)⟩⟩
                · obtain rfl : j = image.length := by omega
                  gi_wp2
                  exact ⟨HkW.out.trans (KeepsOthers.setCell _ _ _), .inl ⟨rfl, by rw [Hpj.out]; exact nonE_over image _⟩⟩
            case doney =>
              rintro D ys W' hD hS ⟨⟨k, hk, hpre, hnW, hcW⟩, hbW⟩ hK
              have HRW := Lib.hid (HRV6.out.below (hbW.mono hWn))
              have HRdW := Lib.hid (boxed_below HRdV6.out hbW HRd.out.lt)
              have HbW := Lib.hid hbW
              have HK := Lib.hid hK
              have xr := HRdW.out.cell
              clear hbW hnW hcW hK hnx HCT HbA hpre hk
              go_wp2_with fail
              refine wp_loop_rounds 1 ?_
              rw [rounds_succ]
              go_wp2_with fail
              have HRd1 : Hid (Boxed (W'.alloc (.cells #[.int .i64 1] 3)) W'.heap.size 3 (.int .i64 1)) := Lib.hid (Boxed.new _ _ _)
              have HR7 := Lib.hid (HRW.out.below ((Below.refl _ W').alloc HRW.out.hn (.cells #[.int .i64 1] 3)))
              have hDW : D < W'.heap.size := (Array.getElem?_eq_some_iff.1 HK.out).1
              have HK7 := Lib.hid ((Below.heap_alloc W' (.cells #[.int .i64 1] 3) D hDW).trans HK.out)
              have hDW7 : D < (W'.alloc (.cells #[.int .i64 1] 3)).heap.size := by simp; omega
              have hDlo : w.heap.size + 3 ≤ D := by have := HR6.out.h0; omega
              clear HK xr HRW HRdW hD hS
              generalize (W'.alloc (.cells #[.int .i64 1] 3)) = W7 at *
              generalize W'.heap.size = n1 at *
              clear HRV6 HRdV6 HRd HR6 hsz hWn HbW
              rw [rounds_succ]
              have xr := HRd1.out.cell
              go_wp2_with fail
              clear xr
              have hnx := Lib.hid ((Boxed.new W7 (3) (.int .i64 0)).alloc (.cells #[.int .i64 0] 3))
              have hct := Boxed.new (W7.alloc (.cells #[.int .i64 0] 3)) (3) (.int .i64 0)
              rw [World.size_alloc] at hct
              have HCT := Lib.hid hct
              clear hct
              have HbA : Hid (Below W7.heap.size W7 ((W7.alloc (.cells #[.int .i64 0] 3)).alloc (.cells #[.int .i64 0] 3))) := Lib.hid (((Below.refl _ _).alloc (Nat.le_refl _) _).alloc (by simp) _)
              have hsz : ((W7.alloc (.cells #[.int .i64 0] 3)).alloc (.cells #[.int .i64 0] 3)).heap.size = W7.heap.size + 2 := by simp
              have hWn := HR7.out.hn
              generalize ((W7.alloc (.cells #[.int .i64 0] 3)).alloc (.cells #[.int .i64 0] 3)) = V7 at *
              have HRV7 := Lib.hid (HR7.out.below (HbA.out.mono hWn))
              have HKV := Lib.hid ((HbA.out.block D hDW7).trans HK7.out)
              have HRdV7 := Lib.hid (boxed_below HRd1.out HbA.out HRd1.out.lt)
              refine (wpIn_wide (n := 3)).1 ?_
              refine wpIn_rangeFunc_ownF rfl (by decide) (gf := 51) (lb := #[.pointer (some ⟨Bn, 0, none⟩)]) rfl trivial (enters_of Try.func51 (by kernel_rfl) rfl)
                (each_stops Fence.wide 2 trivial rfl (by decide) Bn W7.heap.size ve image V7 (Nat.lt_of_lt_of_le HRV7.out.hB hWn) HRV7.out.box.cell HRV7.out.row (fun k hk => Nat.lt_of_lt_of_le (HRV7.out.low k hk) hWn) (by omega) (by omega)) belowK_t (belowK_b (by omega)) (Below.refl _ _) (fun _ => rfl)
                (Between image W7.heap.size W7.heap.size (W7.heap.size + 1) V7) (Leaves False image W7.heap.size V7) (between_own image (by omega) (by omega)) (leaves_own _ image (by omega) (by omega)) ⟨⟨0, Nat.zero_le _, rfl, hnx.out, HCT.out⟩, Below.refl _ _⟩ ?a1ya ?assignya ?bodyya ?doneya ?stopya
              case assignya =>
                intro l x X K hK
                gi_wp2
                exact hK
              case bodyya =>
                rintro l pre ⟨xi, xs⟩ X ⟨⟨k, hk, hpre, hnX, hcX⟩, hbX⟩ hlen
                have HnX := Lib.hid hnX
                have HcX := Lib.hid hcX
                have HbX := Lib.hid hbX
                have Hpre := Lib.hid hpre
                clear hnX hcX hbX hpre hnx HCT HbA
                gi_wp2
                gi_loopw [] (fun wr => Skips image W7.heap.size W7.heap.size W7.heap.size (W7.heap.size + 1) pre V7 X wr) (fun wr => image.length - numAt wr W7.heap.size)
                case atStart => exact ⟨k, hk, Hpre.out, HnX.out, HcX.out, HbX.out, Below.refl _ _, KeepsOthers.refl _⟩
                case round =>
                  obtain ⟨j, hj, hpj, hnW, hcW, hbW, hbXW, hkW⟩ := hrel
                  have HRW := Lib.hid (HRV7.out.below (hbW.mono hWn))
                  have HRdW := Lib.hid (boxed_below HRdV7.out hbW HRd1.out.lt)
                  have HkW := Lib.hid hkW
                  have HbW := Lib.hid hbW
                  have HbXW := Lib.hid hbXW
                  have HnW := Lib.hid hnW
                  have HcW := Lib.hid hcW
                  have Hpj := Lib.hid hpj
                  have xim := HRW.out.st.img.cell
                  have xn := hnW.cell
                  have fn := hnW.frozen
                  have xc := hcW.cell
                  have fc := hcW.frozen
                  have xr := HRdW.out.cell
                  have xst := HRW.out.st.num.cell
                  have xan := HRW.out.st.ans.cell
                  have fan := HRW.out.st.ans.frozen
                  have hlow := HRW.out.h0
                  have hrl := HRd1.out.lt
                  clear hkW hbW hbXW hnW hcW hpj HnX HcX HbX Hpre
                  by_cases hlt : j < image.length
                  · have xk := (HRW.out.st.bel.cell (p := ⟨ib, io + j, none⟩) hib).trans (Q1.out j _ (strs_at image j hlt))
                    have HNE := Lib.hid fun h => nonE_empty image (k := j) hlt h
                    have HNF := Lib.hid fun h => nonE_full image (k := j) hlt h
                    have HNO := Lib.hid fun h => nonE_other image (k := j) hlt h
                    generalize image[j] = s at *
                    by_cases he : s.toList = []
                    · gi_wp2
                      have HnW2 := HnW.out.set (.int .i64 ((j : Int) + 1))
                      have e1 : ((j + 1 : Nat) : Int) = (j : Int) + 1 := by omega
                      rw [← e1] at HnW2 ⊢
                      refine ⟨⟨j + 1, by omega, by rw [HNE.out he]; exact Hpj.out, HnW2, HcW.out.kept (grownBy_setCell' _ _ _) (by simp), HbW.out.setCell (p := ⟨W7.heap.size, 0, none⟩) (Nat.le_refl _) _, HbXW.out.setCell (p := ⟨W7.heap.size, 0, none⟩) (Nat.le_refl _) _, HkW.out.trans (KeepsOthers.setCell _ _ _)⟩, ?_⟩
                      rw [numAt_eq HnW2, numAt_eq HnW.out]
                      omega
                    · have hKs := fun (a : Addr) (v : Value) => HkW.out.trans (KeepsOthers.setCell wr a v)
                      have he2 : s.toList.isEmpty = false := by simpa using he
                      by_cases hxi : xi = (j : Int)
                      · by_cases hxs : xs.toList = s.toList
                        · gi_wp2
                          all_goals (
                            have HnW2 := HnW.out.set (.int .i64 ((j : Int) + 1))
                            have e1 : ((j + 1 : Nat) : Int) = (j : Int) + 1 := by omega
                            have e2 : ((pre.length + 1 : Nat) : Int) = (pre.length : Int) + 1 := by omega
                            have hxx : xs = s := by
                              have h := beq_text xs s
                              rw [hxs] at h
                              simpa using h
                            have HcW2 := (HcW.out.kept (grownBy_setCell' wr W7.heap.size (.int .i64 ((j : Int) + 1))) (by simp)).set (.int .i64 ((pre.length : Int) + 1))
                            have hKO := (hKs ⟨W7.heap.size, 0, none⟩ (.int .i64 ((j : Int) + 1))).trans (KeepsOthers.setCell _ ⟨W7.heap.size + 1, 0, none⟩ (.int .i64 ((pre.length : Int) + 1)))
                            have hBV := (HbW.out.setCell (p := ⟨W7.heap.size, 0, none⟩) (Nat.le_refl _) (.int .i64 ((j : Int) + 1))).setCell (p := ⟨W7.heap.size + 1, 0, none⟩) (by simp) (.int .i64 ((pre.length : Int) + 1))
                            have hBX := (HbXW.out.setCell (p := ⟨W7.heap.size, 0, none⟩) (Nat.le_refl _) (.int .i64 ((j : Int) + 1))).setCell (p := ⟨W7.heap.size + 1, 0, none⟩) (by simp) (.int .i64 ((pre.length : Int) + 1))
                            have HnW3 := HnW2.kept (grownBy_setCell' _ (W7.heap.size + 1) (.int .i64 ((pre.length : Int) + 1))) (by simp)
                            have hpp : pre ++ [(xi, xs)] = nonE image (j + 1) := by rw [HNF.out he, hxi, hxx, ← Hpj.out])
                          exact ⟨hKO, hBX, ⟨j + 1, by omega, hpp, by rw [e1]; exact HnW3, by rw [List.length_append, List.length_singleton, e2]; exact HcW2⟩, hBV⟩
                        · have hxs2 : (xs.toList == s.toList) = false := by simpa using hxs
                          gi_wp2
                          exact ⟨hKs _ _, .inl ⟨rfl, by rw [Hpj.out]; exact HNO.out he _ fun e => hxs (congrArg (fun q => q.2.toList) e)⟩⟩
                      · gi_wp2
                        exact ⟨hKs _ _, .inl ⟨rfl, by rw [Hpj.out]; exact HNO.out he _ fun e => hxi (congrArg Prod.fst e)⟩⟩
                  · obtain rfl : j = image.length := by omega
                    gi_wp2
                    exact ⟨HkW.out.trans (KeepsOthers.setCell _ _ _), .inl ⟨rfl, by rw [Hpj.out]; exact nonE_over image _⟩⟩
              case doneya =>
                rintro D2 ys W' hD hS ⟨⟨k, hk, hpre, hnW, hcW⟩, hbW⟩ hK
                have HbW := Lib.hid hbW
                have HnW := Lib.hid hnW
                have HK := Lib.hid hK
                have Hpre := Lib.hid (hpre.symm.trans hS)
                have hneD : D2 ≠ W7.heap.size := by omega
                have hDD : W7.heap.size < D2 := by omega
                clear hbW hnW hcW hK hnx HCT HbA hpre
                go_wp2_with fail
                go_loopw [] (fun wr => ∃ j : Nat, j ≤ image.length ∧ nonE image j = nonE image image.length ∧ Boxed wr W7.heap.size 3 (.int .i64 (j : Int)) ∧ Below W7.heap.size V7 wr ∧ wr.heap[D2]? = some (.deferred (some []))) (fun wr => image.length - numAt wr W7.heap.size)
                case atStart => exact ⟨k, hk, Hpre.out, HnW.out, HbW.out, HK.out⟩
                case round =>
                  obtain ⟨j, hj, hnj, hnW, hbW, hKW⟩ := hrel
                  have HRW := Lib.hid (HRV7.out.below (hbW.mono hWn))
                  have HRdW := Lib.hid (boxed_below HRdV7.out hbW HRd1.out.lt)
                  have Hnj := Lib.hid hnj
                  have HbW2 := Lib.hid hbW
                  have HnW2 := Lib.hid hnW
                  have HKW := Lib.hid hKW
                  have xn := hnW.cell
                  have fn := hnW.frozen
                  have xr := HRdW.out.cell
                  have xim := HRW.out.st.img.cell
                  have hrl := HRd1.out.lt
                  clear hbW hKW hnW hnj HnW HbW HK Hpre
                  by_cases hlt : j < image.length
                  · have xk := (HRW.out.st.bel.cell (p := ⟨ib, io + j, none⟩) hib).trans (Q1.out j _ (strs_at image j hlt))
                    have he := nonE_rest image hlt Hnj.out
                    have HNE := Lib.hid (nonE_empty image (k := j) hlt he)
                    generalize image[j] = s at *
                    have he2 : s.toList.isEmpty = true := by simp [he]
                    go_wp2_with fail
                    have HnW3 := HnW2.out.set (.int .i64 ((j : Int) + 1))
                    have e1 : ((j + 1 : Nat) : Int) = (j : Int) + 1 := by omega
                    rw [← e1] at HnW3 ⊢
                    exact ⟨⟨j + 1, by omega, by rw [HNE.out]; exact Hnj.out, HnW3, HbW2.out.setCell (p := ⟨W7.heap.size, 0, none⟩) (Nat.le_refl _) _, (Below.heap_setCell _ _ _ _ hneD).trans HKW.out⟩, by rw [numAt_eq HnW3, numAt_eq HnW2.out]; omega⟩
                  · obtain rfl : j = image.length := by omega
                    go_wp2_with fail
                    have hD2 : D2 < wr.heap.size := (Array.getElem?_eq_some_iff.1 HKW.out).1
                    have hDr : D < wr.heap.size := by have := HbW2.out.size; omega
                    have HKa := Lib.hid ((Below.heap_alloc wr (.cells #[.int .i64 2] 3) D2 hD2).trans HKW.out)
                    have HKb := Lib.hid ((Below.heap_alloc wr (.cells #[.int .i64 2] 3) D hDr).trans ((HbW2.out.block D (by omega)).trans HKV.out))
                    have HSf := Lib.hid (HRW.out.below ((Below.refl _ wr).alloc HRW.out.hn (.cells #[.int .i64 2] 3))).st
                    have xr2 := (Boxed.new wr 3 (.int .i64 2)).cell
                    have hszf : (wr.alloc (.cells #[.int .i64 2] 3)).heap.size = wr.heap.size + 1 := by simp
                    clear xr xn fn xim HKW HnW2 HRW HRdW
                    generalize (wr.alloc (.cells #[.int .i64 2] 3)) = Wf at *
                    rw [rounds_succ]
                    go_wp2_with fail
                    refine (live_any _).mono ?_
                    rintro e wL ⟨rfl, hbL⟩
                    have HSL := Lib.hid (HSf.out.next hbL)
                    have xL := HSL.out.ans.cell
                    have fL := HSL.out.ans.frozen
                    have HKaL := Lib.hid ((hbL.block D2 (by omega)).trans HKa.out)
                    have HKbL := Lib.hid ((hbL.block D (by omega)).trans HKb.out)
                    clear hbL xr2
                    go_wp2_with fail
                    have hn2 : D2 ≠ w.heap.size + 1 + 1 := by omega
                    have hn1 : D ≠ w.heap.size + 1 + 1 := by omega
                    have hK2 : (wL.setCell ⟨w.heap.size + 1 + 1, 0, none⟩ (.bool true)).heap[D2]? = some (.deferred (some [])) := (Below.heap_setCell _ _ _ _ hn2).trans HKaL.out
                    have hK1 : (wL.setCell ⟨w.heap.size + 1 + 1, 0, none⟩ (.bool true)).heap[D]? = some (.deferred (some [])) := (Below.heap_setCell _ _ _ _ hn1).trans HKbL.out
                    have hK1' : ((wL.setCell ⟨w.heap.size + 1 + 1, 0, none⟩ (.bool true)).putObj D2 (.deferred none)).heap[D]? = some (.deferred (some [])) := ((grownBy_putObj' _ D2 (.deferred none)).block D ((Array.getElem?_eq_some_iff.1 hK1).1) (fun e => by cases e; omega)).trans hK1
                    refine ⟨by simp, .inl ⟨_, _, rfl, run_takeDeferred hK2, ?_⟩⟩
                    refine ⟨by simp, .inl ⟨_, _, rfl, run_takeDeferred hK1', ?_⟩⟩
                    have hc := (HSL.out.ans.set (.bool true)).cell
                    have hc1 := cell_kept hc (grownBy_putObj' _ D2 (.deferred none)) (fun r e => by cases e; exact ⟨_, hK2, rfl⟩)
                    have hc2 := cell_kept hc1 (grownBy_putObj' _ D (.deferred none)) (fun r e => by cases e; exact ⟨_, hK1', rfl⟩)
                    refine ⟨.bool true, ?_, rfl, ?_⟩
                    · simp [results, Try.f8, go_sem, hc2]
                    · have hbS := HSL.out.bel.setCell (p := ⟨w.heap.size + 1 + 1, 0, none⟩) (by simp; omega) (.bool true)
                      have hbT := hbS.grown (grownBy_putObj' _ D2 (.deferred none)) hbS.size (fun k e => by cases e; omega)
                      exact hbT.grown (grownBy_putObj' _ D (.deferred none)) hbT.size (fun k e => by cases e; omega)
              case stopya =>
                rintro D2 c ys W' hD hS (⟨rfl, hno⟩ | ⟨h, _⟩) hK
                · exact absurd hS hno
                · exact h.elim
            case stopy =>
              rintro D c ys W' hD hS (⟨rfl, hno⟩ | ⟨_, rfl, hbW⟩) hK
              · exact absurd hS hno
              · have HRW := Lib.hid (HRV6.out.below (hbW.mono hWn))
                have HRdW := Lib.hid (boxed_below HRdV6.out hbW HRd.out.lt)
                have HbW := Lib.hid hbW
                have HK := Lib.hid hK
                have xr := HRdW.out.cell
                clear hbW hK hnx HCT HbA
                gi_wp2
                go_wp2_with fail
                refine wp_loop_rounds 1 ?_
                rw [rounds_succ]
                go_wp2_with fail
                have HRd1 : Hid (Boxed (W'.alloc (.cells #[.int .i64 1] 3)) W'.heap.size 3 (.int .i64 1)) := Lib.hid (Boxed.new _ _ _)
                have HR7 := Lib.hid (HRW.out.below ((Below.refl _ W').alloc HRW.out.hn (.cells #[.int .i64 1] 3)))
                have hDW : D < W'.heap.size := (Array.getElem?_eq_some_iff.1 HK.out).1
                have HK7 := Lib.hid ((Below.heap_alloc W' (.cells #[.int .i64 1] 3) D hDW).trans HK.out)
                have hDW7 : D < (W'.alloc (.cells #[.int .i64 1] 3)).heap.size := by simp; omega
                have hDlo : w.heap.size + 3 ≤ D := by have := HR6.out.h0; omega
                clear HK xr HRW HRdW hD hS
                generalize (W'.alloc (.cells #[.int .i64 1] 3)) = W7 at *
                generalize W'.heap.size = n1 at *
                clear HRV6 HRdV6 HRd HR6 hsz hWn HbW
                rw [rounds_succ]
                have xr := HRd1.out.cell
                go_wp2_with fail
                clear xr
                have hnx := Lib.hid ((Boxed.new W7 (3) (.int .i64 0)).alloc (.cells #[.int .i64 0] 3))
                have hct := Boxed.new (W7.alloc (.cells #[.int .i64 0] 3)) (3) (.int .i64 0)
                rw [World.size_alloc] at hct
                have HCT := Lib.hid hct
                clear hct
                have HbA : Hid (Below W7.heap.size W7 ((W7.alloc (.cells #[.int .i64 0] 3)).alloc (.cells #[.int .i64 0] 3))) := Lib.hid (((Below.refl _ _).alloc (Nat.le_refl _) _).alloc (by simp) _)
                have hsz : ((W7.alloc (.cells #[.int .i64 0] 3)).alloc (.cells #[.int .i64 0] 3)).heap.size = W7.heap.size + 2 := by simp
                have hWn := HR7.out.hn
                generalize ((W7.alloc (.cells #[.int .i64 0] 3)).alloc (.cells #[.int .i64 0] 3)) = V7 at *
                have HRV7 := Lib.hid (HR7.out.below (HbA.out.mono hWn))
                have HKV := Lib.hid ((HbA.out.block D hDW7).trans HK7.out)
                have HRdV7 := Lib.hid (boxed_below HRd1.out HbA.out HRd1.out.lt)
                refine (wpIn_wide (n := 3)).1 ?_
                refine wpIn_rangeFunc_ownF rfl (by decide) (gf := 51) (lb := #[.pointer (some ⟨Bn, 0, none⟩)]) rfl trivial (enters_of Try.func51 (by kernel_rfl) rfl)
                  (each_stops Fence.wide 2 trivial rfl (by decide) Bn W7.heap.size ve image V7 (Nat.lt_of_lt_of_le HRV7.out.hB hWn) HRV7.out.box.cell HRV7.out.row (fun k hk => Nat.lt_of_lt_of_le (HRV7.out.low k hk) hWn) (by omega) (by omega)) belowK_t (belowK_b (by omega)) (Below.refl _ _) (fun _ => rfl)
                  (Between image W7.heap.size W7.heap.size (W7.heap.size + 1) V7) (Leaves False image W7.heap.size V7) (between_own image (by omega) (by omega)) (leaves_own _ image (by omega) (by omega)) ⟨⟨0, Nat.zero_le _, rfl, hnx.out, HCT.out⟩, Below.refl _ _⟩ ?a1yb ?assignyb ?bodyyb ?doneyb ?stopyb
                case assignyb =>
                  intro l x X K hK
                  gi_wp2
                  exact hK
                case bodyyb =>
                  rintro l pre ⟨xi, xs⟩ X ⟨⟨k, hk, hpre, hnX, hcX⟩, hbX⟩ hlen
                  have HnX := Lib.hid hnX
                  have HcX := Lib.hid hcX
                  have HbX := Lib.hid hbX
                  have Hpre := Lib.hid hpre
                  clear hnX hcX hbX hpre hnx HCT HbA
                  gi_wp2
                  gi_loopw [] (fun wr => Skips image W7.heap.size W7.heap.size W7.heap.size (W7.heap.size + 1) pre V7 X wr) (fun wr => image.length - numAt wr W7.heap.size)
                  case atStart => exact ⟨k, hk, Hpre.out, HnX.out, HcX.out, HbX.out, Below.refl _ _, KeepsOthers.refl _⟩
                  case round =>
                    obtain ⟨j, hj, hpj, hnW, hcW, hbW, hbXW, hkW⟩ := hrel
                    have HRW := Lib.hid (HRV7.out.below (hbW.mono hWn))
                    have HRdW := Lib.hid (boxed_below HRdV7.out hbW HRd1.out.lt)
                    have HkW := Lib.hid hkW
                    have HbW := Lib.hid hbW
                    have HbXW := Lib.hid hbXW
                    have HnW := Lib.hid hnW
                    have HcW := Lib.hid hcW
                    have Hpj := Lib.hid hpj
                    have xim := HRW.out.st.img.cell
                    have xn := hnW.cell
                    have fn := hnW.frozen
                    have xc := hcW.cell
                    have fc := hcW.frozen
                    have xr := HRdW.out.cell
                    have xst := HRW.out.st.num.cell
                    have xan := HRW.out.st.ans.cell
                    have fan := HRW.out.st.ans.frozen
                    have hlow := HRW.out.h0
                    have hrl := HRd1.out.lt
                    clear hkW hbW hbXW hnW hcW hpj HnX HcX HbX Hpre
                    by_cases hlt : j < image.length
                    · have xk := (HRW.out.st.bel.cell (p := ⟨ib, io + j, none⟩) hib).trans (Q1.out j _ (strs_at image j hlt))
                      have HNE := Lib.hid fun h => nonE_empty image (k := j) hlt h
                      have HNF := Lib.hid fun h => nonE_full image (k := j) hlt h
                      have HNO := Lib.hid fun h => nonE_other image (k := j) hlt h
                      generalize image[j] = s at *
                      by_cases he : s.toList = []
                      · gi_wp2
                        have HnW2 := HnW.out.set (.int .i64 ((j : Int) + 1))
                        have e1 : ((j + 1 : Nat) : Int) = (j : Int) + 1 := by omega
                        rw [← e1] at HnW2 ⊢
                        refine ⟨⟨j + 1, by omega, by rw [HNE.out he]; exact Hpj.out, HnW2, HcW.out.kept (grownBy_setCell' _ _ _) (by simp), HbW.out.setCell (p := ⟨W7.heap.size, 0, none⟩) (Nat.le_refl _) _, HbXW.out.setCell (p := ⟨W7.heap.size, 0, none⟩) (Nat.le_refl _) _, HkW.out.trans (KeepsOthers.setCell _ _ _)⟩, ?_⟩
                        rw [numAt_eq HnW2, numAt_eq HnW.out]
                        omega
                      · have hKs := fun (a : Addr) (v : Value) => HkW.out.trans (KeepsOthers.setCell wr a v)
                        have he2 : s.toList.isEmpty = false := by simpa using he
                        by_cases hxi : xi = (j : Int)
                        · by_cases hxs : xs.toList = s.toList
                          · gi_wp2
                            all_goals (
                              have HnW2 := HnW.out.set (.int .i64 ((j : Int) + 1))
                              have e1 : ((j + 1 : Nat) : Int) = (j : Int) + 1 := by omega
                              have e2 : ((pre.length + 1 : Nat) : Int) = (pre.length : Int) + 1 := by omega
                              have hxx : xs = s := by
                                have h := beq_text xs s
                                rw [hxs] at h
                                simpa using h
                              have HcW2 := (HcW.out.kept (grownBy_setCell' wr W7.heap.size (.int .i64 ((j : Int) + 1))) (by simp)).set (.int .i64 ((pre.length : Int) + 1))
                              have hKO := (hKs ⟨W7.heap.size, 0, none⟩ (.int .i64 ((j : Int) + 1))).trans (KeepsOthers.setCell _ ⟨W7.heap.size + 1, 0, none⟩ (.int .i64 ((pre.length : Int) + 1)))
                              have hBV := (HbW.out.setCell (p := ⟨W7.heap.size, 0, none⟩) (Nat.le_refl _) (.int .i64 ((j : Int) + 1))).setCell (p := ⟨W7.heap.size + 1, 0, none⟩) (by simp) (.int .i64 ((pre.length : Int) + 1))
                              have hBX := (HbXW.out.setCell (p := ⟨W7.heap.size, 0, none⟩) (Nat.le_refl _) (.int .i64 ((j : Int) + 1))).setCell (p := ⟨W7.heap.size + 1, 0, none⟩) (by simp) (.int .i64 ((pre.length : Int) + 1))
                              have HnW3 := HnW2.kept (grownBy_setCell' _ (W7.heap.size + 1) (.int .i64 ((pre.length : Int) + 1))) (by simp)
                              have hpp : pre ++ [(xi, xs)] = nonE image (j + 1) := by rw [HNF.out he, hxi, hxx, ← Hpj.out])
                            exact ⟨hKO, hBX, ⟨j + 1, by omega, hpp, by rw [e1]; exact HnW3, by rw [List.length_append, List.length_singleton, e2]; exact HcW2⟩, hBV⟩
                          · have hxs2 : (xs.toList == s.toList) = false := by simpa using hxs
                            gi_wp2
                            exact ⟨hKs _ _, .inl ⟨rfl, by rw [Hpj.out]; exact HNO.out he _ fun e => hxs (congrArg (fun q => q.2.toList) e)⟩⟩
                        · gi_wp2
                          exact ⟨hKs _ _, .inl ⟨rfl, by rw [Hpj.out]; exact HNO.out he _ fun e => hxi (congrArg Prod.fst e)⟩⟩
                    · obtain rfl : j = image.length := by omega
                      gi_wp2
                      exact ⟨HkW.out.trans (KeepsOthers.setCell _ _ _), .inl ⟨rfl, by rw [Hpj.out]; exact nonE_over image _⟩⟩
                case doneyb =>
                  rintro D2 ys W' hD hS ⟨⟨k, hk, hpre, hnW, hcW⟩, hbW⟩ hK
                  have HbW := Lib.hid hbW
                  have HnW := Lib.hid hnW
                  have HK := Lib.hid hK
                  have Hpre := Lib.hid (hpre.symm.trans hS)
                  have hneD : D2 ≠ W7.heap.size := by omega
                  have hDD : W7.heap.size < D2 := by omega
                  clear hbW hnW hcW hK hnx HCT HbA hpre
                  go_wp2_with fail
                  go_loopw [] (fun wr => ∃ j : Nat, j ≤ image.length ∧ nonE image j = nonE image image.length ∧ Boxed wr W7.heap.size 3 (.int .i64 (j : Int)) ∧ Below W7.heap.size V7 wr ∧ wr.heap[D2]? = some (.deferred (some []))) (fun wr => image.length - numAt wr W7.heap.size)
                  case atStart => exact ⟨k, hk, Hpre.out, HnW.out, HbW.out, HK.out⟩
                  case round =>
                    obtain ⟨j, hj, hnj, hnW, hbW, hKW⟩ := hrel
                    have HRW := Lib.hid (HRV7.out.below (hbW.mono hWn))
                    have HRdW := Lib.hid (boxed_below HRdV7.out hbW HRd1.out.lt)
                    have Hnj := Lib.hid hnj
                    have HbW2 := Lib.hid hbW
                    have HnW2 := Lib.hid hnW
                    have HKW := Lib.hid hKW
                    have xn := hnW.cell
                    have fn := hnW.frozen
                    have xr := HRdW.out.cell
                    have xim := HRW.out.st.img.cell
                    have hrl := HRd1.out.lt
                    clear hbW hKW hnW hnj HnW HbW HK Hpre
                    by_cases hlt : j < image.length
                    · have xk := (HRW.out.st.bel.cell (p := ⟨ib, io + j, none⟩) hib).trans (Q1.out j _ (strs_at image j hlt))
                      have he := nonE_rest image hlt Hnj.out
                      have HNE := Lib.hid (nonE_empty image (k := j) hlt he)
                      generalize image[j] = s at *
                      have he2 : s.toList.isEmpty = true := by simp [he]
                      go_wp2_with fail
                      have HnW3 := HnW2.out.set (.int .i64 ((j : Int) + 1))
                      have e1 : ((j + 1 : Nat) : Int) = (j : Int) + 1 := by omega
                      rw [← e1] at HnW3 ⊢
                      exact ⟨⟨j + 1, by omega, by rw [HNE.out]; exact Hnj.out, HnW3, HbW2.out.setCell (p := ⟨W7.heap.size, 0, none⟩) (Nat.le_refl _) _, (Below.heap_setCell _ _ _ _ hneD).trans HKW.out⟩, by rw [numAt_eq HnW3, numAt_eq HnW2.out]; omega⟩
                    · obtain rfl : j = image.length := by omega
                      go_wp2_with fail
                      have hD2 : D2 < wr.heap.size := (Array.getElem?_eq_some_iff.1 HKW.out).1
                      have hDr : D < wr.heap.size := by have := HbW2.out.size; omega
                      have HKa := Lib.hid ((Below.heap_alloc wr (.cells #[.int .i64 2] 3) D2 hD2).trans HKW.out)
                      have HKb := Lib.hid ((Below.heap_alloc wr (.cells #[.int .i64 2] 3) D hDr).trans ((HbW2.out.block D (by omega)).trans HKV.out))
                      have HSf := Lib.hid (HRW.out.below ((Below.refl _ wr).alloc HRW.out.hn (.cells #[.int .i64 2] 3))).st
                      have xr2 := (Boxed.new wr 3 (.int .i64 2)).cell
                      have hszf : (wr.alloc (.cells #[.int .i64 2] 3)).heap.size = wr.heap.size + 1 := by simp
                      clear xr xn fn xim HKW HnW2 HRW HRdW
                      generalize (wr.alloc (.cells #[.int .i64 2] 3)) = Wf at *
                      rw [rounds_succ]
                      go_wp2_with fail
                      refine (live_any _).mono ?_
                      rintro e wL ⟨rfl, hbL⟩
                      have HSL := Lib.hid (HSf.out.next hbL)
                      have xL := HSL.out.ans.cell
                      have fL := HSL.out.ans.frozen
                      have HKaL := Lib.hid ((hbL.block D2 (by omega)).trans HKa.out)
                      have HKbL := Lib.hid ((hbL.block D (by omega)).trans HKb.out)
                      clear hbL xr2
                      go_wp2_with fail
                      have hn2 : D2 ≠ w.heap.size + 1 + 1 := by omega
                      have hn1 : D ≠ w.heap.size + 1 + 1 := by omega
                      have hK2 : (wL.setCell ⟨w.heap.size + 1 + 1, 0, none⟩ (.bool true)).heap[D2]? = some (.deferred (some [])) := (Below.heap_setCell _ _ _ _ hn2).trans HKaL.out
                      have hK1 : (wL.setCell ⟨w.heap.size + 1 + 1, 0, none⟩ (.bool true)).heap[D]? = some (.deferred (some [])) := (Below.heap_setCell _ _ _ _ hn1).trans HKbL.out
                      have hK1' : ((wL.setCell ⟨w.heap.size + 1 + 1, 0, none⟩ (.bool true)).putObj D2 (.deferred none)).heap[D]? = some (.deferred (some [])) := ((grownBy_putObj' _ D2 (.deferred none)).block D ((Array.getElem?_eq_some_iff.1 hK1).1) (fun e => by cases e; omega)).trans hK1
                      refine ⟨by simp, .inl ⟨_, _, rfl, run_takeDeferred hK2, ?_⟩⟩
                      refine ⟨by simp, .inl ⟨_, _, rfl, run_takeDeferred hK1', ?_⟩⟩
                      have hc := (HSL.out.ans.set (.bool true)).cell
                      have hc1 := cell_kept hc (grownBy_putObj' _ D2 (.deferred none)) (fun r e => by cases e; exact ⟨_, hK2, rfl⟩)
                      have hc2 := cell_kept hc1 (grownBy_putObj' _ D (.deferred none)) (fun r e => by cases e; exact ⟨_, hK1', rfl⟩)
                      refine ⟨.bool true, ?_, rfl, ?_⟩
                      · simp [results, Try.f8, go_sem, hc2]
                      · have hbS := HSL.out.bel.setCell (p := ⟨w.heap.size + 1 + 1, 0, none⟩) (by simp; omega) (.bool true)
                        have hbT := hbS.grown (grownBy_putObj' _ D2 (.deferred none)) hbS.size (fun k e => by cases e; omega)
                        exact hbT.grown (grownBy_putObj' _ D (.deferred none)) hbT.size (fun k e => by cases e; omega)
                case stopyb =>
                  rintro D2 c ys W' hD hS (⟨rfl, hno⟩ | ⟨h, _⟩) hK
                  · exact absurd hS hno
                  · exact h.elim
        · clear HC HC2 HBel
          go_wp2_with fail
          refine (live_any _).mono ?_
          rintro e wL ⟨rfl, hbL⟩
          have HSL := Lib.hid (HSt2.out.next hbL)
          have xL := HSL.out.ans.cell
          have fL := HSL.out.ans.frozen
          clear hbL
          go_wp2_with fail
          refine ⟨.bool true, ?_, rfl, HSL.out.bel.setCell (p := ⟨w.heap.size + 1 + 1, 0, none⟩) (by simp; omega) _⟩
          have hcL := (HSL.out.ans.set (.bool true)).cell
          simp [results, Try.f8, go_sem, hcL]
      · clear HC HC2 HBel
        go_wp2_with fail
        refine (live_any _).mono ?_
        rintro e wL ⟨rfl, hbL⟩
        have HSL := Lib.hid (HSt2.out.next hbL)
        have xL := HSL.out.ans.cell
        have fL := HSL.out.ans.frozen
        clear hbL
        go_wp2_with fail
        refine ⟨.bool true, ?_, rfl, HSL.out.bel.setCell (p := ⟨w.heap.size + 1 + 1, 0, none⟩) (by simp; omega) _⟩
        have hcL := (HSL.out.ans.set (.bool true)).cell
        simp [results, Try.f8, go_sem, hcL]

set_option maxRecDepth 100000 in
/-- What the walk gives, for every argument. -/
theorem each_contract (H : Type) (enc : TypeId × Value → H) (W : World) (base : Nat) (args : Array Value) (ds gs : List (DataW H)) (before : List MemPlace)
    (hval0 : ∀ (j : Nat) t v, Try.f8.params[j]? = some t → args[j]? = some v → Value.okWide Try.prog W .any base t v)
    (hW : DataW.Whole enc Try.prog Try.f8.params.toList Rows.diskEachSpec.vars false W args.toList ds gs before) :
    Calls Try.prog 8 args W fun e W' => ∃ v, e = .returned v ∧ Rows.diskEachSpec.post enc Try.prog Try.f8 false true false false W args v W' := by
  have hval : ∀ (j : Nat) t v, Try.f8.params[j]? = some t → args[j]? = some v → Value.okWide Try.prog W .any base t v := hval0
  have hW' := hW
  obtain ⟨p, q, hA0, hV, rfl, hfz, hnd⟩ := hW
  have hA : DataW.TrodAll enc Try.prog W 0 (fun _ => true) true Try.f8.params.toList args.toList ds p := hA0
  rw [Try.params8] at hA hval
  obtain ⟨v0, vs0, d0, ds0, p0, q0, hargs0, rfl, rfl, h0, r0⟩ := trodAll_cons hA
  obtain ⟨v1, vs1, d1, ds1, p1, q1, hargs1, rfl, rfl, h1, r1⟩ := trodAll_cons r0
  obtain ⟨v2, vs2, d2, ds2, p2, q2, hargs2, rfl, rfl, h2, r2⟩ := trodAll_cons r1
  obtain ⟨rfl, rfl, rfl⟩ := trodAll_nil r2
  subst hargs1
  subst hargs2
  obtain rfl : args = #[v0, v1, v2] := by cases args; simp_all
  obtain ⟨rfl, rfl⟩ := trodVars_none hV
  have hv0 := hval 0 22 v0 rfl rfl
  have hc0 : Cell.okWide Try.prog W .any base 22 v0 := by simpa only [Value.okWide, Try.underlying22] using hv0
  obtain ⟨a0, c0, n0, e0⟩ := okWide_slice Try.underlying22 hv0
  obtain ⟨fuel0, hf0⟩ := id h0
  rw [show v0.cells.toList = [v0] by rw [e0]; rfl] at hf0
  obtain ⟨l0, rl0, hs0⟩ := open_strs hc0 hf0
  have hv1 := hval 1 22 v1 rfl rfl
  have hc1 : Cell.okWide Try.prog W .any base 22 v1 := by simpa only [Value.okWide, Try.underlying22] using hv1
  obtain ⟨a1, c1, n1, e1⟩ := okWide_slice Try.underlying22 hv1
  obtain ⟨fuel1, hf1⟩ := id h1
  rw [show v1.cells.toList = [v1] by rw [e1]; rfl] at hf1
  obtain ⟨l1, rl1, hs1⟩ := open_strs hc1 hf1
  obtain ⟨a2, rfl, rfl, rfl, w2⟩ := open_int Try.underlying3 (hval 2 3 v2 rfl rfl) h2
  clear hA0 hval0
  simp only [List.append_nil] at hW'
  refine (callsIn_wide.1 (each_in a2 rl0 rl1 rl0.small rl1.small hs0 hs1)).mono fun e W' ⟨he, bel⟩ => ?_
  subst he
  exact ⟨_, rfl, _, _, _, [], _, [], hW', trodAll_mk1 (shut_bool Try.underlying4 _), (trodAll_cons_mk (Below.trod laidOut (by kernel_rfl) (of_decide_eq_true (by kernel_rfl)) h0 bel (places_lt h0)) (trodAll_cons_mk (Below.trod laidOut (by kernel_rfl) (of_decide_eq_true (by kernel_rfl)) h1 bel (places_lt h1)) (trodAll_cons_mk (shut_int Try.underlying3 w2) trodAll_mk0))), rfl, bel.frame _, fun h => by cases h⟩

set_option maxRecDepth 100000 in
theorem each_lifted (os : Os) (started : os.Started) (H : Type) (enc : TypeId × Value → H) :
    ReturnsInHanded {} Try.checked os 8 .any (Rows.diskEachSpec.pre6 enc Try.prog Try.f8 Rows.diskEachRow.domain false) (Rows.diskEachSpec.post enc Try.prog Try.f8 false true false false) := by
  refine returnsInHanded_of_change (C := Try.checked) own started (by kernel_rfl) Try.func8
    (ChangeSpec.witness6 (enc := enc) (C := Try.checked) false ⟨#[], #[.slice none 0 0, .slice none 0 0, .int .i64 0], []⟩ 8 (by kernel_rfl) (by kernel_rfl) (by kernel_rfl) (by kernel_rfl)) ?_
  intro W base args ds gs before hval hW _ _
  exact each_contract H enc W base args ds gs before hval hW

/-- The statement. -/
theorem each_holds : Rows.DiskEachSaid :=
  OpenClaim.holds_of_wide 8 Try.f8 rfl rfl rfl rfl rfl rfl rfl ⟨rfl, rfl, rfl, rfl, rfl⟩ rfl rfl rfl rfl rfl (by kernel_rfl) Try.func8 (by kernel_rfl)
    (of_decide_eq_true (by kernel_rfl)) (by unfold Func.isWrapper; first | (rw [if_pos (by decide +kernel)]; kernel_rfl) | (rw [if_neg (by decide +kernel)]; exact ⟨rfl, rfl⟩))
    (fun os started H enc _ => each_lifted os started H enc)

set_option maxRecDepth 100000 in
theorem each_upto_lifted (os : Os) (started : os.Started) (H : Type) (enc : TypeId × Value → H) (F : Stop.Interp) :
    ReturnsInHanded {} Try.checked os 8 .any ((Rows.OpenSpec.upto Rows.diskEachSpec).pre6 enc Try.prog Try.f8 Rows.diskEachUptoRow.domain false) (((Rows.OpenSpec.upto Rows.diskEachSpec).at F).post enc Try.prog Try.f8 false true false false) := by
  refine returnsInHanded_of_cond (C := Try.checked) (s := Rows.OpenSpec.upto Rows.diskEachSpec) (k := Rows.uptoSmall) rfl own started (by kernel_rfl) Try.func8
    (OpenSpec.witness (enc := enc) (C := Try.checked) (s := Rows.OpenSpec.upto Rows.diskEachSpec) (k := Rows.uptoSmall) rfl false ⟨#[], #[.slice none 0 0, .slice none 0 0, .int .i64 0], []⟩ 8 (by kernel_rfl) (by kernel_rfl) (by kernel_rfl)
      (x := ([.nil, .nil, .lit (.int .i64 0)], [], [])) (by kernel_rfl) rfl (by kernel_rfl)) ?_
  intro W base args ds gs before hval hW _ hk _
  exact each_contract H enc W base args ds gs before hval hW

/-- The statement, second form. -/
theorem each_upto_holds : Rows.DiskEachUptoSaid :=
  OpenClaim.holds_of_cond 8 Try.f8 rfl rfl rfl rfl rfl rfl rfl ⟨rfl, rfl, rfl, rfl, rfl⟩ rfl rfl rfl rfl rfl (by kernel_rfl) Try.func8 (by kernel_rfl)
    (of_decide_eq_true (by kernel_rfl)) (by unfold Func.isWrapper; first | (rw [if_pos (by decide +kernel)]; kernel_rfl) | (rw [if_neg (by decide +kernel)]; exact ⟨rfl, rfl⟩))
    (fun os started H enc _ F => each_upto_lifted os started H enc F)

#print axioms each_holds
#print axioms each_upto_holds

end Go.Proofs.Ythamjlhkiabcnaa
