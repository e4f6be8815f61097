/-
  The law's own 'live': a number, a text, a frame, a wrong one.
-/
import Derived.Test.YthaflimgigppaaaOpen
import Derived.Lib.SlBytesConst
namespace Go.Proofs.Ythaflimgigppaaa
open Go.RowKit

theorem bthen {w w1 w2 : World} (h : Below w.heap.size w w1) (k : Below w1.heap.size w1 w2) : Below w.heap.size w w2 := h.trans (k.mono h.size)
theorem bgrown {w w1 w2 : World} {a : Nat} (h : Below w.heap.size w w1) (k : w1.grownBy w2 (some a)) (ha : w.heap.size ≤ a) : Below w.heap.size w w2 :=
  h.grown k h.size fun j hj => by simp at hj; omega

theorem rd_lit (w : World) (l : List UInt8) (cs : Array Value) (hc : cs = (cellsOf l).toArray) (n : Nat) (hn : n = l.length) (hl : l.length ≤ 1000) (fz : Nat × Nat := (0, 0)) :
    Rd w.heap.size (w.alloc (.cells cs 5 fz)) (.slice (some ⟨w.heap.size, 0, none⟩) n n) l := by
  subst hc; subst hn
  refine .inr ⟨w.heap.size, 0, l.length, rfl, Nat.le_refl _, by simp, Nat.le_refl _, by unfold maxLen; omega, fun i hi => ?_⟩
  rw [Nat.zero_add, World.cell?, heap_alloc_new w _]
  simp [cellsOf, hi, List.getD_eq_getElem?_getD]

set_option maxRecDepth 20000 in
set_option maxHeartbeats 1600000 in
theorem live_any (w : World) :
    Calls Try.prog 4 #[] w fun e w' => e = .returned (.bool true) ∧ Below w.heap.size w w' := by
  have kc := fun (w : World) (C : Array Value) (n c : Nat) => Lib.run_convert_bytes_const (P := Try.prog) w 24 5 C n c Try.underlying24 Try.underlying5
  go_enter Try.func4, Try.ntmps4
  go_wp2_with fail
  have hb0 : Below w.heap.size w (w.alloc (.cells #[.int .u8 172, .int .u8 2, .int .u8 1, .int .u8 97] 5)) := (Below.refl _ _).alloc (Nat.le_refl _) _
  refine (new_any (rd_lit w [172, 2, 1, 97] _ rfl 4 rfl (by decide)).zero (by decide)).mono ?_
  rintro e w1 ⟨a, rfl, ha, ⟨v, hr⟩, hb⟩
  have hb1 := bthen hb0 hb
  have ha' : w.heap.size ≤ a := Nat.le_trans hb0.size ha
  clear hb0 hb ha
  go_wp2_with fail
  refine (Num_ok hr (n := 300) (len := 2) (by decide +kernel)).mono ?_
  rintro e w2 ⟨rfl, hg, hr2⟩
  have hb2 := bgrown hb1 hg ha'
  clear hb1 hg hr
  go_wp2_with fail
  refine (Text_ok hr2 (most := 4) (by decide) (l := [97]) (len := 2) (by decide +kernel)).mono ?_
  rintro e w3 ⟨rfl, hg, hr3⟩
  have hb3 := bgrown hb2 hg ha'
  clear hb2 hg hr2
  rw [show strOf [97] = ⟨#[97]⟩ from rfl]
  go_wp2_with fail
  refine (done_ok hr3 (by decide)).mono ?_
  rintro e w4 ⟨rfl, m, rfl⟩
  have hb4 := below_drewN hb3 m
  clear hb3 hr3
  generalize w3.drewN m = w4 at *
  go_wp2_with fail
  refine (lawnum_any 0 w4).mono ?_
  rintro e w5 ⟨rfl, rfl⟩
  go_wp2_with fail
  have hbA := (Below.refl w4.heap.size w4).alloc (Nat.le_refl _) (.cells #[.int .u8 97] 5 (1, 2))
  refine (seal_any (rd_lit w4 [97] _ rfl 1 rfl (by decide) (1, 2)).zero (by decide)).mono ?_
  rintro e w5 ⟨v5, rfl, hown5, hb⟩
  have hb5 := bthen hb4 (bthen hbA hb)
  clear hb4 hbA hb
  go_wp2_with fail
  refine (open_any hown5.rd.zero (by decide)).mono ?_
  rw [show openS (frameOf [97]) = .inr ([97], 6) by decide +kernel]
  rintro e w6 ⟨hb, v6, rfl, hown6⟩
  have hb6 := bthen hb5 hb
  clear hb5 hb hown5
  go_wp2_with fail
  have hbA := (Below.refl w6.heap.size w6).alloc (Nat.le_refl _) (.cells #[.int .u8 1, .int .u8 97, .int .u8 0, .int .u8 0, .int .u8 0, .int .u8 0] 5)
  refine (open_any (rd_lit w6 [1, 97, 0, 0, 0, 0] _ rfl 6 rfl (by decide)).zero (by decide)).mono ?_
  rw [show openS [1, 97, 0, 0, 0, 0] = .inl 12 by decide +kernel]
  rintro e w7 ⟨hb, rfl⟩
  have hb7 := bthen hb6 (bthen hbA hb)
  have hrd7 := hown6.rd.keep (bthen hbA hb)
  clear hb6 hbA hb hown6
  go_wp2_with fail
  have hcv : (convert 24 9 v6).run Try.prog w7 = .ok (.string ⟨#[97]⟩) w7 := rd_string hrd7
  clear hrd7 kc
  refine (lawnum_any 0 w7).mono ?_
  rintro e w8 ⟨rfl, rfl⟩
  go_wp2_with fail
  refine (lawnum_any 0 w7).mono ?_
  rintro e w8 ⟨rfl, rfl⟩
  go_wp2_with fail
  refine (lawnum_any 12 w7).mono ?_
  rintro e w8 ⟨rfl, rfl⟩
  go_wp2_with fail
  refine (putNum_any [] 300 _ w7 (Rd.nils _ _) (by decide) (Lib.hid (by decide))).mono ?_
  rw [show [] ++ enc 300 = [172, 2] by decide +kernel]
  rintro e w8 ⟨v8, rfl, hown8, hb⟩
  have hb8 := bthen hb7 hb
  have hcv8 : (convert 24 9 v8).run Try.prog w8 = .ok (.string ⟨#[172, 2]⟩) w8 := rd_string hown8.rd
  clear hb7 hb hcv hown8
  go_wp2_with fail
  go_ret
  exact ⟨rfl, hb8⟩

end Go.Proofs.Ythaflimgigppaaa
