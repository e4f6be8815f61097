/-
  tells: does a map tell what a list does, of a key and a number?
-/
import Derived.Test.YtafghmhhmpfefaaKBoth
import Derived.Test.YtafghmhhmpfefaaKBal
namespace Go.Proofs.Ytafghmhhmpfefaa
open Go.RowKit
set_option linter.unusedVariables false

theorem dbelow {w w' : World} (h : Drew w w') : Below w.heap.size w w' := by
  obtain ⟨n, rfl⟩ := h
  exact bdn _ _

theorem bits_le (n : Nat) : bits n ≤ n := by
  induction n using Nat.strongRecOn with
  | _ n ih =>
    by_cases hn : n = 0
    · subst hn; exact Nat.le_refl _
    · have h1 := ih (n / 2) (by omega)
      have h2 := bits_step n (by omega)
      omega

set_option maxRecDepth 100000 in
set_option maxHeartbeats 12800000 in
theorem tells_any {w : World} {p : Option Addr} {t : Tr ByteArray Int} {v : Value} {k : ByteArray} {i : Int} (h : IsTS w (.pointer p) t) (hr : Row w 2 v t.toL.length (ents t.toL)) (hs : t.size < 1000) (ho : Srt t.toL) (hb : Tr.Bal t)
    (hi : -9223372036854775808 ≤ i ∧ i ≤ 9223372036854775807) :
    Calls Try.prog 20 #[.agg #[.pointer p], v, .string k, .int .i64 i] w fun e w' => e = .returned (.bool true) ∧ Below w.heap.size w w' := by
  have hsl : t.toL.length < 1000 := by rw [Tr.size_toL]; exact hs
  have hlen : t.toL.length = t.size := Tr.size_toL t
  have hh := Tr.bal_height t hb
  have bA : Below w.heap.size w (w.alloc (.cells #[.pointer p] MapS)) := (Below.refl _ _).alloc (Nat.le_refl _) _
  have z0 : (w.alloc (.cells #[.pointer p] MapS)).cell? ⟨w.heap.size, 0, none⟩ = some (.pointer p) := cellB (heap_alloc_new _ _) rfl
  obtain ⟨aa, ca, rfl⟩ := hr.shape
  have HT0 := Lib.hid (h.below bA)
  have HR0 := Lib.hid (hr.below bA)
  have HI := Lib.hid hi
  have HO := Lib.hid ho
  have HS : Hid (t.size < 1000000) := Lib.hid (by omega)
  have HL5 : Hid (t.toL.length < 1000) := Lib.hid hsl
  have HL : Hid (t.toL.length < 1000000) := Lib.hid (by omega)
  have HN := Lib.hid hlen
  have HH := Lib.hid hh
  have HB0 := Lib.hid bA
  clear h hr hs ho hb hi hsl hlen hh bA
  go_enter Try.func20, Try.ntmps20
  go_wp2_with fail
  generalize (w.alloc (.cells #[.pointer p] MapS)) = W0 at *
  refine (mget_any k HT0.out HO.out).mono ?_
  rintro e W1 ⟨rfl, u1⟩
  have z1 := bcellAt u1 z0
  have HT1 := Lib.hid (HT0.out.below u1)
  have HR1 := Lib.hid (HR0.out.below u1)
  have HB1 := Lib.hid (HB0.out.trans (u1.mono HB0.out.size))
  clear u1 HT0 HR0 HB0 z0
  go_wp2_with fail
  refine (rget_any k HR1.out HL.out HO.out).mono ?_
  rintro e W2 ⟨rfl, u1⟩
  have z2 := bcellAt u1 z1
  have HT2 := Lib.hid (HT1.out.below u1)
  have HR2 := Lib.hid (HR1.out.below u1)
  have HB2 := Lib.hid (HB1.out.trans (u1.mono HB1.out.size))
  clear u1 HT1 HR1 HB1 z1
  go_wp2_with fail
  generalize gv t.toL k = g at *
  refine (mat_any i HT2.out HS.out HI.out).mono ?_
  rintro e W3 ⟨rfl, u1⟩
  have z3 := bcellAt u1 z2
  have HT3 := Lib.hid (HT2.out.below u1)
  have HR3 := Lib.hid (HR2.out.below u1)
  have HB3 := Lib.hid (HB2.out.trans (u1.mono HB2.out.size))
  clear u1 HT2 HR2 HB2 z2
  go_wp2_with fail
  refine (rat_any i HR3.out HL.out).mono ?_
  rintro e U4 ⟨rfl, u0⟩
  have u1 : Below W3.heap.size W3 (U4.alloc (.cells #[.string (entV (atI t.toL i)).1, .int .i64 (entV (atI t.toL i)).2] 48)) := bmore u0 ((Below.refl _ _).alloc (Nat.le_refl _) _)
  have x0 : (U4.alloc (.cells #[.string (entV (atI t.toL i)).1, .int .i64 (entV (atI t.toL i)).2] 48)).cell? ⟨U4.heap.size, 0, none⟩ = some (.string (entV (atI t.toL i)).1) := cellB (heap_alloc_new _ _) rfl
  have y0 : (U4.alloc (.cells #[.string (entV (atI t.toL i)).1, .int .i64 (entV (atI t.toL i)).2] 48)).cell? ⟨U4.heap.size, 1, none⟩ = some (.int .i64 (entV (atI t.toL i)).2) := cellB (heap_alloc_new _ _) rfl
  have z4 := bcellAt u1 z3
  have HT4 := Lib.hid (HT3.out.below u1)
  have HR4 := Lib.hid (HR3.out.below u1)
  have HB4 := Lib.hid (HB3.out.trans (u1.mono HB3.out.size))
  clear u0 u1 HT3 HR3 HB3 z3
  go_wp2_with fail
  generalize (U4.alloc (.cells #[.string (entV (atI t.toL i)).1, .int .i64 (entV (atI t.toL i)).2] 48)) = W4 at *
  generalize U4.heap.size = A4 at *
  generalize entV (atI t.toL i) = ea at *
  generalize (atI t.toL i).isSome = sa at *
  refine (mfloor_any k HT4.out HS.out HO.out).mono ?_
  rintro e W5 ⟨rfl, u1⟩
  have z5 := bcellAt u1 z4
  have HT5 := Lib.hid (HT4.out.below u1)
  have HR5 := Lib.hid (HR4.out.below u1)
  have HB5 := Lib.hid (HB4.out.trans (u1.mono HB4.out.size))
  replace x0 := bcellAt u1 x0
  replace y0 := bcellAt u1 y0
  clear u1 HT4 HR4 HB4 z4
  go_wp2_with fail
  refine (rfloor_any k HR5.out HL.out HO.out).mono ?_
  rintro e U6 ⟨rfl, u0⟩
  have u1 : Below W5.heap.size W5 (U6.alloc (.cells #[.string ((fv t.toL k).1).1, .int .i64 ((fv t.toL k).1).2] 48)) := bmore u0 ((Below.refl _ _).alloc (Nat.le_refl _) _)
  have x1 : (U6.alloc (.cells #[.string ((fv t.toL k).1).1, .int .i64 ((fv t.toL k).1).2] 48)).cell? ⟨U6.heap.size, 0, none⟩ = some (.string ((fv t.toL k).1).1) := cellB (heap_alloc_new _ _) rfl
  have y1 : (U6.alloc (.cells #[.string ((fv t.toL k).1).1, .int .i64 ((fv t.toL k).1).2] 48)).cell? ⟨U6.heap.size, 1, none⟩ = some (.int .i64 ((fv t.toL k).1).2) := cellB (heap_alloc_new _ _) rfl
  have z6 := bcellAt u1 z5
  have HT6 := Lib.hid (HT5.out.below u1)
  have HR6 := Lib.hid (HR5.out.below u1)
  have HB6 := Lib.hid (HB5.out.trans (u1.mono HB5.out.size))
  replace x0 := bcellAt u1 x0
  replace y0 := bcellAt u1 y0
  clear u0 u1 HT5 HR5 HB5 z5
  go_wp2_with fail
  generalize (U6.alloc (.cells #[.string ((fv t.toL k).1).1, .int .i64 ((fv t.toL k).1).2] 48)) = W6 at *
  generalize U6.heap.size = A6 at *
  generalize (fv t.toL k).1 = ef at *
  generalize (fv t.toL k).2 = sf at *
  refine (mceil_any k HT6.out HS.out HO.out).mono ?_
  rintro e W7 ⟨rfl, u1⟩
  have z7 := bcellAt u1 z6
  have HT7 := Lib.hid (HT6.out.below u1)
  have HR7 := Lib.hid (HR6.out.below u1)
  have HB7 := Lib.hid (HB6.out.trans (u1.mono HB6.out.size))
  replace x0 := bcellAt u1 x0
  replace y0 := bcellAt u1 y0
  replace x1 := bcellAt u1 x1
  replace y1 := bcellAt u1 y1
  clear u1 HT6 HR6 HB6 z6
  go_wp2_with fail
  refine (rceil k HR7.out HL.out).mono ?_
  rintro e U8 ⟨rfl, u0⟩
  have u1 : Below W7.heap.size W7 (U8.alloc (.cells #[.string (entV (atI t.toL (rk t.toL k))).1, .int .i64 (entV (atI t.toL (rk t.toL k))).2] 48)) := bmore u0 ((Below.refl _ _).alloc (Nat.le_refl _) _)
  have x2 : (U8.alloc (.cells #[.string (entV (atI t.toL (rk t.toL k))).1, .int .i64 (entV (atI t.toL (rk t.toL k))).2] 48)).cell? ⟨U8.heap.size, 0, none⟩ = some (.string (entV (atI t.toL (rk t.toL k))).1) := cellB (heap_alloc_new _ _) rfl
  have y2 : (U8.alloc (.cells #[.string (entV (atI t.toL (rk t.toL k))).1, .int .i64 (entV (atI t.toL (rk t.toL k))).2] 48)).cell? ⟨U8.heap.size, 1, none⟩ = some (.int .i64 (entV (atI t.toL (rk t.toL k))).2) := cellB (heap_alloc_new _ _) rfl
  have z8 := bcellAt u1 z7
  have HT8 := Lib.hid (HT7.out.below u1)
  have HR8 := Lib.hid (HR7.out.below u1)
  have HB8 := Lib.hid (HB7.out.trans (u1.mono HB7.out.size))
  replace x0 := bcellAt u1 x0
  replace y0 := bcellAt u1 y0
  replace x1 := bcellAt u1 x1
  replace y1 := bcellAt u1 y1
  clear u0 u1 HT7 HR7 HB7 z7
  go_wp2_with fail
  generalize (U8.alloc (.cells #[.string (entV (atI t.toL (rk t.toL k))).1, .int .i64 (entV (atI t.toL (rk t.toL k))).2] 48)) = W8 at *
  generalize U8.heap.size = A8 at *
  generalize entV (atI t.toL (rk t.toL k)) = ec at *
  generalize (atI t.toL (rk t.toL k)).isSome = sc at *
  have s1 := beq_self_list ea.1
  have s2 := beq_self_list ef.1
  have s3 := beq_self_list ec.1
  have hn : ((t.size : Int) == (t.toL.length : Int)) = true := by have := HN.out; simp; omega
  refine (mlenS HT8.out).mono ?_
  rintro e W9 ⟨rfl, u1⟩
  have z9 := bcellAt u1 z8
  have HT9 := Lib.hid (HT8.out.below u1)
  have HR9 := Lib.hid (HR8.out.below u1)
  have HB9 := Lib.hid (HB8.out.trans (u1.mono HB8.out.size))
  replace x0 := bcellAt u1 x0
  replace y0 := bcellAt u1 y0
  replace x1 := bcellAt u1 x1
  replace y1 := bcellAt u1 y1
  replace x2 := bcellAt u1 x2
  replace y2 := bcellAt u1 y2
  clear u1 HT8 HR8 HB8 z8
  go_wp2_with fail
  clear x0 y0 x1 y1 x2 y2 s1 s2 s3 hn
  refine (mrank_any k HT9.out HS.out HO.out).mono ?_
  rintro e W10 ⟨rfl, u1⟩
  have z10 := bcellAt u1 z9
  have HT10 := Lib.hid (HT9.out.below u1)
  have HR10 := Lib.hid (HR9.out.below u1)
  have HB10 := Lib.hid (HB9.out.trans (u1.mono HB9.out.size))
  clear u1 HT9 HR9 HB9 z9
  go_wp2_with fail
  refine (rrank k HR10.out HL.out).mono ?_
  rintro e U10 ⟨rfl, rfl⟩
  go_wp2_with fail
  refine (mdepth HT10.out).mono ?_
  rintro e W11 ⟨rfl, u1⟩
  have z11 := bcellAt u1 z10
  have HT11 := Lib.hid (HT10.out.below u1)
  have HR11 := Lib.hid (HR10.out.below u1)
  have HB11 := Lib.hid (HB10.out.trans (u1.mono HB10.out.size))
  clear u1 HT10 HR10 HB10 z10
  go_wp2_with fail
  refine (rbits _ _ HL.out).mono ?_
  rintro e U11 ⟨rfl, rfl⟩
  have hbl := bits_le t.toL.length
  have hll := HL.out
  have hd : decide ((t.height : Int) ≤ 2 * (bits t.toL.length : Int) + 2) = true := by
    have h1 := HH.out
    have h2 := HN.out
    rw [h2]
    simp
    omega
  have hd' : (t.height : Int) ≤ 2 * (bits t.toL.length : Int) + 2 := by simpa using hd
  have hB0 : (0 : Int) ≤ (bits t.toL.length : Int) := by omega
  have hB1 : (bits t.toL.length : Int) < 1000000 := by omega
  have hD0 : (0 : Int) ≤ (t.height : Int) := by omega
  generalize (bits t.toL.length : Int) = B at *
  generalize (t.height : Int) = D at *
  have hw1 : wrap64 (2 * B) = 2 * B := by unfold wrap64; omega
  have hw2 : wrap64 (2 * B + 2) = 2 * B + 2 := by unfold wrap64; omega
  clear hd
  go_wp2_with fail
  clear hd' hbl hll hB0 hB1 hD0 hw1 hw2
  have hs5 : t.size < 100000 := by have := HN.out; have := HL5.out; omega
  refine (callsIn_wide.1 (entries_in HT11.out hs5)).mono ?_
  rintro e W12 ⟨ve, rfl, o12, u1⟩
  have HW := Lib.hid (row_of_own o12)
  obtain ⟨ae, ce, rfl⟩ := (row_of_own o12).shape
  have HR12 := Lib.hid (HR11.out.below u1)
  have HB12 := Lib.hid (HB11.out.trans (u1.mono HB11.out.size))
  clear u1 o12 HT11 HR11 HB11 z11
  go_wp2_with fail
  refine (same_ents HW.out HR12.out HL.out).mono ?_
  rintro e W13 ⟨rfl, dd⟩
  have HD := Lib.hid dd
  clear dd
  go_wp2_with fail
  go_returns
  exact ⟨rfl, HB12.out.trans ((dbelow HD.out).mono HB12.out.size)⟩
end Go.Proofs.Ytafghmhhmpfefaa
