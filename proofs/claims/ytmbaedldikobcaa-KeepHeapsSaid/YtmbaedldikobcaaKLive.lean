/-
  The law's live: the program answers at all.
-/
import Derived.Test.YtmbaedldikobcaaKList
import Derived.Test.YtmbaedldikobcaaKQueue
import Derived.Test.YtmbaedldikobcaaKDS
import Derived.Test.YtmbaedldikobcaaKIntern
namespace Go.Proofs.Ytmbaedldikobcaa
open Go.RowKit Go.Shelf
set_option linter.unusedVariables false

theorem own : ownKnob Try.prog.godebug = none := by kernel_rfl
theorem laidOut : laidOutB Try.prog = true := by kernel_rfl

abbrev sA : ByteArray := ⟨#[97]⟩
abbrev sB : ByteArray := ⟨#[98]⟩
abbrev sC : ByteArray := ⟨#[99]⟩
abbrev sX : ByteArray := ⟨#[120]⟩
abbrev sY : ByteArray := ⟨#[121]⟩
theorem ltS (a b : ByteArray) : KOrd.lt a b = Op.bytesLess a.data.toList b.data.toList := by
  show Op.bytesLess a.toList b.toList = _
  rw [ByteArray.toList_eq, ByteArray.toList_eq]
theorem lt_ab : KOrd.lt sA sB = true := by rw [ltS]; rfl
theorem lt_ba : KOrd.lt sB sA = false := by rw [ltS]; rfl
theorem lt_bb : KOrd.lt sB sB = false := KOrd.irr _
theorem lt_ac : KOrd.lt sA sC = true := by rw [ltS]; rfl
theorem lt_bc : KOrd.lt sB sC = true := by rw [ltS]; rfl

abbrev lt1 : Tr ByteArray Int := .node .nil sB 1 .nil
abbrev lt2 : Tr ByteArray Int := .node (.node .nil sA 2 .nil) sB 1 .nil
abbrev lt3 : Tr ByteArray Int := .node (.node .nil sA 2 .nil) sB 3 .nil
theorem live1 : Tr.put (.nil : Tr ByteArray Int) sB 1 = lt1 := rfl
theorem live2 : Tr.put lt1 sA 2 = lt2 := by
  rw [Tr.put, if_pos lt_ab]
  rfl
theorem live3 : Tr.put lt2 sB 3 = lt3 := by
  rw [Tr.put, if_neg (by rw [lt_bb]; simp), if_neg (by rw [lt_bb]; simp)]
theorem live_at : Tr.nth lt3 0 = .node .nil sA 2 .nil := by rfl
theorem live_rank : Tr.rank lt3 sC = 2 := by
  simp [Tr.rank, lt_bc, Tr.size]
theorem live_ceil : Tr.nth lt3 ((Tr.rank lt3 sC : Nat) : Int) = .nil := by
  rw [live_rank]; rfl
theorem live_set : (setOf [3, 1, 3]).toL.map Prod.fst = [1, 3] := by rfl
theorem live_size : (setOf [3, 1, 3]).size = 2 := by rfl

theorem news_of {w : World} {cs : List Value} {T : TypeId} {b : Nat} (h : w.heap[b]? = some (Obj.cells cs.toArray T)) : ∀ j u, cs[j]? = some u → w.cell? ⟨b, 0 + j, none⟩ = some u := by
  intro j u hu
  rw [Nat.zero_add]
  exact cellB h (by simpa using hu)

set_option maxRecDepth 100000 in
set_option maxHeartbeats 6400000 in
theorem live_any (w : World) : Calls Try.prog 15 #[] w fun e w' => e = .returned (.bool true) ∧ Below w.heap.size w w' := by
  have hz : (w.alloc (.cells #[.pointer none] 31)).heap[w.heap.size]? = some (Obj.cells #[.pointer none] 31) := heap_alloc_new w _
  have b0 : Below w.heap.size w (w.alloc (.cells #[.pointer none] 31)) := (Below.refl _ _).alloc (Nat.le_refl _) _
  have HZ := Lib.hid hz
  have HB := Lib.hid b0
  clear hz b0
  go_enter Try.func15, Try.ntmps15
  go_wp2_with fail
  generalize (w.alloc (.cells #[.pointer none] 31)) = W at *
  refine (mputS (p := none) (t := .nil) sB 1 rfl (by simp [Tr.size])).mono ?_
  rintro e w1 ⟨q1, rfl, t1, u1⟩
  rw [live1] at t1
  have HT1 := Lib.hid t1
  have HU1 := Lib.hid u1
  clear t1 u1
  go_wp2_with fail
  refine (mputS sA 2 HT1.out (by simp [Tr.size])).mono ?_
  rintro e w2 ⟨q2, rfl, t2, u2⟩
  rw [live2] at t2
  have HT2 := Lib.hid t2
  have HU2 := Lib.hid (bmore HU1.out u2)
  clear t2 u2 HT1
  go_wp2_with fail
  refine (mputS sB 3 HT2.out (by simp [Tr.size])).mono ?_
  rintro e w3 ⟨q3, rfl, t3, u3⟩
  rw [live3] at t3
  have HT3 := Lib.hid t3
  have HU3 := Lib.hid (bmore HU2.out u3)
  have h3 := Hold.below (T := 31) HU3.out _ _ HZ.out
  have x3 : w3.cell? ⟨w.heap.size, 0, none⟩ = some (.pointer none) := cellB h3 rfl
  have f3 : w3.frozen? ⟨w.heap.size, 0, none⟩ = false := frozenB h3
  have HT3' := Lib.hid (HT3.out.hold (Hold.setCell (o := 0) (v := .pointer q3) h3 (by decide)))
  have HZ3 := Lib.hid (setCellB (j := 0) (u := .pointer q3) h3)
  have HB3 := Lib.hid ((HB.out.trans (HU3.out.mono HB.out.size)).setCell (p := ⟨w.heap.size, 0, none⟩) (Nat.le_refl _) (.pointer q3))
  clear t3 u3 HT2 HU1 HU2 h3 HT3 HU3 HB HZ
  go_wp2_with fail
  generalize (w3.setCell ⟨w.heap.size, 0, none⟩ (.pointer q3)) = W3 at *
  have y3 : W3.cell? ⟨w.heap.size, 0, none⟩ = some (.pointer q3) := cellB HZ3.out rfl
  have ha := matS 0 HT3'.out (by simp [Tr.size]) (by omega)
  rw [live_at] at ha
  simp only [toldVS] at ha
  refine ha.mono ?_
  rintro e w4 ⟨rfl, u4⟩
  have HU4 := Lib.hid u4
  have y4 := bcellAt u4 y3
  clear u4 ha y3
  go_wp2_with fail
  have hc := mceil_at sC (HT3'.out.below HU4.out) (by simp [Tr.size])
  rw [live_ceil] at hc
  simp only [toldVS] at hc
  refine hc.mono ?_
  rintro e w5 ⟨rfl, u5⟩
  have HU5 := Lib.hid (bmore HU4.out u5)
  clear u5 hc y4 HU4
  have HB5 := Lib.hid (HB3.out.trans (HU5.out.mono HB3.out.size))
  have HT5 := Lib.hid (HT3'.out.below HU5.out)
  have HZ5 := Lib.hid (Hold.below (T := 31) HU5.out _ _ HZ3.out)
  clear HU5 HB3 HT3' HZ3
  have hq0 : (w5.alloc (.cells #[.pointer none, .int .i64 0] QueT)).cell? ⟨w5.heap.size, 0, none⟩ = some (.pointer none) := cellB (heap_alloc_new w5 _) rfl
  go_wp2_with fail
  have HB6 := Lib.hid (HB5.out.trans (((Below.refl w5.heap.size w5).alloc (Nat.le_refl _) (.cells #[.pointer none, .int .i64 0] QueT)).mono HB5.out.size))
  have bq : Below w5.heap.size w5 (w5.alloc (.cells #[.pointer none, .int .i64 0] QueT)) := (Below.refl _ _).alloc (Nat.le_refl _) _
  have HT6 := Lib.hid (HT5.out.below bq)
  have HZ6 := Lib.hid (Hold.below (T := 31) bq _ _ HZ5.out)
  clear HB5 HT5 HZ5 bq hq0
  generalize (w5.alloc (.cells #[.pointer none, .int .i64 0] QueT)) = W6 at *
  have hw6 : Hid (w.heap.size ≤ W6.heap.size) := Lib.hid HB6.out.size
  refine (qpush (n := 0) (l := []) 7 ⟨none, .nil, rfl, rfl, rfl⟩ (by simp) (by omega)).mono ?_
  rintro e w7 ⟨v7, rfl, k7, u7⟩
  have HU7 := Lib.hid u7
  have HK7 := Lib.hid k7
  obtain ⟨p7, t7, rfl, _, _⟩ := k7
  clear u7
  go_wp2_with fail
  refine (qpush 8 HK7.out (by simp) (by omega)).mono ?_
  rintro e w8 ⟨v8, rfl, k8, u8⟩
  have HU8 := Lib.hid (bmore HU7.out u8)
  have HK8 := Lib.hid k8
  obtain ⟨p8, t8, rfl, _, _⟩ := k8
  clear u8 HK7 HU7
  go_wp2_with fail
  refine (qpop_yes (a := 7) (l := [8]) HK8.out (by simp)).mono ?_
  rintro e w9 ⟨p9, rfl, k9, u9⟩
  have HU9 := Lib.hid (bmore HU8.out u9)
  have HK9 := Lib.hid k9
  clear u9 k9 HK8 HU8
  have HB9 := Lib.hid (HB6.out.trans (HU9.out.mono HB6.out.size))
  have HT9 := Lib.hid (HT6.out.below HU9.out)
  have HZ9 := Lib.hid (Hold.below (T := 31) HU9.out _ _ HZ6.out)
  clear HU9 HB6 HT6 HZ6 hw6
  go_wp2_with fail
  have b10 : Below w9.heap.size w9 (w9.alloc (.cells #[.pointer p9, .int .i64 2] QueT)) := (Below.refl _ _).alloc (Nat.le_refl _) _
  have HR10 := Lib.hid (show (w9.alloc (.cells #[.pointer p9, .int .i64 2] QueT)).heap[w9.heap.size]? = some (Obj.cells #[.pointer p9, .int .i64 2] QueT) from heap_alloc_new w9 _)
  have HT10 := Lib.hid (HT9.out.below b10)
  have HK10 := Lib.hid (HK9.out.below b10)
  have HZ10 := Lib.hid (Hold.below (T := 31) b10 _ _ HZ9.out)
  have HB10 := Lib.hid (HB9.out.trans (b10.mono HB9.out.size))
  clear b10 HB9 HT9 HZ9 HK9
  generalize (w9.alloc (.cells #[.pointer p9, .int .i64 2] QueT)) = W10 at *
  refine (newIntern W10).mono ?_
  rintro e w11 ⟨rfl, i11, u11⟩
  have HI11 := Lib.hid i11
  have HU11 := Lib.hid u11
  clear i11 u11
  go_wp2_with fail
  refine (of_new HI11.out (s := sX) (by decide) (by simp) (by simp)).mono ?_
  rintro e w12 ⟨rfl, u12, _, v12, i12, _⟩
  have HI12 := Lib.hid i12
  have HU12 := Lib.hid (HU11.out.trans u12)
  clear i12 u12 HI11 HU11
  go_wp2_with fail
  refine (of_new HI12.out (s := sY) (by decide) (by simp) (by simp)).mono ?_
  rintro e w13 ⟨rfl, u13, _, v13, i13, _⟩
  have HI13 := Lib.hid i13
  have HU13 := Lib.hid (HU12.out.trans u13)
  clear i13 u13 HI12 HU12
  go_wp2_with fail
  refine (of_old HI13.out (s := sX) (by decide) (i := 0) rfl).mono ?_
  rintro e w14 ⟨rfl, u14, _⟩
  have u14' := HU13.out.trans u14
  have y14 : w14.cell? ⟨w.heap.size, 0, none⟩ = some (.pointer q3) := bcellAt u14' (cellB HZ10.out rfl)
  have r0 : w14.cell? ⟨w9.heap.size, 0, none⟩ = some (.pointer p9) := bcellAt u14' (cellB HR10.out rfl)
  have r1 : w14.cell? ⟨w9.heap.size, 1, none⟩ = some (.int .i64 2) := bcellAt u14' (cellB HR10.out rfl)
  have HT14 := Lib.hid (HT10.out.below u14')
  have HK14 := Lib.hid (HK10.out.below u14')
  have HB14 := Lib.hid (HB10.out.trans (u14'.mono HB10.out.size))
  clear u14 u14' HI13 HU13 HT10 HK10 HZ10 HR10 HB10
  have ha1 : (sA.toList == sA.toList) = true := by simp
  go_wp2_with fail
  refine (mlenS HT14.out).mono ?_
  rintro e w15 ⟨rfl, u15⟩
  have r0' := bcellAt u15 r0
  have r1' := bcellAt u15 r1
  have HU15 := Lib.hid u15
  clear u15 r0 r1 y14
  have hsz : ((Tr.size lt3 : Nat) : Int) = 2 := by simp [Tr.size]
  rw [hsz]
  clear hsz
  go_wp2_with fail
  refine (qlen (HK14.out.below HU15.out)).mono ?_
  rintro e w16 ⟨rfl, u16⟩
  have HB16 := Lib.hid (HB14.out.trans ((bmore HU15.out u16).mono HB14.out.size))
  clear u16 HB14 HT14 HK14 HU15 r0' r1'
  have hsz : (([8] : List Int).length : Int) = 1 := rfl
  rw [hsz]
  clear hsz
  go_wp2_with fail
  have b17 : Below w16.heap.size w16 (w16.alloc (.cells #[.int .i64 3, .int .i64 1, .int .i64 3] 3)) := (Below.refl _ _).alloc (Nat.le_refl _) _
  have h17 : (w16.alloc (.cells #[.int .i64 3, .int .i64 1, .int .i64 3] 3)).heap[w16.heap.size]? = some (Obj.cells #[.int .i64 3, .int .i64 1, .int .i64 3] 3) := heap_alloc_new _ _
  have hrow : Row (w16.alloc (.cells #[.int .i64 3, .int .i64 1, .int .i64 3] 3)) 1 (.slice (some ⟨w16.heap.size, 0, none⟩) 3 3) ([3, 1, 3] : List Int).length (ints [3, 1, 3]) :=
    ⟨rfl, .inr ⟨_, _, _, rfl, by simp, by simp, by unfold maxLen; omega, news_of h17⟩⟩
  have HB17 := Lib.hid (HB16.out.trans (b17.mono HB16.out.size))
  have HR17 := Lib.hid hrow
  clear b17 h17 hrow HB16
  generalize (w16.alloc (.cells #[.int .i64 3, .int .i64 1, .int .i64 3] 3)) = W17 at *
  refine (setof_any (l := [3, 1, 3]) HR17.out (by simp)).mono ?_
  rintro e w18 ⟨p18, rfl, t18, u18⟩
  have HT18 := Lib.hid t18
  have HB18 := Lib.hid (HB17.out.trans (u18.mono HB17.out.size))
  clear t18 u18 HB17 HR17
  go_wp2_with fail
  refine (callsIn_wide.1 (slist HT18.out (by rw [live_size]; omega))).mono ?_
  rintro e w19 ⟨v19, rfl, o19, u19⟩
  rw [live_set, Tr.size_toL, live_size] at o19
  have HO19 := Lib.hid o19
  have HB19 := Lib.hid (HB18.out.trans (u19.mono HB18.out.size))
  obtain ⟨a19, c19, rfl⟩ := (row_of_own o19).shape
  clear o19 u19 HT18 HB18
  go_wp2_with fail
  have b20 : Below w19.heap.size w19 (w19.alloc (.cells #[.int .i64 1, .int .i64 3] 3)) := (Below.refl _ _).alloc (Nat.le_refl _) _
  have h20 : (w19.alloc (.cells #[.int .i64 1, .int .i64 3] 3)).heap[w19.heap.size]? = some (Obj.cells #[.int .i64 1, .int .i64 3] 3) := heap_alloc_new _ _
  have hrow : Row (w19.alloc (.cells #[.int .i64 1, .int .i64 3] 3)) 1 (.slice (some ⟨w19.heap.size, 0, none⟩) 2 2) ([1, 3] : List Int).length (ints [1, 3]) :=
    ⟨rfl, .inr ⟨_, _, _, rfl, by simp, by simp, by unfold maxLen; omega, news_of h20⟩⟩
  have HB20 := Lib.hid (HB19.out.trans (b20.mono HB19.out.size))
  have HR20 := Lib.hid hrow
  have HO20 := Lib.hid ((row_of_own HO19.out).below b20)
  clear b20 h20 hrow HB19 HO19
  generalize (w19.alloc (.cells #[.int .i64 1, .int .i64 3] 3)) = W20 at *
  refine (ints_same (l := [1, 3]) HO20.out HR20.out (by simp)).mono ?_
  rintro e w21 ⟨rfl, d21⟩
  have HB21 := Lib.hid (HB20.out.trans (d21.below.mono HB20.out.size))
  clear d21 HB20
  go_wp2_with fail
  go_returns
  exact ⟨rfl, HB21.out⟩

end Go.Proofs.Ytmbaedldikobcaa
