/-
  The walk of KeepRanks.
-/
import Derived.Test.YtmfppknciojfdaaKRanksP
import Derived.Test.YtmfppknciojfdaaKNumP
namespace Go.Proofs.Ytmfppknciojfdaa
open Go.RowKit
set_option linter.unusedVariables false

theorem ranks_long {w : World} {v : Value} {l : List Ent} {k : ByteArray} (h : Row w 2 v l.length (ents l)) (hm : l.length ≤ maxLen) (hl : 80 < l.length) :
    Calls Try.prog 12 #[v, .string k] w fun e w' => e = .returned (.bool true) ∧ Below w.heap.size w w' := by
  have H := Lib.hid h
  obtain ⟨aa, ca, rfl⟩ := h.shape
  clear h
  go_enter Try.func12, Try.ntmps12
  go_wp2_with fail
  refine (wide_long H.out hm hl).mono ?_
  rintro e w1 ⟨rfl, rfl⟩
  go_wp2_with fail
  refine (live_any _).mono ?_
  rintro e w1 ⟨rfl, u1⟩
  have HU := Lib.hid u1
  clear u1
  go_wp2_with fail
  go_returns
  exact ⟨rfl, HU.out⟩

set_option maxRecDepth 100000 in
set_option maxHeartbeats 12800000 in
theorem ranks_walk {w : World} {v : Value} {l : List Ent} {k : ByteArray} (h : Row w 2 v l.length (ents l)) (hl : l.length ≤ 80) :
    Calls Try.prog 12 #[v, .string k] w fun e w' => e = .returned (.bool true) ∧ Below w.heap.size w w' := by
  have H := Lib.hid h
  obtain ⟨aa, ca, rfl, xa⟩ := h.at2
  have XA := Lib.hid xa
  have HSRT := Lib.hid (treeOf_srt l)
  have HSIZ := Lib.hid (treeOf_size l)
  have HFND := Lib.hid (treeOf_find l)
  clear h xa
  go_enter Try.func12, Try.ntmps12
  go_wp2_with fail
  refine (wide_any H.out hl).mono ?_
  rintro e w1 ⟨rfl | rfl, rfl⟩
  · go_wp2_with fail
    refine (live_any _).mono ?_
    rintro e w1 ⟨rfl, u1⟩
    have HU := Lib.hid u1
    clear u1
    go_wp2_with fail
    go_returns
    exact ⟨rfl, HU.out⟩
  · go_wp2_with fail
    refine (built_any H.out (by omega)).mono ?_
    rintro e w2 ⟨q, u, rfl, t2, o2, b2⟩
    have bA : Below w2.heap.size w2 (w2.alloc (.cells #[.pointer q] MapS)) := (Below.refl _ _).alloc (Nat.le_refl _) _
    have hA : (w2.alloc (.cells #[.pointer q] MapS)).heap[w2.heap.size]? = some (Obj.cells #[.pointer q] MapS) := heap_alloc_new _ _
    have HT := Lib.hid (t2.below bA)
    have HB := Lib.hid (b2.trans (bA.mono b2.size))
    have HAA := Lib.hid hA
    obtain ⟨au, cu, rfl⟩ := (row_of_own o2).shape
    clear t2 o2 b2 bA hA
    go_wp2_with fail
    generalize (w2.alloc (.cells #[.pointer q] MapS)) = W at *
    generalize w2.heap.size = A at *
    generalize treeOf l = t at *
    go_loopw [7] (fun i wr => ∃ n : Nat, i = .int .i64 (n : Int) ∧ n ≤ l.length ∧ Below W.heap.size W wr) (fun i _ => l.length - (intOf i).toNat)
    case atStart => exact ⟨0, rfl, Nat.zero_le _, Below.refl _ _⟩
    case round =>
      obtain ⟨n, rfl, hn, hb⟩ := hrel
      have HBB := Lib.hid hb
      have z0 : wr.cell? ⟨A, 0, none⟩ = some (.pointer q) := bcellAt hb (cellB HAA.out rfl)
      have HTR := Lib.hid (HT.out.below hb)
      clear hb
      by_cases hlt : n < l.length
      · obtain ⟨b1, o1, rfl, q1⟩ := XA.out (by omega)
        have c1 := bcellAt (HB.out.trans (HBB.out.mono HB.out.size)) (q1 _ _ (ents_at l n hlt).1)
        obtain ⟨fa, fv, fb, hfind⟩ := HFND.out n hlt
        generalize (l[n]).1 = x at *
        obtain ⟨na, nv, nb, hnth⟩ := there_nth t x HSRT.out hfind
        have HFI := Lib.hid hfind
        have hsz : t.size < 1000000 := by have := HSIZ.out; omega
        have hrkb := Tr.rank_le t x
        have HRKB : Hid (-9223372036854775808 ≤ ((Tr.rank t x : Nat) : Int) ∧ ((Tr.rank t x : Nat) : Int) ≤ 9223372036854775807) := Lib.hid (by omega)
        have hm : ∀ w' : World, IsTS w' (.pointer q) t → Calls Try.prog 65 #[.agg #[.pointer q], .int .i64 (Tr.rank t x : Int)] w' fun e w2 => e = .returned (.tuple #[.string x, .int .i64 nv, .bool true]) ∧ Below w'.heap.size w' w2 := fun w' hT => by
          have := matS ((Tr.rank t x : Nat) : Int) hT hsz HRKB.out
          rw [hnth] at this
          exact this
        have hcc : ∀ w' : World, IsTS w' (.pointer q) t → Calls Try.prog 68 #[.agg #[.pointer q], .string x] w' fun e w2 => e = .returned (.tuple #[.string x, .int .i64 nv, .bool true]) ∧ Below w'.heap.size w' w2 := fun w' hT => by
          have := mceil_at x hT hsz
          rw [hnth] at this
          exact this
        have HM := Lib.hid hm
        have HC := Lib.hid hcc
        have hn0 : (0 : Int) ≤ (n : Int) := by omega
        have hn1 : (n : Int) < (l.length : Int) := by omega
        have hsf := beq_self_list x
        clear q1 hfind hnth hm hcc hrkb XA
        go_wp2_with fail
        have hk : ∀ w' : World, Below wr.heap.size wr w' → w'.cell? ⟨A, 0, none⟩ = some (.pointer q) ∧ w'.cell? ⟨b1, o1 + n * 2, none⟩ = some (.string x) ∧ Below wr.heap.size wr w' := fun w' hb => ⟨bcellAt hb z0, bcellAt hb c1, hb⟩
        have HK := Lib.hid hk
        clear hk
        go_region_held3 (fun w' => w'.cell? ⟨A, 0, none⟩ = some (.pointer q) ∧ w'.cell? ⟨b1, o1 + n * 2, none⟩ = some (.string x) ∧ Below wr.heap.size wr w') ((refine HK.out _ ?_; first | exact bdd _ _ | exact bd _ | exact bdn _ _ | exact Below.refl _ _ | exact (bmore (by first | assumption | exact bdn _ _ | exact bd _ | exact Below.refl _ _) u1) | exact (bmore (bmore (by first | assumption | exact bdn _ _ | exact bd _ | exact Below.refl _ _) u1) u2)))
          ((first
            | ((with_reducible refine (mrank x (HTR.out.below (by first | assumption | exact bdn _ _ | exact bd _ | exact Below.refl _ _)) hsz).mono ?_); rintro e w3 ⟨rfl, u1⟩)
            | ((with_reducible refine (HM.out _ (HTR.out.below (bmore (by first | assumption | exact bdn _ _ | exact bd _ | exact Below.refl _ _) u1))).mono ?_); rintro e w4 ⟨rfl, u2⟩)))
        have hb4 : Below wr.heap.size wr w4 := bmore (bmore (bd _) u1) u2
        have HB4 := Lib.hid hb4
        have HT4 := Lib.hid (HTR.out.below hb4)
        replace z0 := bcellAt hb4 z0
        replace c1 := bcellAt hb4 c1
        clear hb4 u1 u2 HK
        go_wp2_with fail
        have hk : ∀ w' : World, Below w4.heap.size w4 w' → w'.cell? ⟨A, 0, none⟩ = some (.pointer q) ∧ w'.cell? ⟨b1, o1 + n * 2, none⟩ = some (.string x) ∧ Below w4.heap.size w4 w' := fun w' hb => ⟨bcellAt hb z0, bcellAt hb c1, hb⟩
        have HK := Lib.hid hk
        clear hk
        go_region_held3 (fun w' => w'.cell? ⟨A, 0, none⟩ = some (.pointer q) ∧ w'.cell? ⟨b1, o1 + n * 2, none⟩ = some (.string x) ∧ Below w4.heap.size w4 w') ((refine HK.out _ ?_; first | exact bdd _ _ | exact bd _ | exact bdn _ _ | exact Below.refl _ _ | exact (bmore (by first | assumption | exact bdn _ _ | exact bd _ | exact Below.refl _ _) u1)))
          ((first
            | ((with_reducible refine (mfloor_there x (HT4.out.below (by first | assumption | exact bdn _ _ | exact bd _ | exact Below.refl _ _)) HFI.out).mono ?_); rintro e w5 ⟨rfl, u1⟩)))
        have hb5 : Below w4.heap.size w4 w5 := bmore (bd _) u1
        have HB5 := Lib.hid (bmore HB4.out hb5)
        have HT5 := Lib.hid (HT4.out.below hb5)
        replace z0 := bcellAt hb5 z0
        replace c1 := bcellAt hb5 c1
        clear hb5 u1 HK
        go_wp2_with fail
        have hk : ∀ w' : World, Below w5.heap.size w5 w' → w'.cell? ⟨A, 0, none⟩ = some (.pointer q) ∧ w'.cell? ⟨b1, o1 + n * 2, none⟩ = some (.string x) ∧ Below w5.heap.size w5 w' := fun w' hb => ⟨bcellAt hb z0, bcellAt hb c1, hb⟩
        have HK := Lib.hid hk
        clear hk
        go_region_held3 (fun w' => w'.cell? ⟨A, 0, none⟩ = some (.pointer q) ∧ w'.cell? ⟨b1, o1 + n * 2, none⟩ = some (.string x) ∧ Below w5.heap.size w5 w') ((refine HK.out _ ?_; first | exact bdd _ _ | exact bd _ | exact bdn _ _ | exact Below.refl _ _ | exact (bmore (by first | assumption | exact bdn _ _ | exact bd _ | exact Below.refl _ _) u1)))
          ((first
            | ((with_reducible refine (HC.out _ (HT5.out.below (by first | assumption | exact bdn _ _ | exact bd _ | exact Below.refl _ _))).mono ?_); rintro e w6 ⟨rfl, u1⟩)))
        have hb6 : Below w5.heap.size w5 w6 := bmore (bd _) u1
        have HB6 := Lib.hid (bmore HB5.out hb6)
        replace c1 := bcellAt hb6 c1
        clear hb6 u1 HK z0
        go_wp2_with fail
        go_roundw
        case rel => exact ⟨n + 1, by go_num, by omega, bmore HBB.out HB6.out⟩
        case measure => simp [intOf]; omega
      · obtain rfl : n = l.length := by omega
        clear hlt XA HFND
        have hsz : t.size < 1000000 := by have := HSIZ.out; omega
        cases hf : Tr.find t k with
        | node fa fk fv fb =>
          have hfk : fk = k := by
            rcases Tr.find_atKey t k HSRT.out with ⟨e, _⟩ | ⟨_, _, _, e, _⟩
            · rw [e] at hf; cases hf
            · rw [e] at hf; cases hf; rfl
          subst hfk
          obtain ⟨na, nv, nb, hnth⟩ := there_nth t fk HSRT.out hf
          have hcc : ∀ w' : World, IsTS w' (.pointer q) t → Calls Try.prog 68 #[.agg #[.pointer q], .string fk] w' fun e w2 => e = .returned (.tuple #[.string fk, .int .i64 nv, .bool true]) ∧ Below w'.heap.size w' w2 := fun w' hT => by
            have := mceil_at fk hT hsz
            rw [hnth] at this
            exact this
          have HC := Lib.hid hcc
          have HF := Lib.hid hf
          clear hf hcc hnth
          go_wp2_with fail
          refine (mfloor_there fk HTR.out HF.out).mono ?_
          rintro e w3 ⟨rfl, u3⟩
          have z3 := bcellAt u3 z0
          have HU3 := Lib.hid u3
          clear u3
          go_wp2_with fail
          refine (HC.out _ (HTR.out.below HU3.out)).mono ?_
          rintro e w4 ⟨rfl, u4⟩
          have z4 := bcellAt u4 z3
          have HU4 := Lib.hid (bmore HU3.out u4)
          clear u4
          go_wp2_with fail
          refine (mget_yes fk (HTR.out.below HU4.out) HF.out).mono ?_
          rintro e w5 ⟨rfl, u5⟩
          have HU5 := Lib.hid (bmore HBB.out (bmore HU4.out u5))
          clear u5 z3 z4
          have s1 := beq_self_list fk
          have s2 := bytesLess_irr fk.toList
          go_wp2_with fail
          refine (live_any _).mono ?_
          rintro e w6 ⟨rfl, u6⟩
          have HU6 := Lib.hid (HB.out.trans ((bmore HU5.out u6).mono HB.out.size))
          clear u6
          go_wp2_with fail
          go_returns
          exact ⟨rfl, HU6.out⟩
        | nil =>
          have HF := Lib.hid hf
          have hfl := none_floor t k HSRT.out hf
          have hce := none_ceil t k HSRT.out hf
          have hf1 : ∀ w' : World, IsTS w' (.pointer q) t → Calls Try.prog 67 #[.agg #[.pointer q], .string k] w' fun e w2 => e = .returned (toldVS (Tr.nth t ((Tr.rank t k : Int) - 1))) ∧ Below w'.heap.size w' w2 := fun w' hT => mfloor_at k hT hsz HF.out
          have hc1 : ∀ w' : World, IsTS w' (.pointer q) t → Calls Try.prog 68 #[.agg #[.pointer q], .string k] w' fun e w2 => e = .returned (toldVS (Tr.nth t ((Tr.rank t k : Nat) : Int))) ∧ Below w'.heap.size w' w2 := fun w' hT => mceil_at k hT hsz
          clear hf
          rcases hfl with hfl | ⟨_, f, fx, _, hfl, hlf⟩
          · rcases hce with hce | ⟨_, c, cx, _, hce, hlc⟩
            · rw [hfl] at hf1
              rw [hce] at hc1
              simp only [toldVS] at hf1 hc1
              have HF1 := Lib.hid hf1
              have HC1 := Lib.hid hc1
              clear hf1 hc1 hfl hce
              go_wp2_with fail
              refine (HF1.out _ HTR.out).mono ?_
              rintro e w3 ⟨rfl, u3⟩
              have z3 := bcellAt u3 z0
              have HU3 := Lib.hid u3
              clear u3
              go_wp2_with fail
              refine (HC1.out _ (HTR.out.below HU3.out)).mono ?_
              rintro e w4 ⟨rfl, u4⟩
              have z4 := bcellAt u4 z3
              have HU4 := Lib.hid (bmore HU3.out u4)
              clear u4
              go_wp2_with fail
              refine (mget_no k (HTR.out.below HU4.out) HF.out).mono ?_
              rintro e w5 ⟨rfl, u5⟩
              have HU5 := Lib.hid (bmore HBB.out (bmore HU4.out u5))
              clear u5 z3 z4
              go_wp2_with fail
              refine (live_any _).mono ?_
              rintro e w6 ⟨rfl, u6⟩
              have HU6 := Lib.hid (HB.out.trans ((bmore HU5.out u6).mono HB.out.size))
              clear u6
              go_wp2_with fail
              go_returns
              exact ⟨rfl, HU6.out⟩
            · have hck : c ≠ k := fun e => by rw [e, KOrd.irr] at hlc; cases hlc
              have b1 := ne_bytes hck
              have b2 : Op.bytesLess c.toList k.toList = false := KOrd.asym hlc
              clear hck hlc
              rw [hfl] at hf1
              rw [hce] at hc1
              simp only [toldVS] at hf1 hc1
              have HF1 := Lib.hid hf1
              have HC1 := Lib.hid hc1
              clear hf1 hc1 hfl hce
              go_wp2_with fail
              refine (HF1.out _ HTR.out).mono ?_
              rintro e w3 ⟨rfl, u3⟩
              have z3 := bcellAt u3 z0
              have HU3 := Lib.hid u3
              clear u3
              go_wp2_with fail
              refine (HC1.out _ (HTR.out.below HU3.out)).mono ?_
              rintro e w4 ⟨rfl, u4⟩
              have z4 := bcellAt u4 z3
              have HU4 := Lib.hid (bmore HU3.out u4)
              clear u4
              go_wp2_with fail
              refine (mget_no k (HTR.out.below HU4.out) HF.out).mono ?_
              rintro e w5 ⟨rfl, u5⟩
              have HU5 := Lib.hid (bmore HBB.out (bmore HU4.out u5))
              clear u5 z3 z4
              go_wp2_with fail
              refine (live_any _).mono ?_
              rintro e w6 ⟨rfl, u6⟩
              have HU6 := Lib.hid (HB.out.trans ((bmore HU5.out u6).mono HB.out.size))
              clear u6
              go_wp2_with fail
              go_returns
              exact ⟨rfl, HU6.out⟩
          · rcases hce with hce | ⟨_, c, cx, _, hce, hlc⟩
            · have hfk : f ≠ k := fun e => by rw [e, KOrd.irr] at hlf; cases hlf
              have a1 := ne_bytes hfk
              have a2 : Op.bytesLess f.toList k.toList = true := hlf
              clear hfk hlf
              rw [hfl] at hf1
              rw [hce] at hc1
              simp only [toldVS] at hf1 hc1
              have HF1 := Lib.hid hf1
              have HC1 := Lib.hid hc1
              clear hf1 hc1 hfl hce
              go_wp2_with fail
              refine (HF1.out _ HTR.out).mono ?_
              rintro e w3 ⟨rfl, u3⟩
              have z3 := bcellAt u3 z0
              have HU3 := Lib.hid u3
              clear u3
              go_wp2_with fail
              refine (HC1.out _ (HTR.out.below HU3.out)).mono ?_
              rintro e w4 ⟨rfl, u4⟩
              have z4 := bcellAt u4 z3
              have HU4 := Lib.hid (bmore HU3.out u4)
              clear u4
              go_wp2_with fail
              refine (mget_no k (HTR.out.below HU4.out) HF.out).mono ?_
              rintro e w5 ⟨rfl, u5⟩
              have HU5 := Lib.hid (bmore HBB.out (bmore HU4.out u5))
              clear u5 z3 z4
              go_wp2_with fail
              refine (live_any _).mono ?_
              rintro e w6 ⟨rfl, u6⟩
              have HU6 := Lib.hid (HB.out.trans ((bmore HU5.out u6).mono HB.out.size))
              clear u6
              go_wp2_with fail
              go_returns
              exact ⟨rfl, HU6.out⟩
            · have hfk : f ≠ k := fun e => by rw [e, KOrd.irr] at hlf; cases hlf
              have a1 := ne_bytes hfk
              have a2 : Op.bytesLess f.toList k.toList = true := hlf
              clear hfk hlf
              have hck : c ≠ k := fun e => by rw [e, KOrd.irr] at hlc; cases hlc
              have b1 := ne_bytes hck
              have b2 : Op.bytesLess c.toList k.toList = false := KOrd.asym hlc
              clear hck hlc
              rw [hfl] at hf1
              rw [hce] at hc1
              simp only [toldVS] at hf1 hc1
              have HF1 := Lib.hid hf1
              have HC1 := Lib.hid hc1
              clear hf1 hc1 hfl hce
              go_wp2_with fail
              refine (HF1.out _ HTR.out).mono ?_
              rintro e w3 ⟨rfl, u3⟩
              have z3 := bcellAt u3 z0
              have HU3 := Lib.hid u3
              clear u3
              go_wp2_with fail
              refine (HC1.out _ (HTR.out.below HU3.out)).mono ?_
              rintro e w4 ⟨rfl, u4⟩
              have z4 := bcellAt u4 z3
              have HU4 := Lib.hid (bmore HU3.out u4)
              clear u4
              go_wp2_with fail
              refine (mget_no k (HTR.out.below HU4.out) HF.out).mono ?_
              rintro e w5 ⟨rfl, u5⟩
              have HU5 := Lib.hid (bmore HBB.out (bmore HU4.out u5))
              clear u5 z3 z4
              go_wp2_with fail
              refine (live_any _).mono ?_
              rintro e w6 ⟨rfl, u6⟩
              have HU6 := Lib.hid (HB.out.trans ((bmore HU5.out u6).mono HB.out.size))
              clear u6
              go_wp2_with fail
              go_returns
              exact ⟨rfl, HU6.out⟩

end Go.Proofs.Ytmfppknciojfdaa
