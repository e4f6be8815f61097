/-
  The walk of KeepNumbers, where the list is not too long.
-/
import Derived.Test.YtmfppknciojfdaaKNum
namespace Go.Proofs.Ytmfppknciojfdaa
open Go.RowKit Go.Maps
set_option linter.unusedVariables false

theorem Two.start (w w1 : World) (hi : IsIn w1 w.heap.size (w.heap.size + 1) w.heap.size (.slice none 0 0) []) (hb : Below w.heap.size w w1) : Two w w1 w.heap.size (w.heap.size + 1) w.heap.size (.slice none 0 0) (.slice none 0 0) [] :=
  ⟨hi, World.ownsRow_nil _ _ _ 1, fun g hg => by simp [Value.ownBlock] at hg, hb, Nat.le_refl _, List.nodup_nil, fun s hs => by cases hs⟩

set_option maxRecDepth 100000 in
set_option maxHeartbeats 12800000 in
theorem num_walk {w : World} {v : Value} {l : List ByteArray} {ask : ByteArray} {i : Int} (h : Row w 1 v l.length (strs l)) (hs : ∀ s ∈ l, s.size ≤ maxLen) (hask : ask.size ≤ maxLen) (hl : l.length ≤ 80) :
    Calls Try.prog 11 #[v, .string ask, .int .i64 i] w fun e w' => e = .returned (.bool true) ∧ Below w.heap.size w w' := by
  obtain ⟨i0, hi0, hz0, hz1, hz2⟩ := info_parts rowStr
  obtain ⟨aa, ca, rfl, xa⟩ := h.at
  have XA := Lib.hid xa
  have HS := Lib.hid hs
  have HASK := Lib.hid hask
  clear h xa hs hask
  go_enter Try.func11, Try.ntmps11
  go_wp2_with fail
  go_loop [8, 7] (fun u n => ∃ (k : Nat) (acc : Int), u = .int .i64 (k : Int) ∧ n = .int .i64 acc ∧ k ≤ l.length) (fun u _ => 82 - (intOf u).toNat)
  case atStart => exact ⟨0, 0, rfl, rfl, by omega⟩
  case round =>
    obtain ⟨k, acc, rfl, rfl, hk⟩ := hrel
    by_cases hlt : k < l.length
    · obtain ⟨b1, o1, rfl, q1⟩ := XA.out (by omega)
      have c1 := q1 k _ (strs_at l k hlt)
      clear q1 XA HS
      generalize l[k] = x at *
      have hk0 : (0 : Int) ≤ (k : Int) := by omega
      have hk1 : (k : Int) < (l.length : Int) := by omega
      have hk2 : (k : Int) ≤ 80 := by omega
      go_wp2_with fail
      go_round
      case rel => exact ⟨k + 1, _, by go_num, rfl, by omega⟩
      case measure => simp [intOf]; omega
    · obtain rfl : k = l.length := by omega
      clear hlt
      by_cases hacc : 4000 < acc
      · clear XA HS
        go_wp2_with fail
        refine (live_any _).mono ?_
        rintro e w1 ⟨rfl, u1⟩
        have HU := Lib.hid u1
        clear u1
        go_wp2_with fail
        go_returns
        exact ⟨rfl, HU.out⟩
      · have hacc' : decide (4000 < acc) = false := by simpa using hacc
        clear hacc
        go_wp2_with fail
        refine (newIntern _).mono ?_
        rintro e w1 ⟨rfl, i1, u1⟩
        have HT := Lib.hid (Two.start w w1 i1 u1)
        clear i1 u1
        go_wp2_with fail
        clear hacc'
        go_loopw [11, 10] (fun kk u wr => ∃ (k : Nat) (ws : List ByteArray) (v : Value), kk = .int .i64 (k : Int) ∧ k ≤ l.length ∧ ws.length ≤ k ∧ Two w wr w.heap.size (w.heap.size + 1) w.heap.size v u ws) (fun kk _ _ => 82 - (intOf kk).toNat)
        case atStart => exact ⟨0, [], _, rfl, Nat.zero_le _, Nat.le_refl _, HT.out⟩
        case round =>
          obtain ⟨k, ws, v, rfl, hk, hwk, ht⟩ := hrel
          obtain ⟨au, cu, rfl⟩ := (row_of_own ht.own).shape
          have HTT := Lib.hid ht
          clear ht HT
          by_cases hlt : k < l.length
          · obtain ⟨b1, o1, rfl, q1⟩ := XA.out (by omega)
            have C1 := Lib.hid (q1 k _ (strs_at l k hlt))
            have c1 := bcellAt HTT.out.below C1.out
            have hsz := HS.out _ (List.getElem_mem hlt)
            clear q1 XA HS
            have HSZ := Lib.hid hsz
            clear hsz
            generalize l[k] = x at *
            have hk0 : (0 : Int) ≤ (k : Int) := by omega
            have hk1 : (k : Int) < (l.length : Int) := by omega
            by_cases hmem : x ∈ ws
            · obtain ⟨j, hj⟩ := List.getElem?_of_mem hmem
              have hjl : j < ws.length := (List.getElem?_eq_some_iff.1 hj).1
              have HJ := Lib.hid hj
              clear hj hmem
              go_wp2_with fail
              refine (lfind_yes (row_of_own HTT.out.own) (by omega) HJ.out HTT.out.dup).mono ?_
              rintro e w2 ⟨rfl, rfl⟩
              go_wp2_with fail
              refine (of_old HTT.out.tab HSZ.out HJ.out).mono ?_
              rintro e w3 hp
              obtain ⟨v3, t3⟩ := HTT.out.old hp
              obtain ⟨rfl, _⟩ := hp
              have HT3 := Lib.hid t3
              clear t3
              go_wp2_with fail
              refine (ilen HT3.out.tab).mono ?_
              rintro e w4 ⟨rfl, rfl⟩
              go_wp2_with fail
              go_roundw
              case rel => exact ⟨k + 1, ws, v3, by go_num, by omega, by omega, HT3.out⟩
              case measure => simp [intOf]; omega
            · have HM := Lib.hid hmem
              have HOA := Lib.hid (own_hold HTT.out.own (Hold.below ((Below.refl wr.heap.size wr).alloc (Nat.le_refl _) (.cells #[.string x] 9))))
              have hbw := HTT.out.below.size
              clear hmem
              go_wp2_with fail
              refine (lfind_no (row_of_own HTT.out.own) (by omega) HM.out).mono ?_
              rintro e w2 ⟨rfl, rfl⟩
              go_wp2_with (first
                | (at_builtin; refine wpList_append_own_at _ rfl _ _ 97 rfl w.heap.size 9 i0 (.string ⟨#[]⟩) 1 16 Try.underlying97 hi0 hz0 hz1 hz2 rfl (by decide) _ _ _ rfl HOA.out ⟨wr.heap.size, 0, none⟩ 1 1 [.string x] rfl rfl (cell_one_new _ _ _) (by simp [Value.oneCell']) (by unfold maxLen; omega) (by omega) (by simp; omega) ?_
                   intro u5 w5 hown' hg' hnil hw
                   obtain ⟨sa, sc, rfl⟩ := (row_of_own hown').shape
                   have bA := (Below.refl wr.heap.size wr).alloc (Nat.le_refl _) (.cells #[.string x] 9)
                   have b5 : Below w.heap.size wr w5 := (bA.mono hbw).trans (grown_below hg' (by simp; omega) (fun k e => (own_type HTT.out.own e).1))
                   have c5 := bcellAt (HTT.out.below.trans b5) C1.out
                   have HO5 := Lib.hid hown'
                   have HG5 := Lib.hid hg'
                   have HW5 := Lib.hid hw
                   have HI5 := Lib.hid ((HTT.out.tab.kept (World.grownBy_alloc wr (.cells #[.string x] 9) none) (fun r e => by cases e)).kept hg' (fun r e => ⟨(HTT.out.tab.parts HTT.out.own e).1, (HTT.out.tab.parts HTT.out.own e).2.1, HTT.out.apart r e⟩))
                   clear hown' hg' hnil hw bA b5))
              refine (of_new HI5.out HSZ.out HM.out (by omega)).mono ?_
              rintro e w6 hp
              obtain ⟨v6, t6⟩ := HTT.out.new HM.out HSZ.out ((Below.refl wr.heap.size wr).alloc (Nat.le_refl _) (.cells #[.string x] 9)) HOA.out HO5.out HG5.out HW5.out hp (by omega)
              obtain ⟨rfl, _⟩ := hp
              have HT6 := Lib.hid t6
              have HI6 := Lib.hid (ilen t6.tab)
              have hlen : (ws ++ [x]).length = ws.length + 1 := by simp
              clear t6
              go_wp2_with fail
              have hil := HI6.out
              rw [hlen] at hil
              refine hil.mono ?_
              rintro e w7 ⟨rfl, rfl⟩
              clear hil hlen
              go_wp2_with fail
              go_roundw
              case rel => exact ⟨k + 1, ws ++ [x], v6, by go_num, by omega, by simp; omega, HT6.out⟩
              case measure => simp [intOf]; omega
          · obtain rfl : k = l.length := by omega
            clear hlt XA HS
            have hwl : ws.length ≤ 80 := by omega
            obtain ⟨au2, cu2, hav, hau⟩ := (row_of_own HTT.out.own).at
            have HU : Hid (0 < ws.length → ∃ b off, au = some ⟨b, off, none⟩ ∧ ∀ j u, (strs ws)[j]? = some u → wr.cell? ⟨b, off + j, none⟩ = some u) := Lib.hid (by
              simp only [Value.slice.injEq, true_and] at hav
              rw [hav.1]; exact hau)
            clear hav hau
            by_cases hmem : ask ∈ ws
            · obtain ⟨j, hj⟩ := List.getElem?_of_mem hmem
              have HJ := Lib.hid hj
              clear hj hmem
              go_wp2_with fail
              refine (ifind_yes HTT.out.tab HASK.out HJ.out).mono ?_
              rintro e w2 ⟨rfl, rfl⟩
              go_wp2_with fail
              refine (lfind_yes (row_of_own HTT.out.own) (by omega) HJ.out HTT.out.dup).mono ?_
              rintro e w2 ⟨rfl, rfl⟩
              go_wp2_with fail
              refine (ilen HTT.out.tab).mono ?_
              rintro e w2 ⟨rfl, rfl⟩
              go_wp2_with fail
              rcases Int.lt_or_le i 0 with hi | hi
              · refine (ivalue_low i hi).mono ?_
                rintro e w2 ⟨rfl, rfl⟩
                go_wp2_with fail
                go_loop [18] (fun u => ∃ k : Nat, u = .int .i64 (k : Int) ∧ k ≤ ws.length) (fun u => 82 - (intOf u).toNat)
                case atStart => exact ⟨0, rfl, Nat.zero_le _⟩
                case round =>
                  obtain ⟨k, rfl, hk⟩ := hrel
                  by_cases hlt : k < ws.length
                  · obtain ⟨b2, o2, hb2, q2⟩ := HU.out (by omega)
                    cases hb2
                    have c2 := q2 k _ (strs_at ws k hlt)
                    have hsf2 := beq_self_list (ws[k])
                    have HV2 := Lib.hid (ivalue_yes HTT.out.tab k hlt (by omega))
                    clear q2
                    generalize ws[k] = y at *
                    have hk0 : (0 : Int) ≤ (k : Int) := by omega
                    have hk1 : (k : Int) < (ws.length : Int) := by omega
                    go_wp2_with fail
                    refine HV2.out.mono ?_
                    rintro e w8 ⟨rfl, rfl⟩
                    go_wp2_with fail
                    go_round
                    case rel => exact ⟨k + 1, by go_num, by omega⟩
                    case measure => simp [intOf]; omega
                  · obtain rfl : k = ws.length := by omega
                    clear hlt
                    go_wp2_with fail
                    refine (live_any _).mono ?_
                    rintro e w8 ⟨rfl, u8⟩
                    have HU8 := Lib.hid (HTT.out.below.trans (u8.mono HTT.out.below.size))
                    clear u8
                    go_wp2_with fail
                    go_returns
                    exact ⟨rfl, HU8.out⟩
              · by_cases hil : i < (ws.length : Int)
                · obtain ⟨m, rfl⟩ := Int.eq_ofNat_of_zero_le hi
                  have hm : m < ws.length := by omega
                  obtain ⟨b1, o1, hb1, q1⟩ := HU.out (by omega)
                  have c1 := q1 m _ (strs_at ws m hm)
                  have hsf := beq_self_list (ws[m])
                  have hv := ivalue_yes HTT.out.tab m hm (by omega)
                  subst hb1
                  have HV := Lib.hid hv
                  clear q1 hv
                  generalize ws[m] = x at *
                  refine HV.out.mono ?_
                  rintro e w2 ⟨rfl, rfl⟩
                  go_wp2_with fail
                  go_loop [18] (fun u => ∃ k : Nat, u = .int .i64 (k : Int) ∧ k ≤ ws.length) (fun u => 82 - (intOf u).toNat)
                  case atStart => exact ⟨0, rfl, Nat.zero_le _⟩
                  case round =>
                    obtain ⟨k, rfl, hk⟩ := hrel
                    by_cases hlt : k < ws.length
                    · obtain ⟨b2, o2, hb2, q2⟩ := HU.out (by omega)
                      cases hb2
                      have c2 := q2 k _ (strs_at ws k hlt)
                      have hsf2 := beq_self_list (ws[k])
                      have HV2 := Lib.hid (ivalue_yes HTT.out.tab k hlt (by omega))
                      clear q2
                      generalize ws[k] = y at *
                      have hk0 : (0 : Int) ≤ (k : Int) := by omega
                      have hk1 : (k : Int) < (ws.length : Int) := by omega
                      go_wp2_with fail
                      refine HV2.out.mono ?_
                      rintro e w8 ⟨rfl, rfl⟩
                      go_wp2_with fail
                      go_round
                      case rel => exact ⟨k + 1, by go_num, by omega⟩
                      case measure => simp [intOf]; omega
                    · obtain rfl : k = ws.length := by omega
                      clear hlt
                      go_wp2_with fail
                      refine (live_any _).mono ?_
                      rintro e w8 ⟨rfl, u8⟩
                      have HU8 := Lib.hid (HTT.out.below.trans (u8.mono HTT.out.below.size))
                      clear u8
                      go_wp2_with fail
                      go_returns
                      exact ⟨rfl, HU8.out⟩
                · refine (ivalue_high HTT.out.tab i hi (by omega)).mono ?_
                  rintro e w2 ⟨rfl, rfl⟩
                  have hil' : decide (i < (ws.length : Int)) = false := by simpa using hil
                  go_wp2_with fail
                  go_loop [18] (fun u => ∃ k : Nat, u = .int .i64 (k : Int) ∧ k ≤ ws.length) (fun u => 82 - (intOf u).toNat)
                  case atStart => exact ⟨0, rfl, Nat.zero_le _⟩
                  case round =>
                    obtain ⟨k, rfl, hk⟩ := hrel
                    by_cases hlt : k < ws.length
                    · obtain ⟨b2, o2, hb2, q2⟩ := HU.out (by omega)
                      cases hb2
                      have c2 := q2 k _ (strs_at ws k hlt)
                      have hsf2 := beq_self_list (ws[k])
                      have HV2 := Lib.hid (ivalue_yes HTT.out.tab k hlt (by omega))
                      clear q2
                      generalize ws[k] = y at *
                      have hk0 : (0 : Int) ≤ (k : Int) := by omega
                      have hk1 : (k : Int) < (ws.length : Int) := by omega
                      go_wp2_with fail
                      refine HV2.out.mono ?_
                      rintro e w8 ⟨rfl, rfl⟩
                      go_wp2_with fail
                      go_round
                      case rel => exact ⟨k + 1, by go_num, by omega⟩
                      case measure => simp [intOf]; omega
                    · obtain rfl : k = ws.length := by omega
                      clear hlt
                      go_wp2_with fail
                      refine (live_any _).mono ?_
                      rintro e w8 ⟨rfl, u8⟩
                      have HU8 := Lib.hid (HTT.out.below.trans (u8.mono HTT.out.below.size))
                      clear u8
                      go_wp2_with fail
                      go_returns
                      exact ⟨rfl, HU8.out⟩
            · have HM := Lib.hid hmem
              clear hmem
              go_wp2_with fail
              refine (ifind_no HTT.out.tab HASK.out HM.out).mono ?_
              rintro e w2 ⟨rfl, rfl⟩
              go_wp2_with fail
              refine (lfind_no (row_of_own HTT.out.own) (by omega) HM.out).mono ?_
              rintro e w2 ⟨rfl, rfl⟩
              go_wp2_with fail
              refine (ilen HTT.out.tab).mono ?_
              rintro e w2 ⟨rfl, rfl⟩
              go_wp2_with fail
              rcases Int.lt_or_le i 0 with hi | hi
              · refine (ivalue_low i hi).mono ?_
                rintro e w2 ⟨rfl, rfl⟩
                go_wp2_with fail
                go_loop [18] (fun u => ∃ k : Nat, u = .int .i64 (k : Int) ∧ k ≤ ws.length) (fun u => 82 - (intOf u).toNat)
                case atStart => exact ⟨0, rfl, Nat.zero_le _⟩
                case round =>
                  obtain ⟨k, rfl, hk⟩ := hrel
                  by_cases hlt : k < ws.length
                  · obtain ⟨b2, o2, hb2, q2⟩ := HU.out (by omega)
                    cases hb2
                    have c2 := q2 k _ (strs_at ws k hlt)
                    have hsf2 := beq_self_list (ws[k])
                    have HV2 := Lib.hid (ivalue_yes HTT.out.tab k hlt (by omega))
                    clear q2
                    generalize ws[k] = y at *
                    have hk0 : (0 : Int) ≤ (k : Int) := by omega
                    have hk1 : (k : Int) < (ws.length : Int) := by omega
                    go_wp2_with fail
                    refine HV2.out.mono ?_
                    rintro e w8 ⟨rfl, rfl⟩
                    go_wp2_with fail
                    go_round
                    case rel => exact ⟨k + 1, by go_num, by omega⟩
                    case measure => simp [intOf]; omega
                  · obtain rfl : k = ws.length := by omega
                    clear hlt
                    go_wp2_with fail
                    refine (live_any _).mono ?_
                    rintro e w8 ⟨rfl, u8⟩
                    have HU8 := Lib.hid (HTT.out.below.trans (u8.mono HTT.out.below.size))
                    clear u8
                    go_wp2_with fail
                    go_returns
                    exact ⟨rfl, HU8.out⟩
              · by_cases hil : i < (ws.length : Int)
                · obtain ⟨m, rfl⟩ := Int.eq_ofNat_of_zero_le hi
                  have hm : m < ws.length := by omega
                  obtain ⟨b1, o1, hb1, q1⟩ := HU.out (by omega)
                  have c1 := q1 m _ (strs_at ws m hm)
                  have hsf := beq_self_list (ws[m])
                  have hv := ivalue_yes HTT.out.tab m hm (by omega)
                  subst hb1
                  have HV := Lib.hid hv
                  clear q1 hv
                  generalize ws[m] = x at *
                  refine HV.out.mono ?_
                  rintro e w2 ⟨rfl, rfl⟩
                  go_wp2_with fail
                  go_loop [18] (fun u => ∃ k : Nat, u = .int .i64 (k : Int) ∧ k ≤ ws.length) (fun u => 82 - (intOf u).toNat)
                  case atStart => exact ⟨0, rfl, Nat.zero_le _⟩
                  case round =>
                    obtain ⟨k, rfl, hk⟩ := hrel
                    by_cases hlt : k < ws.length
                    · obtain ⟨b2, o2, hb2, q2⟩ := HU.out (by omega)
                      cases hb2
                      have c2 := q2 k _ (strs_at ws k hlt)
                      have hsf2 := beq_self_list (ws[k])
                      have HV2 := Lib.hid (ivalue_yes HTT.out.tab k hlt (by omega))
                      clear q2
                      generalize ws[k] = y at *
                      have hk0 : (0 : Int) ≤ (k : Int) := by omega
                      have hk1 : (k : Int) < (ws.length : Int) := by omega
                      go_wp2_with fail
                      refine HV2.out.mono ?_
                      rintro e w8 ⟨rfl, rfl⟩
                      go_wp2_with fail
                      go_round
                      case rel => exact ⟨k + 1, by go_num, by omega⟩
                      case measure => simp [intOf]; omega
                    · obtain rfl : k = ws.length := by omega
                      clear hlt
                      go_wp2_with fail
                      refine (live_any _).mono ?_
                      rintro e w8 ⟨rfl, u8⟩
                      have HU8 := Lib.hid (HTT.out.below.trans (u8.mono HTT.out.below.size))
                      clear u8
                      go_wp2_with fail
                      go_returns
                      exact ⟨rfl, HU8.out⟩
                · refine (ivalue_high HTT.out.tab i hi (by omega)).mono ?_
                  rintro e w2 ⟨rfl, rfl⟩
                  have hil' : decide (i < (ws.length : Int)) = false := by simpa using hil
                  go_wp2_with fail
                  go_loop [18] (fun u => ∃ k : Nat, u = .int .i64 (k : Int) ∧ k ≤ ws.length) (fun u => 82 - (intOf u).toNat)
                  case atStart => exact ⟨0, rfl, Nat.zero_le _⟩
                  case round =>
                    obtain ⟨k, rfl, hk⟩ := hrel
                    by_cases hlt : k < ws.length
                    · obtain ⟨b2, o2, hb2, q2⟩ := HU.out (by omega)
                      cases hb2
                      have c2 := q2 k _ (strs_at ws k hlt)
                      have hsf2 := beq_self_list (ws[k])
                      have HV2 := Lib.hid (ivalue_yes HTT.out.tab k hlt (by omega))
                      clear q2
                      generalize ws[k] = y at *
                      have hk0 : (0 : Int) ≤ (k : Int) := by omega
                      have hk1 : (k : Int) < (ws.length : Int) := by omega
                      go_wp2_with fail
                      refine HV2.out.mono ?_
                      rintro e w8 ⟨rfl, rfl⟩
                      go_wp2_with fail
                      go_round
                      case rel => exact ⟨k + 1, by go_num, by omega⟩
                      case measure => simp [intOf]; omega
                    · obtain rfl : k = ws.length := by omega
                      clear hlt
                      go_wp2_with fail
                      refine (live_any _).mono ?_
                      rintro e w8 ⟨rfl, u8⟩
                      have HU8 := Lib.hid (HTT.out.below.trans (u8.mono HTT.out.below.size))
                      clear u8
                      go_wp2_with fail
                      go_returns
                      exact ⟨rfl, HU8.out⟩

end Go.Proofs.Ytmfppknciojfdaa
