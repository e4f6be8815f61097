/-
  The walk of CodecTorn: the rest.
-/
import Derived.Test.YthaflimgigppaaaTornW
namespace Go.Proofs.Ythaflimgigppaaa
open Go.RowKit
set_option linter.unusedVariables false

set_option maxRecDepth 20000 in
set_option maxHeartbeats 6400000 in
theorem torn_walk {w : World} {v : Value} {ls : List (List UInt8)} (a : Int) (h : ArgLoads w v ls) (hs : ∀ l ∈ ls, l.length ≤ 140737488351232) (hl : ls.length ≤ 100) (ha : -9223372036854775808 ≤ a ∧ a ≤ 9223372036854775807) :
    Calls Try.prog 3 #[v, .int .i64 a] w fun e w' => e = .returned (.bool true) ∧ Below w.heap.size w w' := by
  obtain ⟨i5, hi5, hz50, hz51, hz52⟩ := info_parts rowInt
  have HL := Lib.hid h
  have HS := Lib.hid hs
  have HA := Lib.hid ha
  obtain ⟨sa, sc, rfl⟩ := h.shape
  have HE0 := Lib.hid (Ends.start ls w)
  have HB0 := Lib.hid ((Below.refl w.heap.size w).alloc (Nat.le_refl _) (.cells #[.int .i64 0] 3))
  clear h hs ha
  go_enter Try.func3, Try.ntmps3
  go_wp2_with fail
  go_loopw [5, 6, 7] (fun vp ve i wr => ∃ k : Nat, k ≤ ls.length ∧ i = .int .i64 (k : Int) ∧ (∀ l ∈ ls.take k, l.length ≤ 4096) ∧ Own w.heap.size wr vp (joinF (ls.take k)) ∧ Ends w.heap.size wr ve ls (k + 1) ∧ Below w.heap.size w wr) (fun _ _ i _ => ls.length - (intOf i).toNat)
  case atStart => exact ⟨0, Nat.zero_le _, rfl, fun l hl => by simp at hl, by simpa [joinF] using Own.nils _ _, HE0.out, HB0.out⟩
  case round =>
    obtain ⟨k, hk, rfl, hsm, ho, he, hb⟩ := hrel
    clear HE0 HB0
    have HSm := Lib.hid hsm
    have HO := Lib.hid ho
    have HE := Lib.hid he
    have HB := Lib.hid hb
    obtain ⟨pa, pc, rfl⟩ := ho.rd.shape
    obtain ⟨eg, ec, rfl⟩ := he.shape
    have hjs := joinF_small hsm
    have htk : (ls.take k).length = k := by simp; omega
    rw [htk] at hjs
    clear hsm ho he hb
    by_cases hlt : k < ls.length
    · obtain ⟨b, off, cap, hv, hblk, hm, hcs⟩ : ∃ b off cap, (Value.slice sa ls.length sc) = .slice (some ⟨b, off, none⟩) ls.length cap ∧ b < wr.heap.size ∧ ls.length ≤ maxLen ∧ ∀ i (hi : i < ls.length), ∃ u, wr.cell? ⟨b, off + i, none⟩ = some u ∧ RdA wr u (ls[i]) := by
        rcases HL.out.keep HB.out with ⟨_, h0⟩ | h1
        · subst h0; simp at hlt
        · exact h1
      simp only [Value.slice.injEq] at hv
      obtain ⟨rfl, _, rfl⟩ := hv
      obtain ⟨u, hu, hr⟩ := hcs k hlt
      obtain ⟨ua, uc, rfl⟩ := hr.shape
      obtain ⟨l, hlk⟩ : ∃ l, ls[k] = l := ⟨_, rfl⟩
      have hll : l.length ≤ 140737488351232 := HS.out l (by rw [← hlk]; exact List.getElem_mem hlt)
      rw [hlk] at hu hr
      have HR := Lib.hid hr
      have HLk := Lib.hid hlk
      clear hcs hr hlk
      have hA := (Below.refl wr.heap.size wr).alloc (Nat.le_refl _) (.cells #[] 5)
      have HA2 := Lib.hid (And.intro hA (And.intro (own_made wr (Nat.le_refl _)) (HR.out.keep hA)))
      have xu := cell_later hA hu
      clear hA
      go_wp2_with (at_builtin; refine wpList_append_rdA rfl _ _ rfl wr.heap.size _ _ rfl HA2.out.2.1 _ _ rfl HA2.out.2.2 (by simp; omega) (by simp) ?_)
      intro v1 w1 hown1' hg1
      have hown1 : Own wr.heap.size w1 v1 l := hown1'
      clear hown1'
      have hb1 := below_append HA2.out.1 HA2.out.2.1 hg1 (by simp)
      have HB1 := Lib.hid hb1
      have HO1 := Lib.hid hown1
      have hsz := hb1.size
      have xu1 := cell_later hb1 hu
      clear HA2 hg1 hu xu
      by_cases hlg : 4096 < l.length
      · go_wp2_with fail
        refine (seal_long (HO1.out.rd.zero) hlg (by omega)).mono ?_
        rintro e w2 ⟨rfl, rfl⟩
        go_wp2_with fail
        refine (lawnum_any 1 _).mono ?_
        rintro e w2 ⟨rfl, rfl⟩
        go_wp2_with fail
        refine (live_any _).mono ?_
        rintro e w3 ⟨rfl, hb3⟩
        go_wp2_with fail
        go_ret
        exact ⟨rfl, bthen1 HB.out (bthen1 HB1.out hb3)⟩
      · go_wp2_with fail
        refine (seal_any (HO1.out.rd.zero) (by omega)).mono ?_
        rintro e w2 ⟨v2, rfl, ho2, hb2⟩
        have hz2 := hb2.size
        have hbB : Below wr.heap.size wr w2 := bthen1 HB1.out hb2
        have hwB := HB.out.size
        have HF := Lib.hid (ho2.rd)
        have HO2 := Lib.hid (HO.out.keep hbB)
        have HE2 := Lib.hid (HE.out.keep hbB)
        have HB2 := Lib.hid (bthen1 HB.out hbB)
        have hzz := hbB.size
        have hfl : (frameOf l).length ≤ 4110 := by have := frame_len l; have := enc_len l.length; omega
        obtain ⟨fa, fc, rfl⟩ := ho2.rd.shape
        clear hb2 ho2 hbB HO1 HB1 xu1 HO HE
        go_wp2_with fail
        refine (lawnum_any 0 _).mono ?_
        rintro e w3 ⟨rfl, rfl⟩
        go_wp2_with (at_builtin; refine wpList_append_rd rfl _ _ rfl w.heap.size _ _ rfl HO2.out _ _ rfl HF.out.zero (by omega) (by omega) ?_)
        intro v4 w4 ho4 hg4
        have htk1 : ls.take (k + 1) = ls.take k ++ [l] := by rw [List.take_succ_eq_append_getElem hlt, HLk.out]
        have hjs1 : joinF (ls.take k) ++ frameOf l = joinF (ls.take (k + 1)) := by rw [htk1, joinF_snoc]
        have hend : (joinF (ls.take (k + 1))).length = endF ls (k + 1) := rfl
        have hlen1 : (joinF (ls.take (k + 1))).length ≤ (k + 1) * 4110 := by rw [← hjs1, List.length_append]; omega
        rw [hjs1] at ho4
        have HO4 := Lib.hid ho4
        have HE4 := Lib.hid (World.ownsRow.kept HE2.out hg4 (own_ne_ends HO2.out HE2.out))
        have HB4 := Lib.hid (below_append HB2.out HO2.out hg4 (by omega))
        have hz4 := HB4.out.size
        have HT := Lib.hid (And.intro htk1 hend)
        obtain ⟨qa, qc, rfl⟩ := ho4.rd.shape
        clear hg4 ho4 HO2 HE2 HB2 HF htk1 hjs1 hend
        generalize hq : (joinF (ls.take (k + 1))).length = qn at *
        have HQ := Lib.hid hq
        clear hq
        go_wp2_with (at_builtin; refine wpList_append_own _ rfl _ _ 25 rfl w.heap.size 3 i5 (.int .i64 0) 1 8 Try.underlying25 hi5 hz50 hz51 hz52 rfl (by decide) _ _ _ rfl (World.ownsRow.alloc HE4.out _) ⟨w4.heap.size, 0, none⟩ 1 1 [.int .i64 (qn : Int)] rfl rfl (cell_one_new _ _ _) (by simp [Value.oneCell']) (by unfold maxLen; omega) (by omega) (by simp; omega) ?_)
        intro v5 w5 o5 g5 _
        have hbA : Below w4.heap.size w4 (w4.alloc (.cells #[.int .i64 (qn : Int)] 3)) := (Below.refl _ _).alloc (Nat.le_refl _) _
        have hOA := HO4.out.keep hbA
        have hEA := Ends.keep HE4.out hbA
        have hO5 : Own w.heap.size w5 (.slice qa qn qc) (joinF (ls.take (k + 1))) := World.ownsRow.kept hOA g5 (ends_ne_own hOA hEA)
        have hE5 : Ends w.heap.size w5 v5 ls (k + 1 + 1) := by
          unfold Ends
          rw [endCells_snoc, ← HT.out.2]
          exact o5
        have hB5 : Below w.heap.size w w5 := (HB4.out.alloc hz4 _).grown g5 (by simp; omega) fun j hj => (World.ownsRow.lt HE4.out j hj).1
        have H5 := Lib.hid (And.intro hO5 (And.intro hE5 hB5))
        clear hbA hOA hEA hO5 hE5 hB5 o5 g5 HO4 HE4 HB4
        go_wp2_with fail
        go_roundw
        case rel => exact ⟨k + 1, by omega, by go_num, fun x hx => by
          rw [HT.out.1] at hx
          rcases List.mem_append.1 hx with h1 | h1
          · exact HSm.out x h1
          · rw [List.mem_singleton.1 h1]; omega, H5.out.1, H5.out.2.1, H5.out.2.2⟩
        case measure => simp [intOf]; omega
    · obtain rfl : k = ls.length := by omega
      have htl : ls.take ls.length = ls := List.take_length
      rw [htl] at HSm HO hjs ⊢
      clear htl htk hlt hk
      have hsz := HB.out.size
      have haa := HA.out
      by_cases hr : a < 0
      · go_wp2_with fail
        refine (live_any _).mono ?_
        rintro e w3 ⟨rfl, hb3⟩
        go_wp2_with fail
        go_ret
        exact ⟨rfl, bthen1 HB.out hb3⟩
      by_cases hr2 : ((joinF ls).length : Int) < a
      · go_wp2_with fail
        refine (live_any _).mono ?_
        rintro e w3 ⟨rfl, hb3⟩
        go_wp2_with fail
        go_ret
        exact ⟨rfl, bthen1 HB.out hb3⟩
      obtain ⟨at_, rfl⟩ : ∃ n : Nat, a = (n : Int) := ⟨a.toNat, by omega⟩
      have hat : at_ ≤ (joinF ls).length := by omega
      clear hr hr2 haa HA
      have hls : ∀ l ∈ ls, l.length ≤ 4096 := HSm.out
      obtain ⟨K, hK⟩ : ∃ K, wholeF ls at_ = K := ⟨_, rfl⟩
      have hfr := framesS_torn hls hat
      have hK1 := wholeF_le ls at_
      have hK2 := endF_wholeF ls at_
      have hK3 := wholeF_next ls at_
      rw [hK] at hfr hK1 hK2 hK3
      have HFr := Lib.hid hfr
      have HK3 := Lib.hid hK3
      clear hfr hK3 hK HSm hls
      have hec : ∀ j, j ≤ ls.length → wr.cell? ⟨eg, j, none⟩ = some (.int .i64 (endF ls j : Int)) := fun j hj => by
        rw [World.ownsRow.cellAt HE.out j (by omega)]
        exact endCells_at ls (by omega)
      have HEc := Lib.hid hec
      clear hec
      obtain ⟨x1, hx1, _, hcut⟩ := rd_cut0 HO.out.rd at_ hat
      have hx1l : ((joinF ls).take at_).length = at_ := by rw [List.length_take]; omega
      have HC := Lib.hid (frames_any hx1.zero (by omega))
      rw [HFr.out] at HC
      obtain ⟨xa, xc, hxs⟩ := hx1.shape
      rw [hx1l] at hxs
      subst hxs
      clear hx1 hx1l
      go_wp2_with fail
      simp only [show decide ((joinF ls).length < at_) = false from decide_eq_false (by omega), show decide ((at_ : Int) < 0) = false from decide_eq_false (by omega), Bool.or_false]
      go_loopw [10] (fun i w2 => ∃ m : Nat, m ≤ K ∧ i = .int .i64 (m : Int) ∧ w2 = wr) (fun i _ => K - (intOf i).toNat)
      case atStart => exact ⟨0, Nat.zero_le _, rfl, rfl⟩
      case round =>
        obtain ⟨m, hm, rfl, rfl⟩ := hrel
        by_cases hmK : m < K
        · have xe := HEc.out (m + 1) (by omega)
          have hle : endF ls (m + 1) ≤ at_ := Nat.le_trans (endF_mono ls (by omega)) hK2
          go_wp2_with fail
          exact ⟨⟨m + 1, by omega, by go_num, trivial⟩, by simp [intOf]; omega⟩
        · obtain rfl : m = K := by omega
          rcases (show m = ls.length ∨ m < ls.length by omega) with hml | hml
          · subst hml
            have xe := HEc.out ls.length (by omega)
            go_wp2_with fail
            refine HC.out.mono ?_
            rintro e w3 ⟨v3, rfl, hl3, hb3⟩
            have hml3 : (ls.take ls.length).length = ls.length := by rw [List.length_take]; omega
            obtain ⟨la, lc, rfl⟩ := hl3.shape
            have HL3 := Lib.hid hl3
            have HB3 := Lib.hid hb3
            have xe3 := cell_later hb3 xe
            rw [hml3]
            clear hl3 hb3 xe
            by_cases haE : at_ = endF ls ls.length
            · rw [if_pos haE]
              go_wp2_with fail
              refine (lawnum_any 0 _).mono ?_
              rintro e w4 ⟨rfl, rfl⟩
              go_wp2_with fail
              refine (lawnum_any 0 _).mono ?_
              rintro e w4 ⟨rfl, rfl⟩
              go_wp2_with fail
              obtain ⟨vs6, hv6, hu6⟩ := HL3.out
              have HV6 := Lib.hid hv6
              have HU6 := Lib.hid hu6
              clear hv6 hu6 HL3
              go_loopw [14] (fun i w9 => ∃ q n : Nat, q ≤ ls.length ∧ i = .int .i64 (q : Int) ∧ w9 = w3.drewN n) (fun i _ => ls.length - (intOf i).toNat)
              case atStart => exact ⟨0, 0, Nat.zero_le _, rfl, rfl⟩
              case round =>
                obtain ⟨q, n, hq, rfl, rfl⟩ := hrel
                have hbn := below_drewN (Below.refl w3.heap.size w3) n
                by_cases hlt2 : q < ls.length
                · have hqt : q < (ls.take ls.length).length := by omega
                  obtain ⟨g6, rfl⟩ : ∃ g, la = some ⟨g, 0, none⟩ := by
                    rcases HV6.out.2 with ⟨_, h0⟩ | ⟨g, cap, cur, hv, _⟩
                    · omega
                    · simp only [Value.slice.injEq] at hv
                      exact ⟨g, hv.1⟩
                  obtain ⟨b, off, cap, hv, _, _, hcs⟩ : ∃ b off cap, (Value.slice sa ls.length sc) = .slice (some ⟨b, off, none⟩) ls.length cap ∧ b < w3.heap.size ∧ ls.length ≤ maxLen ∧ ∀ i (hi : i < ls.length), ∃ u, w3.cell? ⟨b, off + i, none⟩ = some u ∧ RdA w3 u (ls[i]) := by
                    rcases HL.out.keep (bthen1 HB.out HB3.out) with ⟨_, h0⟩ | h1
                    · subst h0; simp at hlt2 hqt
                    · exact h1
                  simp only [Value.slice.injEq] at hv
                  obtain ⟨rfl, _, rfl⟩ := hv
                  obtain ⟨u7, x7, r7'⟩ := hcs q (by omega)
                  obtain ⟨u6, hx6, ho6⟩ := HU6.out q hqt
                  rw [List.getElem_take] at ho6
                  have x6 : w3.cell? ⟨g6, q, none⟩ = some u6 := by rw [HV6.out.cellAt q (by omega)]; exact hx6
                  obtain ⟨a6, c6, rfl⟩ := ho6.rd.shape
                  obtain ⟨a7, c7, rfl⟩ := r7'.shape
                  have r6 := fun k => rd_string (ho6.rd.keep (below_drewN (Below.refl w3.heap.size w3) k))
                  have r7 := fun k => rdA_string (r7'.keep (below_drewN (Below.refl w3.heap.size w3) k))
                  clear ho6 r7' hx6 hcs
                  generalize ls[q] = y at *
                  go_wp2_with fail
                  have hw : IntKind.i64.wrap ((q : Int) + 1) = (q : Int) + 1 := IntWalk.i64_in _ (by omega)
                  go_quiet (fail)
                  go_wp2_with fail
                  exact ⟨⟨q + 1, n + nq, by omega, by go_num, rfl⟩, by simp [intOf]; omega⟩
                · go_wp2_with fail
                  refine (live_any _).mono ?_
                  rintro e wL ⟨rfl, hbL⟩
                  go_wp2_with fail
                  go_ret
                  exact ⟨rfl, bthen1 (bthen1 HB.out HB3.out) (bthen1 hbn hbL)⟩
            · rw [if_neg haE]
              have hgt : endF ls ls.length < at_ := by omega
              go_wp2_with fail
              refine (lawnum_any 3 _).mono ?_
              rintro e w4 ⟨rfl, rfl⟩
              go_wp2_with fail
              refine (lawnum_any 3 _).mono ?_
              rintro e w4 ⟨rfl, rfl⟩
              go_wp2_with fail
              obtain ⟨vs6, hv6, hu6⟩ := HL3.out
              have HV6 := Lib.hid hv6
              have HU6 := Lib.hid hu6
              clear hv6 hu6 HL3
              go_loopw [14] (fun i w9 => ∃ q n : Nat, q ≤ ls.length ∧ i = .int .i64 (q : Int) ∧ w9 = w3.drewN n) (fun i _ => ls.length - (intOf i).toNat)
              case atStart => exact ⟨0, 0, Nat.zero_le _, rfl, rfl⟩
              case round =>
                obtain ⟨q, n, hq, rfl, rfl⟩ := hrel
                have hbn := below_drewN (Below.refl w3.heap.size w3) n
                by_cases hlt2 : q < ls.length
                · have hqt : q < (ls.take ls.length).length := by omega
                  obtain ⟨g6, rfl⟩ : ∃ g, la = some ⟨g, 0, none⟩ := by
                    rcases HV6.out.2 with ⟨_, h0⟩ | ⟨g, cap, cur, hv, _⟩
                    · omega
                    · simp only [Value.slice.injEq] at hv
                      exact ⟨g, hv.1⟩
                  obtain ⟨b, off, cap, hv, _, _, hcs⟩ : ∃ b off cap, (Value.slice sa ls.length sc) = .slice (some ⟨b, off, none⟩) ls.length cap ∧ b < w3.heap.size ∧ ls.length ≤ maxLen ∧ ∀ i (hi : i < ls.length), ∃ u, w3.cell? ⟨b, off + i, none⟩ = some u ∧ RdA w3 u (ls[i]) := by
                    rcases HL.out.keep (bthen1 HB.out HB3.out) with ⟨_, h0⟩ | h1
                    · subst h0; simp at hlt2 hqt
                    · exact h1
                  simp only [Value.slice.injEq] at hv
                  obtain ⟨rfl, _, rfl⟩ := hv
                  obtain ⟨u7, x7, r7'⟩ := hcs q (by omega)
                  obtain ⟨u6, hx6, ho6⟩ := HU6.out q hqt
                  rw [List.getElem_take] at ho6
                  have x6 : w3.cell? ⟨g6, q, none⟩ = some u6 := by rw [HV6.out.cellAt q (by omega)]; exact hx6
                  obtain ⟨a6, c6, rfl⟩ := ho6.rd.shape
                  obtain ⟨a7, c7, rfl⟩ := r7'.shape
                  have r6 := fun k => rd_string (ho6.rd.keep (below_drewN (Below.refl w3.heap.size w3) k))
                  have r7 := fun k => rdA_string (r7'.keep (below_drewN (Below.refl w3.heap.size w3) k))
                  clear ho6 r7' hx6 hcs
                  generalize ls[q] = y at *
                  go_wp2_with fail
                  have hw : IntKind.i64.wrap ((q : Int) + 1) = (q : Int) + 1 := IntWalk.i64_in _ (by omega)
                  go_quiet (fail)
                  go_wp2_with fail
                  exact ⟨⟨q + 1, n + nq, by omega, by go_num, rfl⟩, by simp [intOf]; omega⟩
                · go_wp2_with fail
                  refine (live_any _).mono ?_
                  rintro e wL ⟨rfl, hbL⟩
                  go_wp2_with fail
                  go_ret
                  exact ⟨rfl, bthen1 (bthen1 HB.out HB3.out) (bthen1 hbn hbL)⟩
          · have xe1 := HEc.out (m + 1) (by omega)
            have hlt2 := HK3.out hml
            have xe := HEc.out m (by omega)
            go_wp2_with fail
            refine HC.out.mono ?_
            rintro e w3 ⟨v3, rfl, hl3, hb3⟩
            have hml3 : (ls.take m).length = m := by rw [List.length_take]; omega
            obtain ⟨la, lc, rfl⟩ := hl3.shape
            have HL3 := Lib.hid hl3
            have HB3 := Lib.hid hb3
            have xe3 := cell_later hb3 xe
            rw [hml3]
            clear hl3 hb3 xe
            by_cases haE : at_ = endF ls m
            · rw [if_pos haE]
              go_wp2_with fail
              refine (lawnum_any 0 _).mono ?_
              rintro e w4 ⟨rfl, rfl⟩
              go_wp2_with fail
              refine (lawnum_any 0 _).mono ?_
              rintro e w4 ⟨rfl, rfl⟩
              go_wp2_with fail
              obtain ⟨vs6, hv6, hu6⟩ := HL3.out
              have HV6 := Lib.hid hv6
              have HU6 := Lib.hid hu6
              clear hv6 hu6 HL3
              go_loopw [14] (fun i w9 => ∃ q n : Nat, q ≤ m ∧ i = .int .i64 (q : Int) ∧ w9 = w3.drewN n) (fun i _ => m - (intOf i).toNat)
              case atStart => exact ⟨0, 0, Nat.zero_le _, rfl, rfl⟩
              case round =>
                obtain ⟨q, n, hq, rfl, rfl⟩ := hrel
                have hbn := below_drewN (Below.refl w3.heap.size w3) n
                by_cases hlt2 : q < m
                · have hqt : q < (ls.take m).length := by omega
                  obtain ⟨g6, rfl⟩ : ∃ g, la = some ⟨g, 0, none⟩ := by
                    rcases HV6.out.2 with ⟨_, h0⟩ | ⟨g, cap, cur, hv, _⟩
                    · omega
                    · simp only [Value.slice.injEq] at hv
                      exact ⟨g, hv.1⟩
                  obtain ⟨b, off, cap, hv, _, _, hcs⟩ : ∃ b off cap, (Value.slice sa ls.length sc) = .slice (some ⟨b, off, none⟩) ls.length cap ∧ b < w3.heap.size ∧ ls.length ≤ maxLen ∧ ∀ i (hi : i < ls.length), ∃ u, w3.cell? ⟨b, off + i, none⟩ = some u ∧ RdA w3 u (ls[i]) := by
                    rcases HL.out.keep (bthen1 HB.out HB3.out) with ⟨_, h0⟩ | h1
                    · subst h0; simp at hlt2 hqt
                    · exact h1
                  simp only [Value.slice.injEq] at hv
                  obtain ⟨rfl, _, rfl⟩ := hv
                  obtain ⟨u7, x7, r7'⟩ := hcs q (by omega)
                  obtain ⟨u6, hx6, ho6⟩ := HU6.out q hqt
                  rw [List.getElem_take] at ho6
                  have x6 : w3.cell? ⟨g6, q, none⟩ = some u6 := by rw [HV6.out.cellAt q (by omega)]; exact hx6
                  obtain ⟨a6, c6, rfl⟩ := ho6.rd.shape
                  obtain ⟨a7, c7, rfl⟩ := r7'.shape
                  have r6 := fun k => rd_string (ho6.rd.keep (below_drewN (Below.refl w3.heap.size w3) k))
                  have r7 := fun k => rdA_string (r7'.keep (below_drewN (Below.refl w3.heap.size w3) k))
                  clear ho6 r7' hx6 hcs
                  generalize ls[q] = y at *
                  go_wp2_with fail
                  have hw : IntKind.i64.wrap ((q : Int) + 1) = (q : Int) + 1 := IntWalk.i64_in _ (by omega)
                  go_quiet (fail)
                  go_wp2_with fail
                  exact ⟨⟨q + 1, n + nq, by omega, by go_num, rfl⟩, by simp [intOf]; omega⟩
                · go_wp2_with fail
                  refine (live_any _).mono ?_
                  rintro e wL ⟨rfl, hbL⟩
                  go_wp2_with fail
                  go_ret
                  exact ⟨rfl, bthen1 (bthen1 HB.out HB3.out) (bthen1 hbn hbL)⟩
            · rw [if_neg haE]
              have hgt : endF ls m < at_ := by omega
              go_wp2_with fail
              refine (lawnum_any 3 _).mono ?_
              rintro e w4 ⟨rfl, rfl⟩
              go_wp2_with fail
              refine (lawnum_any 3 _).mono ?_
              rintro e w4 ⟨rfl, rfl⟩
              go_wp2_with fail
              obtain ⟨vs6, hv6, hu6⟩ := HL3.out
              have HV6 := Lib.hid hv6
              have HU6 := Lib.hid hu6
              clear hv6 hu6 HL3
              go_loopw [14] (fun i w9 => ∃ q n : Nat, q ≤ m ∧ i = .int .i64 (q : Int) ∧ w9 = w3.drewN n) (fun i _ => m - (intOf i).toNat)
              case atStart => exact ⟨0, 0, Nat.zero_le _, rfl, rfl⟩
              case round =>
                obtain ⟨q, n, hq, rfl, rfl⟩ := hrel
                have hbn := below_drewN (Below.refl w3.heap.size w3) n
                by_cases hlt2 : q < m
                · have hqt : q < (ls.take m).length := by omega
                  obtain ⟨g6, rfl⟩ : ∃ g, la = some ⟨g, 0, none⟩ := by
                    rcases HV6.out.2 with ⟨_, h0⟩ | ⟨g, cap, cur, hv, _⟩
                    · omega
                    · simp only [Value.slice.injEq] at hv
                      exact ⟨g, hv.1⟩
                  obtain ⟨b, off, cap, hv, _, _, hcs⟩ : ∃ b off cap, (Value.slice sa ls.length sc) = .slice (some ⟨b, off, none⟩) ls.length cap ∧ b < w3.heap.size ∧ ls.length ≤ maxLen ∧ ∀ i (hi : i < ls.length), ∃ u, w3.cell? ⟨b, off + i, none⟩ = some u ∧ RdA w3 u (ls[i]) := by
                    rcases HL.out.keep (bthen1 HB.out HB3.out) with ⟨_, h0⟩ | h1
                    · subst h0; simp at hlt2 hqt
                    · exact h1
                  simp only [Value.slice.injEq] at hv
                  obtain ⟨rfl, _, rfl⟩ := hv
                  obtain ⟨u7, x7, r7'⟩ := hcs q (by omega)
                  obtain ⟨u6, hx6, ho6⟩ := HU6.out q hqt
                  rw [List.getElem_take] at ho6
                  have x6 : w3.cell? ⟨g6, q, none⟩ = some u6 := by rw [HV6.out.cellAt q (by omega)]; exact hx6
                  obtain ⟨a6, c6, rfl⟩ := ho6.rd.shape
                  obtain ⟨a7, c7, rfl⟩ := r7'.shape
                  have r6 := fun k => rd_string (ho6.rd.keep (below_drewN (Below.refl w3.heap.size w3) k))
                  have r7 := fun k => rdA_string (r7'.keep (below_drewN (Below.refl w3.heap.size w3) k))
                  clear ho6 r7' hx6 hcs
                  generalize ls[q] = y at *
                  go_wp2_with fail
                  have hw : IntKind.i64.wrap ((q : Int) + 1) = (q : Int) + 1 := IntWalk.i64_in _ (by omega)
                  go_quiet (fail)
                  go_wp2_with fail
                  exact ⟨⟨q + 1, n + nq, by omega, by go_num, rfl⟩, by simp [intOf]; omega⟩
                · go_wp2_with fail
                  refine (live_any _).mono ?_
                  rintro e wL ⟨rfl, hbL⟩
                  go_wp2_with fail
                  go_ret
                  exact ⟨rfl, bthen1 (bthen1 HB.out HB3.out) (bthen1 hbn hbL)⟩

end Go.Proofs.Ythaflimgigppaaa
