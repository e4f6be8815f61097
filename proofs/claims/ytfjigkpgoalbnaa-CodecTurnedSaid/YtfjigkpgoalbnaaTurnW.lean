/-
  The walk of CodecTurned where a bit may be turned.
-/
import Derived.Test.YtfjigkpgoalbnaaTurn
namespace Go.Proofs.Ytfjigkpgoalbnaa
open Go.ChangeShapes Go.WideShapes Go.ChangeAt Go.RowKit
set_option linter.unusedVariables false

theorem mask_bit {m : Nat} (hm : m < 4294967296) (k : Nat) : bits BinOp.and IntKind.u32 ((m : Int) / 2 ^ k) 1 = if m.testBit k = true then 1 else 0 := by
  have h1 : m / 2 ^ k < 2 ^ 32 := Nat.lt_of_le_of_lt (Nat.div_le_self _ _) hm
  have h2 := and_one_u32 (BitVec.ofNat 32 (m / 2 ^ k))
  rw [BitVec.toNat_ofNat, Nat.mod_eq_of_lt h1] at h2
  have e : ((m : Int) / 2 ^ k) = ((m / 2 ^ k : Nat) : Int) := by rw [Int.natCast_ediv, Int.natCast_pow]; rfl
  rw [e, h2, Nat.testBit_eq_decide_div_mod_eq]
  by_cases h : m / 2 ^ k % 2 = 1
  · simp [h]
  · have : m / 2 ^ k % 2 = 0 := by omega
    simp [this]

theorem xor_turn_all : ∀ (c : Fin 256) (i : Fin 8), bits BinOp.xor IntKind.u8 (c.val : Int) (2 ^ i.val % 256) = (((c.val ^^^ 2 ^ i.val) : Nat) : Int) := by decide +kernel
theorem xor_turn (c : UInt8) {i : Nat} (hi : i < 8) : bits BinOp.xor IntKind.u8 (c.toNat : Int) (2 ^ i % 256) = ((turnByte c i).toNat : Int) := by
  rw [turnByte_toNat c hi]
  exact xor_turn_all ⟨c.toNat, c.toNat_lt⟩ ⟨i, hi⟩

theorem own_shape {B : Nat} {w : World} {v : Value} {l : List UInt8} (h : Own B w v l) (hl : 0 < l.length) : ∃ g c, v = .slice (some ⟨g, 0, none⟩) l.length c ∧ B ≤ g := by
  rcases h.2 with ⟨_, hn⟩ | ⟨g, cap, cur, rfl, hb, _⟩
  · omega
  · exact ⟨g, cap, rfl, hb⟩

set_option maxRecDepth 20000 in
set_option maxHeartbeats 3200000 in
theorem turned_some {w : World} (v : Value) (l : List UInt8) (a : Int) (m : Nat) (hp : Rd 0 w v l) (hl : l.length ≤ 4096) (hm : m < 4294967296) (hm0 : m ≠ 0) (ha : Hid (-9223372036854775808 ≤ a ∧ a ≤ 9223372036854775807)) :
    Calls Try.prog 6 #[v, .int .i64 a, .int .u32 (m : Int)] w fun e w' => e = .returned (.bool true) ∧ Below w.heap.size w w' := by
  have hA := (Below.refl w.heap.size w).alloc (Nat.le_refl _) (.cells #[] 5)
  have HA := Lib.hid (And.intro hA (And.intro (own_made w (Nat.le_refl _)) (hp.keep hA)))
  clear hA
  have hmb : ((m : Int) == 0) = false := by simp; omega
  have hlo := ha.out.1
  have hhi := ha.out.2
  obtain ⟨sa, sc, rfl⟩ := hp.shape
  rcases (show a < 0 ∨ 0 ≤ a by omega) with hn | hn
  all_goals
    go_enter Try.func6, Try.ntmps6
    go_wp2_with (at_builtin; refine wpList_append_rd rfl _ _ rfl w.heap.size _ _ rfl HA.out.2.1 _ _ rfl HA.out.2.2 (by simp; omega) (by simp) ?_)
    intro v1 w1 hown1 hg1
    have hb1 := below_append HA.out.1 HA.out.2.1 hg1 (by simp)
    clear HA hg1
    go_wp2_with fail
    refine (seal_any hown1.rd.zero (by simpa using hl)).mono ?_
    rintro e w2 ⟨v2, rfl, hown2, hb⟩
    have hb2 := bthen hb1 hb
    have hown2' := hown2.mono hb1.size
    clear hb1 hb hown1 hown2
    have hflen := frameOf_length l
    have hep := enc_pos l.length
    have hel := enc_len l.length
    obtain ⟨fg, fc, rfl, hfg⟩ := own_shape hown2' (by omega)
    obtain ⟨hd, hhd⟩ : ∃ hd, hd = (enc l.length).length := ⟨_, rfl⟩
    have hfl : (frameOf l).length = hd + l.length + 4 := by rw [hhd]; exact hflen
    rw [← hhd] at hep hel
    have HF := Lib.hid (And.intro hfl hhd)
    clear hflen hhd hfl
    rw [HF.out.1]
    have hdec : decide ((l.length : Int) ≤ 4096) = true := by simp; omega
    go_wp2_with fail
    refine (lawnum_any 0 _).mono ?_
    rintro e w3 ⟨rfl, rfl⟩
    go_wp2_with fail
    clear hlo hhi
    rw [show ((hd : Int) + (l.length : Int) + 4 - (l.length : Int) - 4) = (hd : Int) by omega]
    obtain ⟨at_, hat, hat2⟩ : ∃ at_ : Nat, (if a < 0 then -(a + 1) else a) % (8 * ((l.length : Int) + 4)) = (at_ : Int) ∧ at_ < 8 * l.length + 32 := by
      have h1 : 0 ≤ (if a < 0 then -(a + 1) else a) := by split <;> omega
      have h2 := Int.emod_nonneg (if a < 0 then -(a + 1) else a) (show (8 * ((l.length : Int) + 4)) ≠ 0 by omega)
      have h3 := Int.emod_lt_of_pos (if a < 0 then -(a + 1) else a) (show 0 < (8 * ((l.length : Int) + 4)) by omega)
      obtain ⟨q, hq⟩ := Int.eq_ofNat_of_zero_le h2
      exact ⟨q, hq, by omega⟩
    first
      | (rw [if_pos hn] at hat; rw [show -((a + 1).tmod (8 * ((l.length : Int) + 4))) = (-(a + 1)) % (8 * ((l.length : Int) + 4)) by rw [← Int.neg_tmod, Int.tmod_eq_emod_of_nonneg (by omega)]])
      | rw [if_neg (by omega)] at hat
    rw [hat]
    have HAT := Lib.hid hat
    clear hat
    have hfl0 := Flipped.start l at_ m
    have HFL := Lib.hid hfl0
    clear hfl0 hn
    have hown3 : Own w.heap.size w2 (.slice (some ⟨fg, 0, none⟩) (hd + l.length + 4) fc) (frameOf l) := by rw [← HF.out.1]; exact hown2'
    clear hown2'
    go_loopw [11, 12] (fun t k wr => ∃ (tb : Bool) (kk : Nat) (g : List UInt8), t = .bool tb ∧ k = .int .i64 (kk : Int) ∧ kk ≤ 32 ∧ Own w.heap.size wr (.slice (some ⟨fg, 0, none⟩) (hd + l.length + 4) fc) g ∧ Below w.heap.size w wr ∧ Flipped l g at_ kk m tb) (fun _ k _ => 32 - (intOf k).toNat)
    case atStart => exact ⟨false, 0, frameOf l, rfl, rfl, by omega, hown3, hb2, HFL.out⟩
    case round =>
      obtain ⟨tb, kk, g, rfl, rfl, hk, hown, hbel, hflip⟩ := hrel
      have hgl : g.length = hd + l.length + 4 := hflip.length.trans HF.out.1
      by_cases hk32 : kk < 32
      · have hbit := mask_bit hm kk
        by_cases hb : m.testBit kk = true
        · rw [if_pos hb] at hbit
          by_cases hin : at_ + kk < 8 * l.length + 32
          · obtain ⟨ix, hix⟩ : ∃ ix, ix = hd + (at_ + kk) / 8 := ⟨_, rfl⟩
            have hlt : ix < g.length := by omega
            have hcell : wr.cell? ⟨fg, hd + (at_ + kk) / 8, none⟩ = some (u8v (g.getD ix 0)) := by
              rw [← hix]
              rw [← hgl] at hown
              rw [World.ownsRow.cellAt hown ix (by omega)]
              simp [cellsOf, hlt, List.getD_eq_getElem?_getD]
            have hfz : wr.frozen? ⟨fg, hd + (at_ + kk) / 8, none⟩ = false := by
              rw [← hgl] at hown
              exact World.ownsRow.frozenAt hown _
            unfold u8v at hcell
            have HG := Lib.hid (And.intro hgl (And.intro hix hlt))
            clear hgl hix hlt
            go_wp2_with fail
            have hix := HG.out.2.1
            have hlt := HG.out.2.2
            have hgl := HG.out.1
            go_roundw
            case rel =>
              refine ⟨true, kk + 1, g.set ix (turnByte (g.getD ix 0) ((at_ + kk) % 8)), rfl, by go_num, by omega, ?_, hbel.setCell (by simpa using hfg) _, ?_⟩
              · rw [← hix, ← List.getD_eq_getElem?_getD, xor_turn _ (by omega)]
                rw [← hgl] at hown ⊢
                have hst := (World.ownsRow.stored hown ix (u8v (turnByte (g.getD ix 0) ((at_ + kk) % 8)))).1
                exact own_of hst (by rw [List.length_set]) (by simp [cellsOf, List.map_set])
              · have ht := hflip.turn hb hin
                rw [← HF.out.2, ← hix] at ht
                exact ht
            case measure => simp [intOf]; omega
          · have HG := Lib.hid hgl
            clear hgl
            go_wp2_with fail
            go_roundw
            case rel => exact ⟨tb, kk + 1, g, rfl, by go_num, by omega, hown, hbel, hflip.stay (.inr (by omega))⟩
            case measure => simp [intOf]; omega
        · rw [if_neg hb] at hbit
          have HG := Lib.hid hgl
          clear hgl
          go_wp2_with fail
          go_roundw
          case rel => exact ⟨tb, kk + 1, g, rfl, by go_num, by omega, hown, hbel, hflip.stay (.inl (by simpa using hb))⟩
          case measure => simp [intOf]; omega
      · obtain rfl : kk = 32 := by omega
        have HG := Lib.hid hgl
        clear hgl
        go_wp2_with fail
        have hop := hflip.opened hl
        have hgl := HG.out
        clear HG
        refine (open_any hown.rd.zero (by omega)).mono ?_
        rw [hop]
        have hbs := hbel.size
        cases tb with
        | false =>
          rintro e w4 ⟨hb, v4, rfl, hown4⟩
          have hb4 : Below w.heap.size w w4 := bthen hbel hb
          clear hown hgl hop hflip hbel hb
          go_wp2_with fail
          refine (lawnum_any 0 _).mono ?_
          rintro e w5 ⟨rfl, rfl⟩
          go_wp2_with fail
          refine (live_any _).mono ?_
          rintro e w5 ⟨rfl, hb⟩
          have hb5 := bthen hb4 hb
          go_wp2_with fail
          go_ret
          exact ⟨rfl, hb5⟩
        | true =>
          rintro e w4 ⟨hb, rfl⟩
          have hb4 : Below w.heap.size w w4 := bthen hbel hb
          clear hown hgl hop hflip hbel hb
          go_wp2_with fail
          refine (lawnum_any 12 _).mono ?_
          rintro e w5 ⟨rfl, rfl⟩
          go_wp2_with fail
          refine (live_any _).mono ?_
          rintro e w5 ⟨rfl, hb⟩
          have hb5 := bthen hb4 hb
          go_wp2_with fail
          go_ret
          exact ⟨rfl, hb5⟩

end Go.Proofs.Ytfjigkpgoalbnaa
