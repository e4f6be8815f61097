/-
  Plain: frames one behind the other, cut at any place: which are whole, where the last of them ends.
-/
import Derived.Test.YthaflimgigppaaaFramesL
import Derived.Test.YthaflimgigppaaaBack
namespace Go.Proofs.Ythaflimgigppaaa
open Go.RowKit

theorem enc_pos' (n : Nat) : 1 ≤ (enc n).length := by
  unfold enc
  by_cases h : n < 128
  · rw [encF_small h]; simp
  · rw [encF_big h]; simp
theorem sumB_len (n : BitVec 32) : (sumB n).length = 4 := by simp [sumB]
theorem frame_len (l : List UInt8) : (frameOf l).length = (enc l.length).length + l.length + 4 := by
  simp [frameOf, sumB_len, List.length_append]; omega

/-- A frame that is whole is read, whatever stands behind it. -/
theorem openS_frame {l : List UInt8} (rest : List UInt8) (hl : l.length ≤ 4096) : openS (frameOf l ++ rest) = .inr (l, (frameOf l).length) := by
  have e : frameOf l ++ rest = enc l.length ++ (l ++ (sumB (crc l) ++ rest)) := by simp [frameOf, List.append_assoc]
  have hn := numS_enc (n := l.length) (l ++ (sumB (crc l) ++ rest)) (by omega)
  have hlen : (frameOf l ++ rest).length = (enc l.length).length + l.length + 4 + rest.length := by rw [List.length_append, frame_len]
  unfold openS
  rw [e, hn]
  rw [← e]
  simp only
  rw [if_neg (by omega), if_neg (by rw [hlen]; omega)]
  have d1 : ((frameOf l ++ rest).drop (enc l.length).length).take l.length = l := by
    rw [e, List.drop_left, List.take_left]
  have d2 : ((frameOf l ++ rest).drop ((enc l.length).length + l.length)).take 4 = sumB (crc l) := by
    rw [e, ← List.drop_drop, List.drop_left, List.drop_left, ← sumB_len (crc l), List.take_left]
  rw [d1, d2, if_pos rfl, frame_len]

theorem numF_cut : ∀ (k i acc m j : Nat), i + k + 1 = 10 → j < (encF (k + 1) m).length → numF (k + 1) i acc ((encF (k + 1) m).take j) = .inl 3 := by
  intro k
  induction k with
  | zero =>
    intro i acc m j hi hj
    have : (encF (0 + 1) m).length ≤ 1 := encF_len 1 m
    obtain rfl : j = 0 := by omega
    rw [List.take_zero]; rfl
  | succ k ih =>
    intro i acc m j hi hj
    by_cases hs : m < 128
    · rw [encF_small hs] at hj ⊢
      obtain rfl : j = 0 := by simpa using hj
      rw [List.take_zero]; rfl
    · rw [encF_big hs] at hj ⊢
      cases j with
      | zero => rw [List.take_zero]; rfl
      | succ j =>
        rw [List.take_succ_cons, numF, hib_toNat, if_neg (by omega), if_neg (by omega), if_neg (by omega)]
        exact ih (i + 1) _ (m / 128) j (by omega) (by simpa using hj)
/-- A frame that is cut short is told so. -/
theorem openS_cut {l : List UInt8} {j : Nat} (hl : l.length ≤ 4096) (hj : j < (frameOf l).length) : openS ((frameOf l).take j) = .inl 3 := by
  have hf := frame_len l
  unfold openS
  by_cases hk : j < (enc l.length).length
  · have e : (frameOf l).take j = (enc l.length).take j := by
      unfold frameOf
      rw [List.append_assoc, List.take_append_of_le_length (by omega)]
    rw [e]
    have := numF_cut 9 0 0 l.length j rfl hk
    rw [show numS ((enc l.length).take j) = .inl 3 from this]
  · have e : (frameOf l).take j = enc l.length ++ (l ++ sumB (crc l)).take (j - (enc l.length).length) := by
      unfold frameOf
      rw [List.append_assoc, List.take_append, List.take_of_length_le (by omega)]
    have hlen : ((frameOf l).take j).length = j := by rw [List.length_take]; omega
    have hn := numS_enc (n := l.length) ((l ++ sumB (crc l)).take (j - (enc l.length).length)) (by omega)
    rw [← e] at hn
    rw [hn]
    simp only
    rw [if_neg (by omega), if_pos (by rw [hlen]; omega)]

/-- The frames of loads, one behind the other. -/
def joinF (ls : List (List UInt8)) : List UInt8 := (ls.map frameOf).flatten
theorem joinF_nil : joinF [] = [] := rfl
theorem joinF_cons (l : List UInt8) (ls : List (List UInt8)) : joinF (l :: ls) = frameOf l ++ joinF ls := by simp [joinF]
theorem joinF_snoc (ls : List (List UInt8)) (l : List UInt8) : joinF (ls ++ [l]) = joinF ls ++ frameOf l := by simp [joinF]
/-- Where the frame of a number begins. -/
def endF (ls : List (List UInt8)) (i : Nat) : Nat := (joinF (ls.take i)).length
theorem endF_zero (ls : List (List UInt8)) : endF ls 0 = 0 := by simp [endF, joinF]
theorem endF_cons (l : List UInt8) (ls : List (List UInt8)) (i : Nat) : endF (l :: ls) (i + 1) = (frameOf l).length + endF ls i := by
  simp [endF, joinF_cons]
theorem endF_all (ls : List (List UInt8)) : endF ls ls.length = (joinF ls).length := by simp [endF]
theorem endF_succ (ls : List (List UInt8)) {i : Nat} (hi : i < ls.length) : endF ls (i + 1) = endF ls i + (frameOf ls[i]).length := by
  unfold endF
  rw [List.take_succ_eq_append_getElem hi, joinF_snoc, List.length_append]
theorem endF_mono (ls : List (List UInt8)) {i j : Nat} (h : i ≤ j) : endF ls i ≤ endF ls j := by
  unfold endF joinF
  have e : ls.take j = ls.take i ++ (ls.take j).drop i := by
    have := List.take_append_drop i (ls.take j)
    rw [List.take_take, Nat.min_eq_left h] at this
    exact this.symm
  rw [e, List.map_append, List.flatten_append, List.length_append]
  omega

/-- How many frames are whole in the first bytes. -/
def wholeF : List (List UInt8) → Nat → Nat
  | [], _ => 0
  | l :: ls, a => if (frameOf l).length ≤ a then wholeF ls (a - (frameOf l).length) + 1 else 0
theorem wholeF_le : ∀ (ls : List (List UInt8)) (a : Nat), wholeF ls a ≤ ls.length
  | [], _ => Nat.le_refl _
  | l :: ls, a => by
    unfold wholeF
    split
    · have := wholeF_le ls (a - (frameOf l).length); simp; omega
    · simp
theorem endF_wholeF : ∀ (ls : List (List UInt8)) (a : Nat), endF ls (wholeF ls a) ≤ a
  | [], a => by simp [wholeF, endF, joinF]
  | l :: ls, a => by
    unfold wholeF
    split
    · rename_i h
      have := endF_wholeF ls (a - (frameOf l).length)
      rw [endF_cons]; omega
    · rw [endF_zero]; omega
theorem wholeF_next : ∀ (ls : List (List UInt8)) (a : Nat), wholeF ls a < ls.length → a < endF ls (wholeF ls a + 1)
  | [], a => fun h => by simp at h
  | l :: ls, a => by
    unfold wholeF
    split
    · rename_i h
      intro hl
      have := wholeF_next ls (a - (frameOf l).length) (by simpa using hl)
      rw [endF_cons]; omega
    · rename_i h
      intro _
      rw [endF_cons, endF_zero]; omega

theorem framesAt_torn : ∀ (ls : List (List UInt8)) (pre : List UInt8) (acc : List (List UInt8)) (k a : Nat), (∀ l ∈ ls, l.length ≤ 4096) → a ≤ (joinF ls).length → a ≤ k →
    framesAt (pre ++ (joinF ls).take a) k pre.length acc = (acc ++ ls.take (wholeF ls a), pre.length + endF ls (wholeF ls a), if a = endF ls (wholeF ls a) then 0 else 3) := by
  intro ls
  induction ls with
  | nil =>
    intro pre acc k a _ ha hk
    have : a = 0 := by simpa [joinF] using ha
    subst this
    rw [framesAt_over (by simp [joinF])]
    simp [wholeF, endF, joinF]
  | cons l ls ih =>
    intro pre acc k a hls ha hk
    have hl := hls l (by simp)
    have hf := frame_len l
    rw [joinF_cons] at ha ⊢
    have hd : (pre ++ (frameOf l ++ joinF ls).take a).drop pre.length = (frameOf l ++ joinF ls).take a := List.drop_left
    have hlen : (pre ++ (frameOf l ++ joinF ls).take a).length = pre.length + a := by
      rw [List.length_append, List.length_take, Nat.min_eq_left ha]
    by_cases h0 : a = 0
    · subst h0
      rw [framesAt_over (by rw [hlen]; omega)]
      simp [wholeF, endF_zero, hf]
    · by_cases hw : (frameOf l).length ≤ a
      · have e : (frameOf l ++ joinF ls).take a = frameOf l ++ (joinF ls).take (a - (frameOf l).length) := by
          rw [List.take_append, List.take_of_length_le hw]
        rw [framesAt_good (x := l) (n := (frameOf l).length) (by rw [hlen]; omega) (by rw [hlen]; omega) (by rw [hd, e]; exact openS_frame _ hl)]
        rw [e, ← List.append_assoc, ← List.length_append]
        rw [ih (pre ++ frameOf l) (acc ++ [l]) (k - 1) (a - (frameOf l).length) (fun x hx => hls x (by simp [hx])) (by rw [List.length_append] at ha; omega) (by omega)]
        have hwf : wholeF (l :: ls) a = wholeF ls (a - (frameOf l).length) + 1 := by rw [wholeF, if_pos hw]
        rw [hwf, endF_cons]
        have hle := endF_wholeF ls (a - (frameOf l).length)
        simp only [List.append_assoc, List.singleton_append, List.take_succ_cons, List.length_append, Prod.mk.injEq, true_and]
        refine ⟨by omega, ?_⟩
        by_cases hq : a - (frameOf l).length = endF ls (wholeF ls (a - (frameOf l).length))
        · rw [if_pos hq, if_pos (by omega)]
        · rw [if_neg hq, if_neg (by omega)]
      · have e : (frameOf l ++ joinF ls).take a = (frameOf l).take a := by
          rw [List.take_append_of_le_length (by omega)]
        rw [framesAt_bad (er := 3) (by rw [hlen]; omega) (by rw [hlen]; omega) (by rw [hd, e]; exact openS_cut hl (by omega))]
        have hwf : wholeF (l :: ls) a = 0 := by rw [wholeF, if_neg hw]
        rw [hwf, endF_zero, if_neg h0]
        simp
theorem framesS_torn {ls : List (List UInt8)} {a : Nat} (hls : ∀ l ∈ ls, l.length ≤ 4096) (ha : a ≤ (joinF ls).length) :
    framesS ((joinF ls).take a) = (ls.take (wholeF ls a), endF ls (wholeF ls a), if a = endF ls (wholeF ls a) then 0 else 3) := by
  have := framesAt_torn ls [] [] ((joinF ls).take a).length a hls ha (by rw [List.length_take]; omega)
  simpa [framesS] using this

end Go.Proofs.Ythaflimgigppaaa
