/-
  What Frames does.
-/
import Derived.Test.YthaflimgigppaaaCutF
namespace Go.Proofs.Ythaflimgigppaaa
open Go.RowKit

def framesAt (p : List UInt8) : Nat → Nat → List (List UInt8) → List (List UInt8) × Nat × Nat
  | 0, pl, acc => (acc, pl, 0)
  | k + 1, pl, acc => if pl < p.length then
      match openS (p.drop pl) with
      | .inl er => (acc, pl, er)
      | .inr (x, n) => framesAt p k (pl + n) (acc ++ [x])
    else (acc, pl, 0)
/-- The frames that p begins with, one behind the other; where they end; why. -/
def framesS (p : List UInt8) : List (List UInt8) × Nat × Nat := framesAt p p.length 0 []

theorem openS_good {q x : List UInt8} {n : Nat} (h : openS q = .inr (x, n)) : 4 ≤ n ∧ n ≤ q.length ∧ x.length ≤ 4096 := by
  unfold openS at h
  split at h
  · cases h
  · rename_i m len hm
    split at h
    · cases h
    · split at h
      · cases h
      · split at h
        · simp only [Sum.inr.injEq, Prod.mk.injEq] at h
          obtain ⟨rfl, rfl⟩ := h
          refine ⟨by omega, by omega, ?_⟩
          rw [List.length_take]; omega
        · cases h
theorem framesAt_over {p : List UInt8} {k pl : Nat} {acc : List (List UInt8)} (h : ¬ pl < p.length) : framesAt p k pl acc = (acc, pl, 0) := by
  cases k with
  | zero => rfl
  | succ k => simp only [framesAt, if_neg h]
theorem framesAt_bad {p : List UInt8} {k pl er : Nat} {acc : List (List UInt8)} (h : pl < p.length) (hk : p.length - pl ≤ k) (ho : openS (p.drop pl) = .inl er) : framesAt p k pl acc = (acc, pl, er) := by
  obtain ⟨k, rfl⟩ : ∃ j, k = j + 1 := ⟨k - 1, by omega⟩
  simp only [framesAt, if_pos h, ho]
theorem framesAt_good {p x : List UInt8} {k pl n : Nat} {acc : List (List UInt8)} (h : pl < p.length) (hk : p.length - pl ≤ k) (ho : openS (p.drop pl) = .inr (x, n)) : framesAt p k pl acc = framesAt p (k - 1) (pl + n) (acc ++ [x]) := by
  obtain ⟨k, rfl⟩ : ∃ j, k = j + 1 := ⟨k - 1, by omega⟩
  simp only [framesAt, if_pos h, ho, Nat.add_sub_cancel]

/-- A list of lists of bytes, each in a block of the call's own. -/
def IsLoads (B : Nat) (w : World) (v : Value) (ls : List (List UInt8)) : Prop :=
  ∃ vs : List Value, w.ownsRow B 24 1 v ls.length vs ∧ ∀ i (hi : i < ls.length), ∃ u, vs[i]? = some u ∧ Own B w u (ls[i])

theorem own_ne_row {B : Nat} {w : World} {u v : Value} {l : List UInt8} {n : Nat} {vs : List Value} (hu : Own B w u l) (hv : w.ownsRow B 24 1 v n vs) : u.ownBlock = none ∨ u.ownBlock ≠ v.ownBlock := by
  rcases hu.2 with ⟨rfl, _⟩ | ⟨g, cap, cur, rfl, _, hg, _⟩
  · exact .inl rfl
  · refine .inr ?_
    rcases hv.2 with ⟨rfl, _⟩ | ⟨g', cap', cur', rfl, _, hg', _⟩
    · simp [Value.ownBlock]
    · intro e
      obtain rfl : g = g' := by simpa [Value.ownBlock] using e
      have := hg.symm.trans hg'
      simp at this

theorem IsLoads.nil (B : Nat) (w : World) : IsLoads B w (.slice none 0 0) [] := ⟨[], World.ownsRow_nil w B _ 1, fun i hi => by simp at hi⟩
theorem IsLoads.keep {B : Nat} {w w' : World} {v : Value} {ls : List (List UInt8)} (h : IsLoads B w v ls) (hb : Below w.heap.size w w') : IsLoads B w' v ls := by
  obtain ⟨vs, h1, h2⟩ := h
  refine ⟨vs, ⟨h1.1, ?_⟩, fun i hi => ?_⟩
  · rcases h1.2 with hn | ⟨g, cap, cur, hv, h3, h4, h5⟩
    · exact .inl hn
    · exact .inr ⟨g, cap, cur, hv, h3, by rw [hb.block g (Array.getElem?_eq_some_iff.1 h4).1]; exact h4, h5⟩
  · obtain ⟨u, hu, ho⟩ := h2 i hi
    exact ⟨u, hu, ho.keep hb⟩
theorem IsLoads.snoc {B : Nat} {w w' : World} {v v' u : Value} {ls : List (List UInt8)} {x : List UInt8} {vs : List Value} (h1 : w.ownsRow B 24 1 v ls.length vs) (h2 : ∀ i (hi : i < ls.length), ∃ u, vs[i]? = some u ∧ Own B w u (ls[i])) (hu : Own B w u x)
    (h3 : w'.ownsRow B 24 1 v' (ls.length + 1) (vs ++ [u])) (hg : w.grownBy w' v.ownBlock) : IsLoads B w' v' (ls ++ [x]) := by
  have hl : vs.length = ls.length := by have := h1.1; omega
  refine ⟨vs ++ [u], by rw [List.length_append]; exact h3, fun i hi => ?_⟩
  by_cases hlt : i < ls.length
  · obtain ⟨y, hy, ho⟩ := h2 i hlt
    refine ⟨y, by rw [List.getElem?_append_left (by omega)]; exact hy, ?_⟩
    rw [List.getElem_append_left hlt]
    exact World.ownsRow.kept ho hg (own_ne_row ho h1)
  · obtain rfl : i = ls.length := by rw [List.length_append, List.length_singleton] at hi; omega
    refine ⟨u, by rw [List.getElem?_append_right (by omega), hl]; simp, ?_⟩
    rw [List.getElem_append_right (by omega)]
    simp only [Nat.sub_self, List.getElem_cons_zero]
    exact World.ownsRow.kept hu hg (own_ne_row hu h1)

theorem row22 : (Try.prog.info? 24).map (fun i => (i.zero, i.size, i.bytes)) = some (some (.slice none 0 0), 1, 24) := by kernel_rfl

def FramesPost (w : World) (s : List (List UInt8) × Nat × Nat) (e : Ending) (w' : World) : Prop :=
  ∃ v, e = .returned (.tuple #[v, .int .i64 (s.2.1 : Int), .int .i64 (s.2.2 : Int)]) ∧ IsLoads w.heap.size w' v s.1 ∧ Below w.heap.size w w'

theorem openS_bad {q : List UInt8} {er : Nat} (h : openS q = .inl er) : 0 < er ∧ er < 200 := by
  unfold openS at h
  split at h
  · rename_i e he
    simp only [Sum.inl.injEq] at h
    subst h
    have := numF_err _ _ _ _ _ he
    omega
  · split at h
    · simp only [Sum.inl.injEq] at h; omega
    · split at h
      · simp only [Sum.inl.injEq] at h; omega
      · split at h
        · cases h
        · simp only [Sum.inl.injEq] at h; omega

theorem FramesPost.mk {w w' : World} {v : Value} {acc : List (List UInt8)} {pl er : Nat} {res : List (List UInt8) × Nat × Nat} (h : (acc, pl, er) = res) (hl : IsLoads w.heap.size w' v acc) (hb : Below w.heap.size w w') :
    FramesPost w res (.returned (.tuple #[v, .int .i64 (pl : Int), .int .i64 (er : Int)])) w' := by
  subst h
  exact ⟨v, rfl, hl, hb⟩

set_option maxRecDepth 20000 in
set_option maxHeartbeats 1600000 in
theorem frames_any {w : World} {v : Value} {p : List UInt8} (h : Rd 0 w v p) (hp : p.length ≤ 1099511627776) :
    Calls Try.prog 7 #[v] w (FramesPost w (framesS p)) := by
  obtain ⟨i0, hi, hz0, hz1, hz2⟩ := info_parts row22
  have HR := Lib.hid h
  obtain ⟨res, hres⟩ : ∃ r, framesS p = r := ⟨_, rfl⟩
  rw [hres]
  have HRes := Lib.hid hres
  obtain ⟨sa, sc, rfl⟩ := h.shape
  clear h hres
  go_enter Try.func7, Try.ntmps7
  go_wp2_with fail
  go_loopw [5, 6] (fun b i wr => ∃ (pl k : Nat) (acc : List (List UInt8)), i = .int .i64 (pl : Int) ∧ pl ≤ p.length ∧ p.length - pl ≤ k ∧ acc.length ≤ pl ∧ framesAt p k pl acc = res ∧ IsLoads w.heap.size wr b acc ∧ Below w.heap.size w wr) (fun _ i _ => p.length - (intOf i).toNat)
  case atStart => exact ⟨0, p.length, [], rfl, Nat.zero_le _, by omega, Nat.zero_le _, HRes.out, IsLoads.nil _ _, Below.refl _ _⟩
  case round =>
    obtain ⟨pl, k, acc, rfl, hpl, hk, hacc, hfr, hld, hb⟩ := hrel
    have HLd := Lib.hid hld
    have HFr := Lib.hid hfr
    have HB := Lib.hid hb
    have hsz := hb.size
    clear hld hfr hb HRes
    by_cases hlt : pl < p.length
    · obtain ⟨x1, hx1, _, hcut⟩ := rd_from (HR.out.keep HB.out) pl (by omega)
      have hdl : (p.drop pl).length = p.length - pl := List.length_drop
      have HO := Lib.hid (open_any hx1 (by omega))
      cases hop : openS (p.drop pl) with
      | inl er =>
        have her := openS_bad hop
        have hne : ((er : Int) == 0) = false := by simp; omega
        have HOp := Lib.hid hop
        rw [hop] at HO
        clear hop hx1
        go_wp2_with fail
        refine HO.out.mono ?_
        rintro e w2 ⟨hb2, rfl⟩
        go_wp2_with fail
        go_ret3
        exact FramesPost.mk ((framesAt_bad hlt hk HOp.out).symm.trans HFr.out) (HLd.out.keep hb2) (HB.out.trans (hb2.mono hsz))
      | inr q =>
        obtain ⟨x, n⟩ := q
        have hg := openS_good hop
        have HOp := Lib.hid hop
        rw [hop] at HO
        clear hop hx1
        go_wp2_with fail
        refine HO.out.mono ?_
        rintro e w2 ⟨hb2, u, rfl, hu⟩
        obtain ⟨vs, hv1, hv2⟩ := HLd.out.keep hb2
        have HV1 := Lib.hid hv1
        have HV2 := Lib.hid hv2
        have HU := Lib.hid (Own.mono hu hsz)
        have HB2 := Lib.hid (HB.out.trans (hb2.mono hsz))
        have hsz2 := HB2.out.size
        obtain ⟨ua, ul, uc, rfl⟩ : ∃ ua ul uc, u = .slice ua ul uc := by
          obtain ⟨ua, uc, rfl⟩ := hu.rd.shape
          exact ⟨_, _, _, rfl⟩
        clear hu hv1 hv2 hb2 HO
        go_wp2_with (at_builtin; refine wpList_append_own _ rfl _ _ 22 rfl w.heap.size 24 i0 (.slice none 0 0) 1 24 Try.underlying22 hi hz0 hz1 hz2 rfl (by decide) _ _ _ rfl (World.ownsRow.alloc HV1.out _) ⟨w2.heap.size, 0, none⟩ 1 1 [.slice ua ul uc] rfl rfl (cell_one_new _ _ _) (by simp [Value.oneCell']) (by unfold maxLen; omega) (by omega) (by simp; omega) ?_)
        intro v4 w4 o4 g4 _
        have hbA : Below w2.heap.size w2 (w2.alloc (.cells #[.slice ua ul uc] 24)) := (Below.refl _ _).alloc (Nat.le_refl _) _
        have hLS := IsLoads.snoc (World.ownsRow.alloc HV1.out _) (fun i hi => by obtain ⟨y, hy, ho⟩ := HV2.out i hi; exact ⟨y, hy, ho.keep hbA⟩) (HU.out.keep hbA) o4 g4
        have hb4 : Below w.heap.size w w4 := (HB2.out.alloc hsz2 _).grown g4 (by simp; omega) fun k hk => (World.ownsRow.lt HV1.out k hk).1
        have HLS := Lib.hid hLS
        have HB4 := Lib.hid hb4
        clear o4 g4 hbA hLS hb4
        go_wp2_with fail
        go_roundw
        case rel => exact ⟨pl + n, k - 1, acc ++ [x], by go_num, by omega, by omega, by rw [List.length_append, List.length_singleton]; omega, (framesAt_good hlt hk HOp.out).symm.trans HFr.out, HLS.out, HB4.out⟩
        case measure => simp [intOf]; omega
    · go_wp2_with fail
      go_ret3
      exact FramesPost.mk (er := 0) ((framesAt_over hlt).symm.trans HFr.out) HLd.out HB.out

end Go.Proofs.Ythaflimgigppaaa
