/-
  What codec.Open does.
-/
import Derived.Test.YthaflimgigppaaaSeal
import Derived.Test.YthaflimgigppaaaNew
import Derived.IntWalk
namespace Go.Proofs.Ythaflimgigppaaa
open Go.RowKit

/-- The frame with which bytes begin: an error, or the load and how many bytes the frame has. -/
def openS (p : List UInt8) : Nat ⊕ (List UInt8 × Nat) :=
  match numS p with
  | .inl er => .inl er
  | .inr (n, len) => if 4096 < n then .inl 1 else if p.length < len + n + 4 then .inl 3
    else if sumB (crc ((p.drop len).take n)) = (p.drop (len + n)).take 4 then .inr ((p.drop len).take n, len + n + 4) else .inl 12

theorem numF_err : ∀ (f i n : Nat) (p : List UInt8) (er : Nat), numF f i n p = .inl er → er < 200 ∧ 0 < er := by
  intro f
  induction f with
  | zero => intro i n p er h; simp [numF] at h; omega
  | succ f ih =>
    intro i n p er h
    cases p with
    | nil => simp [numF] at h; omega
    | cons c r =>
      rw [numF] at h
      by_cases h1 : i = 9 ∧ 1 < c.toNat
      · simp [h1] at h; omega
      rw [if_neg h1] at h
      by_cases h2 : 0 < i ∧ c.toNat = 0
      · simp [h2] at h; omega
      rw [if_neg h2] at h
      by_cases h3 : c.toNat < 128
      · simp [h3] at h
      · rw [if_neg h3] at h
        exact ih _ _ _ _ h

theorem made_below {w w1 : World} {o : Obj} (hg : (w.alloc o).grownBy w1 (some w.heap.size)) : Below w.heap.size w w1 :=
  ((Below.refl _ _).alloc (Nat.le_refl _) o).grown hg (by simp) fun k hk => by simp at hk; omega

set_option maxHeartbeats 800000 in
theorem open_form {w : World} {v : Value} {p : List UInt8} (h : Rd 0 w v p) (hp : p.length ≤ 1099511627776) {er : Nat} (hs : numS p = .inl er) :
    Calls Try.prog 12 #[v] w fun e w' => e = .returned (.tuple #[.slice none 0 0, .int .i64 0, .int .i64 (er : Int)]) ∧ Below w.heap.size w w' := by
  have her := numF_err _ _ _ _ _ hs
  have hr := IsReader.made (e := 0) h hp (by omega)
  have hN := Num_bad hr (er := er) (by simpa using hs) her.1
  have HN := Lib.hid hN
  have hne : ((er : Int) == 0) = false := by simp; omega
  have Hr := Lib.hid her
  obtain ⟨sa, sc, rfl⟩ := h.shape
  clear hN hs hr her
  go_enter Try.func12, Try.ntmps12
  go_wp2_with fail
  refine HN.out.mono ?_
  rintro e w1 ⟨rfl, hg, hr1⟩
  go_wp2_with fail
  refine (why_bad hr1 Hr.out.2).mono ?_
  rintro e w2 ⟨rfl, n, rfl⟩
  go_wp2_with fail
  go_ret3
  exact ⟨rfl, below_drewN (made_below hg) _⟩

set_option maxHeartbeats 800000 in
theorem open_long {w : World} {v : Value} {p : List UInt8} (h : Rd 0 w v p) (hp : p.length ≤ 1099511627776) {n len : Nat} (hs : numS p = .inr (n, len)) (hn : 4096 < n) :
    Calls Try.prog 12 #[v] w fun e w' => e = .returned (.tuple #[.slice none 0 0, .int .i64 0, .int .i64 1]) ∧ Below w.heap.size w w' := by
  have hr := IsReader.made (e := 0) h hp (by omega)
  have HN := Lib.hid (Num_ok hr (n := n) (len := len) (by simpa using hs))
  obtain ⟨sa, sc, rfl⟩ := h.shape
  clear hs hr
  go_enter Try.func12, Try.ntmps12
  go_wp2_with fail
  refine HN.out.mono ?_
  rintro e w1 ⟨rfl, hg, hr1⟩
  go_wp2_with fail
  refine (why_ok hr1).mono ?_
  rintro e w2 ⟨rfl, rfl⟩
  go_wp2_with fail
  go_ret3
  exact ⟨rfl, made_below hg⟩

set_option maxHeartbeats 800000 in
theorem open_short {w : World} {v : Value} {p : List UInt8} (h : Rd 0 w v p) (hp : p.length ≤ 1099511627776) {n len : Nat} (hs : numS p = .inr (n, len)) (hn : n ≤ 4096) (hl : p.length < len + n + 4) :
    Calls Try.prog 12 #[v] w fun e w' => e = .returned (.tuple #[.slice none 0 0, .int .i64 0, .int .i64 3]) ∧ Below w.heap.size w w' := by
  have hr := IsReader.made (e := 0) h hp (by omega)
  have HN := Lib.hid (Num_ok hr (n := n) (len := len) (by simpa using hs))
  obtain ⟨sa, sc, rfl⟩ := h.shape
  have hle := (numS_lt hs).2.1
  clear hs hr
  go_enter Try.func12, Try.ntmps12
  go_wp2_with fail
  refine HN.out.mono ?_
  rintro e w1 ⟨rfl, hg, hr1⟩
  rw [Nat.zero_add] at hr1
  go_wp2_with fail
  refine (why_ok hr1).mono ?_
  rintro e w2 ⟨rfl, rfl⟩
  go_wp2_with fail
  refine (left_any hr1).mono ?_
  rintro e w2 ⟨rfl, m, rfl⟩
  go_wp2_with fail
  go_ret3
  exact ⟨rfl, below_drewN (made_below hg) _⟩

theorem eq4 (d : Nat) (a0 a1 a2 a3 b0 b1 b2 b3 : Int) (w : World) :
    (Op.equalIn (d + 2) 42 (.agg #[.int .u8 a0, .int .u8 a1, .int .u8 a2, .int .u8 a3]) (.agg #[.int .u8 b0, .int .u8 b1, .int .u8 b2, .int .u8 b3])).run Try.prog w
      = .ok (decide ([a0, a1, a2, a3] = [b0, b1, b2, b3])) w := by
  have h5 : ∀ a b : Int, (Op.equalIn (d + 1) 5 (.int .u8 a) (.int .u8 b)).run Try.prog w = .ok (a == b) w := fun a b => run_equalIn_int w d 5 .u8 .u8 a b Try.underlying5
  rw [show d + 2 = (d + 1) + 1 from rfl, Op.equalIn]
  simp only [Sem.run_bind, run_underlying Try.underlying42, Result.andThen_ok, size5]
  rw [Std.Legacy.Range.forIn_eq_forIn_range']
  simp [Std.Legacy.Range.size, List.range', part, h5]
  by_cases h0 : a0 = b0 <;> by_cases h1 : a1 = b1 <;> by_cases h2 : a2 = b2 <;> by_cases h3 : a3 = b3 <;> simp [h0, h1, h2, h3]
theorem u8_ints {r : BitVec 32} {y0 y1 y2 y3 : UInt8} : ([(r.toNat : Int) % 256, (r.toNat : Int) / 256 % 256, (r.toNat : Int) / 65536 % 256, (r.toNat : Int) / 16777216] = [(y0.toNat : Int), (y1.toNat : Int), (y2.toNat : Int), (y3.toNat : Int)]) ↔ sumB r = [y0, y1, y2, y3] := by
  have hc := sumB_cells r
  simp only [cellsOf, sumB, List.map_cons, List.map_nil, u8v, List.cons.injEq, Value.int.injEq, true_and, and_true] at hc
  obtain ⟨h0, h1, h2, h3⟩ := hc
  rw [← h0, ← h1, ← h2, ← h3]
  simp only [sumB, List.cons.injEq, and_true, Int.ofNat_inj, UInt8.toNat_inj]

/-- What Open ends in. -/
def OpenPost (w : World) (s : Nat ⊕ (List UInt8 × Nat)) (e : Ending) (w' : World) : Prop :=
  Below w.heap.size w w' ∧ match s with
    | .inl er => e = .returned (.tuple #[.slice none 0 0, .int .i64 0, .int .i64 (er : Int)])
    | .inr (l, n) => ∃ v', e = .returned (.tuple #[v', .int .i64 (n : Int), .int .i64 0]) ∧ Own w.heap.size w' v' l
theorem OpenPost.good {w w' : World} {s : Nat ⊕ (List UInt8 × Nat)} {l l' : List UInt8} {n : Nat} {v' : Value} {m : Int} {q : List UInt8} {y : List UInt8} (hs : s = if sumB (crc l) = q then .inr (l, n) else .inl 12) (hq : q = y) (hl : l = l') (hy : sumB (crc l') = y)
    (hb : Below w.heap.size w w') (hm : m = (n : Int)) (ho : Own w.heap.size w' v' l') : OpenPost w s (.returned (.tuple #[v', .int .i64 m, .int .i64 0])) w' := by
  subst hl; subst hq; subst hm
  rw [hs, if_pos hy]
  exact ⟨hb, v', rfl, ho⟩
theorem OpenPost.wrong {w w' : World} {s : Nat ⊕ (List UInt8 × Nat)} {l l' : List UInt8} {n : Nat} {q : List UInt8} {y : List UInt8} (hs : s = if sumB (crc l) = q then .inr (l, n) else .inl 12) (hq : q = y) (hl : l = l') (hy : ¬ sumB (crc l') = y)
    (hb : Below w.heap.size w w') : OpenPost w s (.returned (.tuple #[.slice none 0 0, .int .i64 0, .int .i64 12])) w' := by
  subst hl; subst hq
  rw [hs, if_neg hy]
  exact ⟨hb, rfl⟩

theorem four_of {α : Type} {l : List α} (h : l.length = 4) : ∃ a b c d, l = [a, b, c, d] := by
  match l, h with
  | [a, b, c, d], _ => exact ⟨a, b, c, d, rfl⟩

set_option maxHeartbeats 1600000 in
theorem open_whole {w : World} {v : Value} {p : List UInt8} (h : Rd 0 w v p) (hp : p.length ≤ 1099511627776) {n len : Nat} (hs : numS p = .inr (n, len)) (hn : n ≤ 4096) (hl : len + n + 4 ≤ p.length) :
    Calls Try.prog 12 #[v] w (OpenPost w (if sumB (crc ((p.drop len).take n)) = (p.drop (len + n)).take 4 then .inr ((p.drop len).take n, len + n + 4) else .inl 12)) := by
  have hr := IsReader.made (e := 0) h hp (by omega)
  have HN := Lib.hid (Num_ok hr (n := n) (len := len) (by simpa using hs))
  have hle := (numS_lt hs).2.1
  obtain ⟨v1, hv1, _, hcut1⟩ := rd_cut h len (len + n) (by omega) (by omega)
  obtain ⟨v2, hv2, _, hcut2⟩ := rd_cut h (len + n) (len + n + 4) (by omega) (by omega)
  rw [show len + n - len = n by omega] at hv1
  rw [show len + n + 4 - (len + n) = 4 by omega] at hv2
  simp only [Int.natCast_add, Int.cast_ofNat_Int] at hcut1 hcut2
  obtain ⟨res, hres⟩ : ∃ r : Nat ⊕ (List UInt8 × Nat), r = (if sumB (crc ((p.drop len).take n)) = (p.drop (len + n)).take 4 then .inr ((p.drop len).take n, len + n + 4) else .inl 12) := ⟨_, rfl⟩
  rw [← hres]
  have HR := Lib.hid hres
  clear hres
  have hshape := h.shape
  obtain ⟨sa, sc, rfl⟩ := h.shape
  clear hs hr hshape
  go_enter Try.func12, Try.ntmps12
  go_wp2_with fail
  refine HN.out.mono ?_
  rintro e w1 ⟨rfl, hg, hr1⟩
  rw [Nat.zero_add] at hr1
  go_wp2_with fail
  refine (why_ok hr1).mono ?_
  rintro e w2 ⟨rfl, rfl⟩
  go_wp2_with fail
  refine (left_any hr1).mono ?_
  rintro e w2 ⟨rfl, m, rfl⟩
  go_wp2_with fail
  refine (at_any (hr1.drewN m)).mono ?_
  rintro e w2 ⟨rfl, rfl⟩
  go_wp2_with fail
  refine (at_any (hr1.drewN m)).mono ?_
  rintro e w2 ⟨rfl, rfl⟩
  go_wp2_with fail
  have hb1 := below_drewN (made_below hg) m
  have hv1' := hv1.keep hb1
  have hv2' := hv2.keep hb1
  refine (fresh_any _ 0 v1 _ hv1' (by rw [List.length_take]; omega) (by omega)).mono ?_
  rintro e w3 ⟨v3, rfl, hown3, hb3⟩
  have hv2'' := hv2'.keep hb3
  clear hv1 hv2 hv1' hv2' hcut1 hr1
  obtain ⟨y0, y1, y2, y3, hq⟩ := four_of (l := (p.drop (len + n)).take 4) (by rw [List.length_take, List.length_drop]; omega)
  rw [hq] at hv2''
  rcases hv2'' with ⟨_, hbad⟩ | ⟨b2, off2, cap2, rfl, g1, g2, g3, g4, g5⟩
  · simp at hbad
  have d0 : w3.cell? ⟨b2, off2, none⟩ = some (.int .u8 (y0.toNat : Int)) := g5 0 (by simp)
  have d1 : w3.cell? ⟨b2, off2 + 1, none⟩ = some (.int .u8 (y1.toNat : Int)) := g5 1 (by simp)
  have d2 : w3.cell? ⟨b2, off2 + 2, none⟩ = some (.int .u8 (y2.toNat : Int)) := g5 2 (by simp)
  have d3 : w3.cell? ⟨b2, off2 + 3, none⟩ = some (.int .u8 (y3.toNat : Int)) := g5 3 (by simp)
  simp only [List.length_cons, List.length_nil, Nat.reduceAdd] at hcut2 g3
  have harr : ∀ W : World, (Instr.arrayAt 42 (.slice (some ⟨b2, off2, none⟩) 4 cap2)).run Try.prog W = .ok (.pointer (some ⟨b2, off2, none⟩)) W := fun W => by kernel_rfl
  have heq : ∀ W : World, (Op.equalIn 10000 42 (.agg #[.int .u8 (((crc ((p.drop len).take n)).toNat : Int) % 256), .int .u8 (((crc ((p.drop len).take n)).toNat : Int) / 256 % 256), .int .u8 (((crc ((p.drop len).take n)).toNat : Int) / 65536 % 256), .int .u8 (((crc ((p.drop len).take n)).toNat : Int) / 16777216)]) (.agg #[.int .u8 (y0.toNat : Int), .int .u8 (y1.toNat : Int), .int .u8 (y2.toNat : Int), .int .u8 (y3.toNat : Int)])).run Try.prog W = .ok (decide (sumB (crc ((p.drop len).take n)) = [y0, y1, y2, y3])) W := fun W => by
    rw [eq4 9998]
    congr 1
    rw [decide_eq_decide]
    exact u8_ints
  have hwr : IntKind.i64.wrap ((len : Int) + (n : Int) + 4) = (len : Int) + (n : Int) + 4 := IntWalk.i64_in _ (by omega)
  clear g5
  have hsb := sumBytes_any (hown3.rd.zero.keep (Below.refl w3.heap.size w3).drew) (by rw [List.length_take]; omega)
  generalize hll : (p.drop len).take n = ll at *
  have Hq := Lib.hid (And.intro hq hll)
  clear hq hll
  rw [sumB_cells] at hsb
  have HB := Lib.hid hsb
  clear hsb
  by_cases hsum : sumB (crc ll) = [y0, y1, y2, y3]
  · rw [decide_eq_true hsum] at heq
    have HS := Lib.hid hsum
    clear hsum
    go_wp2_with fail
    go_region_law (go_simp; go_at_call 14; refine HB.out.mono ?_; rintro e w4 ⟨rfl, hb4⟩; have e0 := cell_later hb4 d0; have e1 := cell_later hb4 d1; have e2 := cell_later hb4 d2; have e3 := cell_later hb4 d3)
    all_goals
      clear d0 d1 d2 d3 e0 e1 e2 e3 harr heq hcut2
      go_wp2
      go_ret3
      have hz3 := hb3.size
      have hz1 := hb1.size
      have hz2 := hg.size
      have hz4 : w3.drew.heap.size = w3.heap.size := rfl
      exact OpenPost.good HR.out Hq.out.1 rfl HS.out (((hb1.trans (hb3.mono hz1)).drew).trans (hb4.mono (by omega))) (by simp) ((hown3.mono hz1).keep (((Below.refl w3.heap.size w3).drew).trans hb4))
  · rw [decide_eq_false hsum] at heq
    have HS := Lib.hid hsum
    clear hsum
    go_wp2_with fail
    go_region_law (go_simp; go_at_call 14; refine HB.out.mono ?_; rintro e w4 ⟨rfl, hb4⟩; have e0 := cell_later hb4 d0; have e1 := cell_later hb4 d1; have e2 := cell_later hb4 d2; have e3 := cell_later hb4 d3)
    all_goals
      clear d0 d1 d2 d3 e0 e1 e2 e3 harr heq hcut2
      go_wp2
      go_ret3
      have hz3 := hb3.size
      have hz1 := hb1.size
      have hz2 := hg.size
      have hz4 : w3.drew.heap.size = w3.heap.size := rfl
      exact OpenPost.wrong HR.out Hq.out.1 rfl HS.out (((hb1.trans (hb3.mono hz1)).drew).trans (hb4.mono (by omega)))

theorem open_any {w : World} {v : Value} {p : List UInt8} (h : Rd 0 w v p) (hp : p.length ≤ 1099511627776) :
    Calls Try.prog 12 #[v] w (OpenPost w (openS p)) := by
  cases hs : numS p with
  | inl er =>
    have : openS p = .inl er := by simp [openS, hs]
    rw [this]
    exact (open_form h hp hs).mono fun e w' ⟨he, hb⟩ => ⟨hb, he⟩
  | inr x =>
    obtain ⟨n, len⟩ := x
    by_cases hn : 4096 < n
    · have : openS p = .inl 1 := by simp [openS, hs, hn]
      rw [this]
      exact (open_long h hp hs hn).mono fun e w' ⟨he, hb⟩ => ⟨hb, he⟩
    · by_cases hl : p.length < len + n + 4
      · have : openS p = .inl 3 := by simp [openS, hs, hn, hl]
        rw [this]
        exact (open_short h hp hs (by omega) hl).mono fun e w' ⟨he, hb⟩ => ⟨hb, he⟩
      · have : openS p = (if sumB (crc ((p.drop len).take n)) = (p.drop (len + n)).take 4 then .inr ((p.drop len).take n, len + n + 4) else .inl 12) := by simp only [openS, hs, if_neg hn, if_neg hl]
        rw [this]
        exact open_whole h hp hs (by omega) (by omega)

end Go.Proofs.Ythaflimgigppaaa
