/-
  What the document's own Open does.
-/
import Derived.Test.YtoeaaddkeefgoaaRefOpen
import Derived.Test.YtoeaaddkeefgoaaLexN
namespace Go.Proofs.Ytoeaaddkeefgoaa
open Go.RowKit

set_option maxRecDepth 20000 in
set_option maxHeartbeats 1600000 in
theorem refOpen_whole {w : World} {v : Value} {p : List UInt8} (h : Rd 0 w v p) (hp : p.length ≤ 1099511627776) {n len : Nat} (hs : numS p = .inr (n, len)) (hn : n ≤ 4096) (hl : len + n + 4 ≤ p.length) :
    Calls Try.prog 9 #[v] w (OpenPost w (if sumB (crc ((p.drop len).take n)) = (p.drop (len + n)).take 4 then .inr ((p.drop len).take n, len + n + 4) else .inl 12)) := by
  have hle := (numS_lt hs).2.1
  have hs' := Lib.hid hs
  obtain ⟨res, hres⟩ : ∃ r : Nat ⊕ (List UInt8 × Nat), r = (if sumB (crc ((p.drop len).take n)) = (p.drop (len + n)).take 4 then .inr ((p.drop len).take n, len + n + 4) else .inl 12) := ⟨_, rfl⟩
  rw [← hres]
  have HR := Lib.hid hres
  clear hs hres
  go_enter Try.func9, Try.ntmps9
  go_wp2_with fail
  refine (refNew_any h hp).mono ?_
  rintro e w1 ⟨a, rfl, hsz, ⟨v1, hr⟩, hb1⟩
  go_wp2_with fail
  refine (refNum_any hr).mono ?_
  rintro e w2 ⟨hg, hx⟩
  rw [List.drop_zero, hs'.out] at hx
  obtain ⟨rfl, q, hr2⟩ := hx
  rw [Nat.zero_add] at hr2
  have hb2 : Below w.heap.size w w2 := hb1.grown hg hb1.size fun k hk => by simp at hk; omega
  clear hg hb1
  have c2 := hr2.c2
  have c1 := hr2.c1
  have hL := Lib.hid (refLeft_any hr2)
  obtain ⟨x1, hx1, _, hcut1⟩ := rd_cut hr2.rd len (len + n) (by omega) (by omega)
  obtain ⟨x2, hx2, _, hcut2⟩ := rd_from hr2.rd (len + n) (by omega)
  rw [show len + n - len = n by omega] at hx1
  simp only [Int.natCast_add] at hcut1 hcut2
  have c0 := hr2.c0
  have hwr : IntKind.i64.wrap ((len : Int) + (n : Int) + 4) = (len : Int) + (n : Int) + 4 := IntWalk.i64_in _ (by omega)
  have hsum : ∀ m, Calls Try.prog 14 #[x1] (w2.drewN m) fun e w' => e = .returned (r32 (crc ((p.drop len).take n))) ∧ w' = w2.drewN m := fun m =>
    (refSum_any (hx1.keep (below_drewN (Below.refl w2.heap.size w2) m)) (by rw [List.length_take]; omega)).mono fun _ _ ⟨h1, h2⟩ => ⟨h1, h2.symm⟩
  obtain ⟨y0, y1, y2, y3, hq⟩ := four_of (l := (p.drop (len + n)).take 4) (by rw [List.length_take, List.length_drop]; omega)
  have hdl : (p.drop (len + n)).length = p.length - (len + n) := List.length_drop
  rcases hx2 with ⟨_, hbad⟩ | ⟨b2, off2, cap2, rfl, g1, g2, g3, g4, g5⟩
  · rw [hbad] at hq; simp at hq
  have hy : ∀ i y, i < 4 → [y0, y1, y2, y3][i]? = some y → w2.cell? ⟨b2, off2 + i, none⟩ = some (.int .u8 (y.toNat : Int)) := by
    intro i y hi hy
    rw [← hq, List.getElem?_take_of_lt hi] at hy
    rw [g5 i (by omega), List.getD_eq_getElem?_getD, hy]
    rfl
  have d0 : w2.cell? ⟨b2, off2, none⟩ = some (.int .u8 (y0.toNat : Int)) := hy 0 y0 (by omega) rfl
  have d1 : w2.cell? ⟨b2, off2 + 1, none⟩ = some (.int .u8 (y1.toNat : Int)) := hy 1 y1 (by omega) rfl
  have d2 : w2.cell? ⟨b2, off2 + 2, none⟩ = some (.int .u8 (y2.toNat : Int)) := hy 2 y2 (by omega) rfl
  have d3 : w2.cell? ⟨b2, off2 + 3, none⟩ = some (.int .u8 (y3.toNat : Int)) := hy 3 y3 (by omega) rfl
  rw [hdl] at hcut2 g3
  have hL4 : 4 ≤ p.length - (len + n) := by omega
  clear g5 hy
  clear hdl
  generalize p.length - (len + n) = L at *
  have i0 : (0 : Int) < (L : Int) := by omega
  have i1 : (1 : Int) < (L : Int) := by omega
  have i2 : (2 : Int) < (L : Int) := by omega
  have i3 : (3 : Int) < (L : Int) := by omega
  generalize hll : (p.drop len).take n = ll at *
  have HQ := Lib.hid (And.intro hq hll)
  clear hq hll
  have HS := Lib.hid hsum
  clear hsum
  unfold r32 at HS
  generalize hcr : crc ll = r at *
  go_wp2_with fail
  refine hL.out.mono ?_
  rintro e w3 ⟨rfl, m, rfl⟩
  go_wp2_with fail
  go_quiet (fail)
  go_wp2_with fail
  go_quiet (fail)
  go_wp2_with fail
  go_quiet ((go_at_call 14; exact (HS.out _).mono fun _ _ ⟨h1, h2⟩ => ⟨h1, _, h2⟩))
  by_cases hsb : sumB r = [y0, y1, y2, y3]
  · have hb : (bits BinOp.or IntKind.u32 (bits BinOp.or IntKind.u32 (bits BinOp.or IntKind.u32 ((y0.toNat : Int) % 4294967296) ((y1.toNat : Int) % 4294967296 * 256 % 4294967296)) ((y2.toNat : Int) % 4294967296 * 65536 % 4294967296)) ((y3.toNat : Int) % 4294967296 * 16777216 % 4294967296) == (r.toNat : Int)) = true := by rw [four_u32]; simpa using four_eq.2 hsb
    have Hsb := Lib.hid hsb
    clear hsb
    go_wp2_with fail
    rename_i q1 q2 hz KK aa
    have hd4 := below_drewN (below_drewN (below_drewN (below_drewN (Below.refl w2.heap.size w2) m) q1) q2) nq
    have hb4 := below_drewN (below_drewN (below_drewN (below_drewN hb2 m) q1) q2) nq
    generalize (((w2.drewN m).drewN q1).drewN q2).drewN nq = W0 at *
    have k1 := cell_later hd4 c1
    have hx4 := hx1.keep hd4
    have hsz4 := hd4.size
    clear c0 c1 c2 d0 d1 d2 d3
    refine lex_start [1, 3, 4, 5, 6, 7, 8, 9, 10, 0, 2, 11, 12, 13] (S := fun W => Stay W0 W) (by kernel_rfl) (Stay.here _) (fun hS => ?_)
    simp only [inOrder, List.filterMap, List.getElem?_cons_succ, List.getElem?_cons_zero]
    refine lex_take (i := 1) (v := ?_) rfl (by kernel_rfl) (by kernel_rfl) (by kernel_rfl) (by rfl) hS ?_ ?_
    rotate_left
    · ((intro W hW; go_simp) <;> with_reducible rfl)
    try simp only [Act.put, List.setIfInBounds_toArray, List.set_cons_zero, List.set_cons_succ]
    refine lex_take (i := 3) (v := ?_) rfl (by kernel_rfl) (by kernel_rfl) (by kernel_rfl) (by rfl) hS ?_ ?_
    rotate_left
    · ((intro W hW; go_simp) <;> with_reducible rfl)
    try simp only [Act.put, List.setIfInBounds_toArray, List.set_cons_zero, List.set_cons_succ]
    refine lex_take (i := 4) (v := ?_) rfl (by kernel_rfl) (by kernel_rfl) (by kernel_rfl) (by rfl) hS ?_ ?_
    rotate_left
    · ((intro W hW; go_simp) <;> with_reducible rfl)
    try simp only [Act.put, List.setIfInBounds_toArray, List.set_cons_zero, List.set_cons_succ]
    refine lex_take (i := 5) (v := ?_) rfl (by kernel_rfl) (by kernel_rfl) (by kernel_rfl) (by rfl) hS ?_ ?_
    rotate_left
    · ((intro W hW; go_simp) <;> with_reducible rfl)
    try simp only [Act.put, List.setIfInBounds_toArray, List.set_cons_zero, List.set_cons_succ]
    refine lex_take (i := 6) (v := ?_) rfl (by kernel_rfl) (by kernel_rfl) (by kernel_rfl) (by rfl) hS ?_ ?_
    rotate_left
    · ((intro W hW; have kk := cell_later hW k1; go_simp) <;> with_reducible rfl)
    try simp only [Act.put, List.setIfInBounds_toArray, List.set_cons_zero, List.set_cons_succ]
    refine lex_take (i := 7) (v := ?_) rfl (by kernel_rfl) (by kernel_rfl) (by kernel_rfl) (by rfl) hS ?_ ?_
    rotate_left
    · ((intro W hW; go_simp) <;> with_reducible rfl)
    try simp only [Act.put, List.setIfInBounds_toArray, List.set_cons_zero, List.set_cons_succ]
    refine lex_take (i := 8) (v := ?_) rfl (by kernel_rfl) (by kernel_rfl) (by kernel_rfl) (by rfl) hS ?_ ?_
    rotate_left
    · ((intro W hW; go_simp) <;> with_reducible rfl)
    try simp only [Act.put, List.setIfInBounds_toArray, List.set_cons_zero, List.set_cons_succ]
    refine lex_take (i := 9) (v := ?_) rfl (by kernel_rfl) (by kernel_rfl) (by kernel_rfl) (by rfl) hS ?_ ?_
    rotate_left
    · ((intro W hW; go_simp) <;> with_reducible rfl)
    try simp only [Act.put, List.setIfInBounds_toArray, List.set_cons_zero, List.set_cons_succ]
    refine lex_take (i := 10) (v := ?_) rfl (by kernel_rfl) (by kernel_rfl) (by kernel_rfl) (by rfl) hS ?_ ?_
    rotate_left
    · ((intro W hW; go_simp) <;> with_reducible rfl)
    try simp only [Act.put, List.setIfInBounds_toArray, List.set_cons_zero, List.set_cons_succ]
    refine lex_do (i := 0) rfl (by kernel_rfl) (by rfl) (fun K hK => ?_)
    go_simp
    have hzz := hb4.size
    have ho0 := (own_made (B := w.heap.size) W0 hzz).keep (Below.refl _ _).drew
    have hbA : Below W0.heap.size W0 (W0.alloc (.cells #[] 5)).drew := ((Below.refl W0.heap.size W0).alloc (Nat.le_refl _) _).drew
    have hw1 : IntKind.i64.wrap (n : Int) = (n : Int) := IntWalk.i64_in _ (by omega)
    have hw2 : IntKind.i64.wrap ((len : Int) + (n : Int)) = (len : Int) + (n : Int) := IntWalk.i64_in _ (by omega)
    refine hK _ _ ⟨hbA, ?_⟩
    clear hK K
    try simp only [Act.put, List.setIfInBounds_toArray, List.set_cons_zero, List.set_cons_succ]
    have hxA := hx4.keep hbA
    have hszA := hbA.size
    have hll : ll.length ≤ 4096 := by rw [← HQ.out.2, List.length_take]; omega
    refine lex_do (i := 2) rfl (by kernel_rfl) (by rfl) (fun K hK => ?_)
    refine wp_append_rd _ _ rfl w.heap.size (.slice (some ⟨W0.heap.size, 0, none⟩) 0 0) [] rfl ho0 x1 ll rfl hxA (by simp; omega) (by omega) ?_
    intro v5 w5 ho5 hg5
    have hb5 : Below W0.heap.size W0 w5 := hbA.grown hg5 hszA (fun k hk => by simp [Value.ownBlock] at hk; omega)
    refine hK _ _ ⟨hb5, ?_⟩
    clear hK K
    try simp only [Act.put, List.setIfInBounds_toArray, List.set_cons_zero, List.set_cons_succ]
    rw [List.nil_append] at ho5
    refine lex_take (i := 11) (v := ?_) rfl (by kernel_rfl) (by kernel_rfl) (by kernel_rfl) (by rfl) hb5 ?_ ?_
    rotate_left
    · ((intro W hW; go_simp) <;> with_reducible rfl)
    try simp only [Act.put, List.setIfInBounds_toArray, List.set_cons_zero, List.set_cons_succ]
    refine lex_take (i := 12) (v := ?_) rfl (by kernel_rfl) (by kernel_rfl) (by kernel_rfl) (by rfl) hb5 ?_ ?_
    rotate_left
    · ((intro W hW; go_simp) <;> with_reducible rfl)
    try simp only [Act.put, List.setIfInBounds_toArray, List.set_cons_zero, List.set_cons_succ]
    refine lex_take (i := 13) (v := ?_) rfl (by kernel_rfl) (by kernel_rfl) (by kernel_rfl) (by rfl) hb5 ?_ ?_
    rotate_left
    · ((intro W hW; go_simp) <;> with_reducible rfl)
    try simp only [Act.put, List.setIfInBounds_toArray, List.set_cons_zero, List.set_cons_succ]
    refine lex_done (by kernel_rfl) ?_
    go_wp2_with fail
    go_ret3
    subst hcr
    exact OpenPost.good HR.out HQ.out.1 rfl Hsb.out (hb4.trans (hb5.mono hzz)) (by omega) ho5
  · have hb : (bits BinOp.or IntKind.u32 (bits BinOp.or IntKind.u32 (bits BinOp.or IntKind.u32 ((y0.toNat : Int) % 4294967296) ((y1.toNat : Int) % 4294967296 * 256 % 4294967296)) ((y2.toNat : Int) % 4294967296 * 65536 % 4294967296)) ((y3.toNat : Int) % 4294967296 * 16777216 % 4294967296) == (r.toNat : Int)) = false := by rw [four_u32]; simpa using fun h => hsb (four_eq.1 h)
    have Hsb := Lib.hid hsb
    clear hsb
    go_wp2_with fail
    all_goals go_ret3
    all_goals subst hcr
    all_goals exact OpenPost.wrong HR.out HQ.out.1 rfl Hsb.out (below_drewN (below_drewN (below_drewN (below_drewN hb2 _) _) _) _)

/-- What the document's own Open answers: at every list of bytes. -/
theorem refOpen_any {w : World} {v : Value} {p : List UInt8} (h : Rd 0 w v p) (hp : p.length ≤ 1099511627776) :
    Calls Try.prog 9 #[v] w (OpenPost w (openS p)) := by
  cases hs : numS p with
  | inl er =>
    have : openS p = .inl er := by simp [openS, hs]
    rw [this]
    exact (refOpen_form h hp hs).mono fun e w' ⟨he, hb⟩ => ⟨hb, he⟩
  | inr x =>
    obtain ⟨n, len⟩ := x
    by_cases hn : 4096 < n
    · have : openS p = .inl 1 := by simp [openS, hs, hn]
      rw [this]
      exact (refOpen_long h hp hs hn).mono fun e w' ⟨he, hb⟩ => ⟨hb, he⟩
    · by_cases hl : p.length < len + n + 4
      · have : openS p = .inl 3 := by simp [openS, hs, hn, hl]
        rw [this]
        exact (refOpen_short h hp hs (by omega) hl).mono fun e w' ⟨he, hb⟩ => ⟨hb, he⟩
      · have : openS p = (if sumB (crc ((p.drop len).take n)) = (p.drop (len + n)).take 4 then .inr ((p.drop len).take n, len + n + 4) else .inl 12) := by simp only [openS, hs, if_neg hn, if_neg hl]
        rw [this]
        exact refOpen_whole h hp hs (by omega) (by omega)

end Go.Proofs.Ytoeaaddkeefgoaa
