/-
  The law's live.
  The law's live: the walk.
-/
import Derived.Test.YtgaklaajbepfaaaGreatDoorVAlike
import Derived.Test.YtgaklaajbepfaaaGreatDoorVProm
namespace Go.Proofs.YtgaklaajbepfaaaGreatDoor
open Go.RowKit Go.Maps Go.Shelf
set_option linter.unusedVariables false

def vn1 : Nd := ⟨2, 0, 0, 1, emptyS, 0, 0⟩
def vn2 : Nd := ⟨8, 0, 1, 0, emptyS, 1, 0⟩
def vn3 : Nd := ⟨9, 0, 1, 0, emptyS, 1, 0⟩
def lv1 : Pl := [(vn1, 1, 1)]
def lv2 : Pl := lv1 ++ [(vn2, 2, 2)]
def lv3 : Pl := lv2 ++ [(vn3, 2, 2)]
theorem lvm1 : mkP [] ⟨2, 0, 0, 1, emptyS, 0, 0⟩ = (1, 0, lv1) := by kernel_rfl
theorem lvm2 : mkP lv1 ⟨8, 0, 1, 0, emptyS, 1, 0⟩ = (2, 0, lv2) := by kernel_rfl
theorem lvm3 : mkP lv2 ⟨9, 0, 1, 0, emptyS, 1, 0⟩ = (3, 0, lv3) := by kernel_rfl
theorem lvn1 : numP lv3 vn1 = 1 := by kernel_rfl
theorem lvn2 : numP lv3 vn2 = 2 := by kernel_rfl
theorem lvn3 : numP lv3 vn3 = 3 := by kernel_rfl
theorem lvi1 : inP lv3 1 = true := by kernel_rfl
theorem lvi2 : inP lv3 2 = true := by kernel_rfl
theorem lvi3 : inP lv3 3 = true := by kernel_rfl
theorem lva1 : (atP lv3 1).1 = vn1 := by kernel_rfl
theorem lva2 : (atP lv3 2).1 = vn2 := by kernel_rfl
theorem lva3 : (atP lv3 3).1 = vn3 := by kernel_rfl
/-- In a pool a node has one number. -/
theorem node_is {q e p : Pl} (he : p = q ++ e) (h : Ok p) {u : Int} (hi : inP p u = true) {n : Nd} (hn : (atP p u).1 = n) (h0 : numP q n ≠ 0) : u = (numP q n : Int) := by
  obtain ⟨i, hi', hu, hat⟩ := atP_get hi
  have h1 := h.first i hi'
  obtain ⟨j, hj, h2, h3, _⟩ := numP_some h0
  have hj' : j < p.length := by rw [he]; simp; omega
  have h4 := h.first j hj'
  have h5 : (p[j]).1 = n := by
    have : p[j] = q[j] := by simp only [he]; exact List.getElem_append_left hj
    rw [this]; exact h3
  rw [hat] at hn
  rw [hn] at h1
  rw [h5] at h4
  omega
theorem lv_anew {f : Nd → Int} {e0 q p' : Pl} {T : Int} {m' : Int → Option Int} {t u : Int} {n : Nd} (hqe : q = lv3 ++ e0) (h : Anew f q T p' m') (ht : inP lv3 t = true) (hn : (atP lv3 t).1 = n) (ha : n.a = 1) (hb : n.b = 0) (hu : m' t = some u) (hf : f vn1 = 2) (h0 : numP lv3 (kdN (f n) n) ≠ 0) : u = (numP lv3 (kdN (f n) n) : Int) := by
  obtain ⟨e, he⟩ := h.ext
  have hpe : p' = lv3 ++ (e0 ++ e) := by rw [he, hqe, List.append_assoc]
  have hz : ∀ z, m' 0 = some z → z = 0 := fun z hz => Option.some.inj (hz.symm.trans h.zero)
  have hat : ∀ x, inP lv3 x = true → (atP q x).1 = (atP lv3 x).1 := fun x hx => by rw [hqe, atP_append hx]
  rcases h.at_ t u hu with ⟨e1, _⟩ | ⟨_, _, h3, ⟨x, y, h4, h5, h6⟩, _⟩
  · rw [e1, inP_zero] at ht; cases ht
  · rw [hat t ht, hn] at h4 h5 h6
    rw [ha] at h4
    rw [hb] at h5
    have hy := hz y h5
    rcases h.at_ 1 x h4 with ⟨e1, _⟩ | ⟨_, _, k3, ⟨x', y', k4, k5, k6⟩, _⟩
    · cases e1
    · rw [hat 1 lvi1, lva1] at k4 k5 k6
      have hx' := hz x' k4
      have hy' := hz y' k5
      have k7 : (atP p' x).1 = vn1 := by rw [k6, hx', hy', hf]; rfl
      have hx := node_is hpe h.ok k3 k7 (by rw [lvn1]; decide)
      rw [lvn1] at hx
      have h7 : (atP p' u).1 = kdN (f n) n := by
        rw [h6, hx, hy]
        cases n
        simp only at ha hb
        subst ha hb
        rfl
      exact node_is hpe h.ok h3 h7 h0
theorem lv_prom {q e0 : Pl} (hqe : q = lv3 ++ e0) (hq : Ok q) : (promL q 1 (subs q 2)).length = 1 := by
  have hat : ∀ x, inP lv3 x = true → (atP q x).1 = (atP lv3 x).1 := fun x hx => by rw [hqe, atP_append hx]
  have hi2 : inP q 2 = true := by rw [hqe]; exact inP_le lvi2 (by simp)
  have hnd : (promL q 1 (subs q 2)).Nodup := (over_nodup hq _ _ _ List.nodup_nil).filter _
  have hall : ∀ x ∈ promL q 1 (subs q 2), x = 2 := fun x hx => by
    obtain ⟨h1, h2⟩ := List.mem_filter.1 hx
    rcases over_new hq _ _ _ _ h1 with h | ⟨h3, h4⟩
    · cases h
    · have : 1 ≤ x := by unfold inP at h3; simp at h3; omega
      obtain rfl | rfl : x = 1 ∨ x = 2 := by omega
      · rw [hat 1 lvi1, lva1] at h2
        exact absurd h2 (by decide)
      · rfl
  have hmem : 2 ∈ promL q 1 (subs q 2) := List.mem_filter.2 ⟨subs_has hi2, by rw [hat 2 lvi2, lva2]; decide⟩
  generalize promL q 1 (subs q 2) = L at *
  match L, hnd, hall, hmem with
  | [], _, _, h => cases h
  | [x], _, _, _ => rfl
  | x :: y :: r, hnd, hall, _ =>
    have h1 := hall x (by simp)
    have h2 := hall y (by simp)
    rw [h1, h2] at hnd
    simp at hnd
theorem lv_alike {q e0 : Pl} (hqe : q = lv3 ++ e0) : AlikeP q 3 [2] [3] := by
  have hat : ∀ x, inP lv3 x = true → (atP q x).1 = (atP lv3 x).1 := fun x hx => by rw [hqe, atP_append hx]
  have hi : ∀ x, inP lv3 x = true → inP q x = true := fun x hx => by rw [hqe]; exact inP_le hx (by simp)
  refine ⟨by decide, fun x hx => ?_, fun x hx => ?_, rfl, fun a b => (a = 0 ∧ b = 0) ∨ (a = 1 ∧ b = 1) ∨ (a = 2 ∧ b = 3), ⟨?_, ?_, .inl ⟨rfl, rfl⟩, ?_⟩, ?_⟩
  · rw [List.mem_singleton.1 hx]; exact hi 2 lvi2
  · rw [List.mem_singleton.1 hx]; exact hi 3 lvi3
  · intro a b b' h1 h2; omega
  · intro a a' b h1 h2; omega
  · rintro a b (⟨rfl, rfl⟩ | ⟨rfl, rfl⟩ | ⟨rfl, rfl⟩)
    · exact .inl ⟨rfl, rfl⟩
    · rw [hat 1 lvi1, lva1]
      exact .inr ⟨hi 1 lvi1, hi 1 lvi1, by decide, .inl ⟨rfl, rfl⟩, .inl ⟨rfl, rfl⟩⟩
    · rw [hat 2 lvi2, lva2, hat 3 lvi3, lva3]
      exact .inr ⟨hi 2 lvi2, hi 3 lvi3, by decide, .inr (.inl ⟨rfl, rfl⟩), .inl ⟨rfl, rfl⟩⟩
  · intro i h1 h2
    obtain rfl : i = 0 := by simp at h1; omega
    exact .inr (.inr ⟨rfl, rfl⟩)
theorem lv_unlike {q e0 : Pl} (hqe : q = lv3 ++ e0) : ¬ AlikeP q 1 [2] [3] := by
  have hat : ∀ x, inP lv3 x = true → (atP q x).1 = (atP lv3 x).1 := fun x hx => by rw [hqe, atP_append hx]
  rintro ⟨_, _, _, _, R, hR, hp⟩
  have h23 := hp 0 (by simp) (by simp)
  simp only [List.getElem_cons_zero] at h23
  rcases hR.step 2 3 h23 with ⟨h, _⟩ | ⟨_, _, h, _⟩
  · cases h
  · rw [hat 2 lvi2, lva2, hat 3 lvi3, lva3] at h
    exact absurd h (by decide)
theorem rows2 (W : World) (x y : Int) : Row ((W.alloc (.cells #[.int .i64 x] TermT)).alloc (.cells #[.int .i64 y] TermT)) 1 (.slice (some ⟨W.heap.size, 0, none⟩) 1 1) [x].length (ints [x]) ∧ Row ((W.alloc (.cells #[.int .i64 x] TermT)).alloc (.cells #[.int .i64 y] TermT)) 1 (.slice (some ⟨W.heap.size + 1, 0, none⟩) 1 1) [y].length (ints [y]) ∧ Below W.heap.size W ((W.alloc (.cells #[.int .i64 x] TermT)).alloc (.cells #[.int .i64 y] TermT)) := by
  have s1 : (W.alloc (.cells #[.int .i64 x] TermT)).heap.size = W.heap.size + 1 := by simp [World.size_alloc]
  refine ⟨(row_alloc1 W x).below (bA0 _ _), ?_, bmore (bA0 _ _) (bA0 _ _)⟩
  have := row_alloc1 (W.alloc (.cells #[.int .i64 x] TermT)) y
  rwa [s1] at this
end Go.Proofs.YtgaklaajbepfaaaGreatDoor
namespace Go.Proofs.YtgaklaajbepfaaaGreatDoor
open Go.RowKit Go.Maps Go.Shelf
set_option linter.unusedVariables false

set_option maxRecDepth 100000 in
set_option maxHeartbeats 51200000 in
theorem live_any {w : World} (hl : Laid w) : Calls Tryz.prog 16 #[] w fun e w' => e = .returned (.bool true) ∧ Below w.heap.size w w' := by
  have HL := Lib.hid hl
  clear hl
  go_enter Tryz.func16, Tryz.ntmps16
  go_wp2_with fail
  refine (pnew _).mono ?_
  rintro e w1 ⟨rfl, p1, u1⟩
  have P2 := Lib.hid p1
  have U2 := Lib.hid u1
  clear p1 u1
  generalize w.heap.size + 1 = pa at *
  go_wp2_with fail
  refine (pNum P2.out (HL.out.below U2.out) 1 (by omega)).mono ?_
  intro e w3 hm
  obtain ⟨rfl, g1⟩ := make_at lvm1 hm
  obtain ⟨g1, _, v3, p3, _⟩ := g1
  have P3 := Lib.hid p3
  have U3 := Lib.hid (U2.out.trans g1)
  clear hm g1 p3 P2 U2
  go_wp2_with fail
  refine (pProm P3.out (HL.out.below U3.out) 0 1 1 ⟨(i64R_lit (by omega)), (i64R_lit (by omega)), (i64R_lit (by omega))⟩).mono ?_
  intro e w4 hm
  obtain ⟨rfl, g1⟩ := make_at lvm2 hm
  obtain ⟨g1, _, v4, p4, _⟩ := g1
  have P4 := Lib.hid p4
  have U4 := Lib.hid (U3.out.trans g1)
  clear hm g1 p4 P3 U3
  go_wp2_with fail
  refine (pFake P4.out (HL.out.below U4.out) 0 1 1 ⟨(i64R_lit (by omega)), (i64R_lit (by omega)), (i64R_lit (by omega))⟩).mono ?_
  intro e w5 hm
  obtain ⟨rfl, g1⟩ := make_at lvm3 hm
  obtain ⟨g1, _, v5, p5, _⟩ := g1
  have hq5 : ∃ q e0, q = lv3 ++ e0 ∧ q.length ≤ 3 ∧ IsPool w5 w.heap.size pa w.heap.size v5 q := ⟨lv3, [], by simp, by decide, p5⟩
  obtain ⟨q5, e5, hq5, hl5, p5'⟩ := hq5
  have P5 := Lib.hid p5'
  have U5 := Lib.hid (U4.out.trans g1)
  have HQ5 := Lib.hid hq5
  have HLN5 := Lib.hid hl5
  clear hm g1 p5 p5' P4 U4 hq5 hl5
  go_wp2_with fail
  refine (view_any (w0 := w) HL.out (Nat.le_refl _) U5.out P5.out 3 (t := 3) (by decide) (by rw [HQ5.out]; exact inP_le lvi3 (by simp)) (by have := HLN5.out; omega)).mono ?_
  rintro e w6 ⟨r6, v6, q6, m6, rfl, hp6, ha6, hu6, g6⟩
  have hr6 : r6 = 2 := by
    have h9 := lv_anew HQ5.out ha6 lvi3 lva3 rfl rfl hu6 (by decide) (by rw [show kdN (seeK 3 vn3) vn3 = vn2 from rfl, lvn2]; decide)
    rw [show kdN (seeK 3 vn3) vn3 = vn2 from rfl, lvn2] at h9
    exact h9
  subst hr6
  have hl6 := ha6.len
  obtain ⟨ex6, hx6⟩ := ha6.ext
  have P6 := Lib.hid hp6
  have U6 := Lib.hid (U5.out.trans g6.below)
  have HQ6 : Hid (q6 = lv3 ++ (e5 ++ ex6)) := Lib.hid (by rw [hx6, HQ5.out, List.append_assoc])
  have HLN6 : Hid (q6.length ≤ 6) := Lib.hid (by have := HLN5.out; omega)
  clear hp6 ha6 hu6 g6 hl6 hx6 P5 U5 HQ5 HLN5
  generalize e5 ++ ex6 = e6 at *
  go_wp2_with fail
  refine (view_any (w0 := w) HL.out (Nat.le_refl _) U6.out P6.out 1 (t := 3) (by decide) (by rw [HQ6.out]; exact inP_le lvi3 (by simp)) (by have := HLN6.out; omega)).mono ?_
  rintro e w7 ⟨r7, v7, q7, m7, rfl, hp7, ha7, hu7, g7⟩
  have hr7 : r7 = 3 := by
    have h9 := lv_anew HQ6.out ha7 lvi3 lva3 rfl rfl hu7 (by decide) (by rw [show kdN (seeK 1 vn3) vn3 = vn3 from rfl, lvn3]; decide)
    rw [show kdN (seeK 1 vn3) vn3 = vn3 from rfl, lvn3] at h9
    exact h9
  subst hr7
  have hl7 := ha7.len
  obtain ⟨ex7, hx7⟩ := ha7.ext
  have P7 := Lib.hid hp7
  have U7 := Lib.hid (U6.out.trans g7.below)
  have HQ7 : Hid (q7 = lv3 ++ (e6 ++ ex7)) := Lib.hid (by rw [hx7, HQ6.out, List.append_assoc])
  have HLN7 : Hid (q7.length ≤ 9) := Lib.hid (by have := HLN6.out; omega)
  clear hp7 ha7 hu7 g7 hl7 hx7 P6 U6 HQ6 HLN6
  generalize e6 ++ ex7 = e7 at *
  go_wp2_with fail
  refine (swap_any (w0 := w) HL.out (Nat.le_refl _) U7.out P7.out 1 (t := 2) (by decide) (by rw [HQ7.out]; exact inP_le lvi2 (by simp)) (by have := HLN7.out; omega)).mono ?_
  rintro e w8 ⟨r8, v8, q8, m8, rfl, hp8, ha8, hu8, g8⟩
  have hr8 : r8 = 3 := by
    have h9 := lv_anew HQ7.out ha8 lvi2 lva2 rfl rfl hu8 (by decide) (by rw [show kdN (makeK 1 vn2) vn2 = vn3 from rfl, lvn3]; decide)
    rw [show kdN (makeK 1 vn2) vn2 = vn3 from rfl, lvn3] at h9
    exact h9
  subst hr8
  have hl8 := ha8.len
  obtain ⟨ex8, hx8⟩ := ha8.ext
  have P8 := Lib.hid hp8
  have U8 := Lib.hid (U7.out.trans g8.below)
  have HQ8 : Hid (q8 = lv3 ++ (e7 ++ ex8)) := Lib.hid (by rw [hx8, HQ7.out, List.append_assoc])
  have HLN8 : Hid (q8.length ≤ 12) := Lib.hid (by have := HLN7.out; omega)
  clear hp8 ha8 hu8 g8 hl8 hx8 P7 U7 HQ7 HLN7
  generalize e7 ++ ex8 = e8 at *
  have h50 : rfsP q8 16 [3] = 50 := by unfold rfsP; rw [if_pos (by decide)]
  have VB := Lib.hid (view_bad P8.out 16 3 (by rw [h50]; decide))
  rw [h50] at VB
  clear h50
  go_wp2_with fail
  refine VB.out.mono ?_
  rintro e w9 ⟨rfl, u9⟩
  have P9 := Lib.hid (P8.out.below u9)
  have U9 := Lib.hid (bmore U8.out u9)
  clear u9 VB
  have PR := Lib.hid (Promises_any P9.out 1 2)
  have hpl := lv_prom HQ8.out P9.out.ok
  rw [hpl] at PR
  clear hpl
  go_wp2_with fail
  refine PR.out.mono ?_
  rintro e w10 ⟨lv, rfl, hrow, u10⟩
  obtain ⟨la, lc, rfl⟩ : ∃ a c, lv = .slice a 1 c := by
    rcases hrow.2 with ⟨_, h⟩ | ⟨g, cap, cur, rfl, _⟩
    · cases h
    · exact ⟨_, _, rfl⟩
  have P10 := Lib.hid (P9.out.below u10)
  have U10 := Lib.hid (bmore U9.out u10)
  clear hrow u10 PR
  have NU := Lib.hid (fun (n : Int) (W : World) => num_any n W)
  go_wp2_with ((with_reducible refine (NU.out _ _).mono ?_); rintro e wn ⟨rfl, rfl⟩)
  have hat2 : (atP q8 2).1 = vn2 := by rw [HQ8.out, atP_append lvi2, lva2]
  have T2 := Lib.hid (Tells_any P10.out 2 2)
  rw [hat2, show tellB 2 vn2 = true from by decide] at T2
  refine T2.out.mono ?_
  rintro e w11 ⟨rfl, u11⟩
  have P11 := Lib.hid (P10.out.below u11)
  have U11 := Lib.hid (bmore U10.out u11)
  clear u11 T2
  have T3 := Lib.hid (Tells_any P11.out 3 2)
  rw [hat2, show tellB 3 vn2 = false from by decide] at T3
  clear hat2
  go_wp2_with fail
  refine T3.out.mono ?_
  rintro e w12 ⟨rfl, u12⟩
  obtain ⟨r1, r2, b1⟩ := rows2 w12 2 3
  have P13 := Lib.hid ((P11.out.below u12).below b1)
  have U13 := Lib.hid (bmore (bmore U11.out u12) b1)
  have AL := Lib.hid (Alike_any P13.out 3 r1 r2 (by decide) (by decide))
  clear u12 r1 r2 b1 T3
  go_wp2_with fail
  refine AL.out.mono ?_
  rintro e w14 ⟨r, rfl, hr, u14⟩
  have hr1 : r = true := hr.2 (lv_alike HQ8.out)
  subst hr1
  obtain ⟨r1, r2, b1⟩ := rows2 w14 2 3
  have P15 := Lib.hid ((P13.out.below u14).below b1)
  have U15 := Lib.hid (bmore (bmore U13.out u14) b1)
  have AL2 := Lib.hid (Alike_any P15.out 1 r1 r2 (by decide) (by decide))
  clear u14 r1 r2 b1 AL hr
  go_wp2_with fail
  refine AL2.out.mono ?_
  rintro e w16 ⟨r, rfl, hr, u16⟩
  have hr1 : r = false := by
    cases r with
    | false => rfl
    | true => exact absurd (hr.1 rfl) (lv_unlike HQ8.out)
  subst hr1
  have HF := Lib.hid (bmore U15.out u16)
  clear u16 AL2 hr
  go_wp2_with fail
  go_returns
  exact ⟨rfl, HF.out⟩
end Go.Proofs.YtgaklaajbepfaaaGreatDoor
