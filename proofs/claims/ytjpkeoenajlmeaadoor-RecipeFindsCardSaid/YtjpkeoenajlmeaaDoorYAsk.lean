/-
  The law's live.
  What the laws ask first: are the lists long, or the trees large? A list of operations, laid anew.
  An append of operations, in a walk.
-/
import Derived.Test.YtjpkeoenajlmeaaDoorYFol
import Derived.Test.YtjpkeoenajlmeaaDoorTParts
import Derived.Laws.AppendOwnNone
namespace Go.Proofs.YtjpkeoenajlmeaaDoor
open Go.RowKit Go.Maps
set_option linter.unusedVariables false

def lfo : Fo := .cons ⟨7, 0, 0, 0, emptyS, 0, 0⟩ (.cons ⟨2, 0, 0, 1, emptyS, 0, 0⟩ .nil .nil) (.cons ⟨6, 0, 0, 0, emptyS, 0, 0⟩ .nil .nil)
def lq3 : Pl := [(⟨2, 0, 0, 1, emptyS, 0, 0⟩, 1, 1), (⟨7, 0, 0, 0, emptyS, 1, 0⟩, 2, 2), (⟨6, 0, 0, 0, emptyS, 0, 0⟩, 1, 1)]
def lq5 : Pl := lq3 ++ [(⟨5, 0, 0, 0, emptyS, 1, 0⟩, 2, 2), (⟨7, 0, 0, 0, emptyS, 4, 0⟩, 3, 3)]
def lops5 : List OpP := [⟨0, 0, 0, 0, emptyS⟩, ⟨8, 0, 0, 0, emptyS⟩, ⟨5, 1, 0, 0, emptyS⟩, ⟨0, 1, 0, 0, emptyS⟩, ⟨9, 2, 3, 0, emptyS⟩]
def lops2 : List OpP := [⟨0, 0, 0, 0, emptyS⟩, ⟨6, 0, 0, 0, emptyS⟩]
theorem lgiv : givP lfo [] [] = (lq3, [2, 3]) := by kernel_rfl
theorem lfol5 : folP lq3 [2, 3] lops5 = ([2, 1, 4, 3, 5], 0, lq5) := by kernel_rfl
theorem lfol2 : folP lq5 [2, 3] lops2 = ([2], 90, lq5) := by kernel_rfl
theorem levl5 : evlP ([2, 1, 4, 3, 5], 0, lq5) = (5, 0, 0) := by kernel_rfl
theorem levl2 : evlP ([2], 90, lq5) = (0, 90, 1) := by kernel_rfl
theorem lat5 : (atP lq5 5).1 = ⟨7, 0, 0, 0, emptyS, 4, 0⟩ := by kernel_rfl
theorem lin5 : inP lq5 5 = true := by kernel_rfl
theorem lops_ok {l : List OpP} (h : l = lops5 ∨ l = lops2) : ∀ o ∈ l, OpOk o := by
  have ok : ∀ a b c : Int, (0 ≤ a ∧ a ≤ 20) → (0 ≤ b ∧ b ≤ 20) → (0 ≤ c ∧ c ≤ 20) → OpOk ⟨a, b, c, 0, emptyS⟩ := fun a b c h1 h2 h3 => ⟨by unfold i64R; simp only; omega, by unfold i64R; simp only; omega, by unfold i64R; simp only; omega, by simp, emptyS_le⟩
  intro o ho
  rcases h with rfl | rfl
  · simp only [lops5, List.mem_cons, List.mem_nil_iff, or_false] at ho
    rcases ho with rfl | rfl | rfl | rfl | rfl <;> exact ok _ _ _ (by omega) (by omega) (by omega)
  · simp only [lops2, List.mem_cons, List.mem_nil_iff, or_false] at ho
    rcases ho with rfl | rfl <;> exact ok _ _ _ (by omega) (by omega) (by omega)
theorem row_ops5 (w : World) (B : Nat) (hB : B ≤ w.heap.size) : (w.alloc (.cells #[.int .i64 0, .int .i64 0, .int .i64 0, .int .u64 0, .string ⟨#[]⟩, .int .i64 8, .int .i64 0, .int .i64 0, .int .u64 0, .string ⟨#[]⟩, .int .i64 5, .int .i64 1, .int .i64 0, .int .u64 0, .string ⟨#[]⟩, .int .i64 0, .int .i64 1, .int .i64 0, .int .u64 0, .string ⟨#[]⟩, .int .i64 9, .int .i64 2, .int .i64 3, .int .u64 0, .string ⟨#[]⟩] OpT)).ownsRow B OpT 5 (.slice (some ⟨w.heap.size, 0, none⟩) 5 5) lops5.length (opsV lops5) :=
  ⟨rfl, .inr ⟨w.heap.size, 5, #[.int .i64 0, .int .i64 0, .int .i64 0, .int .u64 0, .string ⟨#[]⟩, .int .i64 8, .int .i64 0, .int .i64 0, .int .u64 0, .string ⟨#[]⟩, .int .i64 5, .int .i64 1, .int .i64 0, .int .u64 0, .string ⟨#[]⟩, .int .i64 0, .int .i64 1, .int .i64 0, .int .u64 0, .string ⟨#[]⟩, .int .i64 9, .int .i64 2, .int .i64 3, .int .u64 0, .string ⟨#[]⟩], rfl, hB, heap_alloc_new _ _, Nat.le_refl _, by unfold maxLen; omega, rfl, rfl⟩⟩
theorem row_ops2 (w : World) (B : Nat) (hB : B ≤ w.heap.size) : (w.alloc (.cells #[.int .i64 0, .int .i64 0, .int .i64 0, .int .u64 0, .string ⟨#[]⟩, .int .i64 6, .int .i64 0, .int .i64 0, .int .u64 0, .string ⟨#[]⟩] OpT)).ownsRow B OpT 5 (.slice (some ⟨w.heap.size, 0, none⟩) 2 2) lops2.length (opsV lops2) :=
  ⟨rfl, .inr ⟨w.heap.size, 2, #[.int .i64 0, .int .i64 0, .int .i64 0, .int .u64 0, .string ⟨#[]⟩, .int .i64 6, .int .i64 0, .int .i64 0, .int .u64 0, .string ⟨#[]⟩], rfl, hB, heap_alloc_new _ _, Nat.le_refl _, by unfold maxLen; omega, rfl, rfl⟩⟩
theorem lfo_ok : OkF lfo := by
  have ok : ∀ k u : Int, (0 ≤ k ∧ k ≤ 20) → (0 ≤ u ∧ u ≤ 20) → NdOk ⟨k, 0, 0, u, emptyS, 0, 0⟩ := fun k u h1 h2 => ⟨by unfold i64R; simp only; omega, by unfold i64R; simp, by unfold i64R; simp, by simp only; omega, emptyS_le, by unfold i64R; simp, by unfold i64R; simp⟩
  exact ⟨ok _ _ (by omega) (by omega), rfl, rfl, ⟨ok _ _ (by omega) (by omega), rfl, rfl, trivial, trivial⟩, ok _ _ (by omega) (by omega), rfl, rfl, trivial, trivial⟩
set_option maxRecDepth 100000 in
set_option maxHeartbeats 6400000 in
theorem live9_any {w : World} (hl : Laid w) : Calls Tryd.prog 18 #[] w fun e w' => e = .returned (.bool true) ∧ Below w.heap.size w w' := by
  obtain ⟨b2, hx, hy⟩ := two_boxes w (.cells #[.int .i64 2, .int .i64 0, .int .i64 0, .int .u64 1, .string ⟨#[]⟩, .slice none 0 0] TrT) (.cells #[.int .i64 7, .int .i64 0, .int .i64 0, .int .u64 0, .string ⟨#[]⟩, .slice (some ⟨w.heap.size, 0, none⟩) 1 1, .int .i64 6, .int .i64 0, .int .i64 0, .int .u64 0, .string ⟨#[]⟩, .slice none 0 0] TrT)
  have hsz : ((w.alloc (.cells #[.int .i64 2, .int .i64 0, .int .i64 0, .int .u64 1, .string ⟨#[]⟩, .slice none 0 0] TrT)).alloc (.cells #[.int .i64 7, .int .i64 0, .int .i64 0, .int .u64 0, .string ⟨#[]⟩, .slice (some ⟨w.heap.size, 0, none⟩) 1 1, .int .i64 6, .int .i64 0, .int .i64 0, .int .u64 0, .string ⟨#[]⟩, .slice none 0 0] TrT)).heap.size = w.heap.size + 2 := by simp
  have HL := Lib.hid hl
  have HX := Lib.hid hx
  have HY := Lib.hid hy
  have HA := Lib.hid b2
  have HSZ := Lib.hid hsz
  clear hl hx hy b2 hsz
  go_enter Tryd.func18, Tryd.ntmps18
  go_wp2_with fail
  generalize ((w.alloc (.cells #[.int .i64 2, .int .i64 0, .int .i64 0, .int .u64 1, .string ⟨#[]⟩, .slice none 0 0] TrT)).alloc (.cells #[.int .i64 7, .int .i64 0, .int .i64 0, .int .u64 0, .string ⟨#[]⟩, .slice (some ⟨w.heap.size, 0, none⟩) 1 1, .int .i64 6, .int .i64 0, .int .i64 0, .int .u64 0, .string ⟨#[]⟩, .slice none 0 0] TrT)) = w1 at *
  have hk : IsK w1 (fun b => b < w1.heap.size) (.slice (some ⟨w.heap.size + 1, 0, none⟩) 2 2) lfo :=
    ⟨_, _, rfl, by decide, by decide, fun _ => ⟨w.heap.size + 1, 0, rfl, by rw [HSZ.out]; omega,
      AtF.mk (v := .slice (some ⟨w.heap.size, 0, none⟩) 1 1) (cellB (j := 0) HY.out rfl) (cellB (j := 1) HY.out rfl) (cellB (j := 2) HY.out rfl) (cellB (j := 3) HY.out rfl) (cellB (j := 4) HY.out rfl) (cellB (j := 5) HY.out rfl)
        ⟨_, _, rfl, by decide, by decide, fun _ => ⟨w.heap.size, 0, rfl, by rw [HSZ.out]; omega, AtF.mk (v := .slice none 0 0) (cellB (j := 0) HX.out rfl) (cellB (j := 1) HX.out rfl) (cellB (j := 2) HX.out rfl) (cellB (j := 3) HX.out rfl) (cellB (j := 4) HX.out rfl) (cellB (j := 5) HX.out rfl) (IsK.nils _ _ _ _ (by decide)) trivial⟩⟩
        (AtF.mk (v := .slice none 0 0) (cellB (j := 6) HY.out rfl) (cellB (j := 7) HY.out rfl) (cellB (j := 8) HY.out rfl) (cellB (j := 9) HY.out rfl) (cellB (j := 10) HY.out rfl) (cellB (j := 11) HY.out rfl) (IsK.nils _ _ _ _ (by decide)) trivial)⟩⟩
  refine (lgiven_any (HL.out.below HA.out) hk lfo_ok (by decide) (by decide)).mono ?_
  rintro e w2 ⟨sb, pa, b, vv, k, mb, gv, s, ra, rl, rs, rd, gvl, q, gl, rfl, sd, _, _, u2, hgp⟩
  rw [lgiv] at hgp
  obtain ⟨rfl, rfl⟩ := Prod.mk.inj hgp
  have SD := Lib.hid sd
  have U2 := Lib.hid (bmore HA.out u2)
  have V2 := Lib.hid u2
  have HBS := Lib.hid (HL.out.below HA.out).lt
  have HLE := Lib.hid (show w.heap.size ≤ w1.heap.size by rw [HSZ.out]; omega)
  have HW2 := Lib.hid u2.size
  have x0 := cellB (j := 0) sd.lay rfl
  have x1 := cellB (j := 1) sd.lay rfl
  clear sd u2 hgp hk HX HY HSZ
  have HKP := Lib.hid (fun (V : World) (hb : Below w2.heap.size w2 V) => (show V.cell? ⟨sb, 0, none⟩ = some (.pointer (some ⟨pa, 0, none⟩)) ∧ V.cell? ⟨sb, 1, none⟩ = some (.pointer (some ⟨k, 0, none⟩)) from ⟨bcellAt hb x0, bcellAt hb x1⟩))
  have HKQ := Lib.hid (fun (V : World) (hs : V.heap[sb]? = some (Obj.cells #[.pointer (some ⟨pa, 0, none⟩), .pointer (some ⟨k, 0, none⟩), .pointer (some ⟨ra, 0, none⟩), gvl] SidesT)) => (show V.cell? ⟨sb, 0, none⟩ = some (.pointer (some ⟨pa, 0, none⟩)) ∧ V.cell? ⟨sb, 1, none⟩ = some (.pointer (some ⟨k, 0, none⟩)) from ⟨cellB (j := 0) hs rfl, cellB (j := 1) hs rfl⟩))
  go_wp2_with fail
  have hb5 : Below w2.heap.size w2 (w2.alloc (.cells #[.int .i64 0, .int .i64 0, .int .i64 0, .int .u64 0, .string ⟨#[]⟩, .int .i64 8, .int .i64 0, .int .i64 0, .int .u64 0, .string ⟨#[]⟩, .int .i64 5, .int .i64 1, .int .i64 0, .int .u64 0, .string ⟨#[]⟩, .int .i64 0, .int .i64 1, .int .i64 0, .int .u64 0, .string ⟨#[]⟩, .int .i64 9, .int .i64 2, .int .i64 3, .int .u64 0, .string ⟨#[]⟩] OpT)).drew := bmore (bZ _ _) (bd _)
  have EV := Lib.hid (eval_any HBS.out (SD.out.pool.below hb5) ((HL.out.below U2.out).below hb5) (SD.out.know.below hb5) SD.out.mbb (own_hold (row_ops5 w2 0 (Nat.zero_le _)) (Hold.below (bd _))) (lops_ok (.inl rfl)))
  rw [lfol5] at EV
  unfold EvPost at EV
  rw [levl5] at EV
  have HB5 := Lib.hid hb5
  clear hb5
  go_region_held3 (fun V => V.cell? ⟨sb, 0, none⟩ = some (.pointer (some ⟨pa, 0, none⟩)) ∧ V.cell? ⟨sb, 1, none⟩ = some (.pointer (some ⟨k, 0, none⟩))) ((first | exact HKQ.out _ HS3.out | (refine HKP.out _ ?_; first | exact bd _ | exact bdn _ _ | exact bZ _ _ | exact bmore (bZ _ _) (bd _) | exact bmore (bd _) (bZ _ _))))
    (((with_reducible refine EV.out.mono ?_); rintro e w3 ⟨rfl, g3⟩; have HS3 := Lib.hid (g3.hold (SD.out.pool.below HB5.out) (T := SidesT) (by decide) (by decide) _ _ (Hold.below HB5.out _ _ SD.out.lay))))
  have HK3 := Lib.hid ((SD.out.know.below HB5.out).grow (e := [(⟨5, 0, 0, 0, emptyS, 1, 0⟩, 2, 2), (⟨7, 0, 0, 0, emptyS, 4, 0⟩, 3, 3)]) (SD.out.pool.below HB5.out) SD.out.mbb g3)
  have HV3 := Lib.hid ((V2.out.trans (HB5.out.mono V2.out.size)).trans g3.1)
  obtain ⟨_, _, v3, p3, _⟩ := g3
  have HP3 := Lib.hid p3
  have HL3 := Lib.hid (Laid.base (HL.out.below HA.out) HBS.out HV3.out)
  clear p3 EV HB5 HKP x0 x1
  have x0 := cellB (j := 0) HS3.out rfl
  have x1 := cellB (j := 1) HS3.out rfl
  have HKP := Lib.hid (fun (V : World) (hb : Below w3.heap.size w3 V) => (show V.cell? ⟨sb, 0, none⟩ = some (.pointer (some ⟨pa, 0, none⟩)) ∧ V.cell? ⟨sb, 1, none⟩ = some (.pointer (some ⟨k, 0, none⟩)) from ⟨bcellAt hb x0, bcellAt hb x1⟩))
  go_wp2_with fail
  have hb5 : Below w3.heap.size w3 (w3.alloc (.cells #[.int .i64 0, .int .i64 0, .int .i64 0, .int .u64 0, .string ⟨#[]⟩, .int .i64 6, .int .i64 0, .int .i64 0, .int .u64 0, .string ⟨#[]⟩] OpT)).drew := bmore (bZ _ _) (bd _)
  have EV := Lib.hid (eval_any HBS.out (HP3.out.below hb5) (HL3.out.below hb5) (HK3.out.below hb5) SD.out.mbb (own_hold (row_ops2 w3 0 (Nat.zero_le _)) (Hold.below (bd _))) (lops_ok (.inr rfl)))
  rw [lfol2] at EV
  unfold EvPost at EV
  rw [levl2] at EV
  have HB5 := Lib.hid hb5
  clear hb5
  go_region_held3 (fun V => V.cell? ⟨sb, 0, none⟩ = some (.pointer (some ⟨pa, 0, none⟩)) ∧ V.cell? ⟨sb, 1, none⟩ = some (.pointer (some ⟨k, 0, none⟩))) ((first | exact HKQ.out _ HS4.out | (refine HKP.out _ ?_; first | exact bd _ | exact bdn _ _ | exact bZ _ _ | exact bmore (bZ _ _) (bd _) | exact bmore (bd _) (bZ _ _))))
    (((with_reducible refine EV.out.mono ?_); rintro e w4 ⟨rfl, g4⟩; have HS4 := Lib.hid (g4.hold (HP3.out.below HB5.out) (T := SidesT) (by decide) (by decide) _ _ (Hold.below HB5.out _ _ HS3.out))))
  have HV4 := Lib.hid ((HV3.out.trans (HB5.out.mono HV3.out.size)).trans g4.1)
  obtain ⟨_, _, v4, p4, _⟩ := g4
  have PN := Lib.hid (pnode p4 5)
  rw [lat5, lin5] at PN
  simp only [nodeA] at PN
  have HU4 := Lib.hid ((HA.out.mono (Nat.le_refl _)).trans (HV4.out.mono HLE.out))
  clear p4 EV HB5 HKP x0 x1
  have x0 := cellB (j := 0) HS4.out rfl
  go_wp2_with fail
  refine PN.out.mono ?_
  rintro e w5 ⟨rfl, u5⟩
  have HU5 := Lib.hid (bmore HU4.out u5)
  clear u5 x0
  have bN := bmore HU5.out (bZ w5 (.cells #[.int .i64 7, .int .i64 0, .int .i64 0, .int .u64 0, .string emptyS, .int .i64 4, .int .i64 0] NodeT))
  have hN := heap_alloc_new w5 (.cells #[.int .i64 7, .int .i64 0, .int .i64 0, .int .u64 0, .string emptyS, .int .i64 4, .int .i64 0] NodeT)
  have HN := Lib.hid hN
  have HU6 := Lib.hid bN
  have n0 := cellB (j := 0) hN rfl
  have n1 := cellB (j := 1) hN rfl
  clear bN hN
  go_wp2_with fail
  refine (num9_any 0 _).mono ?_
  rintro e w6 ⟨rfl, rfl⟩
  go_wp2_with fail
  refine (num9_any 90 _).mono ?_
  rintro e w6 ⟨rfl, rfl⟩
  go_wp2_with fail
  go_returns
  exact ⟨rfl, HU6.out⟩
end Go.Proofs.YtjpkeoenajlmeaaDoor
namespace Go.Proofs.YtjpkeoenajlmeaaDoor
open Go.RowKit Go.Maps
set_option linter.unusedVariables false

theorem rowOp : (Tryd.prog.info? OpT).map (fun i => (i.zero, i.size, i.bytes)) = some (some (.agg #[.int .i64 0, .int .i64 0, .int .i64 0, .int .u64 0, .string ⟨#[]⟩]), 5, 48) := by kernel_rfl
theorem opsV_one (l : List OpP) : ∀ u ∈ opsV l, u.oneCell' = true := by
  intro u hu
  obtain ⟨x, _, hx⟩ := List.mem_flatMap.1 hu
  simp only [opC, List.mem_cons, List.mem_nil_iff, or_false] at hx
  rcases hx with rfl | rfl | rfl | rfl | rfl <;> rfl
/-- append of a list of operations to a list of the call's own. -/
theorem wp_append_ops {w : World} {o : Oper} {a : Act} {K : Act → World → Prop} {Q : Exit → Act → World → Prop} (s x : Operand)
    (ho : o.op = .call { callee := .builtin .append, args := #[s, x], argTypes := #[56, 56] })
    (base : Nat) (v : Value) (xs : List OpP) (hs : a.eval s = v) (hown : w.ownsRow base OpT 5 v xs.length (opsV xs)) (vx : Value) (l : List OpP) (hx : a.eval x = vx) (hrd : Row w 5 vx l.length (opsV l))
    (hlen : xs.length + l.length ≤ 1000000) (hbase : base ≤ w.heap.size)
    (h : ∀ v' w', w'.ownsRow base OpT 5 v' (xs ++ l).length (opsV (xs ++ l)) → w.grownBy w' v.ownBlock → K (a.put o.dst v') w') : Oper.wp Tryd.prog o a w K Q := by
  obtain ⟨i0, hi, hz0, hz1, hz2⟩ := info_parts rowOp
  rcases hrd with ⟨hl, ⟨rfl, h0⟩ | ⟨b, off, cap, rfl, h1, h2, h3, h4⟩⟩
  · obtain rfl : l = [] := List.eq_nil_of_length_eq_zero h0
    have hrun := run_append_owned_none (P := Tryd.prog) (w := w) base 56 o.type OpT i0 5 Tryd.underlying56 hi v _ _ hown
    unfold Oper.wp
    simp [execOp, ho, resolve, invoke, builtin, hs, hx, hrun, Result.andThen]
    exact h v w (by rw [List.append_nil]; exact hown) ⟨rfl, rfl, rfl, Nat.le_refl _, fun _ _ _ => rfl⟩
  · refine wp_append_own w s x 56 ho base OpT i0 (.agg #[.int .i64 0, .int .i64 0, .int .i64 0, .int .u64 0, .string ⟨#[]⟩]) 5 48 Tryd.underlying56 hi hz0 hz1 hz2 rfl (by decide) v _ _ hs hown ⟨b, off, none⟩ l.length cap (opsV l) hx (by rw [opsV_length]) (fun j u hj => by have := h4 j u hj; by_cases h0 : j = 0 <;> simp_all [Addr.add]) (opsV_one l) (by unfold maxLen; omega) (by omega) hbase ?_
    intro v' w' h6 h7 _
    exact h v' w' (by rw [List.length_append, opsV_append]; exact h6) h7
set_option maxRecDepth 100000 in
set_option maxHeartbeats 800000 in
theorem large9_any {w : World} {fo : Fo} {vn : Value} (hk : IsK w (fun b => b < w.heap.size) vn fo) : Calls Tryd.prog 17 #[vn] w fun e w' => (∃ q, e = .returned (.bool q) ∧ (q = false → fo.len ≤ 300 ∧ 1 + fo.size ≤ 6000)) ∧ Below w.heap.size w w' := by
  have hlen := hk.small
  unfold maxLen at hlen
  have PA := Lib.hid (parts_any (G := fun b => b < w.heap.size) ⟨0, 0, 0, 0, emptyS, 0, 0⟩ fo w vn 6000 hk (by omega) (by omega))
  obtain ⟨av, cv, rfl, _⟩ := hk.shape
  have HS := Lib.hid (fun (h : partsL fo 1 6000 ≤ 6000) => partsL_size fo 1 6000 (by omega) h)
  have hbd := partsL_bd fo 1 6000 (by omega)
  generalize partsL fo 1 6000 = pp at *
  clear hk
  by_cases h300 : 300 < fo.len
  · have hc : decide ((300 : Int) < (fo.len : Int)) = true := decide_eq_true (by omega)
    go_enter Tryd.func17, Tryd.ntmps17
    go_wp2_with fail
    go_returns
    exact ⟨⟨true, rfl, fun h => by cases h⟩, Below.refl _ _⟩
  · have hc : decide ((300 : Int) < (fo.len : Int)) = false := decide_eq_false (by omega)
    go_enter Tryd.func17, Tryd.ntmps17
    go_wp2_with fail
    refine PA.out.mono ?_
    rintro e w1 ⟨rfl, u1⟩
    have U1 := Lib.hid u1
    clear u1 PA
    cases hp : decide ((6000 : Int) < pp)
    all_goals
      go_wp2_with fail
      go_returns
      refine ⟨⟨_, rfl, fun hq => ?_⟩, U1.out⟩
      first
        | (cases hq; done)
        | (have h6 : pp ≤ 6000 := by simpa using hp
           have h7 := HS.out h6
           exact ⟨by omega, by omega⟩)
theorem evl_mem {r : List Int × Int × Pl} (h : r.2.1 = 0 → 0 < r.1.length) (h0 : (evlP r).2.1 = 0) : (evlP r).1 ∈ r.1 := by
  unfold evlP at h0 ⊢
  by_cases e : r.2.1 = 0
  · rw [if_neg (fun h => h e)]
    have := h e
    simp only [List.getD_eq_getElem?_getD, List.getElem?_eq_getElem (show r.1.length - 1 < r.1.length by omega), Option.getD_some]
    exact List.getElem_mem _
  · rw [if_pos e] at h0
    exact absurd h0 e
end Go.Proofs.YtjpkeoenajlmeaaDoor
namespace Go.Proofs.YtjpkeoenajlmeaaDoor
open Go.RowKit Go.Maps
set_option linter.unusedVariables false

theorem row_oneO {w : World} {nb : Nat} {o : OpP} (h : w.heap[nb]? = some (Obj.cells #[.int .i64 o.code, .int .i64 o.a, .int .i64 o.b, .int .u64 o.num, .string o.text] OpT)) : Row w 5 (.slice (some ⟨nb, 0, none⟩) 1 1) 1 (opsV [o]) := by
  have hz : opsV [o] = [.int .i64 o.code, .int .i64 o.a, .int .i64 o.b, .int .u64 o.num, .string o.text] := by simp [opsV, opC]
  rw [hz]
  refine ⟨rfl, .inr ⟨nb, 0, 1, rfl, (Array.getElem?_eq_some_iff.1 h).1, Nat.le_refl _, by unfold maxLen; omega, fun j u hj => ?_⟩⟩
  refine cellB h ?_
  rw [Nat.zero_add]
  simpa using hj
theorem wpList_append_opsF {w : World} {ops : Array Oper} {rest : List Oper} {o : Oper} {a : Act} {Q : Exit → Act → World → Prop} (hgd : o.guard = none) (s x : Operand)
    (ho : o.op = .call { callee := .builtin .append, args := #[s, x], argTypes := #[56, 56] })
    (base : Nat) (v : Value) (xs : List OpP) (hs : a.eval s = v) (hown : w.ownsRow base OpT 5 v xs.length (opsV xs)) (vx : Value) (l : List OpP) (hx : a.eval x = vx) (hrd : Row w 5 vx l.length (opsV l))
    (hlen : xs.length + l.length ≤ 1000000) (hbase : base ≤ w.heap.size)
    (h : ∀ v' w', w'.ownsRow base OpT 5 v' (xs ++ l).length (opsV (xs ++ l)) → w.grownBy w' v.ownBlock → wpList Tryd.prog ops Q rest (a.put o.dst v') w') : wpList Tryd.prog ops Q (o :: rest) a w :=
  wpList_plain hgd fun _ hK => wp_append_ops s x ho base v xs hs hown vx l hx hrd hlen hbase fun v' w' h1 h2 => hK _ _ (h v' w' h1 h2)
end Go.Proofs.YtjpkeoenajlmeaaDoor
