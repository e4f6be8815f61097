/-
  Plain: what was made of a term by swapping promises looks as the term did.
  The law's own walk: ViewFree.
  The statement ViewFree, as a tied card. No condition.
-/
import Derived.Test.YtgaklaajbepfaaaDoorVEqP
import Derived.Test.YtgaklaajbepfaaaDoorVProm
import Derived.Test.YtgaklaajbepfaaaDoorVLarge
import Derived.Test.YtgaklaajbepfaaaDoorVLiveW
import Derived.Test.YtgaklaajbepfaaaDoorTFor
import Derived.ChangeSlices
import Derived.Test.YtgaklaajbepfaaaDoorTLaidL
import Derived.Test.YtgaklaajbepfaaaDoorCards
import Derived.Test.YtgaklaajbepfaaaDoorTie
import Derived.JoinedOf
import Derived.ChangeMaps5
import Derived.SevenTiedAt
namespace Go.Proofs.YtgaklaajbepfaaaDoor
open Go.RowKit Go.Maps Go.Shelf
set_option linter.unusedVariables false

theorem over_closed {p : Pl} {S : Int → Prop} (hS : ∀ x, S x → inP p x = true → S (atP p x).1.a ∧ S (atP p x).1.b) : ∀ (f : Nat) (t : Int) (acc : List Int), S t → ∀ x ∈ over p f t acc, x ∈ acc ∨ (S x ∧ inP p x = true)
  | 0, _, _, _, _, h => .inl h
  | f + 1, t, acc, ht, x, h => by
    by_cases hc : inP p t = true ∧ t ∉ acc
    · rw [over_in p f hc.1 hc.2] at h
      obtain ⟨ka, kb⟩ := hS t ht hc.1
      rcases List.mem_append.1 h with h | h
      · rcases over_closed hS f _ _ kb x h with h | h
        · exact over_closed hS f _ _ ka x h
        · exact .inr h
      · obtain rfl : x = t := by simpa using h
        exact .inr ⟨ht, hc.1⟩
    · rw [over_out p _ hc] at h; exact .inl h
theorem subs_closed {p : Pl} {S : Int → Prop} (hS : ∀ x, S x → inP p x = true → S (atP p x).1.a ∧ S (atP p x).1.b) {t : Int} (ht : S t) : ∀ x ∈ subs p t, S x ∧ inP p x = true := fun x hx => by
  rcases over_closed hS _ _ _ ht x hx with h | h
  · cases h
  · exact h
theorem subs_kids {q : Pl} (hq : Ok q) {t x : Int} (h : x ∈ subs q t) : ((atP q x).1.a = 0 ∨ (atP q x).1.a ∈ subs q t) ∧ ((atP q x).1.b = 0 ∨ (atP q x).1.b ∈ subs q t) := by
  obtain ⟨pre, suf, e⟩ := List.append_of_mem h
  obtain ⟨_, h1, h2⟩ := subs_cl hq t pre x suf e
  rw [e]
  exact ⟨h1.imp id fun h => List.mem_append_left _ h, h2.imp id fun h => List.mem_append_left _ h⟩
theorem Anew.out {kf : Nd → Int} {q : Pl} {T : Int} {p : Pl} {m : Int → Option Int} (h : Anew kf q T p m) {x : Int} (hx : m x = some 0) : x = 0 := by
  rcases h.at_ x 0 hx with ⟨h, _⟩ | ⟨_, _, h, _⟩
  · exact h
  · rw [inP_zero] at h; cases h
/-- What is made anew, where no two become one and nothing of it can be told, corresponds to what it was made of. -/
theorem anew_bij {kf : Nd → Int} {q : Pl} {T : Int} {p : Pl} {m : Int → Option Int} {who : Int} (hq : Ok q) (hA : Anew kf q T p m) (t : Int) (hinj : ∀ x y u, x ∈ subs q t → y ∈ subs q t → m x = some u → m y = some u → x = y) (hsame : ∀ x ∈ subs q t, ∀ a b, sameB who (atP q x).1 (kdN (kf (atP q x).1) (abN (atP q x).1 a b)) = true) : Bij p who (fun x y => m x = some y ∧ (x = 0 ∨ x ∈ subs q t)) := by
  refine ⟨fun a b b' h h' => Option.some.inj (h.1.symm.trans h'.1), ?_, ⟨hA.zero, .inl rfl⟩, ?_⟩
  · rintro a a' b ⟨h1, h2⟩ ⟨k1, k2⟩
    rcases h2 with rfl | h2
    · rw [hA.zero] at h1
      rw [← Option.some.inj h1] at k1
      exact (hA.out k1).symm
    · rcases k2 with rfl | k2
      · rw [hA.zero] at k1
        rw [← Option.some.inj k1] at h1
        exact hA.out h1
      · exact hinj _ _ _ h2 k2 h1 k1
  · rintro a b ⟨h1, h2⟩
    rcases hA.at_ a b h1 with h | ⟨g1, g2, g3, ⟨x, y, g4, g5, g6⟩, _⟩
    · exact .inl h
    · have ha : a ∈ subs q t := by
        rcases h2 with rfl | h2
        · rw [inP_zero] at g1; cases g1
        · exact h2
      obtain ⟨e, he⟩ := hA.ext
      obtain ⟨ka, kb⟩ := subs_kids hq ha
      have hat : atP p a = atP q a := by rw [he]; exact atP_append g1
      refine .inr ⟨by rw [he]; exact inP_le g1 (by simp), g3, ?_, ?_, ?_⟩
      · rw [hat, g6]; exact hsame a ha x y
      · rw [hat, g6]; exact ⟨g4, ka⟩
      · rw [hat, g6]; exact ⟨g5, kb⟩
theorem anew_alike {kf : Nd → Int} {q : Pl} {T : Int} {p : Pl} {m : Int → Option Int} {who : Int} (hq : Ok q) (hA : Anew kf q T p m) {t s : Int} (hin : inP q t = true) (hm : m t = some s) (hn : nameB who = true) (hinj : ∀ x y u, x ∈ subs q t → y ∈ subs q t → m x = some u → m y = some u → x = y) (hsame : ∀ x ∈ subs q t, ∀ a b, sameB who (atP q x).1 (kdN (kf (atP q x).1) (abN (atP q x).1 a b)) = true) : AlikeP p who [t] [s] := by
  obtain ⟨e, he⟩ := hA.ext
  refine ⟨hn, fun x hx => ?_, fun x hx => ?_, rfl, _, anew_bij hq hA t hinj hsame, fun i h1 h2 => ?_⟩
  · obtain rfl : x = t := by simpa using hx
    rw [he]; exact inP_le hin (by simp)
  · obtain rfl : x = s := by simpa using hx
    rcases hA.at_ _ _ hm with ⟨rfl, _⟩ | ⟨_, _, h, _⟩
    · rw [inP_zero] at hin; cases hin
    · exact h
  · simp only [List.length_cons, List.length_nil] at h1
    obtain rfl : i = 0 := by omega
    exact ⟨hm, .inr (subs_has hin)⟩
theorem makeK_prom {at' : Int} {n : Nd} {a b : Int} : promB (kdN (makeK at' n) (abN n a b)) at' = false := by
  obtain ⟨k, f, t, u, s, x, y⟩ := n
  unfold makeK promB kdN abN
  simp only
  cases h : (k == 8 && t == at')
  · rw [if_neg (by simp)]; exact h
  · rw [if_pos rfl]; rfl
/-- No promise to him is left in what was made. -/
theorem swap_none {q p : Pl} {at' T : Int} {m : Int → Option Int} (hA : Anew (makeK at') q T p m) {t s : Int} (hm : m t = some s) : promL p at' (subs p s) = [] := by
  unfold promL
  rw [List.filter_eq_nil_iff]
  have hc := subs_closed (p := p) (S := fun x => ∃ k, m k = some x) (fun x ⟨k, hk⟩ hx => by
    rcases hA.at_ k x hk with ⟨_, rfl⟩ | ⟨_, _, _, ⟨y, z, g4, g5, g6⟩, _⟩
    · rw [inP_zero] at hx; cases hx
    · rw [g6]; exact ⟨⟨_, g4⟩, ⟨_, g5⟩⟩) (t := s) ⟨t, hm⟩
  intro x hx
  obtain ⟨⟨k, hk⟩, hin⟩ := hc x hx
  rcases hA.at_ k x hk with ⟨_, rfl⟩ | ⟨_, _, _, ⟨y, z, g4, g5, g6⟩, _⟩
  · rw [inP_zero] at hin; cases hin
  · rw [g6, makeK_prom]; decide
/-- What the statement asks of each subterm. -/
def FreeOk (at' who : Int) (n : Nd) : Prop := ¬ (n.to = at' ∧ (n.kind = 9 ∨ (n.kind = 8 ∧ n.frm = who)))
theorem makeK_inj {at' who : Int} {n n' : Nd} {a b : Int} (h : FreeOk at' who n) (h' : FreeOk at' who n') (e : kdN (makeK at' n) (abN n a b) = kdN (makeK at' n') (abN n' a b)) : n.kind = n'.kind ∧ n.frm = n'.frm ∧ n.to = n'.to ∧ n.num = n'.num ∧ n.text = n'.text := by
  obtain ⟨k, f, t, u, s, x, y⟩ := n
  obtain ⟨k2, f2, t2, u2, s2, x2, y2⟩ := n'
  unfold kdN abN at e
  simp only [Nd.mk.injEq] at e
  obtain ⟨e1, rfl, rfl, rfl, rfl, _, _⟩ := e
  refine ⟨?_, rfl, rfl, rfl, rfl⟩
  unfold makeK promB at e1
  unfold FreeOk at h h'
  simp only [Bool.and_eq_true, beq_iff_eq] at e1 h h' ⊢
  by_cases c1 : k = 8 ∧ t = at'
  · rw [if_pos c1] at e1
    by_cases c2 : k2 = 8 ∧ t = at'
    · omega
    · rw [if_neg c2] at e1
      exact absurd ⟨c1.2, .inl e1.symm⟩ h'
  · rw [if_neg c1] at e1
    by_cases c2 : k2 = 8 ∧ t = at'
    · rw [if_pos c2] at e1
      exact absurd ⟨c2.2, .inl e1⟩ h
    · rw [if_neg c2] at e1; exact e1
theorem makeK_same {at' who : Int} {n : Nd} (h : FreeOk at' who n) (h1 : who ≠ at') (h2 : who ≠ 2) (a b : Int) : sameB who n (kdN (makeK at' n) (abN n a b)) = true := by
  rw [sameB_see]
  obtain ⟨k, f, t, u, s, x, y⟩ := n
  unfold FreeOk at h
  simp only at h
  unfold seeN
  have e : kdN (makeK at' ⟨k, f, t, u, s, x, y⟩) (abN ⟨k, f, t, u, s, x, y⟩ a b) = ⟨makeK at' ⟨k, f, t, u, s, x, y⟩, f, t, u, s, a, b⟩ := rfl
  rw [e]
  unfold kdN abN
  simp only [Nd.mk.injEq, and_true]
  rw [seeK_of, seeK_of]
  unfold makeK promB
  simp only
  by_cases c : (k == 8 && t == at') = true
  · rw [if_pos c]
    simp only [Bool.and_eq_true, beq_iff_eq] at c
    obtain ⟨rfl, rfl⟩ := c
    have hf : who ≠ f := fun e => h ⟨rfl, .inr ⟨rfl, e.symm⟩⟩
    have ht : tellK who f t = false := by
      unfold tellK
      rw [ebF hf, ebF h1, ebF h2]; rfl
    rw [ht]; rfl
  · rw [if_neg c]
theorem swap_alike {q p : Pl} {at' T who : Int} {m : Int → Option Int} (hq : Ok q) (hA : Anew (makeK at') q T p m) {t s : Int} (hin : inP q t = true) (hm : m t = some s) (hn : nameB who = true) (h1 : who ≠ at') (h2 : who ≠ 2) (hf : ∀ x ∈ subs q t, FreeOk at' who (atP q x).1) : AlikeP p who [t] [s] := by
  have hinj : ∀ (k : Nat) (x y u : Int), x.toNat < k → x ∈ subs q t → y ∈ subs q t → m x = some u → m y = some u → x = y := by
    intro k
    induction k with
    | zero => intro x y u h; exact absurd h (Nat.not_lt_zero _)
    | succ k ih =>
      intro x y u hk hx hy hxu hyu
      have hxi := subs_in hq hx
      have hyi := subs_in hq hy
      rcases hA.at_ _ _ hxu with ⟨rfl, _⟩ | ⟨_, _, _, ⟨xa, xb, a4, a5, a6⟩, _⟩
      · rw [inP_zero] at hxi; cases hxi
      rcases hA.at_ _ _ hyu with ⟨rfl, _⟩ | ⟨_, _, _, ⟨ya, yb, b4, b5, b6⟩, _⟩
      · rw [inP_zero] at hyi; cases hyi
      have e := a6.symm.trans b6
      have e2 : xa = ya ∧ xb = yb := by
        unfold kdN abN at e
        simp only [Nd.mk.injEq] at e
        exact ⟨e.2.2.2.2.2.1, e.2.2.2.2.2.2⟩
      obtain ⟨rfl, rfl⟩ := e2
      have hx1 : 1 ≤ x := by unfold inP at hxi; simp at hxi; omega
      obtain ⟨la, lb⟩ := kid_less hq hxi
      obtain ⟨sa, sb⟩ := subs_kids hq hx
      obtain ⟨ta, tb⟩ := subs_kids hq hy
      have kid : ∀ a b v : Int, (a = 0 ∨ (inP q a = true ∧ a < x)) → (a = 0 ∨ a ∈ subs q t) → (b = 0 ∨ b ∈ subs q t) → m a = some v → m b = some v → a = b := fun a b v l1 l2 l3 l4 l5 => by
        rcases l2 with rfl | l2
        · rw [hA.zero] at l4
          rw [← Option.some.inj l4] at l5
          exact (hA.out l5).symm
        · rcases l3 with rfl | l3
          · rw [hA.zero] at l5
            rw [← Option.some.inj l5] at l4
            exact hA.out l4
          · refine ih a b v ?_ l2 l3 l4 l5
            rcases l1 with rfl | l1
            · omega
            · have := subs_in hq l2
              unfold inP at this
              simp at this
              omega
      have ea := kid _ _ _ la sa ta a4 b4
      have eb := kid _ _ _ lb sb tb a5 b5
      obtain ⟨c1, c2, c3, c4, c5⟩ := makeK_inj (hf x hx) (hf y hy) e
      refine hq.at_inj hxi hyi ?_
      revert c1 c2 c3 c4 c5 ea eb
      generalize (atP q x).1 = n
      generalize (atP q y).1 = n2
      obtain ⟨k, f, t, u, s, a, b⟩ := n
      obtain ⟨k2, f2, t2, u2, s2, a2, b2⟩ := n2
      simp only [Nd.mk.injEq]
      rintro rfl rfl rfl rfl rfl rfl rfl
      exact ⟨rfl, rfl, rfl, rfl, rfl, rfl, rfl⟩
  exact anew_alike hq hA hin hm hn (fun x y u => hinj _ x y u (Nat.lt_succ_self _)) (fun x hx a b => makeK_same (hf x hx) h1 h2 a b)
end Go.Proofs.YtgaklaajbepfaaaDoor
namespace Go.Proofs.YtgaklaajbepfaaaDoor
open Go.RowKit Go.Maps Go.Shelf
set_option linter.unusedVariables false

abbrev FreT : TypeId := 57
theorem IsRef.reg {w w' : World} {B0 B b mb a : Nat} {vl vs vd : Value} {p : Pl} (h : IsRef w B0 a vl vs vd p) (g : ReG w B b mb w') : IsRef w' B0 a vl vs vd p :=
  ⟨g.hold _ (by decide) (by decide) _ _ h.lay, h.ga, own_hold h.rl (g.hold _ (by decide) (by decide)), own_hold h.rs (g.hold _ (by decide) (by decide)), own_hold h.rd (g.hold _ (by decide) (by decide)), h.ap, h.ok, h.nok⟩
set_option maxRecDepth 100000 in
set_option maxHeartbeats 51200000 in
theorem free_walk {w : World} (hl : Laid w) {fo : Fo} {t to' who : Int} {u0 : Value} (hk : IsK w (fun b => b < w.heap.size) u0 fo) (hok : OkF fo) : Calls Tryd.prog 6 #[.agg #[u0, .int .i64 t, .int .i64 to', .int .i64 who]] w fun e w' => e = .returned (.bool true) ∧ Below w.heap.size w w' := by
  obtain ⟨a0, k0, rfl, _⟩ := hk.shape
  have bx := bA0 w (.cells #[.slice a0 fo.len k0, .int .i64 t, .int .i64 to', .int .i64 who] FreT)
  have hx := heap_alloc_new w (.cells #[.slice a0 fo.len k0, .int .i64 t, .int .i64 to', .int .i64 who] FreT)
  have HLD := Lib.hid hl
  have HKK := Lib.hid hk
  have HOK := Lib.hid hok
  have HBX := Lib.hid bx
  have HX := Lib.hid hx
  clear hk bx hx hl hok
  have NU := Lib.hid (fun (n : Int) (W : World) => num_any n W)
  go_enter Tryd.func6, Tryd.ntmps6
  go_upto_region 1 with fail
  generalize (w.alloc (.cells #[.slice a0 fo.len k0, .int .i64 t, .int .i64 to', .int .i64 who] FreT)) = w1 at *
  have z0 : w1.cell? ⟨w.heap.size, 0, none⟩ = some (.slice a0 fo.len k0) := cellB (j := 0) HX.out rfl
  have z1 : w1.cell? ⟨w.heap.size, 1, none⟩ = some (.int .i64 t) := cellB (j := 1) HX.out rfl
  have z2 : w1.cell? ⟨w.heap.size, 2, none⟩ = some (.int .i64 to') := cellB (j := 2) HX.out rfl
  have z3 : w1.cell? ⟨w.heap.size, 3, none⟩ = some (.int .i64 who) := cellB (j := 3) HX.out rfl
  go_quiet (fail)
  have HU1 := Lib.hid (bmore HBX.out (bdn w1 nq))
  generalize w1.drewN nq = w2 at *
  clear z0 z1 z2 z3 HX HBX
  have hk1 := HKK.out.below HU1.out
  have hk2 := hk1.of (w' := w) (G' := fun b => b < w2.heap.size) (fun b hb _ => Nat.lt_of_lt_of_le hb HU1.out.size)
  have WD := Lib.hid (wide_any hk2)
  clear hk1 hk2
  go_wp2_with fail
  refine WD.out.mono ?_
  rintro e w3 ⟨⟨q, rfl, hq⟩, u3⟩
  have HU3 := Lib.hid (bmore HU1.out u3)
  clear u3 WD HU1
  cases q with
  | true =>
    clear hq
    have LV := Lib.hid (live_any (HLD.out.below HU3.out))
    go_wp2_with fail
    refine LV.out.mono ?_
    rintro e wl ⟨rfl, ul⟩
    have HUL := Lib.hid (bmore HU3.out ul)
    clear ul LV
    go_wp2_with fail
    go_returns
    exact ⟨rfl, HUL.out⟩
  | false =>
    have HQ := Lib.hid (hq rfl)
    clear hq
    have hk1 := HKK.out.below HU3.out
    have hk2 := hk1.of (w' := w) (G' := fun b => b < w3.heap.size) (fun b hb _ => Nat.lt_of_lt_of_le hb HU3.out.size)
    have PO := Lib.hid (pools_any (HLD.out.below HU3.out) hk2 HOK.out (by have := HQ.out.2; omega) (by have := HQ.out.1; omega))
    clear hk1 hk2
    go_wp2_with fail
    refine PO.out.mono ?_
    rintro e w4 ⟨pa, b, ra, vv, rl, rs, rd, p, rfl, hp, hr, u4, hlen⟩
    have HP := Lib.hid hp
    have HR := Lib.hid hr
    have HU4 := Lib.hid (bmore HU3.out u4)
    have HBB : Hid (w.heap.size ≤ w3.heap.size) := Lib.hid HU3.out.size
    have HPL : Hid (p.length ≤ 400) := Lib.hid (by have := HQ.out.2; omega)
    clear hp hr u4 hlen HU3 PO HKK HOK HQ
    generalize w3.heap.size = B2 at *
    by_cases hz : rfsP p to' [t] = 0
    case neg =>
      have SB := Lib.hid (swap_bad HP.out to' t hz)
      have hne : (rfsP p to' [t] != 0) = true := by rw [bne, ebF hz]; rfl
      generalize rfsP p to' [t] = e0 at *
      clear hz
      go_wp2_with fail
      refine SB.out.mono ?_
      rintro e w5 ⟨rfl, u5⟩
      have HU5 := Lib.hid (bmore HU4.out u5)
      clear u5 SB
      have LV := Lib.hid (live_any (HLD.out.below HU5.out))
      go_wp2_with ((with_reducible refine (NU.out _ _).mono ?_); rintro e wn ⟨rfl, rfl⟩)
      refine LV.out.mono ?_
      rintro e wl ⟨rfl, ul⟩
      have HUL := Lib.hid (bmore HU5.out ul)
      clear ul LV
      go_wp2_with fail
      go_returns
      exact ⟨rfl, HUL.out⟩
    have HNB := Lib.hid (rfs_zero.1 hz).1
    have HIN : Hid (inP p t = true) := Lib.hid ((rfs_zero.1 hz).2 t (by simp))
    clear hz
    have SW := Lib.hid (swap_any (w0 := w) HLD.out HBB.out HU4.out HP.out to' HNB.out HIN.out (by have h := HIN.out; have := HPL.out; unfold inP at h; simp at h; omega))
    go_wp2_with fail
    refine SW.out.mono ?_
    rintro e w5 ⟨s, v5, p5, m5, rfl, hp5, ha5, hm5, g5⟩
    have HP5 := Lib.hid hp5
    have HA5 := Lib.hid ha5
    have HM5 := Lib.hid hm5
    have HR5 := Lib.hid (HR.out.reg g5)
    have HU5 := Lib.hid (HU4.out.trans (g5.below.mono HBB.out))
    have PR := Lib.hid (Promises_any hp5 to' s)
    have hpl := swap_none ha5 hm5
    rw [hpl] at PR
    clear hp5 ha5 hm5 g5 hpl SW HP HR HU4
    go_wp2_with ((with_reducible refine (NU.out _ _).mono ?_); rintro e wn ⟨rfl, rfl⟩)
    refine PR.out.mono ?_
    rintro e w6 ⟨lv, rfl, hrow, u6⟩
    obtain ⟨la, lc, rfl⟩ := (row_of_own hrow).shape
    have HP6 := Lib.hid (HP5.out.below u6)
    have HR6 := Lib.hid (HR5.out.below u6)
    have HU6 := Lib.hid (bmore HU5.out u6)
    clear hrow u6 PR HP5 HR5 HU5
    have RS := Lib.hid (rsubs HR6.out t)
    go_wp2_with fail
    refine RS.out.mono ?_
    rintro e w7 ⟨sv, rfl, hrow, u7⟩
    obtain ⟨sa, sc, rfl⟩ := (row_of_own hrow).shape
    have HP7 := Lib.hid (HP6.out.below u7)
    have HR7 := Lib.hid (HR6.out.below u7)
    have HS7 := Lib.hid (row_of_own hrow)
    have HU7 := Lib.hid (bmore HU6.out u7)
    have HLN : Hid ((subs p t).length ≤ 400) := Lib.hid (Nat.le_trans (subs_len HR6.out.ok t) HPL.out)
    clear hrow u7 RS HP6 HR6 HU6
    have HAL : Hid ((∀ x ∈ subs p t, FreeOk to' who (atP p x).1) → nameB who = true → who ≠ to' → who ≠ 2 → AlikeP p5 who [t] [s]) := Lib.hid fun h1 h2 h3 h4 => swap_alike HR7.out.ok HA5.out HIN.out HM5.out h2 h3 h4 h1
    clear HA5 HM5 HIN HNB
    generalize subs p t = L at *
    obtain ⟨wo, hwo⟩ : ∃ wo, wo = w7 := ⟨_, rfl⟩
    go_wp2_with fail
    go_loopw [13] (fun v13 wr => ∃ i : Nat, v13 = .int .i64 (i : Int) ∧ i ≤ L.length ∧ (∀ j (h : j < L.length), j < i → FreeOk to' who (atP p L[j]).1) ∧ IsPool wr B2 pa b v5 p5 ∧ IsRef wr B2 ra rl rs rd p ∧ Row wr 1 (.slice sa L.length sc) L.length (ints L) ∧ Below w.heap.size w wr) (fun v _ => L.length - (intOf v).toNat)
    case atStart => exact ⟨0, rfl, Nat.zero_le _, fun j _ h => absurd h (Nat.not_lt_zero _), HP7.out, HR7.out, HS7.out, HU7.out⟩
    case round =>
      clear HP7 HR7 HS7 HU7
      obtain ⟨i, rfl, hi, hfr, hpw, hrw, hsw, huw⟩ := hrel
      have HFR := Lib.hid hfr
      have HPW := Lib.hid hpw
      have HRW := Lib.hid hrw
      have HSW := Lib.hid hsw
      have HUW := Lib.hid huw
      have hl4 : L.length ≤ 400 := HLN.out
      clear hfr hpw hrw hsw huw
      by_cases hlt : i < L.length
      · obtain ⟨sa', sc', es, hsx⟩ := HSW.out.at
        obtain ⟨rfl, rfl⟩ : sa = sa' ∧ sc = sc' := by
          simp only [Value.slice.injEq, true_and] at es; exact ⟨es.1, es.2⟩
        obtain ⟨lb, lo, rfl, ql⟩ := hsx (by omega)
        have cl := ql i _ (ints_at L i hlt)
        have hi0 : (0 : Int) ≤ (i : Int) := by omega
        have hi1 : (i : Int) < (L.length : Int) := by omega
        have HNX : Hid (FreeOk to' who (atP p L[i]).1 → ∀ j (h : j < L.length), j < i + 1 → FreeOk to' who (atP p L[j]).1) := Lib.hid fun e j h hj => by
          rcases Nat.lt_or_ge j i with hj' | hj'
          · exact HFR.out j h hj'
          · obtain rfl : j = i := by omega
            exact e
        have RN := Lib.hid (rnode HRW.out L[i])
        generalize L[i] = x at *
        clear ql hsx es
        go_wp2_with fail
        refine RN.out.mono ?_
        rintro e wa ⟨rfl, va⟩
        have HUA := Lib.hid (bmore HUW.out va)
        have HPA := Lib.hid (HPW.out.below va)
        have HRA := Lib.hid (HRW.out.below va)
        have HSA := Lib.hid (HSW.out.below va)
        clear va RN cl
        generalize hnd : (atP p x).1 = nd at *
        obtain ⟨k, f, tt, uu, ss, xa, xb⟩ := nd
        have HND := Lib.hid hnd
        clear hnd
        simp only [nodeA]
        by_cases c1 : tt = to'
        · have e1 : (tt == to') = true := by rw [c1]; simp
          clear c1
          by_cases c2 : k = 9
          · have e2 : (k == (9 : Int)) = true := by rw [c2]; rfl
            clear c2
            have bz := bA0 wa (.cells #[.int .i64 k, .int .i64 f, .int .i64 tt, .int .u64 uu, .string ss, .int .i64 xa, .int .i64 xb] NodeT)
            have HUZ := Lib.hid (bmore HUA.out bz)
            clear bz
            have LV := Lib.hid (live_any (HLD.out.below HUZ.out))
            go_wp2_with fail
            refine LV.out.mono ?_
            rintro e wl ⟨rfl, ul⟩
            have HUL := Lib.hid (bmore HUZ.out ul)
            clear ul LV
            go_wp2_with fail
            go_returns
            exact ⟨rfl, HUL.out⟩
          · have e2 : (k == (9 : Int)) = false := ebF c2
            by_cases c3 : k = 8
            · have e3 : (k == (8 : Int)) = true := by rw [c3]; rfl
              by_cases c4 : f = who
              · have e4 : (f == who) = true := by rw [c4]; simp
                clear c2 c3 c4
                have bz := bA0 wa (.cells #[.int .i64 k, .int .i64 f, .int .i64 tt, .int .u64 uu, .string ss, .int .i64 xa, .int .i64 xb] NodeT)
                have HUZ := Lib.hid (bmore HUA.out bz)
                clear bz
                have LV := Lib.hid (live_any (HLD.out.below HUZ.out))
                go_wp2_with fail
                refine LV.out.mono ?_
                rintro e wl ⟨rfl, ul⟩
                have HUL := Lib.hid (bmore HUZ.out ul)
                clear ul LV
                go_wp2_with fail
                go_returns
                exact ⟨rfl, HUL.out⟩
              · have e4 : (f == who) = false := ebF c4
                have HOKN : Hid (FreeOk to' who ⟨k, f, tt, uu, ss, xa, xb⟩) := Lib.hid fun h => by
                  rcases h.2 with h | h
                  · exact c2 h
                  · exact c4 h.2
                clear c2 c3 c4
                go_wp2_with fail
                have bz := bA0 wa (.cells #[.int .i64 k, .int .i64 f, .int .i64 tt, .int .u64 uu, .string ss, .int .i64 xa, .int .i64 xb] NodeT)
                have HUZ := Lib.hid (bmore HUA.out bz)
                have HPZ := Lib.hid (HPA.out.below bz)
                have HRZ := Lib.hid (HRA.out.below bz)
                have HSZ := Lib.hid (HSA.out.below bz)
                clear bz
                go_roundw
                case rel => exact ⟨i + 1, by go_num, by omega, HNX.out HOKN.out, HPZ.out, HRZ.out, HSZ.out, HUZ.out⟩
                case measure => simp [intOf] <;> omega
            · have e3 : (k == (8 : Int)) = false := ebF c3
              have HOKN : Hid (FreeOk to' who ⟨k, f, tt, uu, ss, xa, xb⟩) := Lib.hid fun h => by
                rcases h.2 with h | h
                · exact c2 h
                · exact c3 h.1
              clear c2 c3
              go_wp2_with fail
              have bz := bA0 wa (.cells #[.int .i64 k, .int .i64 f, .int .i64 tt, .int .u64 uu, .string ss, .int .i64 xa, .int .i64 xb] NodeT)
              have HUZ := Lib.hid (bmore HUA.out bz)
              have HPZ := Lib.hid (HPA.out.below bz)
              have HRZ := Lib.hid (HRA.out.below bz)
              have HSZ := Lib.hid (HSA.out.below bz)
              clear bz
              go_roundw
              case rel => exact ⟨i + 1, by go_num, by omega, HNX.out HOKN.out, HPZ.out, HRZ.out, HSZ.out, HUZ.out⟩
              case measure => simp [intOf] <;> omega
        · have e1 : (tt == to') = false := ebF c1
          have HOKN : Hid (FreeOk to' who ⟨k, f, tt, uu, ss, xa, xb⟩) := Lib.hid fun h => c1 h.1
          clear c1
          go_wp2_with fail
          have bz := bA0 wa (.cells #[.int .i64 k, .int .i64 f, .int .i64 tt, .int .u64 uu, .string ss, .int .i64 xa, .int .i64 xb] NodeT)
          have HUZ := Lib.hid (bmore HUA.out bz)
          have HPZ := Lib.hid (HPA.out.below bz)
          have HRZ := Lib.hid (HRA.out.below bz)
          have HSZ := Lib.hid (HSA.out.below bz)
          clear bz
          go_roundw
          case rel => exact ⟨i + 1, by go_num, by omega, HNX.out HOKN.out, HPZ.out, HRZ.out, HSZ.out, HUZ.out⟩
          case measure => simp [intOf] <;> omega
      · obtain rfl : i = L.length := by omega
        have HFA : Hid (∀ x ∈ L, FreeOk to' who (atP p x).1) := Lib.hid fun x hx => by
          obtain ⟨j, hj, rfl⟩ := List.getElem_of_mem hx
          exact HFR.out j hj hj
        clear hlt HFR
        by_cases c1 : who = to'
        · have e1 : (who == to') = true := by rw [c1]; simp
          clear c1
          have LV := Lib.hid (live_any (HLD.out.below HUW.out))
          go_wp2_with fail
          refine LV.out.mono ?_
          rintro e wl ⟨rfl, ul⟩
          have HUL := Lib.hid (bmore HUW.out ul)
          clear ul LV
          go_wp2_with fail
          go_returns
          exact ⟨rfl, HUL.out⟩
        have e1 : (who == to') = false := ebF c1
        by_cases c2 : who = 2
        · have e2 : (who == (2 : Int)) = true := by rw [c2]; rfl
          clear c1 c2
          have LV := Lib.hid (live_any (HLD.out.below HUW.out))
          go_wp2_with fail
          refine LV.out.mono ?_
          rintro e wl ⟨rfl, ul⟩
          have HUL := Lib.hid (bmore HUW.out ul)
          clear ul LV
          go_wp2_with fail
          go_returns
          exact ⟨rfl, HUL.out⟩
        have e2 : (who == (2 : Int)) = false := ebF c2
        have HC := Lib.hid (And.intro c1 c2)
        clear c1 c2
        have RNM := Lib.hid (fun W => rname_any who W)
        have HNK := Lib.hid (show nameK who = nameB who from rfl)
        cases hn : nameK who with
        | false =>
          rw [hn] at RNM
          clear hn HNK
          have LV := Lib.hid (live_any (HLD.out.below HUW.out))
          go_wp2_with fail
          refine (RNM.out _).mono ?_
          rintro e V ⟨rfl, rfl⟩
          go_wp2_with fail
          refine LV.out.mono ?_
          rintro e wl ⟨rfl, ul⟩
          have HUL := Lib.hid (bmore HUW.out ul)
          clear ul LV
          go_wp2_with fail
          go_returns
          exact ⟨rfl, HUL.out⟩
        | true =>
          have HLK := Lib.hid (HAL.out HFA.out (HNK.out.symm.trans hn) HC.out.1 HC.out.2)
          rw [hn] at RNM
          clear hn HNK HAL HFA
          go_wp2_with fail
          refine (RNM.out _).mono ?_
          rintro e V ⟨rfl, rfl⟩
          obtain ⟨r1, r2, b1⟩ := rows2 wr t s
          have AL := Lib.hid (Alike_any (HPW.out.below b1) who r1 r2 (by simp) (by simp))
          have HU8 := Lib.hid (bmore HUW.out b1)
          clear r1 r2 b1
          go_wp2_with fail
          refine AL.out.mono ?_
          rintro e w9 ⟨r, rfl, hr, u9⟩
          obtain rfl : r = true := hr.2 HLK.out
          have HU9 := Lib.hid (bmore HU8.out u9)
          clear u9 AL hr HU8
          have LV := Lib.hid (live_any (HLD.out.below HU9.out))
          go_wp2_with fail
          refine LV.out.mono ?_
          rintro e wl ⟨rfl, ul⟩
          have HUL := Lib.hid (bmore HU9.out ul)
          clear ul LV
          go_wp2_with fail
          go_returns
          exact ⟨rfl, HUL.out⟩
end Go.Proofs.YtgaklaajbepfaaaDoor
namespace Go.Proofs.YtgaklaajbepfaaaDoor
open Go Go.ChangeShapes Go.WideShapes Go.ChangeAt Go.RowKit
set_option linter.unusedVariables false

section
variable {H : Type} {enc : TypeId × Value → H} {W : World} {base : Nat}
set_option maxRecDepth 100000 in
/-- Trees of terms, a term, to whom promises are swapped, an observer. -/
theorem open_free {v : Value} {d : DataW H} {p : List MemPlace} (hval : Value.okWide Tryd.prog W .any base 57 v) (h : DataW.Trod enc Tryd.prog W 0 (fun _ => true) true 57 v d p) :
    ∃ x : Fo × Int × Int × Int, ∃ u0 : Value, v = .agg #[u0, .int .i64 x.2.1, .int .i64 x.2.2.1, .int .i64 x.2.2.2] ∧ IsK W (fun b => b < W.heap.size) u0 x.1 ∧ OkF x.1 := by
  simp only [Value.okWide, Tryd.underlying57] at hval
  obtain ⟨cs, rfl, hc, ts, hts, _, hrow⟩ := hval
  obtain ⟨fuel, hf⟩ := h
  rw [show Tryd.prog.cellsOf 57 = 4 by kernel_rfl] at hc
  obtain ⟨l⟩ := cs
  match l, hc with
  | [u0, u1, u2, u3], _ =>
    obtain ⟨ys, k, _, _, _, hyl, hfld⟩ := DataW.trod_struct Tryd.underlying57 hf
    have hi0 : Tryd.prog.cellsOf 22 = 1 := by kernel_rfl
    have hi1 : Tryd.prog.cellsOf 42 = 1 := by kernel_rfl
    have hi4 : Tryd.prog.cellsOf 3 = 1 := by kernel_rfl
    have f0 : DataW.trod enc Tryd.prog W 0 (fun _ => true) true k 22 (([u0, u1, u2, u3].drop 0).take (Tryd.prog.cellsOf 22)) = ys[0]? := hfld 0 _ rfl
    rw [hi0] at f0
    have f1 : DataW.trod enc Tryd.prog W 0 (fun _ => true) true k 42 (([u0, u1, u2, u3].drop 1).take (Tryd.prog.cellsOf 42)) = ys[1]? := hfld 1 _ rfl
    rw [hi1] at f1
    have f2 : DataW.trod enc Tryd.prog W 0 (fun _ => true) true k 3 (([u0, u1, u2, u3].drop 2).take (Tryd.prog.cellsOf 3)) = ys[2]? := hfld 2 _ rfl
    rw [hi4] at f2
    have f3 : DataW.trod enc Tryd.prog W 0 (fun _ => true) true k 3 (([u0, u1, u2, u3].drop 3).take (Tryd.prog.cellsOf 3)) = ys[3]? := hfld 3 _ rfl
    rw [hi4] at f3
    simp only [List.drop_zero, List.drop_succ_cons, List.take_succ_cons, List.take_zero] at f0 f1 f2 f3
    have y0 : ys[0]? = some (ys[0]'(by rw [hyl]; decide)) := List.getElem?_eq_getElem (by rw [hyl]; decide)
    rw [y0] at f0
    have y1 : ys[1]? = some (ys[1]'(by rw [hyl]; decide)) := List.getElem?_eq_getElem (by rw [hyl]; decide)
    rw [y1] at f1
    have y2 : ys[2]? = some (ys[2]'(by rw [hyl]; decide)) := List.getElem?_eq_getElem (by rw [hyl]; decide)
    rw [y2] at f2
    have y3 : ys[3]? = some (ys[3]'(by rw [hyl]; decide)) := List.getElem?_eq_getElem (by rw [hyl]; decide)
    rw [y3] at f3
    obtain ⟨fo, hk, hok⟩ := trod_forest k u0 _ f0
    obtain ⟨n1, e1, _, _⟩ := DataW.trod_int Tryd.underlying42 f1
    obtain ⟨n2, e2, _, _⟩ := DataW.trod_int Tryd.underlying3 f2
    obtain ⟨n3, e3, _, _⟩ := DataW.trod_int Tryd.underlying3 f3
    simp at e1 e2 e3
    subst e1 e2 e3
    exact ⟨(fo, n1, n2, n3), u0, rfl, hk, hok⟩
end

theorem vfree_all {w : World} (hl : Laid w) {fo : Fo} {u0 v : Value} {t at' who : Int} (hk : IsK w (fun b => b < w.heap.size) u0 fo) (hok : OkF fo) (hv : v = .agg #[u0, .int .i64 t, .int .i64 at', .int .i64 who]) : Calls Tryd.prog 6 #[v] w fun e w' => e = .returned (.bool true) ∧ Below w.heap.size w w' := by
  subst hv
  exact free_walk hl hk hok

set_option maxRecDepth 100000 in
/-- What the walk gives, for every argument. -/
theorem vfree_contract (H : Type) (enc : TypeId × Value → H) (W : World) (base : Nat) (args : Array Value) (ds gs : List (DataW H)) (before : List MemPlace)
    (hval0 : ∀ (j : Nat) t v, Tryd.f6.params[j]? = some t → args[j]? = some v → Value.okWide Tryd.prog W .any base t v)
    (hW : DataW.Whole enc Tryd.prog Tryd.f6.params.toList Rows.viewFreeSpec.vars false W args.toList ds gs before) (hL : laidMetH Tryd.prog laidL W) :
    Calls Tryd.prog 6 args W fun e W' => ∃ v, e = .returned v ∧ Rows.viewFreeSpec.post enc Tryd.prog Tryd.f6 false true false false W args v W' := by
  have hval : ∀ (j : Nat) t v, Tryd.f6.params[j]? = some t → args[j]? = some v → Value.okWide Tryd.prog W .any base t v := hval0
  have hW' := hW
  obtain ⟨p, q, hA0, hV, rfl, hfz, hnd⟩ := hW
  have hA : DataW.TrodAll enc Tryd.prog W 0 (fun _ => true) true Tryd.f6.params.toList args.toList ds p := hA0
  rw [Tryd.params6] at hA hval
  obtain ⟨v0, vs0, d0, ds0, p0, q0, hargs0, rfl, rfl, h0, r0⟩ := trodAll_cons hA
  obtain ⟨rfl, rfl, rfl⟩ := trodAll_nil r0
  obtain rfl : args = #[v0] := by cases args; simp_all
  obtain ⟨rfl, rfl⟩ := trodVars_none hV
  obtain ⟨⟨fo0, t0, to0, w0⟩, x0, e0, hk0, hok0⟩ := open_free (hval 0 57 v0 rfl rfl) h0
  have HL := of_laid hL
  clear hA0 hval0 hL
  simp only [List.append_nil] at hW'
  refine (vfree_all HL hk0 hok0 e0).mono fun e W' ⟨he, bel⟩ => ?_
  subst he
  exact ⟨_, rfl, _, _, _, [], _, [], hW', trodAll_mk1 (shut_bool Tryd.underlying4 _), (trodAll_cons_mk (Below.trod laidOut (by kernel_rfl) (of_decide_eq_true (by kernel_rfl)) h0 bel (places_lt h0)) trodAll_mk0), rfl, bel.frame _, fun h => by cases h⟩

set_option maxRecDepth 100000 in
theorem vfree_lifted (os : Os) (started : os.Started) (H : Type) (enc : TypeId × Value → H) :
    ReturnsInHanded {} Tryd.checked os 6 .any (fun w args => (Rows.viewFreeSpec.pre enc Tryd.prog Tryd.f6 [] false w args ∧ laidMetH Tryd.prog laidL w) ∧ sizedMet enc Tryd.prog Tryd.f6 (OpenSpec.ofChange Rows.viewFreeSpec) false w args)
      (Rows.viewFreeSpec.post enc Tryd.prog Tryd.f6 false true false false) := by
  refine returnsInHanded_of_change_and (C := Tryd.checked) (X := fun w _ => laidMetH Tryd.prog laidL w) (fun _ _ _ hh h => h.of_heap hh) own started (by kernel_rfl) Tryd.func6
    (ChangeSpec.witness_shaped (enc := enc) (C := Tryd.checked) (os := os) (X := fun w _ => laidMetH Tryd.prog laidL w) false (World.doorLaid Tryd.prog 400 os) #[.agg #[.slice none 0 0, .int .i64 0, .int .i64 0, .int .i64 0]] 8 rfl (World.shaped_of_RefB (by kernel_rfl) (by kernel_rfl)) (by kernel_rfl) (by kernel_rfl) (by kernel_rfl) (door_met os _)) ?_
  intro W base args ds gs before hval hW _ _ hL _
  exact vfree_contract H enc W base args ds gs before hval hW hL

/-- The row's statement. -/
theorem vfree_holds : Rows.ViewFreeSaid :=
  OpenClaim.holds_of_wide 6 Tryd.f6 rfl rfl rfl rfl rfl rfl rfl ⟨rfl, rfl, rfl, rfl, rfl⟩ rfl rfl rfl rfl rfl (by kernel_rfl) Tryd.func6 (by kernel_rfl)
    (of_decide_eq_true (by kernel_rfl)) (by unfold Func.isWrapper; first | (rw [if_pos (by decide +kernel)]; kernel_rfl) | (rw [if_neg (by decide +kernel)]; exact ⟨rfl, rfl⟩))
    (fun os started H enc _ => vfree_lifted os started H enc)

/-- The card. -/
theorem vfree_card : Rows.ViewFreeCardSaid :=
  Claim7.holds_tied_plain_at .later [] [.data] true _ false
    vfree_holds (fun _ h => by cases h) (by kernel_rfl) (fun _ h => by cases h) viewFree_row_tie rfl ⟨rfl, rfl⟩ (by kernel_rfl) rfl
    (fun f fn hf hfn => by
      obtain rfl : f = 6 := Option.some.inj ((show Tryd.prog.funcNamed "escrow/escrowlaw10.ViewFree" = some 6 by kernel_rfl).symm.trans hf) |>.symm
      obtain rfl : fn = Tryd.f6 := (Option.some.inj (Tryd.func6.symm.trans hfn)).symm
      exact ⟨by kernel_rfl, fun j t ht => by
        rw [Tryd.params6] at ht
        have hm : t ∈ [57] := by simpa using Array.mem_of_getElem? ht
        have hall : ([57].all fun u => !Tryd.prog.wantsStandIn u) = true := by kernel_rfl
        exact (show Tryd.prog.wantsStandIn t = false by simpa using List.all_eq_true.1 hall t hm)⟩)
    (by kernel_rfl)
#print axioms vfree_card
end Go.Proofs.YtgaklaajbepfaaaDoor
