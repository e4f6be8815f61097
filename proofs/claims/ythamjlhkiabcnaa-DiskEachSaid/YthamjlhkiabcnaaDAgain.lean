/-
  The statement DiskAgain: the log, played on the blocks at first, makes the image; so does each cut of it. No condition.
-/
import Derived.Test.YthamjlhkiabcnaaDCuts
import Derived.JoinedCond
namespace Go.Proofs.Ythamjlhkiabcnaa
open Go.ChangeShapes Go.WideShapes Go.ChangeAt Go.RowKit
set_option linter.unusedVariables false

/-- append of a list of texts to a new empty list. -/
theorem wpList_append_strs {w : World} {ops : Array Oper} {rest : List Oper} {o : Oper} {a : Act} {Q : Exit → Act → World → Prop} (hgd : o.guard = none) (s x : Operand)
    (ho : o.op = .call { callee := .builtin .append, args := #[s, x], argTypes := #[22, 22] })
    (hs : a.eval s = .slice (some ⟨w.heap.size, 0, none⟩) 0 0) (vx : Value) (l : List ByteArray) (hx : a.eval x = vx) (hrow : Row w 1 vx l.length (strs l)) (hl : l.length ≤ 1099511627776)
    (h : ∀ v' w', w'.ownsRow w.heap.size 9 1 v' l.length (strs l) → Below w.heap.size w w' → wpList Try.prog ops Q rest (a.put o.dst v') w') :
    wpList Try.prog ops Q (o :: rest) a (w.alloc (.cells #[] 9)) := by
  obtain ⟨i0, hi, hz0, hz1, hz2⟩ := info_parts rowS
  have hown0 : (w.alloc (.cells #[] 9)).ownsRow w.heap.size 9 1 (.slice (some ⟨w.heap.size, 0, none⟩) 0 0) 0 [] := World.ownsRow_made w #[] 0 (Nat.le_refl _) (by unfold maxLen; omega) rfl
  have hba : Below w.heap.size w (w.alloc (.cells #[] 9)) := (Below.refl _ _).alloc (Nat.le_refl _) _
  rcases hrow.2 with ⟨rfl, hn⟩ | ⟨b, off, cap, rfl, h1, h2, h3, h4⟩
  · have hnil : l = [] := List.eq_nil_of_length_eq_zero hn
    subst hnil
    exact wpList_append_own_none hgd s x 22 ho w.heap.size 9 i0 1 Try.underlying22 hi _ _ _ hs hown0 hx (h _ _ hown0 hba)
  · have hN := row_news h4
    refine wpList_append_own _ hgd s x 22 ho w.heap.size 9 i0 (.string ⟨#[]⟩) 1 16 Try.underlying22 hi hz0 hz1 hz2 rfl (by decide) _ _ _ hs hown0 ⟨b, off, none⟩ l.length cap (strs l) hx (by simp [strs]) (fun j u hu => (World.grownBy_alloc w _ none).cell (hN j u hu) (by simp)) (strs_oneCell l) (by unfold maxLen; omega) (by omega) (by simp) ?_
    intro v' w' hown' hgrow' _
    refine h v' w' (by simpa using hown') (hba.grown hgrow' (by simp) ?_)
    intro k hk
    simp [Value.ownBlock] at hk
    omega

theorem played_dead (d : Dk) (n : Nat) : (d.played n).dead = false := by rw [Dk.played, (foldl_lay _ _).2.2.2.1]; rfl
theorem played_all (d : Dk) (h : d.Sound) : (d.played d.log.length).now = d.now := by
  rw [h]; unfold Dk.played; rw [List.take_length]

theorem rowW_at {w : World} {lb lo lc n : Nat} {l : List (Int × ByteArray)} (h : Row w 2 (.slice (some ⟨lb, lo, none⟩) n lc) n (wrs l)) {k : Nat} (hk : k < l.length) :
    w.cell? ⟨lb, lo + k * 2, none⟩ = some (.int .i64 (l[k]).1) ∧ w.cell? ⟨lb, lo + k * 2 + 1, none⟩ = some (.string (l[k]).2) := by
  rcases h.2 with ⟨h, _⟩ | ⟨b', off', cap', hv', h3, h4, h5, h6⟩
  · simp at h
  · simp only [Value.slice.injEq, Option.some.injEq, Addr.mk.injEq, and_true, true_and] at hv'
    obtain ⟨⟨rfl, rfl⟩, rfl⟩ := hv'
    obtain ⟨h1, h2⟩ := wrs_at l k hk
    exact ⟨h6 _ _ h1, by rw [Nat.add_assoc]; exact h6 _ _ h2⟩
theorem row_of_own' {w : World} {base : Nat} {e : TypeId} {v : Value} {n : Nat} {l : List ByteArray} (h : w.ownsRow base e 1 v n (strs l)) (hn : l.length = n) : Row w 1 v l.length (strs l) := by
  rw [hn]; exact row_of_own h
theorem now_cell {w : World} {base : Nat} {e : TypeId} {gn n cap : Nat} {l : List ByteArray} (h : w.ownsRow base e 1 (.slice (some ⟨gn, 0, none⟩) n cap) n (strs l)) (hn : l.length = n) {p : Nat} (hp : p < n) :
    w.cell? ⟨gn, p, none⟩ = some (.string (l[p]'(by omega))) := by
  rw [h.cellAt p (by omega)]
  exact strs_at _ _ _
theorem now_store {w : World} {base : Nat} {e : TypeId} {gn n cap : Nat} {d1 d2 : Dk} {p : Nat} {s : ByteArray} (h : w.ownsRow base e 1 (.slice (some ⟨gn, 0, none⟩) n cap) n (strs d1.now)) (hn : d1.now.length = n) (hs : d2 = d1.lay ((p : Int), s)) :
    (w.setCell ⟨gn, p, none⟩ (.string s)).drew.ownsRow base e 1 (.slice (some ⟨gn, 0, none⟩) n cap) n (strs d2.now) := by
  subst hs
  have := (h.stored p (.string s)).1.drew
  rw [← strs_set] at this
  exact this

set_option maxRecDepth 20000 in
set_option maxHeartbeats 12800000 in
theorem again_walk {w : World} {v1 v2 : Value} {image : List ByteArray} {l : List Act3} (n : Int) (h1 : Row w 1 v1 image.length (strs image)) (h2 : Row w 3 v2 l.length (acs l)) (hi : image.length ≤ maxLen) (hl : l.length ≤ maxLen)
    (hs1 : ∀ s ∈ image, s.size ≤ maxLen) (hs2 : ∀ y ∈ l, ActOk y) :
    Calls Try.prog 5 #[v1, v2, .int .i64 n] w fun e w' => e = .returned (.bool true) ∧ Below w.heap.size w w' := by
  have HL := Lib.hid (long_any h1 h2 hi hl hs1 hs2)
  have HM := Lib.hid fun hi hl => made_any (B := w.heap.size) h1 h2 hi hl hs1 hs2 (Nat.le_refl _)
  have R1 := Lib.hid h1
  obtain ⟨a1, c1, rfl⟩ := h1.shape
  obtain ⟨a2, c2, rfl⟩ := h2.shape
  clear h1 h2 hs1 hs2
  go_enter Try.func5, Try.ntmps5
  go_wp2_with fail
  refine HL.out.mono ?_
  rintro e w1 ⟨⟨b, rfl, hb⟩, rfl⟩
  cases b
  case true =>
    clear hb
    go_wp2_with fail
    refine (live_any _).mono ?_
    rintro e w1 ⟨rfl, hb⟩
    go_wp2_with fail
    go_ret
    exact ⟨rfl, hb⟩
  case false =>
    obtain ⟨hi40, hl60⟩ := hb rfl
    clear hb
    go_wp2_with fail
    refine (HM.out hi40 hl60).mono ?_
    rintro e w1 ⟨b1, hm⟩
    rcases hm with rfl | ⟨a, S, rfl, hd, hS, hpos⟩
    · go_wp2_with fail
      refine (live_any _).mono ?_
      rintro e w2 ⟨rfl, hb⟩
      go_wp2_with fail
      go_ret
      exact ⟨rfl, bthen b1 hb⟩
    · obtain ⟨hlog, hfirst, hnow, hsound⟩ := acts_facts l (fresh image)
      have hsnd : Hid (((fresh image).acts l).Sound) := Lib.hid (hsound rfl)
      have hfi : Hid (((fresh image).acts l).first = image) := Lib.hid hfirst
      have hfl : ((fresh image).acts l).first.length = image.length := by rw [hfirst]; rfl
      clear hlog hfirst hnow hsound HM HL
      generalize (fresh image).acts l = d at *
      have hin := Lib.hid hd.2.logIn
      have hfn := hd.2.flen
      have hnn : Hid (d.now.length = image.length) := Lib.hid (by omega)
      have HFL := Lib.hid hfl
      clear hfl hfn
      have hlg := hd.2.logLen
      have HD := Lib.hid hd
      have RI1 := Lib.hid (R1.out.below b1)
      clear hd hS R1
      go_wp2_with fail
      refine (log_any HD.out).mono ?_
      rintro e w2 ⟨v2, rfl, o2, hb⟩
      have b2 := bthen b1 hb
      have HD2 := Lib.hid (HD.out.below hb)
      have RI2 := Lib.hid (RI1.out.below hb)
      have HL2 := Lib.hid (row_of_own o2)
      obtain ⟨la, lc, rfl, _, hlr⟩ := (row_of_own o2).room
      have HLR := Lib.hid hlr
      have hLlt0 := Lib.hid (row_of_own o2).lt
      clear hb b1 HD RI1 o2 hlr
      go_wp2_with (at_builtin; refine wpList_append_strs rfl _ _ rfl rfl _ image rfl RI2.out (by omega) ?_)
      intro nv w3 o3 hb
      have b3 := bthen b2 hb
      have HD3 := Lib.hid (HD2.out.below hb)
      have HL3 := Lib.hid (HL2.out.below hb)
      rcases o3.2 with ⟨_, h0⟩ | ⟨gn, ncap, cur, rfl, hgn, _, _, _, _, _⟩
      · omega
      have HN3 := Lib.hid o3
      have hSlt : Hid (∀ q, S q → q < w2.heap.size) := Lib.hid fun q hq => (HD2.out.lt q hq).2
      have hLlt : Hid (∀ q, (Value.slice la d.log.length lc).ownBlock = some q → q < w2.heap.size) := hLlt0
      have hgw : w.heap.size ≤ gn := Nat.le_trans b2.size hgn
      clear hb b2 HD2 HL2 RI2 o3 hLlt0
      go_wp2_with fail
      go_loopw [10] (fun i wr => ∃ k : Nat, k ≤ d.log.length + 1 ∧ i = .int .i64 (k : Int) ∧ IsDisk wr w.heap.size a S d ∧ wr.ownsRow w2.heap.size 9 1 (.slice (some ⟨gn, 0, none⟩) image.length ncap) image.length (strs (d.played (min k d.log.length)).now) ∧ Row wr 2 (.slice la d.log.length lc) d.log.length (wrs d.log) ∧ Below w.heap.size w wr) (fun i _ => d.log.length + 1 - (intOf i).toNat)
      case atStart =>
        refine ⟨0, by omega, rfl, HD3.out, ?_, HL3.out, b3⟩
        rw [Nat.zero_min]
        have e : (d.played 0).now = d.first := rfl
        rw [e, hfi.out]
        exact HN3.out
      case round =>
        obtain ⟨k, hk, rfl, hd', hn', hl', hb2⟩ := hrel
        have HD := Lib.hid hd'
        have HL := Lib.hid hl'
        clear hd' hl' HD3 HL3 HN3 b3
        have hnl : (d.played (min k d.log.length)).now.length = image.length := by rw [d.played_len, HFL.out]
        by_cases hlt : k < d.log.length
        · have hkl : k ≤ d.log.length := by omega
          rw [Nat.min_eq_left hkl] at hn' hnl
          have hmin1 : min (k + 1) d.log.length = k + 1 := Nat.min_eq_left hlt
          have HMin := Lib.hid hmin1
          have HNL := Lib.hid hnl
          have HN := Lib.hid hn'
          clear hn' hmin1 hnl
          obtain ⟨lb, lo, rfl, _, _⟩ := HLR.out (by omega)
          by_cases hkn : (k : Int) = n
          · have eb : ((k : Int) == n) = true := by simp [hkn]
            clear hkn
            go_wp2_with fail
            refine (cut_ok HD.out k hkl (Nat.le_trans hb2.size (Nat.le_refl _))).mono ?_
            rintro e u1 ⟨x, S2, rfl, hx, _, hbx⟩
            have X1 := Lib.hid hx
            have D1 := Lib.hid (HD.out.below hbx)
            have N1 := Lib.hid (own_keep HN.out (touch_of_below hbx fun _ => False) fun _ _ h => h)
            have L1 := Lib.hid (HL.out.below hbx)
            have b1 := bthen hb2 hbx
            clear hx hbx HD HN HL hb2
            go_wp2_with fail
            refine (num_any _ _).mono ?_
            rintro e u2 ⟨rfl, rfl⟩
            go_wp2_with fail
            refine (image_any X1.out).mono ?_
            rintro e u2 ⟨v2, rfl, o2, hbx⟩
            have X2 := Lib.hid (X1.out.below hbx)
            have D2 := Lib.hid (D1.out.below hbx)
            have N2 := Lib.hid (own_keep N1.out (touch_of_below hbx fun _ => False) fun _ _ h => h)
            have L2 := Lib.hid (L1.out.below hbx)
            have b2 := bthen b1 hbx
            have R2' := Lib.hid (row_of_own o2)
            obtain ⟨a2', c2', rfl⟩ := (row_of_own o2).shape
            clear hbx b1 X1 D1 N1 L1 o2
            have ht := texts_any R2'.out (row_of_own' N2.out HNL.out) (by rw [HNL.out]; omega)
            rw [show decide ((d.played k).now = (d.played k).now) = true from decide_eq_true rfl] at ht
            have HT := Lib.hid ht
            clear R2' ht
            go_wp2_with fail
            refine HT.out.mono ?_
            rintro e u3 ⟨rfl, q, rfl⟩
            have b3 := below_drewN' b2 q
            have X3 := Lib.hid (X2.out.below (below_drewN (Below.refl _ _) q))
            have D3 := Lib.hid (D2.out.below (below_drewN (Below.refl _ _) q))
            have N3 := Lib.hid (own_keep N2.out (touch_drewN u2 q fun _ => False) fun _ _ h => h)
            have L3 := Lib.hid (L2.out.below (below_drewN (Below.refl _ _) q))
            clear b2 X2 D2 N2 L2 HT
            generalize u2.drewN q = u3 at *
            go_wp2_with fail
            refine (dead_any X3.out).mono ?_
            rintro e u4 ⟨rfl, rfl⟩
            rw [played_dead]
            go_wp2_with fail
            refine (writes_any X3.out).mono ?_
            rintro e u4 ⟨rfl, rfl⟩
            rw [show (((d.played k).log.length : Nat) : Int) = (k : Int) by rw [d.played_log, List.length_take, Nat.min_eq_left hkl]]
            clear X3
            have HD := D3
            have HN := N3
            have HL := L3
            have hb2 := b3
            clear D3 N3 L3 b3
            have hx := hin.out _ (List.getElem_mem hlt)
            obtain ⟨x0, x1⟩ := rowW_at HL.out hlt
            have hsucc := Lib.hid (d.played_succ k hlt)
            have HLt := Lib.hid hlt
            generalize d.log[k] = x at *
            obtain ⟨xi, xs⟩ := x
            simp only at x0 x1 hx
            obtain ⟨hx0, hx1⟩ := hx
            obtain ⟨p, rfl⟩ := Int.eq_ofNat_of_zero_le hx0
            have hp : p < image.length := by have := hnn.out; omega
            have hcell := now_cell HN.out HNL.out hp
            have hfz := fun o => HN.out.frozenAt o
            clear hx0 hx1
            go_wp2_with fail
            go_still_tail 12, (by kernel_rfl)
            go_wp2_with fail
            have hT := (touch_set u3 gn p (.string xs) (fun k => k = gn) rfl).trans (touch_drew _ _)
            go_roundw
            case rel =>
              refine ⟨k + 1, by omega, by go_num, ?_, ?_, ?_, ?_⟩
              · exact HD.out.keep hT fun q hq => by have := hSlt.out q hq; rintro rfl; omega
              · rw [HMin.out]
                exact now_store HN.out HNL.out hsucc.out
              · exact HL.out.keep hT fun q hq => by have := hLlt.out q hq; rintro rfl; omega
              · exact hb2.trans (hT.below hb2.size (fun q hq => by subst hq; omega))
            case measure => simp [intOf]; omega
          · have eb : ((k : Int) == n) = false := by simp [hkn]
            have eb2 : ((k : Int) == (d.log.length : Int)) = false := by simp; omega
            clear hkn
            have hx := hin.out _ (List.getElem_mem hlt)
            obtain ⟨x0, x1⟩ := rowW_at HL.out hlt
            have hsucc := Lib.hid (d.played_succ k hlt)
            have HLt := Lib.hid hlt
            generalize d.log[k] = x at *
            obtain ⟨xi, xs⟩ := x
            simp only at x0 x1 hx
            obtain ⟨hx0, hx1⟩ := hx
            obtain ⟨p, rfl⟩ := Int.eq_ofNat_of_zero_le hx0
            have hp : p < image.length := by have := hnn.out; omega
            have hcell := now_cell HN.out HNL.out hp
            have hfz := fun o => HN.out.frozenAt o
            clear hx0 hx1
            go_wp2_with fail
            go_still_tail 12, (by kernel_rfl)
            go_wp2_with fail
            have hT := (touch_set wr gn p (.string xs) (fun k => k = gn) rfl).trans (touch_drew _ _)
            go_roundw
            case rel =>
              refine ⟨k + 1, by omega, by go_num, ?_, ?_, ?_, ?_⟩
              · exact HD.out.keep hT fun q hq => by have := hSlt.out q hq; rintro rfl; omega
              · rw [HMin.out]
                exact now_store HN.out HNL.out hsucc.out
              · exact HL.out.keep hT fun q hq => by have := hLlt.out q hq; rintro rfl; omega
              · exact hb2.trans (hT.below hb2.size (fun q hq => by subst hq; omega))
            case measure => simp [intOf]; omega
        · by_cases hke : k = d.log.length
          · have hkl : k ≤ d.log.length := by omega
            rw [Nat.min_eq_left hkl] at hn' hnl
            have hmin2 : min (k + 1) d.log.length = k := by omega
            have HMin := Lib.hid hmin2
            have HNL := Lib.hid hnl
            have HN := Lib.hid hn'
            have eb2 : ((k : Int) == (d.log.length : Int)) = true := by simp [hke]
            clear hn' hmin2 hnl hke
            by_cases hkn : (k : Int) = n
            · have eb : ((k : Int) == n) = true := by simp [hkn]
              clear hkn
              go_wp2_with fail
              refine (cut_ok HD.out k hkl (Nat.le_trans hb2.size (Nat.le_refl _))).mono ?_
              rintro e u1 ⟨x, S2, rfl, hx, _, hbx⟩
              have X1 := Lib.hid hx
              have D1 := Lib.hid (HD.out.below hbx)
              have N1 := Lib.hid (own_keep HN.out (touch_of_below hbx fun _ => False) fun _ _ h => h)
              have L1 := Lib.hid (HL.out.below hbx)
              have b1 := bthen hb2 hbx
              clear hx hbx HD HN HL hb2
              go_wp2_with fail
              refine (num_any _ _).mono ?_
              rintro e u2 ⟨rfl, rfl⟩
              go_wp2_with fail
              refine (image_any X1.out).mono ?_
              rintro e u2 ⟨v2, rfl, o2, hbx⟩
              have X2 := Lib.hid (X1.out.below hbx)
              have D2 := Lib.hid (D1.out.below hbx)
              have N2 := Lib.hid (own_keep N1.out (touch_of_below hbx fun _ => False) fun _ _ h => h)
              have L2 := Lib.hid (L1.out.below hbx)
              have b2 := bthen b1 hbx
              have R2' := Lib.hid (row_of_own o2)
              obtain ⟨a2', c2', rfl⟩ := (row_of_own o2).shape
              clear hbx b1 X1 D1 N1 L1 o2
              have ht := texts_any R2'.out (row_of_own' N2.out HNL.out) (by rw [HNL.out]; omega)
              rw [show decide ((d.played k).now = (d.played k).now) = true from decide_eq_true rfl] at ht
              have HT := Lib.hid ht
              clear R2' ht
              go_wp2_with fail
              refine HT.out.mono ?_
              rintro e u3 ⟨rfl, q, rfl⟩
              have b3 := below_drewN' b2 q
              have X3 := Lib.hid (X2.out.below (below_drewN (Below.refl _ _) q))
              have D3 := Lib.hid (D2.out.below (below_drewN (Below.refl _ _) q))
              have N3 := Lib.hid (own_keep N2.out (touch_drewN u2 q fun _ => False) fun _ _ h => h)
              have L3 := Lib.hid (L2.out.below (below_drewN (Below.refl _ _) q))
              clear b2 X2 D2 N2 L2 HT
              generalize u2.drewN q = u3 at *
              go_wp2_with fail
              refine (dead_any X3.out).mono ?_
              rintro e u4 ⟨rfl, rfl⟩
              rw [played_dead]
              go_wp2_with fail
              refine (writes_any X3.out).mono ?_
              rintro e u4 ⟨rfl, rfl⟩
              rw [show (((d.played k).log.length : Nat) : Int) = (k : Int) by rw [d.played_log, List.length_take, Nat.min_eq_left hkl]]
              clear X3
              have HD := D3
              have HN := N3
              have HL := L3
              have hb2 := b3
              clear D3 N3 L3 b3
              go_wp2_with fail
              go_roundw
              case rel =>
                refine ⟨k + 1, by omega, by go_num, HD.out, ?_, HL.out, hb2⟩
                rw [HMin.out]; exact HN.out
              case measure => simp [intOf]; omega
            · have eb : ((k : Int) == n) = false := by simp [hkn]
              clear hkn
              go_wp2_with fail
              refine (cut_ok HD.out k hkl (Nat.le_trans hb2.size (Nat.le_refl _))).mono ?_
              rintro e u1 ⟨x, S2, rfl, hx, _, hbx⟩
              have X1 := Lib.hid hx
              have D1 := Lib.hid (HD.out.below hbx)
              have N1 := Lib.hid (own_keep HN.out (touch_of_below hbx fun _ => False) fun _ _ h => h)
              have L1 := Lib.hid (HL.out.below hbx)
              have b1 := bthen hb2 hbx
              clear hx hbx HD HN HL hb2
              go_wp2_with fail
              refine (num_any _ _).mono ?_
              rintro e u2 ⟨rfl, rfl⟩
              go_wp2_with fail
              refine (image_any X1.out).mono ?_
              rintro e u2 ⟨v2, rfl, o2, hbx⟩
              have X2 := Lib.hid (X1.out.below hbx)
              have D2 := Lib.hid (D1.out.below hbx)
              have N2 := Lib.hid (own_keep N1.out (touch_of_below hbx fun _ => False) fun _ _ h => h)
              have L2 := Lib.hid (L1.out.below hbx)
              have b2 := bthen b1 hbx
              have R2' := Lib.hid (row_of_own o2)
              obtain ⟨a2', c2', rfl⟩ := (row_of_own o2).shape
              clear hbx b1 X1 D1 N1 L1 o2
              have ht := texts_any R2'.out (row_of_own' N2.out HNL.out) (by rw [HNL.out]; omega)
              rw [show decide ((d.played k).now = (d.played k).now) = true from decide_eq_true rfl] at ht
              have HT := Lib.hid ht
              clear R2' ht
              go_wp2_with fail
              refine HT.out.mono ?_
              rintro e u3 ⟨rfl, q, rfl⟩
              have b3 := below_drewN' b2 q
              have X3 := Lib.hid (X2.out.below (below_drewN (Below.refl _ _) q))
              have D3 := Lib.hid (D2.out.below (below_drewN (Below.refl _ _) q))
              have N3 := Lib.hid (own_keep N2.out (touch_drewN u2 q fun _ => False) fun _ _ h => h)
              have L3 := Lib.hid (L2.out.below (below_drewN (Below.refl _ _) q))
              clear b2 X2 D2 N2 L2 HT
              generalize u2.drewN q = u3 at *
              go_wp2_with fail
              refine (dead_any X3.out).mono ?_
              rintro e u4 ⟨rfl, rfl⟩
              rw [played_dead]
              go_wp2_with fail
              refine (writes_any X3.out).mono ?_
              rintro e u4 ⟨rfl, rfl⟩
              rw [show (((d.played k).log.length : Nat) : Int) = (k : Int) by rw [d.played_log, List.length_take, Nat.min_eq_left hkl]]
              clear X3
              have HD := D3
              have HN := N3
              have HL := L3
              have hb2 := b3
              clear D3 N3 L3 b3
              go_wp2_with fail
              go_roundw
              case rel =>
                refine ⟨k + 1, by omega, by go_num, HD.out, ?_, HL.out, hb2⟩
                rw [HMin.out]; exact HN.out
              case measure => simp [intOf]; omega
          · have hk1 : k = d.log.length + 1 := by omega
            have hmin3 : min k d.log.length = d.log.length := by omega
            rw [hmin3] at hn' hnl
            have HNL := Lib.hid hnl
            have HN := Lib.hid hn'
            have hgt : d.log.length < k := by omega
            clear hn' hmin3 hnl hke hk1 hlt hk
            go_wp2_with fail
            refine (writes_any HD.out).mono ?_
            rintro e u1 ⟨rfl, rfl⟩
            go_wp2_with fail
            refine (cut_ok HD.out d.log.length (Nat.le_refl _) hb2.size).mono ?_
            rintro e u1 ⟨x, S2, rfl, hx, _, hbx⟩
            have X1 := Lib.hid hx
            have D1 := Lib.hid (HD.out.below hbx)
            have N1 := Lib.hid (own_keep HN.out (touch_of_below hbx fun _ => False) fun _ _ h => h)
            have b1' := bthen hb2 hbx
            clear hx hbx HD HN HL hb2
            go_wp2_with fail
            refine (image_any D1.out).mono ?_
            rintro e u2 ⟨v2, rfl, o2, hbx⟩
            have X2 := Lib.hid (X1.out.below hbx)
            have D2 := Lib.hid (D1.out.below hbx)
            have N2 := Lib.hid (own_keep N1.out (touch_of_below hbx fun _ => False) fun _ _ h => h)
            have b2' := bthen b1' hbx
            have R2' := Lib.hid (row_of_own o2)
            obtain ⟨a2', c2', rfl⟩ := (row_of_own o2).shape
            clear hbx b1' X1 D1 N1 o2
            have ht := texts_any R2'.out (row_of_own' N2.out HNL.out) (by rw [hnn.out]; omega)
            rw [show decide (d.now = (d.played d.log.length).now) = true from decide_eq_true (played_all d hsnd.out).symm] at ht
            have HT := Lib.hid ht
            clear R2' ht
            go_wp2_with fail
            refine HT.out.mono ?_
            rintro e u3 ⟨rfl, q, rfl⟩
            have b3' := below_drewN' b2' q
            have X3 := Lib.hid (X2.out.below (below_drewN (Below.refl _ _) q))
            have D3 := Lib.hid (D2.out.below (below_drewN (Below.refl _ _) q))
            clear b2' X2 D2 N2 HT
            go_wp2_with fail
            have hs := same_any X3.out D3.out
            rw [show decide ((d.played d.log.length).now = d.now) = true from decide_eq_true (played_all d hsnd.out)] at hs
            refine hs.mono ?_
            clear hs
            rintro e u4 ⟨rfl, q2, rfl⟩
            have b4' := below_drewN' b3' q2
            clear b3' X3 D3
            go_wp2_with fail
            refine (live_any _).mono ?_
            rintro e u5 ⟨rfl, hbx⟩
            go_wp2_with fail
            go_ret
            exact ⟨rfl, bthen (by rw [← drewN_two]; exact b4') hbx⟩

set_option maxRecDepth 100000 in
/-- What the walk gives, for every argument. -/
theorem again_contract (H : Type) (enc : TypeId × Value → H) (W : World) (base : Nat) (args : Array Value) (ds gs : List (DataW H)) (before : List MemPlace)
    (hval0 : ∀ (j : Nat) t v, Try.f5.params[j]? = some t → args[j]? = some v → Value.okWide Try.prog W .any base t v)
    (hW : DataW.Whole enc Try.prog Try.f5.params.toList Rows.diskAgainSpec.vars false W args.toList ds gs before) :
    Calls Try.prog 5 args W fun e W' => ∃ v, e = .returned v ∧ Rows.diskAgainSpec.post enc Try.prog Try.f5 false true false false W args v W' := by
  have hval : ∀ (j : Nat) t v, Try.f5.params[j]? = some t → args[j]? = some v → Value.okWide Try.prog W .any base t v := hval0
  have hW' := hW
  obtain ⟨p, q, hA0, hV, rfl, hfz, hnd⟩ := hW
  have hA : DataW.TrodAll enc Try.prog W 0 (fun _ => true) true Try.f5.params.toList args.toList ds p := hA0
  rw [Try.params5] at hA hval
  obtain ⟨v0, vs0, d0, ds0, p0, q0, hargs0, rfl, rfl, h0, r0⟩ := trodAll_cons hA
  obtain ⟨v1, vs1, d1, ds1, p1, q1, hargs1, rfl, rfl, h1, r1⟩ := trodAll_cons r0
  obtain ⟨v2, vs2, d2, ds2, p2, q2, hargs2, rfl, rfl, h2, r2⟩ := trodAll_cons r1
  obtain ⟨rfl, rfl, rfl⟩ := trodAll_nil r2
  subst hargs1
  subst hargs2
  obtain rfl : args = #[v0, v1, v2] := by cases args; simp_all
  obtain ⟨rfl, rfl⟩ := trodVars_none hV
  have hv0 := hval 0 22 v0 rfl rfl
  have hc0 : Cell.okWide Try.prog W .any base 22 v0 := by simpa only [Value.okWide, Try.underlying22] using hv0
  obtain ⟨a0, c0, n0, e0⟩ := okWide_slice Try.underlying22 hv0
  obtain ⟨fuel0, hf0⟩ := id h0
  rw [show v0.cells.toList = [v0] by rw [e0]; rfl] at hf0
  obtain ⟨l0, rl0, hs0⟩ := open_strs hc0 hf0
  have hv1 := hval 1 23 v1 rfl rfl
  have hc1 : Cell.okWide Try.prog W .any base 23 v1 := by simpa only [Value.okWide, Try.underlying23] using hv1
  obtain ⟨a1, c1, n1, e1⟩ := okWide_slice Try.underlying23 hv1
  obtain ⟨fuel1, hf1⟩ := id h1
  rw [show v1.cells.toList = [v1] by rw [e1]; rfl] at hf1
  obtain ⟨l1, rl1, hs1⟩ := open_acts hc1 hf1
  obtain ⟨a2, rfl, rfl, rfl, w2⟩ := open_int Try.underlying3 (hval 2 3 v2 rfl rfl) h2
  clear hA0 hval0
  simp only [List.append_nil] at hW'
  refine (again_walk a2 rl0 rl1 rl0.small rl1.small hs0 hs1).mono fun e W' ⟨he, bel⟩ => ?_
  subst he
  exact ⟨_, rfl, _, _, _, [], _, [], hW', trodAll_mk1 (shut_bool Try.underlying4 _), (trodAll_cons_mk (Below.trod laidOut (by kernel_rfl) (of_decide_eq_true (by kernel_rfl)) h0 bel (places_lt h0)) (trodAll_cons_mk (Below.trod laidOut (by kernel_rfl) (of_decide_eq_true (by kernel_rfl)) h1 bel (places_lt h1)) (trodAll_cons_mk (shut_int Try.underlying3 w2) trodAll_mk0))), rfl, bel.frame _, fun h => by cases h⟩

set_option maxRecDepth 100000 in
theorem again_lifted (os : Os) (started : os.Started) (H : Type) (enc : TypeId × Value → H) :
    ReturnsInHanded {} Try.checked os 5 .any (Rows.diskAgainSpec.pre6 enc Try.prog Try.f5 Rows.diskAgainRow.domain false) (Rows.diskAgainSpec.post enc Try.prog Try.f5 false true false false) := by
  refine returnsInHanded_of_change (C := Try.checked) own started (by kernel_rfl) Try.func5
    (ChangeSpec.witness6 (enc := enc) (C := Try.checked) false ⟨#[], #[.slice none 0 0, .slice none 0 0, .int .i64 0], []⟩ 8 (by kernel_rfl) (by kernel_rfl) (by kernel_rfl) (by kernel_rfl)) ?_
  intro W base args ds gs before hval hW _ _
  exact again_contract H enc W base args ds gs before hval hW

/-- The statement. -/
theorem again_holds : Rows.DiskAgainSaid :=
  OpenClaim.holds_of_wide 5 Try.f5 rfl rfl rfl rfl rfl rfl rfl ⟨rfl, rfl, rfl, rfl, rfl⟩ rfl rfl rfl rfl rfl (by kernel_rfl) Try.func5 (by kernel_rfl)
    (of_decide_eq_true (by kernel_rfl)) (by unfold Func.isWrapper; first | (rw [if_pos (by decide +kernel)]; kernel_rfl) | (rw [if_neg (by decide +kernel)]; exact ⟨rfl, rfl⟩))
    (fun os started H enc _ => again_lifted os started H enc)

set_option maxRecDepth 100000 in
theorem again_upto_lifted (os : Os) (started : os.Started) (H : Type) (enc : TypeId × Value → H) (F : Stop.Interp) :
    ReturnsInHanded {} Try.checked os 5 .any ((Rows.OpenSpec.upto Rows.diskAgainSpec).pre6 enc Try.prog Try.f5 Rows.diskAgainUptoRow.domain false) (((Rows.OpenSpec.upto Rows.diskAgainSpec).at F).post enc Try.prog Try.f5 false true false false) := by
  refine returnsInHanded_of_cond (C := Try.checked) (s := Rows.OpenSpec.upto Rows.diskAgainSpec) (k := Rows.uptoSmall) rfl own started (by kernel_rfl) Try.func5
    (OpenSpec.witness (enc := enc) (C := Try.checked) (s := Rows.OpenSpec.upto Rows.diskAgainSpec) (k := Rows.uptoSmall) rfl false ⟨#[], #[.slice none 0 0, .slice none 0 0, .int .i64 0], []⟩ 8 (by kernel_rfl) (by kernel_rfl) (by kernel_rfl)
      (x := ([.nil, .nil, .lit (.int .i64 0)], [], [])) (by kernel_rfl) rfl (by kernel_rfl)) ?_
  intro W base args ds gs before hval hW _ hk _
  exact again_contract H enc W base args ds gs before hval hW

/-- The statement, second form. -/
theorem again_upto_holds : Rows.DiskAgainUptoSaid :=
  OpenClaim.holds_of_cond 5 Try.f5 rfl rfl rfl rfl rfl rfl rfl ⟨rfl, rfl, rfl, rfl, rfl⟩ rfl rfl rfl rfl rfl (by kernel_rfl) Try.func5 (by kernel_rfl)
    (of_decide_eq_true (by kernel_rfl)) (by unfold Func.isWrapper; first | (rw [if_pos (by decide +kernel)]; kernel_rfl) | (rw [if_neg (by decide +kernel)]; exact ⟨rfl, rfl⟩))
    (fun os started H enc _ F => again_upto_lifted os started H enc F)

#print axioms again_holds
#print axioms again_upto_holds
end Go.Proofs.Ythamjlhkiabcnaa
