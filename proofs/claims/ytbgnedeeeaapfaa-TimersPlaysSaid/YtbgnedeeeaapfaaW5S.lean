/-
  What Turn and Tick do with a wheel of strings that calls nobody.
-/
import Derived.Test.YtbgnedeeeaapfaaW4S
namespace Go.Proofs.Ytbgnedeeeaapfaa
open Go.RowKit Go.Maps
set_option linter.unusedVariables false
abbrev PtTS : TypeId := 25
set_option maxHeartbeats 800000 in
theorem turnDS {w : World} {a b : Nat} (hb : w.cell? ⟨b, 0, none⟩ = some (.pointer (some ⟨a, 0, none⟩))) {v : Value} (h6 : w.cell? ⟨a, 6, none⟩ = some v) (hf : w.frozen? ⟨a, 6, none⟩ = false) : CallsD Try.prog 55 #[.pointer (some ⟨b, 0, none⟩)] .returning w fun e' u' w' => e' = .returned (.tuple #[]) ∧ u' = .returning ∧ w' = w.setCell ⟨a, 6, none⟩ (.bool false) := by
  refine callsD_of_wpS Try.func55 rfl fun c₀ cs hu => ?_
  simp only [Try.ntmps55, List.size_toArray, List.length_nil, List.length_cons, Nat.reduceAdd, Nat.reduceSub, Array.replicate_succ, Array.replicate_zero, List.push_toArray, List.append_toArray, List.nil_append, List.cons_append]
  apply wpS_region
  simp [wpOpsS, go_sem, recoverD, hu, hb, h6, hf]
  cases c₀
  simp_all [bodyPostS, results, Try.results55, go_sem]
set_option maxRecDepth 100000 in
set_option maxHeartbeats 1600000 in
theorem turn_noS {w : World} {a mb : Nat} {tn : Bool} {x : Wh} (h : IsWS w a mb (.slice none 0 0) tn x) {n : Int} (hn : n < 0 ∨ maxI - x.now < n) :
    Calls Try.prog 19 #[.pointer (some ⟨a, 0, none⟩), .int .i64 n] w fun e w' => e = .returned (.tuple #[.slice none 0 0, .int .i64 2]) ∧ Below w.heap.size w w' := by
  have b0 : Below w.heap.size w (w.alloc (.cells #[.pointer (some ⟨a, 0, none⟩)] PtTS)) := (Below.refl _ _).alloc (Nat.le_refl _) _
  have x0 := cellB (j := 0) (heap_alloc_new w (.cells #[.pointer (some ⟨a, 0, none⟩)] PtTS)) rfl
  have HX := Lib.hid (h.below b0)
  have B0 := Lib.hid b0
  have HN := Lib.hid hn
  clear h b0 hn
  by_cases h1 : n < 0
  · have hd : decide (n < 0) = true := by simpa using h1
    clear h1
    go_enter_defers Try.func19, Try.ntmps19
    go_wp2_with fail
    simp [bodyPostD, Leaves, results, Try.results19, go_sem]
    exact B0.out
  · have hd : decide (n < 0) = false := by simpa using h1
    have HD := Lib.hid (show decide (maxI - x.now < n) = true by simpa using HN.out.resolve_left h1)
    clear h1
    go_enter_defers Try.func19, Try.ntmps19
    go_wp2_with fail
    refine (farS HX.out n).mono ?_
    rintro e w1 ⟨rfl, rfl⟩
    rw [HD.out]
    go_wp2_with fail
    simp [bodyPostD, Leaves, results, Try.results19, go_sem]
    exact B0.out
set_option maxRecDepth 100000 in
set_option maxHeartbeats 3200000 in
theorem turnS {w : World} {a mb : Nat} {x : Wh} (h : IsWS w a mb (.slice none 0 0) false x) {n : Int} (h0 : 0 ≤ n) (h1 : n ≤ maxI - x.now) :
    Calls Try.prog 19 #[.pointer (some ⟨a, 0, none⟩), .int .i64 n] w fun e w' => ∃ u, e = .returned (.tuple #[u, .int .i64 0]) ∧ w'.ownsRow w.heap.size ElTS 1 u (dueL x.ts (x.now + n)).length ((dueL x.ts (x.now + n)).map (·.v)) ∧ IsWS w' a mb (.slice none 0 0) false { x with now := x.now + n, ts := restL x.ts (x.now + n) } ∧ Touch (fun k => k = a ∨ k = mb) w w' := by
  have b0 : Below w.heap.size w (w.alloc (.cells #[.pointer (some ⟨a, 0, none⟩)] PtTS)) := (Below.refl _ _).alloc (Nat.le_refl _) _
  have z0 := heap_alloc_new w (.cells #[.pointer (some ⟨a, 0, none⟩)] PtTS)
  have hsz : (w.alloc (.cells #[.pointer (some ⟨a, 0, none⟩)] PtTS)).heap.size = w.heap.size + 1 := by simp
  have h' := h.below b0
  have HLT := Lib.hid (show a < w.heap.size ∧ mb < w.heap.size from ⟨h.lt, h.map.lt⟩)
  have HX := Lib.hid h'
  have hd : decide (n < 0) = false := by simp; omega
  have HD := Lib.hid (show decide (maxI - x.now < n) = false by simp; omega)
  have hnow := h.good.now0
  have hw : IntKind.i64.wrap (x.now + n) = x.now + n := IntWalk.i64_in _ (by unfold maxI at h1; omega)
  have HE := Lib.hid (show x.now + n ≤ maxI ∧ x.now ≤ x.now + n by omega)
  have HGD := Lib.hid h.good
  have x0 := cellB (j := 0) z0 rfl
  obtain ⟨p, c0, _, _, _, _, _, c6, _⟩ := h'.cells
  have cf := h'.frz 6
  have T0 := Lib.hid (touch_of_below b0 (fun k => k = a ∨ k = mb))
  have Z0 := Lib.hid z0
  have HSZ := Lib.hid hsz
  clear h h' b0 z0 hsz hnow h0 h1
  go_enter_defers Try.func19, Try.ntmps19
  go_wp2_with fail
  generalize (w.alloc (.cells #[.pointer (some ⟨a, 0, none⟩)] PtTS)) = W0 at *
  refine (farS HX.out n).mono ?_
  rintro e w1 ⟨rfl, rfl⟩
  rw [HD.out]
  have X1 := Lib.hid (HX.out.turn true)
  have T1 := Lib.hid (T0.out.trans (touch_set W0 a 6 (.bool true) (fun k => k = a ∨ k = mb) (.inl rfl)))
  have z1 : (W0.setCell ⟨a, 6, none⟩ (.bool true)).heap[w.heap.size]? = some (Obj.cells #[.pointer (some ⟨a, 0, none⟩)] PtTS) := by
    rw [Below.heap_setCell _ _ _ _ (show w.heap.size ≠ a by have := HLT.out.1; omega)]; exact Z0.out
  have x1 := cellB (j := 0) z1 rfl
  obtain ⟨p1, d0, _⟩ := X1.out.cells
  have S1 : Hid ((W0.setCell ⟨a, 6, none⟩ (.bool true)).heap.size = w.heap.size + 1) := Lib.hid (by rw [← HSZ.out]; simp [World.setCell])
  have Z1 := Lib.hid z1
  clear z1
  go_wp2_with fail
  clear c0 c6 cf x0
  generalize (W0.setCell ⟨a, 6, none⟩ (.bool true)) = W1 at *
  refine (nextS X1.out).mono ?_
  rintro e w2 ⟨rfl, u2⟩
  have X2 := Lib.hid (X1.out.below u2)
  have T2 := Lib.hid (T1.out.trans (touch_of_below u2 _))
  have Z2 := Lib.hid ((u2.block w.heap.size (by rw [S1.out]; omega)).trans Z1.out)
  have S2 := Lib.hid (show w.heap.size + 1 ≤ w2.heap.size by rw [← S1.out]; exact u2.size)
  have HLN := Lib.hid (show x.ts.length ≤ 4096 from HGD.out.len)
  generalize hnx : nextP x = nx at *
  have HNX := Lib.hid hnx
  clear hnx
  generalize hbx : (!x.ts.isEmpty) = bx at *
  have HBX := Lib.hid hbx
  clear u2 x1 d0 hbx
  go_wp2_with fail
  go_loopg [7, 8, 9] x.ts.length (fun k u at' ok wr => ∃ (ds rs : List Tm) (nw : Int), k = rs.length ∧ x.ts = ds ++ rs ∧ (∀ t ∈ ds, t.tk ≤ x.now + n) ∧ at' = .int .i64 (nextP ⟨nw, x.ids, x.pls, rs⟩) ∧ ok = .bool (!rs.isEmpty) ∧ IsWS wr a mb (.slice none 0 0) true ⟨nw, x.ids, x.pls, rs⟩ ∧ nw ≤ x.now + n ∧ wr.ownsRow (w.heap.size + 1) ElTS 1 u ds.length (ds.map (·.v)) ∧ wr.heap[w.heap.size]? = some (Obj.cells #[.pointer (some ⟨a, 0, none⟩)] PtTS) ∧ w.heap.size + 1 ≤ wr.heap.size ∧ Touch (fun k => k = a ∨ k = mb) w wr)
  case atStart => exact ⟨[], x.ts, x.now, rfl, rfl, (fun t ht => by cases ht), (by rw [← HNX.out]), by rw [HBX.out], X2.out, HE.out.2, World.ownsRow_nil _ _ _ 1, Z2.out, S2.out, T2.out⟩
  case round =>
    obtain ⟨ds, rs, nw, rfl, hsp, hds, rfl, rfl, hx, hnw, ho, hz, hs, ht⟩ := hrel
    have HSP := Lib.hid hsp
    have HDD := Lib.hid hds
    have HO := Lib.hid ho
    have HXX := Lib.hid hx
    have HOT := Lib.hid ht
    have HZZ := Lib.hid hz
    have HSS := Lib.hid hs
    have HNW := Lib.hid hnw
    have x1 := cellB (j := 0) hz rfl
    cases rs with
    | nil =>
      have HDS : Hid (dueL x.ts (x.now + n) = ds ∧ restL x.ts (x.now + n) = []) := Lib.hid (by rw [hsp]; exact due_split hds (fun t ht => by cases ht))
      clear hsp hds ho hx ht hz hs hnw x1
      simp only [nextP, List.isEmpty_nil, Bool.not_true]
      have W2 := Lib.hid (HXX.out.at (n := x.now + n) HNW.out HE.out.1 (fun t ht => by cases ht))
      obtain ⟨p8, c0, _⟩ := HXX.out.cells
      have cf := HXX.out.frz 0
      have zb : (wr.setCell ⟨a, 0, none⟩ (.int .i64 (x.now + n))).heap[w.heap.size]? = some (Obj.cells #[.pointer (some ⟨a, 0, none⟩)] PtTS) := by
        rw [Below.heap_setCell _ _ _ _ (show w.heap.size ≠ a by have := HLT.out.1; omega)]; exact HZZ.out
      have x9 := cellB (j := 0) zb rfl
      have xz := cellB (j := 0) HZZ.out rfl
      obtain ⟨p9, _, _, _, _, _, _, c6, _⟩ := W2.out.cells
      have c7 := W2.out.frz 6
      have T9 := Lib.hid ((HOT.out.trans (touch_set wr a 0 (.int .i64 (x.now + n)) (fun k => k = a ∨ k = mb) (.inl rfl))).trans (touch_set (wr.setCell ⟨a, 0, none⟩ (.int .i64 (x.now + n))) a 6 (.bool false) (fun k => k = a ∨ k = mb) (.inl rfl)))
      have O9 := Lib.hid (own_keep (own_mono HO.out (show w.heap.size ≤ w.heap.size + 1 by omega)) ((touch_set wr a 0 (.int .i64 (x.now + n)) (fun k => k = a) rfl).trans (touch_set (wr.setCell ⟨a, 0, none⟩ (.int .i64 (x.now + n))) a 6 (.bool false) (fun k => k = a) rfl)) (fun k hk e => by have := (own_from HO.out hk).1; have := HLT.out.1; omega))
      have W9 := Lib.hid (W2.out.turn false)
      go_wp2_with fail
      clear c0 cf xz
      refine leaves_cons (f := 55) (args := #[.pointer (some ⟨w.heap.size, 0, none⟩)]) (by simp) (by simp [go_sem]) ?_
      refine (turnDS x9 c6 c7).mono ?_
      rintro e u' w'' ⟨rfl, rfl, rfl⟩
      clear x9 c6 c7
      generalize ((wr.setCell ⟨a, 0, none⟩ (.int .i64 (x.now + n))).setCell ⟨a, 6, none⟩ (.bool false)) = W10 at *
      simp [Leaves, settle, results, Try.results19, go_sem]
      rw [HDS.out.1, HDS.out.2]
      exact ⟨O9.out, W9.out, T9.out⟩
    | cons t rs =>
      have hord := hx.good.ord
      have hper := hx.good.per t (by simp)
      simp only at hord hper
      have hle := ord_le hord
      by_cases hk : t.tk ≤ x.now + n
      · obtain ⟨s, hv⟩ := hx.vals t (by simp)
        have X3 := Lib.hid (hx.at (n := t.tk) hper.1 hper.2.1 hle)
        obtain ⟨p3, c0, _⟩ := hx.cells
        have cf := hx.frz 0
        have z3 : (wr.setCell ⟨a, 0, none⟩ (.int .i64 t.tk)).heap[w.heap.size]? = some (Obj.cells #[.pointer (some ⟨a, 0, none⟩)] PtTS) := by
          rw [Below.heap_setCell _ _ _ _ (show w.heap.size ≠ a by have := HLT.out.1; omega)]; exact hz
        have x3 := cellB (j := 0) z3 rfl
        have Z3 := Lib.hid z3
        have T3 := Lib.hid (ht.trans (touch_set wr a 0 (.int .i64 t.tk) (fun k => k = a ∨ k = mb) (.inl rfl)))
        have O3 := Lib.hid (own_keep ho (touch_set wr a 0 (.int .i64 t.tk) (fun k => k = a) rfl) (fun k hk e => by have := (own_from ho hk).1; have := HLT.out.1; omega))
        have S3 : Hid ((wr.setCell ⟨a, 0, none⟩ (.int .i64 t.tk)).heap.size = wr.heap.size) := Lib.hid (by simp [World.setCell])
        have hd' : decide (t.tk ≤ x.now + n) = true := by simpa using hk
        have HV := Lib.hid hv
        have HK := Lib.hid hk
        clear hsp hds ho hx ht hz hs hnw hord hper hle hv hk z3
        simp only [nextP, List.isEmpty_cons, Bool.not_false]
        go_wp2_with fail
        clear c0 cf x1
        generalize (wr.setCell ⟨a, 0, none⟩ (.int .i64 t.tk)) = W3 at *
        refine (fallS X3.out (t := t) (ts := rs) rfl s HV.out).mono ?_
        rintro e w4 ⟨rfl, h4, t4⟩
        have z4 := (t4.block w.heap.size (by rw [S3.out]; have := HSS.out; omega) (by have := HLT.out; rintro (e | e) <;> omega)).trans Z3.out
        have O4 := Lib.hid (own_keep O3.out t4 (fun k hk e => by have := (own_from O3.out hk).1; have := HLT.out; rcases e with e | e <;> omega))
        have b5 : Below w4.heap.size w4 (w4.alloc (.cells #[.string s] 9)) := (Below.refl _ _).alloc (Nat.le_refl _) _
        have q5 := cellB (j := 0) (heap_alloc_new w4 (.cells #[.string s] 9)) rfl
        have X5 := Lib.hid (h4.below b5)
        have Z5 := Lib.hid ((b5.block w.heap.size (by have := t4.size; rw [S3.out] at this; have := HSS.out; omega)).trans z4)
        have O5 := Lib.hid (own_hold O4.out (Hold.below b5))
        have T5 := Lib.hid ((T3.out.trans t4).trans (touch_of_below b5 _))
        have S5 : Hid (w.heap.size + 1 ≤ (w4.alloc (.cells #[.string s] 9)).heap.size) := Lib.hid (by have := t4.size; rw [S3.out] at this; have := HSS.out; simp; omega)
        have HLD : Hid (ds.length ≤ 1000000) := Lib.hid (by have := HLN.out; rw [HSP.out, List.length_append] at this; omega)
        clear h4 t4 z4 b5 x3
        go_wp2_with (at_builtin; refine wpList_appS rfl _ _ rfl (w.heap.size + 1) _ (ds.map (·.v)) rfl (by rw [List.length_map]; exact O5.out) _ s rfl q5 (by rw [List.length_map]; exact HLD.out) S5.out ?_)
        intro v6 w6 o6 g6 at6
        have hown : ∀ k, Value.ownBlock u7 = some k → w.heap.size + 1 ≤ k := fun k hk => (own_from O5.out hk).1
        have X6 := Lib.hid (X5.out.keep (g6.block a (by have := S5.out; have := HLT.out; omega) (fun e => by have := hown _ e.symm; have := HLT.out; omega)) (g6.block mb (by have := S5.out; have := HLT.out; omega) (fun e => by have := hown _ e.symm; have := HLT.out; omega)) ⟨Hold.grown g6 (fun k e => by obtain ⟨_, cs, hcs⟩ := own_type O5.out e; exact ⟨cs, hcs⟩) (by decide), Hold.grown g6 (fun k e => by obtain ⟨_, cs, hcs⟩ := own_type O5.out e; exact ⟨cs, hcs⟩) (by decide)⟩)
        have Z6 := Lib.hid ((g6.block w.heap.size (by have := S5.out; omega) (fun e => by have := hown _ e.symm; omega)).trans Z5.out)
        have S6 := Lib.hid (Nat.le_trans S5.out g6.size)
        have T6 := Lib.hid (T5.out.step (touch_of_grown g6 (fun k => Value.ownBlock u7 = some k) (fun k e => e)) (fun k e => .inr (by have := hown k e; omega)))
        have O6 := Lib.hid o6
        clear o6 g6 at6 hown q5
        have x6 := cellB (j := 0) Z6.out rfl
        go_wp2_with fail
        refine (nextS X6.out).mono ?_
        rintro e w7 ⟨rfl, u7'⟩
        have X7 := Lib.hid (X6.out.below u7')
        have Z7 := Lib.hid ((u7'.block w.heap.size (by have := S6.out; omega)).trans Z6.out)
        have S7 := Lib.hid (Nat.le_trans S6.out u7'.size)
        have T7 := Lib.hid (T6.out.trans (touch_of_below u7' _))
        have O7 := Lib.hid (own_hold O6.out (Hold.below u7'))
        clear u7' x6
        go_wp2_with fail
        go_roundg rs.length
        case measure => simp
        case rel =>
          refine ⟨ds ++ [t], rs, t.tk, rfl, by rw [HSP.out]; simp, fun y hy => ?_, rfl, rfl, X7.out, HK.out, ?_, Z7.out, S7.out, T7.out⟩
          · rcases List.mem_append.1 hy with hy | hy
            · exact HDD.out y hy
            · rw [List.mem_singleton.1 hy]; exact HK.out
          · have := O7.out
            rw [List.map_append, List.map_cons, List.map_nil, HV.out, List.length_append, List.length_singleton]
            simpa using this
      · have HDS : Hid (dueL x.ts (x.now + n) = ds ∧ restL x.ts (x.now + n) = t :: rs) := Lib.hid (by rw [hsp]; exact due_split hds (fun u hu => by have := hle u hu; omega))
        have HFT := Lib.hid (fun u (hu : u ∈ t :: rs) => (show x.now + n ≤ u.tk by have := hle u hu; omega))
        have hd' : decide (t.tk ≤ x.now + n) = false := by simpa using hk
        clear hsp hds ho hx ht hz hs hnw x1 hord hper hle hk
        simp only [nextP, List.isEmpty_cons, Bool.not_false]
        have W2 := Lib.hid (HXX.out.at (n := x.now + n) HNW.out HE.out.1 (fun t ht => HFT.out t ht))
        obtain ⟨p8, c0, _⟩ := HXX.out.cells
        have cf := HXX.out.frz 0
        have zb : (wr.setCell ⟨a, 0, none⟩ (.int .i64 (x.now + n))).heap[w.heap.size]? = some (Obj.cells #[.pointer (some ⟨a, 0, none⟩)] PtTS) := by
          rw [Below.heap_setCell _ _ _ _ (show w.heap.size ≠ a by have := HLT.out.1; omega)]; exact HZZ.out
        have x9 := cellB (j := 0) zb rfl
        have xz := cellB (j := 0) HZZ.out rfl
        obtain ⟨p9, _, _, _, _, _, _, c6, _⟩ := W2.out.cells
        have c7 := W2.out.frz 6
        have T9 := Lib.hid ((HOT.out.trans (touch_set wr a 0 (.int .i64 (x.now + n)) (fun k => k = a ∨ k = mb) (.inl rfl))).trans (touch_set (wr.setCell ⟨a, 0, none⟩ (.int .i64 (x.now + n))) a 6 (.bool false) (fun k => k = a ∨ k = mb) (.inl rfl)))
        have O9 := Lib.hid (own_keep (own_mono HO.out (show w.heap.size ≤ w.heap.size + 1 by omega)) ((touch_set wr a 0 (.int .i64 (x.now + n)) (fun k => k = a) rfl).trans (touch_set (wr.setCell ⟨a, 0, none⟩ (.int .i64 (x.now + n))) a 6 (.bool false) (fun k => k = a) rfl)) (fun k hk e => by have := (own_from HO.out hk).1; have := HLT.out.1; omega))
        have W9 := Lib.hid (W2.out.turn false)
        go_wp2_with fail
        clear c0 cf xz
        refine leaves_cons (f := 55) (args := #[.pointer (some ⟨w.heap.size, 0, none⟩)]) (by simp) (by simp [go_sem]) ?_
        refine (turnDS x9 c6 c7).mono ?_
        rintro e u' w'' ⟨rfl, rfl, rfl⟩
        clear x9 c6 c7
        generalize ((wr.setCell ⟨a, 0, none⟩ (.int .i64 (x.now + n))).setCell ⟨a, 6, none⟩ (.bool false)) = W10 at *
        simp [Leaves, settle, results, Try.results19, go_sem]
        rw [HDS.out.1, HDS.out.2]
        exact ⟨O9.out, W9.out, T9.out⟩
set_option maxHeartbeats 800000 in
theorem tickS {w : World} {a mb : Nat} {x : Wh} (h : IsWS w a mb (.slice none 0 0) false x) (h1 : x.now < maxI) :
    Calls Try.prog 18 #[.pointer (some ⟨a, 0, none⟩)] w fun e w' => ∃ u, e = .returned u ∧ w'.ownsRow w.heap.size ElTS 1 u (dueL x.ts (x.now + 1)).length ((dueL x.ts (x.now + 1)).map (·.v)) ∧ IsWS w' a mb (.slice none 0 0) false { x with now := x.now + 1, ts := restL x.ts (x.now + 1) } ∧ Touch (fun k => k = a ∨ k = mb) w w' := by
  have HX := Lib.hid h
  have H1 := Lib.hid (show (1 : Int) ≤ maxI - x.now by omega)
  clear h h1
  go_enter Try.func18, Try.ntmps18
  go_wp2_with fail
  refine (turnS HX.out (n := 1) (by decide) H1.out).mono ?_
  rintro e w1 ⟨u, rfl, o1, h1, t1⟩
  have O1 := Lib.hid o1
  have X1 := Lib.hid h1
  have T1 := Lib.hid t1
  clear o1 h1 t1
  go_wp2_with fail
  go_returns
  exact ⟨_, rfl, O1.out, X1.out, T1.out⟩
set_option maxHeartbeats 800000 in
theorem tick_noS {w : World} {a mb : Nat} {x : Wh} {tn : Bool} (h : IsWS w a mb (.slice none 0 0) tn x) (h1 : x.now = maxI) :
    Calls Try.prog 18 #[.pointer (some ⟨a, 0, none⟩)] w fun e w' => e = .returned (.slice none 0 0) ∧ Below w.heap.size w w' := by
  have HX := Lib.hid h
  have H1 := Lib.hid (show maxI - x.now < 1 by omega)
  clear h h1
  go_enter Try.func18, Try.ntmps18
  go_wp2_with fail
  refine (turn_noS HX.out (n := 1) (.inr H1.out)).mono ?_
  rintro e w1 ⟨rfl, u1⟩
  have U1 := Lib.hid u1
  clear u1
  go_wp2_with fail
  go_returns
  exact ⟨rfl, U1.out⟩
end Go.Proofs.Ytbgnedeeeaapfaa
