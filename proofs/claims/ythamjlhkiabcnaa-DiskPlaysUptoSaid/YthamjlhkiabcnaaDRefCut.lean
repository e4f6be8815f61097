/-
  What the document's own Load and Cut do.
-/
import Derived.Test.YthamjlhkiabcnaaDRef
import Derived.Test.YthamjlhkiabcnaaDChain
import Derived.Deep.DeepCutAuto
namespace Go.Proofs.Ythamjlhkiabcnaa
open Go.RowKit

/-- append of a list of texts that is not empty to a list without room: a new block. -/
theorem wp_append_fresh {w : World} {o : Oper} {a : Act} {K : Act → World → Prop} {Q : Exit → Act → World → Prop} (s x : Operand)
    (ho : o.op = .call { callee := .builtin .append, args := #[s, x], argTypes := #[22, 22] })
    (g : Nat) (hs : a.eval s = .slice (some ⟨g, 0, none⟩) 0 0) (vx : Value) (l : List ByteArray) (hx : a.eval x = vx) (hrow : Row w 1 vx l.length (strs l)) (h1 : 1 ≤ l.length) (h2 : l.length ≤ 4096)
    (h : ∀ v' w', w'.ownsRow w.heap.size 9 1 v' l.length (strs l) → Below w.heap.size w w' → K (a.put o.dst v') w') : Oper.wp Try.prog o a w K Q := by
  obtain ⟨i0, hi, hz0, hz1, hz2⟩ := info_parts rowS
  rcases hrow.2 with ⟨rfl, hn⟩ | ⟨b, off, cap, rfl, h3, h4, h5, h6⟩
  · omega
  have hr := run_append_grow (P := Try.prog) w 22 o.type 9 i0 (.string ⟨#[]⟩) Try.underlying22 hi hz0 ⟨g, 0, none⟩ 0 0 [] (by simp) (by simp) ⟨b, off, none⟩ l.length cap (strs l) (by rw [hz1]; simp [strs]) (row_news h6) (by omega) (by omega) (by rw [hz2]; exact growslice_fits (by omega) (by omega))
  simp only [Nat.zero_add] at hr
  have hge := grownCap_ge w l.length 0 9
  have hcm : grownCap w l.length 0 9 ≤ maxLen := grownCap_le_maxLen w l.length 0 9 (by unfold maxLen; omega)
  unfold Oper.wp execOp
  simp only [ho, resolve, invoke, builtin, Sem.run_bind, Sem.run_pure, Result.andThen_ok, List.map_toArray, List.map_cons, List.map_nil, hs, hx, hr]
  refine h _ _ ⟨by simp [strs], .inr ⟨w.heap.size, _, _, rfl, Nat.le_refl _, heap_alloc_new w.drew _, hge, hcm, ?_, ?_⟩⟩ ⟨rfl, rfl, rfl, by simp, fun k hk => heap_alloc_old w.drew _ hk⟩
  · simp only [Array.size_append, List.size_toArray, size_zeroCells, strs_length, List.length_nil]
    show 0 + l.length + (grownCap w l.length 0 9 - l.length) * 1 = _
    omega
  · simp only [Array.toList_append, List.nil_append]
    rw [Nat.mul_one, ← strs_length l]
    exact List.take_left

section
variable {w : World} {B : Nat} {v : Value} {l : List ByteArray}

set_option maxHeartbeats 400000 in
theorem refLoad_arg (h : Row w 1 v l.length (strs l)) (h1 : l.length < 1 ∨ 4096 < l.length) (hl : l.length ≤ 1099511627776) :
    Calls Try.prog 13 #[v] w fun e w' => e = .returned (.tuple #[.pointer none, .int .i64 2]) ∧ w = w' := by
  obtain ⟨sa, sc, rfl⟩ := h.shape
  clear h
  rcases Nat.lt_or_ge l.length 1 with h2 | h2
  · clear h1
    go_enter Try.func13, Try.ntmps13
    go_wp2_with fail
    go_ret2
    exact ⟨rfl, rfl⟩
  · have h3 : 4096 < l.length := by omega
    clear h1
    go_enter Try.func13, Try.ntmps13
    go_wp2_with fail
    go_ret2
    exact ⟨rfl, rfl⟩

def RefLoaded (w : World) (B : Nat) (l : List ByteArray) (e : Ending) (w' : World) : Prop :=
  if anyLong l = true then e = .returned (.tuple #[.pointer none, .int .i64 1]) ∧ w = w' else NewRef w B (fresh l) e w'

set_option maxHeartbeats 1600000 in
theorem refLoad_any (h : Row w 1 v l.length (strs l)) (h1 : 1 ≤ l.length) (h2 : l.length ≤ 4096) (hs : ∀ s ∈ l, s.size ≤ maxLen) (hB : B ≤ w.heap.size) :
    Calls Try.prog 13 #[v] w (RefLoaded w B l) := by
  have HR := Lib.hid h
  obtain ⟨a1, c1, rfl, _, r1⟩ := h.room
  obtain ⟨b, off, rfl, _, q1⟩ := r1 (by omega)
  have HS := Lib.hid hs
  clear hs h r1
  go_enter Try.func13, Try.ntmps13
  go_wp2_with fail
  go_loop [4] (fun i => ∃ k : Nat, k ≤ l.length ∧ i = .int .i64 k ∧ anyLong (l.take k) = false) (fun i => l.length - (intOf i).toNat)
  case atStart => exact ⟨0, Nat.zero_le _, rfl, rfl⟩
  case round =>
    obtain ⟨k, hk, rfl, hrel⟩ := hrel
    have HR2 := Lib.hid hrel
    clear hrel
    by_cases hlt : k < l.length
    · have hc := q1 k _ (strs_at l k hlt)
      have hstep := Lib.hid (anyLong_snoc l k hlt HR2.out)
      have hhit := Lib.hid (anyLong_hit l k hlt)
      have hsz := HS.out _ (List.getElem_mem hlt)
      unfold maxLen at hsz
      clear q1
      generalize l[k] = s at *
      by_cases hlong : 1024 < s.size
      · go_wp2_with fail
        go_ret2
        unfold RefLoaded
        rw [if_pos (hhit.out hlong)]
        exact ⟨rfl, rfl⟩
      · have hlong' : s.size ≤ 1024 := by omega
        have Hl := Lib.hid hlong
        clear hlong
        go_wp2_with fail
        go_round
        case rel => exact ⟨k + 1, by omega, by go_num, by rw [hstep.out]; simpa using Hl.out⟩
        case measure => simp [intOf]; omega
    · obtain rfl : k = l.length := by omega
      have hno : anyLong l = false := by have := HR2.out; rwa [List.take_length] at this
      clear q1
      have HN := Lib.hid hno
      clear hno
      go_wp2_with (at_builtin; refine wpList_append_strs rfl _ _ rfl rfl _ l rfl HR.out (by omega) ?_)
      intro v1 w1 o1 hb1
      obtain ⟨a1, c1', rfl⟩ := (row_of_own o1).shape
      have O1 := Lib.hid o1
      have RB := Lib.hid (HR.out.below hb1)
      clear o1
      go_wp2_with (at_builtin; refine wpList_append_strs rfl _ _ rfl rfl _ l rfl RB.out (by omega) ?_)
      intro v2 w2 o2 hb2
      obtain ⟨a2, c2', rfl⟩ := (row_of_own o2).shape
      have O2 := Lib.hid o2
      clear o2
      go_wp2_with fail
      go_ret2
      unfold RefLoaded
      rw [HN.out]
      obtain ⟨S, hobj, hS⟩ := IsObj.made (B := B) O1.out hb1 O2.out hb2 hB 73 [.bool false, .int .i64 0, .bool false]
      refine ⟨w2.heap.size, S, rfl, ⟨⟨_, _, _, hobj⟩, ⟨h1, h2, rfl, fun x hx => (by cases hx), by simp [fresh], Int.le_refl _, (by decide : (-1 : Int) ≤ 9223372036854775807)⟩⟩, hS, ?_⟩
      exact (hb1.trans (hb2.mono hb1.size)).alloc (by have := hb1.size; have := hb2.size; omega) _
end

section
variable {w : World} {B a : Nat} {S : Nat → Prop} {d : Dk}
set_option maxHeartbeats 400000 in
theorem refCut_arg (h : IsRef w B a S d) (n : Int) (hn : n < 0 ∨ d.log.length < n) : Calls Try.prog 43 #[.pointer (some ⟨a, 0, none⟩), .int .i64 n] w fun e w' => e = .returned (.tuple #[.pointer none, .int .i64 2]) ∧ w = w' := by
  obtain ⟨⟨fv, bv, lv, h⟩, g⟩ := h
  have c2 := h.c2
  obtain ⟨sa, sc, rfl⟩ := h.rlog.shape
  clear h g
  rcases Int.lt_or_le n 0 with h1 | h1
  · clear hn
    go_enter Try.func43, Try.ntmps43
    go_wp2
    go_ret2
    exact ⟨rfl, rfl⟩
  · have h2 : (d.log.length : Int) < n := by omega
    clear hn
    go_enter Try.func43, Try.ntmps43
    go_wp2
    go_ret2
    exact ⟨rfl, rfl⟩

set_option maxHeartbeats 3200000 in
theorem refCut_ok (h : IsRef w B a S d) (n : Nat) (hn : n ≤ d.log.length) (hB : B ≤ w.heap.size) : Calls Try.prog 43 #[.pointer (some ⟨a, 0, none⟩), .int .i64 (n : Int)] w (NewRef w B (d.played n)) := by
  obtain ⟨⟨fv, bv, lv, h⟩, g⟩ := h
  have c0 := h.c0
  have c2 := h.c2
  have hf1 : 1 ≤ d.first.length := by have := g.flen; have := g.pos; omega
  have hf2 : d.first.length ≤ 4096 := by have := g.flen; have := g.le; omega
  obtain ⟨sa, sc, rfl⟩ := h.rfi.shape
  obtain ⟨la, lc, rfl⟩ := h.rlog.shape
  have H := Lib.hid h
  have HG := Lib.hid g
  have hfi := h.rfi
  have HF0 := Lib.hid hfi
  have HF := Lib.hid fun w' (hb : Stay w w') => hfi.below hb
  clear h g hfi
  go_enter Try.func43, Try.ntmps43
  go_upto_region 3 with fail
  go_cut [6] (fun p wx => ∃ (c : Nat) (S1 : Nat → Prop) (bf bn : Value), p = .pointer (some ⟨c, 0, none⟩) ∧ IsObj wx B c 73 [.bool false, .int .i64 0, .bool false] bf bn (.slice none 0 0) S1 d.first d.first [] ∧ (∀ k, S1 k → w.heap.size ≤ k) ∧ Below w.heap.size w wx)
  case first =>
    refine lex_start [1, 2, 3, 4, 7, 8, 9, 10, 0, 6, 5, 11, 12, 13, 14] (S := fun W => Stay w W) (by kernel_rfl) (Stay.here _) (fun hS => ?_)
    simp only [inOrder, List.filterMap, List.getElem?_cons_succ, List.getElem?_cons_zero]
    refine lex_take (i := 1) (v := ?_) rfl (by kernel_rfl) (by kernel_rfl) (by kernel_rfl) (by rfl) hS ?_ ?_
    rotate_left
    · ((intro W hW; go_simp) <;> with_reducible rfl)
    simp only [Act.put, List.setIfInBounds_toArray, List.set_cons_zero, List.set_cons_succ]
    refine lex_take (i := 2) (v := ?_) rfl (by kernel_rfl) (by kernel_rfl) (by kernel_rfl) (by rfl) hS ?_ ?_
    rotate_left
    · ((intro W hW; go_simp) <;> with_reducible rfl)
    simp only [Act.put, List.setIfInBounds_toArray, List.set_cons_zero, List.set_cons_succ]
    refine lex_take (i := 3) (v := ?_) rfl (by kernel_rfl) (by kernel_rfl) (by kernel_rfl) (by rfl) hS ?_ ?_
    rotate_left
    · ((intro W hW; go_simp) <;> with_reducible rfl)
    simp only [Act.put, List.setIfInBounds_toArray, List.set_cons_zero, List.set_cons_succ]
    refine lex_take (i := 4) (v := ?_) rfl (by kernel_rfl) (by kernel_rfl) (by kernel_rfl) (by rfl) hS ?_ ?_
    rotate_left
    · ((intro W hW; have k0 := cell_later hW c0; go_simp) <;> with_reducible rfl)
    simp only [Act.put, List.setIfInBounds_toArray, List.set_cons_zero, List.set_cons_succ]
    refine lex_take (i := 7) (v := ?_) rfl (by kernel_rfl) (by kernel_rfl) (by kernel_rfl) (by rfl) hS ?_ ?_
    rotate_left
    · ((intro W hW; go_simp) <;> with_reducible rfl)
    simp only [Act.put, List.setIfInBounds_toArray, List.set_cons_zero, List.set_cons_succ]
    refine lex_take (i := 8) (v := ?_) rfl (by kernel_rfl) (by kernel_rfl) (by kernel_rfl) (by rfl) hS ?_ ?_
    rotate_left
    · ((intro W hW; go_simp) <;> with_reducible rfl)
    simp only [Act.put, List.setIfInBounds_toArray, List.set_cons_zero, List.set_cons_succ]
    refine lex_take (i := 9) (v := ?_) rfl (by kernel_rfl) (by kernel_rfl) (by kernel_rfl) (by rfl) hS ?_ ?_
    rotate_left
    · ((intro W hW; go_simp) <;> with_reducible rfl)
    simp only [Act.put, List.setIfInBounds_toArray, List.set_cons_zero, List.set_cons_succ]
    refine lex_take (i := 10) (v := ?_) rfl (by kernel_rfl) (by kernel_rfl) (by kernel_rfl) (by rfl) hS ?_ ?_
    rotate_left
    · ((intro W hW; have k0 := cell_later hW c0; go_simp) <;> with_reducible rfl)
    simp only [Act.put, List.setIfInBounds_toArray, List.set_cons_zero, List.set_cons_succ]
    have hsA : Stay w (w.alloc (.cells #[] 9)).drew := ((Below.refl _ _).alloc (Nat.le_refl _) _).drew
    have hsAA : Stay w ((w.alloc (.cells #[] 9)).alloc (.cells #[] 9)).drew := (((Below.refl _ _).alloc (Nat.le_refl _) _).alloc (by simp) _).drew
    refine lex_two (i := 0) (j := 6) rfl rfl (by kernel_rfl) (by rfl) (by rfl) (fun K hK => ?_) (fun K hK => ?_)
    · go_simp
      refine hK _ _ ⟨hsA, ?_⟩
      clear hK K
      refine lex_reorder [5, 6, 11, 12, 13, 14] ?_
      simp only [inOrder, List.filterMap, List.getElem?_cons_succ, List.getElem?_cons_zero]
      refine lex_two (i := 5) (j := 6) rfl rfl (by kernel_rfl) (by rfl) (by rfl) (fun K hK => ?_) (fun K hK => ?_)
      · skip
        refine wp_append_fresh _ _ rfl _ rfl _ d.first rfl (HF.out _ hsA) hf1 hf2 ?_
        intro v1 u1 o1 b1
        obtain ⟨av1, cv1, rfl⟩ := (row_of_own o1).shape
        have hSu1 : Stay w u1 := Stay.more hsA b1
        refine hK _ _ ⟨hSu1, ?_⟩
        clear hK K
        simp only [Act.put, List.setIfInBounds_toArray, List.set_cons_zero, List.set_cons_succ]
        have hSb : Stay w (u1.alloc (.cells #[] 9)) := hSu1.alloc hSu1.size _
        refine lex_do (i := 6) rfl (by kernel_rfl) (by rfl) (fun K hK => ?_)
        go_simp
        refine hK _ _ ⟨hSb, ?_⟩
        clear hK K
        refine lex_do (i := 11) rfl (by kernel_rfl) (by rfl) (fun K hK => ?_)
        refine wp_append_fresh _ _ rfl _ rfl _ d.first rfl (HF.out _ hSb) hf1 hf2 ?_
        intro v2 u2 o2 b2
        obtain ⟨av2, cv2, rfl⟩ := (row_of_own o2).shape
        have hSu2 : Stay w u2 := Stay.more hSb b2
        refine hK _ _ ⟨hSu2, ?_⟩
        clear hK K
        simp only [Act.put, List.setIfInBounds_toArray, List.set_cons_zero, List.set_cons_succ]
        refine lex_take (i := 12) (v := ?_) rfl (by kernel_rfl) (by kernel_rfl) (by kernel_rfl) (by rfl) hSu2 ?_ ?_
        rotate_left
        · ((intro W hW; go_simp) <;> with_reducible rfl)
        simp only [Act.put, List.setIfInBounds_toArray, List.set_cons_zero, List.set_cons_succ]
        refine lex_do (i := 13) rfl (by kernel_rfl) (by rfl) (fun K hK => ?_)
        go_simp
        refine hK _ _ ⟨hSu2.alloc (Nat.le_trans hSu2.size (Nat.le_refl _)) _, ?_⟩
        clear hK K
        refine lex_do (i := 14) rfl (by kernel_rfl) (by rfl) (fun K hK => ?_)
        go_simp
        refine hK _ _ ⟨hSu2.alloc (Nat.le_trans hSu2.size (Nat.le_refl _)) _, ?_⟩
        clear hK K
        refine lex_done (by kernel_rfl) ?_
        go_wp2_with fail
        go_meet
        obtain ⟨S', hobj, hS'⟩ := IsObj.made (B := B) o1 b1 (own_mono o2 (by simp)) (((Below.refl u1.heap.size u1).alloc (Nat.le_refl _) _).trans (b2.mono (by simp))) (Nat.le_trans hB hsA.size) 73 [.bool false, .int .i64 0, .bool false]
        exact ⟨u2.heap.size, S', _, _, rfl, hobj, fun k hk => Nat.le_trans hsA.size (hS' k hk), hSu2.alloc (Nat.le_trans hSu2.size (Nat.le_refl _)) _⟩
      · go_simp
        refine hK _ _ ⟨hsAA, ?_⟩
        clear hK K
        refine lex_do (i := 5) rfl (by kernel_rfl) (by rfl) (fun K hK => ?_)
        refine wp_append_fresh _ _ rfl _ rfl _ d.first rfl (HF.out _ hsAA) hf1 hf2 ?_
        intro v1 u1 o1 b1
        obtain ⟨av1, cv1, rfl⟩ := (row_of_own o1).shape
        have hSu1 : Stay w u1 := Stay.more hsAA b1
        refine hK _ _ ⟨hSu1, ?_⟩
        clear hK K
        simp only [Act.put, List.setIfInBounds_toArray, List.set_cons_zero, List.set_cons_succ]
        refine lex_do (i := 11) rfl (by kernel_rfl) (by rfl) (fun K hK => ?_)
        refine wp_append_fresh _ _ rfl _ rfl _ d.first rfl (HF.out _ hSu1) hf1 hf2 ?_
        intro v2 u2 o2 b2
        obtain ⟨av2, cv2, rfl⟩ := (row_of_own o2).shape
        have hSu2 : Stay w u2 := Stay.more hSu1 b2
        refine hK _ _ ⟨hSu2, ?_⟩
        clear hK K
        simp only [Act.put, List.setIfInBounds_toArray, List.set_cons_zero, List.set_cons_succ]
        refine lex_take (i := 12) (v := ?_) rfl (by kernel_rfl) (by kernel_rfl) (by kernel_rfl) (by rfl) hSu2 ?_ ?_
        rotate_left
        · ((intro W hW; go_simp) <;> with_reducible rfl)
        simp only [Act.put, List.setIfInBounds_toArray, List.set_cons_zero, List.set_cons_succ]
        refine lex_do (i := 13) rfl (by kernel_rfl) (by rfl) (fun K hK => ?_)
        go_simp
        refine hK _ _ ⟨hSu2.alloc (Nat.le_trans hSu2.size (Nat.le_refl _)) _, ?_⟩
        clear hK K
        refine lex_do (i := 14) rfl (by kernel_rfl) (by rfl) (fun K hK => ?_)
        go_simp
        refine hK _ _ ⟨hSu2.alloc (Nat.le_trans hSu2.size (Nat.le_refl _)) _, ?_⟩
        clear hK K
        refine lex_done (by kernel_rfl) ?_
        go_wp2_with fail
        go_meet
        obtain ⟨S', hobj, hS'⟩ := IsObj.made (B := B) o1 b1 o2 b2 (Nat.le_trans hB hsAA.size) 73 [.bool false, .int .i64 0, .bool false]
        exact ⟨u2.heap.size, S', _, _, rfl, hobj, fun k hk => Nat.le_trans hsAA.size (hS' k hk), hSu2.alloc (Nat.le_trans hSu2.size (Nat.le_refl _)) _⟩
    · go_simp
      refine hK _ _ ⟨hsA, ?_⟩
      clear hK K
      refine lex_reorder [0, 5, 11, 12, 13, 14] ?_
      simp only [inOrder, List.filterMap, List.getElem?_cons_succ, List.getElem?_cons_zero]
      refine lex_do (i := 0) rfl (by kernel_rfl) (by rfl) (fun K hK => ?_)
      go_simp
      refine hK _ _ ⟨hsAA, ?_⟩
      clear hK K
      refine lex_do (i := 5) rfl (by kernel_rfl) (by rfl) (fun K hK => ?_)
      refine wp_append_fresh _ _ rfl _ rfl _ d.first rfl (HF.out _ hsAA) hf1 hf2 ?_
      intro v1 u1 o1 b1
      obtain ⟨av1, cv1, rfl⟩ := (row_of_own o1).shape
      have hSu1 : Stay w u1 := Stay.more hsAA b1
      refine hK _ _ ⟨hSu1, ?_⟩
      clear hK K
      simp only [Act.put, List.setIfInBounds_toArray, List.set_cons_zero, List.set_cons_succ]
      refine lex_do (i := 11) rfl (by kernel_rfl) (by rfl) (fun K hK => ?_)
      refine wp_append_fresh _ _ rfl _ rfl _ d.first rfl (HF.out _ hSu1) hf1 hf2 ?_
      intro v2 u2 o2 b2
      obtain ⟨av2, cv2, rfl⟩ := (row_of_own o2).shape
      have hSu2 : Stay w u2 := Stay.more hSu1 b2
      refine hK _ _ ⟨hSu2, ?_⟩
      clear hK K
      simp only [Act.put, List.setIfInBounds_toArray, List.set_cons_zero, List.set_cons_succ]
      refine lex_take (i := 12) (v := ?_) rfl (by kernel_rfl) (by kernel_rfl) (by kernel_rfl) (by rfl) hSu2 ?_ ?_
      rotate_left
      · ((intro W hW; go_simp) <;> with_reducible rfl)
      simp only [Act.put, List.setIfInBounds_toArray, List.set_cons_zero, List.set_cons_succ]
      refine lex_do (i := 13) rfl (by kernel_rfl) (by rfl) (fun K hK => ?_)
      go_simp
      refine hK _ _ ⟨hSu2.alloc (Nat.le_trans hSu2.size (Nat.le_refl _)) _, ?_⟩
      clear hK K
      refine lex_do (i := 14) rfl (by kernel_rfl) (by rfl) (fun K hK => ?_)
      go_simp
      refine hK _ _ ⟨hSu2.alloc (Nat.le_trans hSu2.size (Nat.le_refl _)) _, ?_⟩
      clear hK K
      refine lex_done (by kernel_rfl) ?_
      go_wp2_with fail
      go_meet
      obtain ⟨S', hobj, hS'⟩ := IsObj.made (B := B) o1 b1 o2 b2 (Nat.le_trans hB hsAA.size) 73 [.bool false, .int .i64 0, .bool false]
      exact ⟨u2.heap.size, S', _, _, rfl, hobj, fun k hk => Nat.le_trans hsAA.size (hS' k hk), hSu2.alloc (Nat.le_trans hSu2.size (Nat.le_refl _)) _⟩
  case rest =>
    obtain ⟨c, S1, bf, bn, rfl, hobj, hS1, hb1⟩ := hcut
    obtain ⟨i0, hi, hz0, hz1, hz2⟩ := info_parts rowW
    have hlogIn := Lib.hid HG.out.logIn
    have hlogLen := HG.out.logLen
    have hflen := Lib.hid HG.out.flen
    rcases hobj.onow.2 with ⟨_, h0⟩ | ⟨gb, cap, cur, rfl, hgb, _, _, _, _, _⟩
    · omega
    have HO := Lib.hid hobj
    have HS1 := Lib.hid hS1
    clear hobj hS1
    go_wp2_with fail
    go_loopw [7] (fun i wr => ∃ k : Nat, k ≤ n ∧ i = .int .i64 (k : Int) ∧ ∃ (lv' : Value) (S' : Nat → Prop), IsObj wr B c 73 [.bool false, .int .i64 0, .bool false] bf (.slice (some ⟨gb, 0, none⟩) d.first.length cap) lv' S' d.first (d.played k).now (d.played k).log ∧ (∀ q, S' q → w.heap.size ≤ q) ∧ Below w.heap.size w wr) (fun i _ => n - (intOf i).toNat)
    case atStart => exact ⟨0, Nat.zero_le _, rfl, _, S1, HO.out, HS1.out, hb1⟩
    case round =>
      obtain ⟨k, hk, rfl, lv', S2, hO, hS2, hb2⟩ := hrel
      by_cases hlt : k < n
      · have hk' : k < d.log.length := by omega
        have HO2 := Lib.hid hO
        have HS2 := Lib.hid hS2
        have e1 := hO.c1
        have e2 := cell_later hb2 c2
        have hlr := H.out.rlog.below hb2
        obtain ⟨la', lc', hleq, _, hlr2⟩ := (H.out.rlog.below hb2).room
        simp only [Value.slice.injEq, true_and] at hleq
        obtain ⟨rfl, rfl⟩ := hleq
        obtain ⟨lb, lo, rfl, _, _⟩ := hlr2 (by omega)
        obtain ⟨x0, x1⟩ := rowW_at hlr hk'
        have hx := hlogIn.out _ (List.getElem_mem hk')
        have hsucc := Lib.hid (d.played_succ k hk')
        have hplen : Hid ((d.played k).now.length = d.first.length) := Lib.hid (d.played_len k)
        have hpl : Hid ((d.played k).log.length < 4294967296) := Lib.hid (by rw [d.played_log, List.length_take]; omega)
        have hlb : Hid (lb < w.heap.size) := Lib.hid (H.out.rlog.lt lb rfl)
        have haa : Hid (a < w.heap.size) := Lib.hid H.out.alt
        clear hlr hlr2 hO hS2
        generalize d.log[k] = x at *
        obtain ⟨xi, xs⟩ := x
        simp only at x0 x1 hx
        obtain ⟨hx0, hx1⟩ := hx
        obtain ⟨m, rfl⟩ := Int.eq_ofNat_of_zero_le hx0
        have hm : m < d.first.length := by have := hflen.out; omega
        have hnow := HO2.out.onow
        rw [hplen.out] at hnow
        have hcm : wr.cell? ⟨gb, m, none⟩ = some (.string ((d.played k).now[m]'(by rw [hplen.out]; exact hm))) := by
          rw [hnow.cellAt m (by omega)]; exact strs_at _ _ _
        have hfb : ∀ o, wr.frozen? ⟨gb, o, none⟩ = false := fun o => hnow.frozenAt o
        clear hnow
        clear hx0 hx1
        go_wp2_with fail
        go_still_tail 21, (by kernel_rfl)
        go_wp2_with fail
        have hO1 := (HO2.out.nowSet hplen.out.symm m xs).keep (touch_drew _ fun _ => False) (fun _ _ h => h)
        have hgbw : w.heap.size ≤ gb := HS2.out gb (HO2.out.memB rfl)
        have hT : Touch S2 wr (wr.setCell ⟨gb, m, none⟩ (.string xs)).drew := (touch_set wr gb m (.string xs) S2 (HO2.out.memB rfl)).trans (touch_drew _ _)
        have y0 : (wr.setCell ⟨gb, m, none⟩ (.string xs)).drew.cell? ⟨lb, lo + k * 2, none⟩ = some (.int .i64 (m : Int)) := by
          rw [World.cell?_of_block (w := wr) (hT.block lb (by have := hb2.size; have := hlb.out; omega) (fun h => by have := HS2.out lb h; have := hlb.out; omega))]; exact x0
        have y1 : (wr.setCell ⟨gb, m, none⟩ (.string xs)).drew.cell? ⟨lb, lo + k * 2 + 1, none⟩ = some (.string xs) := by
          rw [World.cell?_of_block (w := wr) (hT.block lb (by have := hb2.size; have := hlb.out; omega) (fun h => by have := HS2.out lb h; have := hlb.out; omega))]; exact x1
        have y2 : (wr.setCell ⟨gb, m, none⟩ (.string xs)).drew.cell? ⟨a, 2, none⟩ = some (.slice (some ⟨lb, lo, none⟩) d.log.length lc) := by
          rw [World.cell?_of_block (w := wr) (hT.block a (by have := hb2.size; have := haa.out; omega) (fun h => by have := HS2.out a h; have := haa.out; omega))]; exact e2
        have HT := Lib.hid hT
        clear hcm hfb x0 x1 e1 e2 hT
        generalize (wr.setCell ⟨gb, m, none⟩ (.string xs)).drew = V at *
        have f2 := hO1.c2
        have f3 : (V.alloc (.cells #[.int .i64 (m : Int), .string xs] 51)).cell? ⟨c, 2, none⟩ = some lv' := (hO1.keep (touch_alloc V _ fun _ => False) (fun _ _ h => h)).c2
        have h3 := hO1.keep ((touch_drew V fun _ => False).trans (touch_alloc V.drew (.cells #[.int .i64 (m : Int), .string xs] 51) _)) (fun _ _ h => h)
        have hq : ∀ w', (V.drew.alloc (.cells #[.int .i64 (m : Int), .string xs] 51)).grownBy w' lv'.ownBlock → w'.cell? ⟨c, 2, none⟩ = some lv' ∧ w'.frozen? ⟨c, 2, none⟩ = false := fun w' hg => by
          have hb := hg.block c h3.alt (fun e => h3.apL c e.symm rfl)
          exact ⟨(World.cell?_of_block (w := V.drew.alloc _) (a := ⟨c, 2, none⟩) hb).trans h3.c2, (World.frozen?_of_block (w := V.drew.alloc _) (a := ⟨c, 2, none⟩) hb).trans (h3.fz 2)⟩
        have HQ := Lib.hid hq
        have H3 := Lib.hid h3
        have hBV : B ≤ V.heap.size := by have := hO1.alt; have := hO1.base; omega
        have hlen2 : (d.played k).log.length < 4294967296 := hpl.out
        have holog := Lib.hid hO1.olog
        clear hq h3 hO1
        obtain ⟨sl, cl, rfl⟩ := (row_of_own holog.out).shape
        go_region_law (
          (refine step_append_at rfl _ _ 46 rfl B 51 i0 (.agg #[.int .i64 0, .string ⟨#[]⟩]) 2 24 Try.underlying46 hi hz0 hz1 hz2 rfl (by decide) _ (d.played k).log.length (wrs (d.played k).log) rfl (holog.out.drew.alloc _) ⟨V.heap.size, 0, none⟩ 1 1 [.int .i64 (m : Int), .string xs] rfl (by decide) rfl (news2 V.drew _ _ _) (wrs_oneCell [((m : Int), xs)]) (by unfold maxLen; omega) (by omega) (by simp; omega) ?_
           intro v' w' hown' hg hw
           obtain ⟨q1, q2⟩ := HQ.out w' hg
           obtain ⟨sa', sc', rfl⟩ := (row_of_own hown').shape))
        all_goals
          obtain ⟨S3, k1, k2, k3⟩ := H3.out.logPut (x := ((m : Int), xs)) hown' hg (hw.imp (fun e => e) fun e => ⟨_, e, Nat.le_refl _⟩)
          have K1 := Lib.hid k1
          have hS3 : Hid (∀ q, S3 q → w.heap.size ≤ q) := Lib.hid fun q hq => (k2 q hq).elim (HS2.out q) fun e => by
            have h1 : V.heap.size ≤ q := Nat.le_trans (by simp) e
            have h2 := HT.out.size
            have h3 := hb2.size
            omega
          have hb3 := hb2.trans ((HT.out.trans (((touch_drew V S2).trans (touch_alloc V.drew _ S2)).trans k3)).below hb2.size HS2.out)
          clear k1 k2 k3 hown' hg hw q1 q2
          go_wp2_with fail
          go_roundw
          case rel => exact ⟨k + 1, by omega, by go_num, _, S3, by rw [hsucc.out]; exact K1.out, hS3.out, hb3⟩
          case measure => simp [intOf]; omega
      · obtain rfl : k = n := by omega
        have HO2 := Lib.hid hO
        have HS2 := Lib.hid hS2
        clear hO hS2
        go_wp2_with fail
        go_ret2
        have hpf := foldl_lay (d.log.take k) d.start
        have e1 : (d.played k).first = d.first := d.played_first k
        have e2 : (d.played k).dead = false := hpf.2.2.2.1
        have e3 : (d.played k).left = -1 := hpf.2.2.2.2
        have er : rtail (d.played k) = [.bool false, .int .i64 0, .bool false] := by simp [rtail, e2, e3]
        refine ⟨c, S2, rfl, ⟨⟨bf, _, lv', by rw [er, e1]; exact HO2.out⟩, ⟨by rw [d.played_len]; exact hf1, by rw [d.played_len]; exact hf2, by rw [e1, d.played_len], ?_, by rw [d.played_log, List.length_take]; omega, by rw [e3]; decide, by rw [e3]; decide⟩⟩, HS2.out, hb2⟩
        intro x hx
        rw [d.played_log] at hx
        rw [d.played_len, hflen.out]
        exact hlogIn.out x (List.mem_of_mem_take hx)
end

end Go.Proofs.Ythamjlhkiabcnaa
