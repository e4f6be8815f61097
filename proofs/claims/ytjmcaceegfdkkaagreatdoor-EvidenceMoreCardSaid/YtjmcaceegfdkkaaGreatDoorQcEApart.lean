/-
  A term that is given is taken apart.
-/
import Derived.Deep.CutRange
import Derived.Test.YtjmcaceegfdkkaaGreatDoorQcEDer
import Derived.Test.YtjmcaceegfdkkaaGreatDoorQcTMake
import Derived.Test.YtjmcaceegfdkkaaGreatDoorQcTChain
namespace Go.Proofs.YtjmcaceegfdkkaaGreatDoor
open Go.RowKit Go.Maps
set_option linter.unusedVariables false
theorem rowTK : (Tryz.prog.info? TermT).map (fun i => (i.zero, i.size, i.bytes)) = some (some (.int .i64 0), 1, 8) := by kernel_rfl
theorem ints_oneCellK (l : List Int) : ∀ u ∈ ints l, u.oneCell' = true := by
 intro u hu
 obtain ⟨x, _, rfl⟩ := List.mem_map.1 hu
 rfl
theorem wpList_append_tw {w : World} {ops : Array Oper} {rest : List Oper} {o : Oper} {a : Act} {Q : Exit → Act → World → Prop} (hg : o.guard = none) (s x : Operand)
  (ho : o.op = .call { callee := .builtin .append, args := #[s, x], argTypes := #[49, 49] })
  (base : Nat) (v : Value) (xs : List Int) (hs : a.eval s = v) (hown : w.ownsRow base TermT 1 v xs.length (ints xs)) (b : Nat) (t : Int) (hx : a.eval x = .slice (some ⟨b, 0, none⟩) 1 1) (hb : w.cell? ⟨b, 0, none⟩ = some (.int .i64 t))
  (hlen : xs.length ≤ 1000000) (hbase : base ≤ w.heap.size)
  (h : ∀ v' w', w'.ownsRow base TermT 1 v' (xs ++ [t]).length (ints (xs ++ [t])) → w.grownBy w' v.ownBlock → (v'.ownBlock = v.ownBlock ∨ v'.ownBlock = some w.heap.size) → wpList Tryz.prog ops Q rest (a.put o.dst v') w') : wpList Tryz.prog ops Q (o :: rest) a w := by
 obtain ⟨i0, hi, hz0, hz1, hz2⟩ := info_parts rowTK
 refine wpList_append_at w hg s x 49 ho base TermT i0 (.int .i64 0) 1 8 Tryz.underlying49 hi hz0 hz1 hz2 rfl (by decide) v _ _ hs hown ⟨b, 0, none⟩ 1 1 [.int .i64 t] hx (by decide) rfl (fun j u hj => by
  cases j with
  | zero => simp at hj; subst hj; exact hb
  | succ j => simp at hj) (by simp; rfl) (by unfold maxLen; omega) (by omega) hbase ?_
 intro v' w' h6 h7 h8
 exact h v' w' (by simpa [ints] using h6) h7 h8
theorem row_one (w : World) (B : Nat) (hB : B ≤ w.heap.size) (t : Int) : (w.alloc (.cells #[.int .i64 t] TermT)).ownsRow B TermT 1 (.slice (some ⟨w.heap.size, 0, none⟩) 1 1) [t].length (ints [t]) :=
 ⟨rfl, .inr ⟨w.heap.size, 1, #[.int .i64 t], rfl, hB, heap_alloc_new _ _, Nat.le_refl _, by unfold maxLen; omega, rfl, rfl⟩⟩
theorem IsPool.keptK {w w' : World} {B a b : Nat} {v : Value} {p : Pl} (h : IsPool w B a b v p) {row : Option Nat} (hg : w.grownBy w' row) (hr : ∀ r, row = some r → r ≠ a ∧ r ≠ b ∧ v.ownBlock ≠ some r) : IsPool w' B a b v p := by
 obtain ⟨D, ho, hd⟩ := h.dict
 exact ⟨by rw [hg.block a h.lt (fun e => (hr a e.symm).1 rfl)]; exact h.lay, h.ga, h.gb, own_kept h.row hg (fun r e e' => (hr r e).2.2 e'), ⟨D, ho.kept hg (fun e => (hr b e.symm).2.1 rfl), hd⟩, h.ok, h.nok⟩
theorem grown_trans {A B C : World} {r : Option Nat} (h : A.grownBy B r) (k : B.grownBy C r) : A.grownBy C r :=
 ⟨k.os.trans h.os, k.tape.trans h.tape, k.output.trans h.output, Nat.le_trans h.size k.size, fun i hi hne => (k.block i (Nat.lt_of_lt_of_le hi h.size) hne).trans (h.block i hi hne)⟩
theorem grown_of {A B : World} {r : Option Nat} (h : Below A.heap.size A B) : A.grownBy B r :=
 ⟨h.os, h.tape, h.output, h.size, fun i hi _ => h.block i hi⟩
theorem grown_new {A B C : World} {r r' : Option Nat} (h : A.grownBy B r) (k : B.grownBy C r') (hr : ∀ g, r' = some g → A.heap.size ≤ g ∨ r = some g) : A.grownBy C r :=
 ⟨k.os.trans h.os, k.tape.trans h.tape, k.output.trans h.output, Nat.le_trans h.size k.size, fun i hi hne => (k.block i (Nat.lt_of_lt_of_le hi h.size) (fun e => by
  rcases hr i e.symm with h1 | h1
  ·omega
  ·exact hne h1.symm)).trans (h.block i hi hne)⟩
theorem index3 {j : Nat} (hj : j < 3) (W : World) : (Instr.index 243 (.agg #[.int .i64 1, .int .i64 2, .int .i64 3]) (.int .i64 (j : Int))).run Tryz.prog W = .ok (.int .i64 ((j : Int) + 1)) W := by
 obtain rfl | rfl | rfl : j = 0 ∨ j = 1 ∨ j = 2 := by omega
 ·kernel_rfl
 ·kernel_rfl
 ·kernel_rfl
theorem SeenM.mapb {w : World} {mb : Nat} {p : Pl} {g : List Int} {s : Int → Option Way} (h : SeenM w mb p g s) : ∃ es c, w.heap[mb]? = some (.map es c) := by
 obtain ⟨n, D, L, ⟨es, c, hb, _⟩, _⟩ := h
 exact ⟨es, c, hb⟩
theorem hold_map {w w' : World} {mb : Nat} (hm : ∃ es c, w.heap[mb]? = some (.map es c)) (hg : w.grownBy w' (some mb)) (T : TypeId) : Hold T w w' := fun b cs hb => by
 obtain ⟨es, c, hm⟩ := hm
 rw [hg.block b (Array.getElem?_eq_some_iff.1 hb).1 (fun e => by
  cases e
  rw [hb] at hm; cases hm)]
 exact hb
theorem hold_row {w w' : World} {B n size : Nat} {T T' : TypeId} {v : Value} {xs : List Value} (hr : w.ownsRow B T size v n xs) (hg : w.grownBy w' v.ownBlock) (hne : T' ≠ T) : Hold T' w w' := fun b cs hb => by
 rw [hg.block b (Array.getElem?_eq_some_iff.1 hb).1 (fun e => by
  obtain ⟨_, cur, hc⟩ := own_type hr e.symm
  rw [hb] at hc
  simp only [Option.some.injEq, Obj.cells.injEq] at hc
  exact hne hc.2.1)]
 exact hb
theorem map_row {w w' : World} {B n size mb : Nat} {T : TypeId} {v : Value} {xs : List Value} (hr : w.ownsRow B T size v n xs) (hg : w.grownBy w' v.ownBlock) {es c} (hm : w.heap[mb]? = some (.map es c)) : w'.heap[mb]? = some (.map es c) := by
 rw [hg.block mb (Array.getElem?_eq_some_iff.1 hm).1 (fun e => by
  obtain ⟨_, cur, hc⟩ := own_type hr e.symm
  rw [hm] at hc; cases hc)]
 exact hm
section
variable {w : World} {B a b : Nat} {v : Value} {p : Pl} {k : Nat} {gv : Value} {mb : Nat} {g : List Int} {s0 : Int → Option Way}
set_option maxRecDepth 100000 in
set_option maxHeartbeats 25600000 in
theorem apart_any (hp : IsPool w B a b v p) (hl : w.heap[k]? = some (Obj.cells #[.pointer (some ⟨a, 0, none⟩), gv, .map (some mb)] KnowT)) (hmb : mb ≠ b) (hg : g.length ≤ p.length) (hs : SeenM w mb p g s0) {t : Int} (ht : inP p t = true) (hst : (s0 t).isSome = true) :
  Calls Tryz.prog 124 #[.pointer (some ⟨k, 0, none⟩), .int .i64 t] w fun e w' => e = .returned (.tuple #[]) ∧ ∃ ws s1, Took p s0 t ws ws.length s1 ∧ SeenM w' mb p g s1 ∧ w.grownBy w' (some mb) := by
 have hlen : p.length ≤ 65536 := hp.ok.len
 have hmlt := hs.lt
 have hmob : ∃ es c, w.heap[mb]? = some (.map es c) := by obtain ⟨n, D, L, ⟨es, c, hb, _⟩, _⟩ := hs; exact ⟨es, c, hb⟩
 obtain ⟨es, cl, hmap⟩ := hmob
 have HGP : Hid (∀ W, w.grownBy W (some mb) → IsPool W B a b v p) := Lib.hid (fun W hW => hp.keptK hW (fun r e => by
  cases e
  refine ⟨fun e => ?_, hmb, fun e => ?_⟩
  ·rw [e, hp.lay] at hmap; cases hmap
  ·obtain ⟨_, cur, hc⟩ := own_type hp.row e
   rw [hmap] at hc; cases hc))
 have HGK : Hid (∀ W, w.grownBy W (some mb) → W.heap[k]? = some (Obj.cells #[.pointer (some ⟨a, 0, none⟩), gv, .map (some mb)] KnowT)) := Lib.hid (fun W hW => by
  rw [hW.block k (Array.getElem?_eq_some_iff.1 hl).1 (fun e => by
   cases e
   rw [hl] at hmap; cases hmap)]
  exact hl)
 have HOK := Lib.hid hp.ok
 have HNA := Lib.hid (fun (W : World) (h : IsPool W B a b v p) (y : Int) => pnode h y)
 have bA := bA0 w (.cells #[.int .i64 t] TermT)
 have HR0 := Lib.hid (row_one w w.heap.size (Nat.le_refl _) t)
 have HS0 := Lib.hid (hs.below bA)
 have HG0 := Lib.hid (grown_of (r := some mb) bA)
 have HT0 := Lib.hid (Took.start ht hst)
 have HGL := Lib.hid (Nat.le_trans hg hlen)
 clear hp hl hs ht hst bA hmap
 go_enter Tryz.func124, Tryz.ntmps124
 go_wp2_with fail
 generalize (w.alloc (.cells #[.int .i64 t] TermT)) = V at *
 go_loopw [4, 5] (fun v4 v5 wr => ∃ (ws : List Int) (s : Int → Option Way) (i : Nat), v5 = .int .i64 (i : Int) ∧ Took p s0 t ws i s ∧ w.grownBy wr (some mb) ∧ wr.ownsRow w.heap.size TermT 1 v4 ws.length (ints ws) ∧ SeenM wr mb p g s) (fun _ v _ => p.length - (intOf v).toNat)
 case atStart => exact ⟨[t], s0, 0, rfl, HT0.out, HG0.out, HR0.out, HS0.out⟩
 case round =>
  obtain ⟨ws, s, i, rfl, hT, hgr, hrow, hsm⟩ := hrel
  have hwl : ws.length ≤ p.length := nodup_in hT.nodup hT.inp
  obtain ⟨aa, cc, rfl, hx⟩ := (row_of_own hrow).at
  have HT := Lib.hid hT
  have HG := Lib.hid hgr
  have HR := Lib.hid hrow
  have HS := Lib.hid hsm
  clear hgr hrow hsm
  by_cases hlt : i < ws.length
  ·obtain ⟨gb, go, rfl, q⟩ := hx (by omega)
   have c0 := q i _ (ints_at ws i hlt)
   have hyi : ws[i]? = some ws[i] := List.getElem?_eq_getElem hlt
   have hyw : ws[i] ∈ ws := List.getElem_mem hlt
   generalize ws[i] = y at *
   have HY := Lib.hid hyi
   have HYW := Lib.hid hyw
   have c1 : wr.cell? ⟨k, 0, none⟩ = some (.pointer (some ⟨a, 0, none⟩)) := cellB (HGK.out _ HG.out) rfl
   have hi0 : (0 : Int) ≤ (i : Int) := by omega
   have hi1 : (i : Int) < (ws.length : Int) := by omega
   clear q hx hT hyi hyw
   have PN := Lib.hid (fun (W : World) (h : Below wr.heap.size wr W) => HNA.out W ((HGP.out _ HG.out).below h) y)
   generalize hnn : (atP p y).1 = nn at *
   have HNN := Lib.hid hnn
   clear hnn
   obtain ⟨kk, ff, tt, uu, ss, xa, xb⟩ := nn
   simp only [nodeA] at PN
   go_upto_region 4 with fail
   go_cut [6] from 13 to 60 (fun s6 wx => ∃ nb, s6 = .pointer (some ⟨nb, 0, none⟩) ∧ wx.heap[nb]? = some (Obj.cells #[.int .i64 kk, .int .i64 ff, .int .i64 tt, .int .u64 uu, .string ss, .int .i64 xa, .int .i64 xb] NodeT) ∧ Below wr.heap.size wr wx)
   case first =>
    have hk : ∀ W : World, Below wr.heap.size wr W → W.cell? ⟨k, 0, none⟩ = some (.pointer (some ⟨a, 0, none⟩)) ∧ W.cell? ⟨gb, go + i, none⟩ = some (.int .i64 y) ∧ Below wr.heap.size wr W := fun W hW => ⟨bcellAt hW c1, bcellAt hW c0, hW⟩
    have HK := Lib.hid hk
    clear hk
    refine lex_start [0, 1, 2, 3, 4, 5, 6, 7, 8, 9, 10, 11, 12, 13, 14] (S := fun W => W.cell? ⟨k, 0, none⟩ = some (.pointer (some ⟨a, 0, none⟩)) ∧ W.cell? ⟨gb, go + i, none⟩ = some (.int .i64 y) ∧ Below wr.heap.size wr W) (by kernel_rfl) (HK.out _ (bd _)) (fun hS => ?_)
    simp only [inOrder, List.filterMap, List.getElem?_cons_succ, List.getElem?_cons_zero]
    have b0 := bd wr
    refine lex_take (i := 0) (v := ?_) rfl (by kernel_rfl) (by kernel_rfl) (by kernel_rfl) (by rfl) (HK.out _ b0) ?_ ?_
    rotate_left
    ·((intro W hW; obtain ⟨k0, k1, k2⟩ := hW; go_simp) <;> with_reducible rfl)
    simp only [Act.put, List.setIfInBounds_toArray, List.set_cons_zero, List.set_cons_succ]
    refine lex_take (i := 1) (v := ?_) rfl (by kernel_rfl) (by kernel_rfl) (by kernel_rfl) (by rfl) (HK.out _ b0) ?_ ?_
    rotate_left
    ·((intro W hW; obtain ⟨k0, k1, k2⟩ := hW; go_simp) <;> with_reducible rfl)
    simp only [Act.put, List.setIfInBounds_toArray, List.set_cons_zero, List.set_cons_succ]
    refine lex_take (i := 2) (v := ?_) rfl (by kernel_rfl) (by kernel_rfl) (by kernel_rfl) (by rfl) (HK.out _ b0) ?_ ?_
    rotate_left
    ·((intro W hW; obtain ⟨k0, k1, k2⟩ := hW; go_simp) <;> with_reducible rfl)
    simp only [Act.put, List.setIfInBounds_toArray, List.set_cons_zero, List.set_cons_succ]
    refine lex_take (i := 3) (v := ?_) rfl (by kernel_rfl) (by kernel_rfl) (by kernel_rfl) (by rfl) (HK.out _ b0) ?_ ?_
    rotate_left
    ·((intro W hW; obtain ⟨k0, k1, k2⟩ := hW; go_simp) <;> with_reducible rfl)
    simp only [Act.put, List.setIfInBounds_toArray, List.set_cons_zero, List.set_cons_succ]
    refine lex_take (i := 4) (v := ?_) rfl (by kernel_rfl) (by kernel_rfl) (by kernel_rfl) (by rfl) (HK.out _ b0) ?_ ?_
    rotate_left
    ·((intro W hW; obtain ⟨k0, k1, k2⟩ := hW; go_simp) <;> with_reducible rfl)
    simp only [Act.put, List.setIfInBounds_toArray, List.set_cons_zero, List.set_cons_succ]
    refine lex_take (i := 5) (v := ?_) rfl (by kernel_rfl) (by kernel_rfl) (by kernel_rfl) (by rfl) (HK.out _ b0) ?_ ?_
    rotate_left
    ·((intro W hW; obtain ⟨k0, k1, k2⟩ := hW; go_simp) <;> with_reducible rfl)
    simp only [Act.put, List.setIfInBounds_toArray, List.set_cons_zero, List.set_cons_succ]
    refine lex_take (i := 6) (v := ?_) rfl (by kernel_rfl) (by kernel_rfl) (by kernel_rfl) (by rfl) (HK.out _ b0) ?_ ?_
    rotate_left
    ·((intro W hW; obtain ⟨k0, k1, k2⟩ := hW; go_simp) <;> with_reducible rfl)
    simp only [Act.put, List.setIfInBounds_toArray, List.set_cons_zero, List.set_cons_succ]
    refine lex_take (i := 7) (v := ?_) rfl (by kernel_rfl) (by kernel_rfl) (by kernel_rfl) (by rfl) (HK.out _ b0) ?_ ?_
    rotate_left
    ·((intro W hW; obtain ⟨k0, k1, k2⟩ := hW; go_simp) <;> with_reducible rfl)
    simp only [Act.put, List.setIfInBounds_toArray, List.set_cons_zero, List.set_cons_succ]
    refine lex_reorder [8, 12, 9, 10, 11, 13, 14] ?_
    simp only [inOrder, List.filterMap, List.getElem?_cons_succ, List.getElem?_cons_zero]
    refine lex_two (i := 8) (j := 12) rfl rfl (by kernel_rfl) (by rfl) (by rfl) (fun K hK => ?_) (fun K hK => ?_)
    ·go_simp
     refine (PN.out _ b0).mono ?_
     rintro e w1 ⟨rfl, u1⟩
     have b1 := bmore b0 u1
     refine hK _ _ ⟨HK.out _ b1, ?_⟩
     clear hK K
     refine lex_reorder [9, 10, 11, 12, 13, 14] ?_
     simp only [inOrder, List.filterMap, List.getElem?_cons_succ, List.getElem?_cons_zero]
     refine lex_take (i := 9) (v := ?_) rfl (by kernel_rfl) (by kernel_rfl) (by kernel_rfl) (by rfl) (HK.out _ b1) ?_ ?_
     rotate_left
     ·((intro W hW; obtain ⟨k0, k1, k2⟩ := hW; go_simp) <;> with_reducible rfl)
     simp only [Act.put, List.setIfInBounds_toArray, List.set_cons_zero, List.set_cons_succ]
     refine lex_take (i := 10) (v := ?_) rfl (by kernel_rfl) (by kernel_rfl) (by kernel_rfl) (by rfl) (HK.out _ b1) ?_ ?_
     rotate_left
     ·((intro W hW; obtain ⟨k0, k1, k2⟩ := hW; go_simp) <;> with_reducible rfl)
     simp only [Act.put, List.setIfInBounds_toArray, List.set_cons_zero, List.set_cons_succ]
     refine lex_take (i := 11) (v := ?_) rfl (by kernel_rfl) (by kernel_rfl) (by kernel_rfl) (by rfl) (HK.out _ b1) ?_ ?_
     rotate_left
     ·((intro W hW; obtain ⟨k0, k1, k2⟩ := hW; go_simp) <;> with_reducible rfl)
     simp only [Act.put, List.setIfInBounds_toArray, List.set_cons_zero, List.set_cons_succ]
     refine lex_do (i := 12) rfl (by kernel_rfl) (by rfl) (fun K hK => ?_)
     go_simp
     refine hK _ _ ⟨HK.out _ (bAl b1 _), ?_⟩
     clear hK K
     refine lex_do (i := 13) rfl (by kernel_rfl) (by rfl) (fun K hK => ?_)
     go_simp
     refine hK _ _ ⟨HK.out _ (bAl b1 _), ?_⟩
     clear hK K
     refine lex_take (i := 14) (v := ?_) rfl (by kernel_rfl) (by kernel_rfl) (by kernel_rfl) (by rfl) (HK.out _ (bAl b1 _)) ?_ ?_
     rotate_left
     ·((intro W hW; obtain ⟨k0, k1, k2⟩ := hW; go_simp) <;> with_reducible rfl)
     simp only [Act.put, List.setIfInBounds_toArray, List.set_cons_zero, List.set_cons_succ]
     refine lex_done (by kernel_rfl) ?_
     go_wp2_with fail
     go_meet
     exact ⟨_, rfl, heap_alloc_new _ _, bAl b1 _⟩
    ·go_simp
     have q : (wr.drew.alloc (.cells #[.int .i64 0, .int .i64 0, .int .i64 0, .int .u64 0, .string ⟨#[]⟩, .int .i64 0, .int .i64 0] NodeT)).heap[wr.drew.heap.size]? = some (Obj.cells #[.int .i64 0, .int .i64 0, .int .i64 0, .int .u64 0, .string ⟨#[]⟩, .int .i64 0, .int .i64 0] NodeT) := heap_alloc_new _ _
     have ba := bAl b0 (.cells #[.int .i64 0, .int .i64 0, .int .i64 0, .int .u64 0, .string ⟨#[]⟩, .int .i64 0, .int .i64 0] NodeT)
     refine hK _ _ ⟨HK.out _ ba, ?_⟩
     clear hK K
     have bx : Below wr.heap.size wr wr := Below.refl _ _
     refine lex_reorder [8, 9, 10, 11, 13, 14] ?_
     simp only [inOrder, List.filterMap, List.getElem?_cons_succ, List.getElem?_cons_zero]
     refine lex_do (i := 8) rfl (by kernel_rfl) (by rfl) (fun K hK => ?_)
     go_simp
     refine (PN.out _ ba).mono ?_
     rintro e w1 ⟨rfl, u1⟩
     have b1 := bmore ba u1
     have q := Hold.below u1 _ _ q
     refine hK _ _ ⟨HK.out _ b1, ?_⟩
     clear hK K
     refine lex_reorder [9, 10, 11, 13, 14] ?_
     simp only [inOrder, List.filterMap, List.getElem?_cons_succ, List.getElem?_cons_zero]
     refine lex_take (i := 9) (v := ?_) rfl (by kernel_rfl) (by kernel_rfl) (by kernel_rfl) (by rfl) (HK.out _ b1) ?_ ?_
     rotate_left
     ·((intro W hW; obtain ⟨k0, k1, k2⟩ := hW; go_simp) <;> with_reducible rfl)
     simp only [Act.put, List.setIfInBounds_toArray, List.set_cons_zero, List.set_cons_succ]
     refine lex_take (i := 10) (v := ?_) rfl (by kernel_rfl) (by kernel_rfl) (by kernel_rfl) (by rfl) (HK.out _ b1) ?_ ?_
     rotate_left
     ·((intro W hW; obtain ⟨k0, k1, k2⟩ := hW; go_simp) <;> with_reducible rfl)
     simp only [Act.put, List.setIfInBounds_toArray, List.set_cons_zero, List.set_cons_succ]
     refine lex_take (i := 11) (v := ?_) rfl (by kernel_rfl) (by kernel_rfl) (by kernel_rfl) (by rfl) (HK.out _ b1) ?_ ?_
     rotate_left
     ·((intro W hW; obtain ⟨k0, k1, k2⟩ := hW; go_simp) <;> with_reducible rfl)
     simp only [Act.put, List.setIfInBounds_toArray, List.set_cons_zero, List.set_cons_succ]
     have b5 : Below wr.heap.size wr (w1.setRow wr.heap.size #[.int .i64 kk, .int .i64 ff, .int .i64 tt, .int .u64 uu, .string ss, .int .i64 xa, .int .i64 xb]) := bRow b1 bx _
     refine lex_do (i := 13) rfl (by kernel_rfl) (by rfl) (fun K hK => ?_)
     refine wp_store_row NodeT _ _ rfl wr.heap.size #[.int .i64 kk, .int .i64 ff, .int .i64 tt, .int .u64 uu, .string ss, .int .i64 xa, .int .i64 xb] rfl rfl NodeT #[.int .i64 0, .int .i64 0, .int .i64 0, .int .u64 0, .string ⟨#[]⟩, .int .i64 0, .int .i64 0] q (by kernel_rfl) rfl (by simp [Value.oneCell']) ?_
     refine hK _ _ ⟨HK.out _ b5, ?_⟩
     clear hK K
     refine lex_take (i := 14) (v := ?_) rfl (by kernel_rfl) (by kernel_rfl) (by kernel_rfl) (by rfl) (HK.out _ b5) ?_ ?_
     rotate_left
     ·((intro W hW; obtain ⟨k0, k1, k2⟩ := hW; go_simp) <;> with_reducible rfl)
     simp only [Act.put, List.setIfInBounds_toArray, List.set_cons_zero, List.set_cons_succ]
     refine lex_done (by kernel_rfl) ?_
     go_wp2_with fail
     go_meet
     exact ⟨_, rfl, setRow_heap _ _ _ _ _ _ q, b5⟩
   case rest =>
    obtain ⟨nb, rfl, hnb, hbx⟩ := hcut
    have HNB := Lib.hid hnb
    have HG1 := Lib.hid (grown_trans HG.out (grown_of hbx))
    have HR1 := Lib.hid (own_hold HR.out (Hold.below hbx))
    have HS1 := Lib.hid (HS.out.below hbx)
    clear hnb hbx c0 c1
    have HTK := Lib.hid (fun (W : World) (r : Int) => taken_any r (⟨kk, ff, tt, uu, ss, xa, xb⟩ : Nd) W)
    simp only [nodeA] at HTK
    have hy2 := HY.out
    go_wp2_with fail
    go_loopw [4, 32] (fun v4 v32 wj => ∃ (j : Nat) (ws2 : List Int) (s2 : Int → Option Way), v32 = .int .i64 (j : Int) ∧ j ≤ 3 ∧ Took p s0 t ws2 i s2 ∧ ws2[i]? = some y ∧ w.grownBy wj (some mb) ∧ wj.ownsRow w.heap.size TermT 1 v4 ws2.length (ints ws2) ∧ SeenM wj mb p g s2 ∧ wj.heap[nb]? = some (Obj.cells #[.int .i64 kk, .int .i64 ff, .int .i64 tt, .int .u64 uu, .string ss, .int .i64 xa, .int .i64 xb] NodeT) ∧ (∀ r : Int, 1 ≤ r → r ≤ (j : Int) → takeN r (⟨kk, ff, tt, uu, ss, xa, xb⟩ : Nd) ≠ 0 → (s2 (takeN r (⟨kk, ff, tt, uu, ss, xa, xb⟩ : Nd))).isSome = true)) (fun _ v _ => 3 - (intOf v).toNat)
    case atStart => exact ⟨0, ws, s, rfl, by omega, HT.out, HY.out, HG1.out, HR1.out, HS1.out, HNB.out, fun r h1 h2 => by omega⟩
    case round =>
     clear HT HG HR HS HG1 HR1 HS1 HNB HY HYW hy2 PN
     obtain ⟨j, ws2, s2, rfl, hj3, hT, hy, hgr, hrow, hsm, hnb, hdone⟩ := hrel
     have hwl2 : ws2.length ≤ p.length := nodup_in hT.nodup hT.inp
     obtain ⟨aa, cc, rfl, hx⟩ := (row_of_own hrow).at
     have HT := Lib.hid hT
     have HY := Lib.hid hy
     have HG := Lib.hid hgr
     have HR := Lib.hid hrow
     have HS := Lib.hid hsm
     have HNB := Lib.hid hnb
     have HD := Lib.hid hdone
     have hi2 : i < ws2.length := (List.getElem?_eq_some_iff.1 hy).1
     clear hT hgr hrow hsm hdone
     by_cases hlt : j < 3
     ·obtain ⟨gb2, go2, rfl, q⟩ := hx (by omega)
      have c0 := q i _ ((ints_at ws2 i hi2).trans (by rw [(List.getElem?_eq_some_iff.1 hy).2]))
      clear q hx hy
      have hix := index3 hlt
      have hj0 : (j : Int) < 3 := by omega
      have hi1 : (i : Int) < (ws2.length : Int) := by omega
      have TK := HTK.out
      have hyi := HT.out.inp y (List.mem_of_getElem? HY.out)
      have HTI := Lib.hid (fun (h0 : takeN ((j : Int) + 1) (⟨kk, ff, tt, uu, ss, xa, xb⟩ : Nd) ≠ 0) => show i64R _ from in_i64 hlen (.inr (by have := take_in HOK.out hyi ((j : Int) + 1) (by rw [HNN.out]; exact h0); rwa [HNN.out] at this)))
      generalize hu : takeN ((j : Int) + 1) (⟨kk, ff, tt, uu, ss, xa, xb⟩ : Nd) = z at *
      have TKJ := Lib.hid (fun (W : World) => by have := TK W ((j : Int) + 1); rw [hu] at this; exact this)
      have HU := Lib.hid hu
      clear hu TK hyi hnb
      obtain ⟨y0, y1, y2, y3, y4, y5, y6⟩ := cs7 HNB.out rfl rfl rfl rfl rfl rfl rfl
      go_wp2_with fail
      refine (TKJ.out _).mono ?_
      rintro e w2 ⟨rfl, u2⟩
      have HG2 := Lib.hid (grown_trans HG.out (grown_of u2))
      have HR2 := Lib.hid (own_hold HR.out (Hold.below u2))
      have HS2 := Lib.hid (HS.out.below u2)
      have HNB2 := Lib.hid (Hold.below u2 _ _ HNB.out)
      replace c0 := bcellAt u2 c0
      clear u2 y0 y1 y2 y3 y4 y5 y6
      by_cases hz : z = 0
      ·subst hz
       go_wp2_with fail
       go_roundw
       case rel => exact ⟨j + 1, ws2, s2, by go_num, by omega, HT.out, HY.out, HG2.out, HR2.out, HS2.out, HNB2.out, fun r h1 h2 h3 => by
        rcases Int.lt_or_le r ((j : Int) + 1) with h | h
        ·exact HD.out r h1 (by omega) h3
        ·obtain rfl : r = (j : Int) + 1 := by omega
         exact absurd HU.out h3⟩
       case measure => simp [intOf]; omega
      ·have hz' := ebF hz
       have hzi := HTI.out hz
       have HZI := Lib.hid hzi
       have SE := Lib.hid (sees_raw (cellB (j := 2) (HGK.out _ HG2.out) rfl) HS2.out hzi)
       clear hzi
       cases hsz : s2 z with
       | some zz =>
        rw [hsz] at SE
        have HSZ := Lib.hid hsz
        clear hsz
        go_wp2_with fail
        refine SE.out.mono ?_
        rintro e w3 ⟨rfl, u3⟩
        have HG3 := Lib.hid (grown_trans HG2.out (grown_of u3))
        have HR3 := Lib.hid (own_hold HR2.out (Hold.below u3))
        have HS3 := Lib.hid (HS2.out.below u3)
        have HNB3 := Lib.hid (Hold.below u3 _ _ HNB2.out)
        clear u3
        go_wp2_with fail
        go_roundw
        case rel => exact ⟨j + 1, ws2, s2, by go_num, by omega, HT.out, HY.out, HG3.out, HR3.out, HS3.out, HNB3.out, fun r h1 h2 h3 => by
         rcases Int.lt_or_le r ((j : Int) + 1) with h | h
         ·exact HD.out r h1 (by omega) h3
         ·obtain rfl : r = (j : Int) + 1 := by omega
          rw [HU.out, HSZ.out]; rfl⟩
        case measure => simp [intOf]; omega
       | none =>
        rw [hsz] at SE
        have HSZ := Lib.hid hsz
        clear hsz
        go_wp2_with fail
        refine SE.out.mono ?_
        rintro e w3 ⟨rfl, u3⟩
        have HG3 := Lib.hid (grown_trans HG2.out (grown_of (bmore u3 (bd w3))))
        have HR3 := Lib.hid (own_hold HR2.out (Hold.below (bmore u3 (bd w3))))
        have HS3 := Lib.hid (HS2.out.below (bmore u3 (bd w3)))
        have HNB3 := Lib.hid (Hold.below (bmore u3 (bd w3)) _ _ HNB2.out)
        have hkl := HGK.out _ (grown_trans HG2.out (grown_of u3))
        have d2 : w3.cell? ⟨k, 2, none⟩ = some (.map (some mb)) := cellB hkl rfl
        replace c0 := bcellAt u3 c0
        clear u3 hkl
        obtain ⟨n0, D0, hown0, hn0, hst0⟩ := HS3.out.store hlen HGL.out
        have HST := Lib.hid hst0
        have HOW := Lib.hid hown0
        clear hst0 hown0
        have hzin : inP p z = true := by
         have := take_in HOK.out (HT.out.inp y (List.mem_of_getElem? HY.out)) ((j : Int) + 1) (by rw [HNN.out, HU.out]; exact hz)
         rwa [HNN.out, HU.out] at this
        have HZIN := Lib.hid hzin
        have HMO := Lib.hid (Took.more (y := y) (r := (j : Int) + 1) HOK.out HT.out (List.mem_of_getElem? HY.out) (by rw [HNN.out, HU.out]; exact hz) (by rw [HNN.out, HU.out]; exact HSZ.out))
        clear hzin
        go_wp2_with fail
        go_still_tail 11, (by kernel_rfl)
        change wpList _ _ _ _ _ w3.drew
        go_wp2_with (first
         | (at_mapUpdate; refine wpList_mapUpdate_own _ rfl _ _ _ SeenT rfl TermT WayT lawT Tryz.underlying203 wayElem mb n0 D0 rfl HOW.out hn0 _ _ (.int .i64 z) rfl rfl (keyT HZI.out) (wayD ((j : Int) + 1, y)) [] (wayElem_mk ((j : Int) + 1, y)) ?_; intro w4 hown4 hg4)
         | (at_builtin; refine wpList_append_tw rfl _ _ rfl w.heap.size _ ws2 rfl (own_hold (own_hold HR3.out (hold_map HS3.out.mapb hg4 TermT)) (Hold.below (bA0 _ _))) w4.heap.size z rfl (cellB (j := 0) (heap_alloc_new _ _) rfl) (by omega) (Nat.le_trans (Nat.le_trans HG3.out.size hg4.size) (bA0 _ _).size) ?_; intro v5 w5 hrow5 hg5 hw5; obtain ⟨sa, sc, rfl⟩ := (row_of_own hrow5).shape))
        have hR4 := own_hold HR3.out (hold_map HS3.out.mapb hg4 TermT)
        have hA4 := bA0 w4 (.cells #[.int .i64 z] TermT)
        have hR4' := own_hold hR4 (Hold.below hA4)
        have HG4 := Lib.hid (grown_trans HG3.out hg4)
        have HG5 : Hid (w.grownBy w5 (some mb)) := Lib.hid (grown_new (grown_trans HG4.out (grown_of hA4)) hg5 (fun q e => .inl (own_type hR4' e).1))
        have HS5 : Hid (SeenM w5 mb p g (updS s2 z ((j : Int) + 1, y))) := Lib.hid ((((HST.out z ((j : Int) + 1, y) w4 HZI.out hown4).1 ⟨HSZ.out, HZIN.out⟩).below hA4).same (fun es c hm => map_row hR4' hg5 hm))
        have HNB5 : Hid (w5.heap[nb]? = some (Obj.cells #[.int .i64 kk, .int .i64 ff, .int .i64 tt, .int .u64 uu, .string ss, .int .i64 xa, .int .i64 xb] NodeT)) := Lib.hid (hold_row hR4' hg5 (by decide) _ _ (Hold.below hA4 _ _ (hold_map HS3.out.mapb hg4 NodeT _ _ HNB3.out)))
        have HR5 : Hid (w5.ownsRow w.heap.size TermT 1 (.slice sa (ws2.length + 1) sc) (ws2 ++ [z]).length (ints (ws2 ++ [z]))) := Lib.hid (by have h9 := hrow5; rw [show (ws2 ++ [z]).length = ws2.length + 1 by simp] at h9 ⊢; exact h9)
        clear hR4 hA4 hR4' hg4 hg5 hown4 hrow5 hw5
        go_wp2_with fail
        go_roundw
        case rel => exact ⟨j + 1, ws2 ++ [z], updS s2 z ((j : Int) + 1, y), by go_num, by omega, by have := HMO.out; rw [HNN.out, HU.out] at this; exact this, (List.getElem?_append_left hi2).trans HY.out, HG5.out, HR5.out, HS5.out, HNB5.out, fun r h1 h2 h3 => by
         unfold updS
         rcases Int.lt_or_le r ((j : Int) + 1) with h | h
         ·have := HD.out r h1 (by omega) h3
          split
          ·rfl
          ·exact this
         ·obtain rfl : r = (j : Int) + 1 := by omega
          rw [HU.out, if_pos rfl]; rfl⟩
        case measure => simp [intOf]; omega
     ·obtain rfl : j = 3 := by omega
      clear hx hlt hy
      go_wp2_with fail
      go_roundw
      case rel => exact ⟨ws2, s2, i + 1, by go_num, HT.out.next HY.out (fun r h0 => by
       rw [HNN.out] at h0 ⊢
       have := takeN_cases _ _ h0
       exact HD.out r (by omega) (by omega) h0), HG.out, HR.out, HS.out⟩
      case measure => simp [intOf]; omega
  ·obtain rfl : i = ws.length := by have := HT.out.le; omega
   clear hx hlt hT
   go_wp2_with fail
   go_returns
   exact ⟨rfl, ws, s, HT.out, HS.out, HG.out⟩
end
end Go.Proofs.YtjmcaceegfdkkaaGreatDoor
