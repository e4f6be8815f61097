/-
  What an argument that is a list of slices of bytes gives the walk.
-/
import Derived.Test.YthaflimgigppaaaTornP
import Derived.Test.YthaflimgigppaaaAppend
import Derived.Test.YthaflimgigppaaaArgs
import Derived.Deep.Matrix
namespace Go.Proofs.Ythaflimgigppaaa
open Go.ChangeShapes Go.WideShapes Go.ChangeAt Go.RowKit

/-- A slice of bytes that came in within an argument: it reads as l. -/
def RdA (w : World) (v : Value) (l : List UInt8) : Prop :=
  (v = .slice none 0 0 ∧ l = []) ∨ ∃ (a : Addr) (cap : Nat), v = .slice (some a) l.length cap ∧ l.length ≤ maxLen ∧ ∀ j u, (cellsOf l)[j]? = some u → w.cell? (a.add j) = some u
/-- A list of such slices. -/
def ArgLoads (w : World) (v : Value) (ls : List (List UInt8)) : Prop :=
  (v = .slice none 0 0 ∧ ls = []) ∨ ∃ b off cap, v = .slice (some ⟨b, off, none⟩) ls.length cap ∧ b < w.heap.size ∧ ls.length ≤ maxLen ∧
    ∀ i (hi : i < ls.length), ∃ u, w.cell? ⟨b, off + i, none⟩ = some u ∧ RdA w u (ls[i])

theorem RdA.keep {w w' : World} {v : Value} {l : List UInt8} (h : RdA w v l) (hb : Below w.heap.size w w') : RdA w' v l := by
  rcases h with h | ⟨a, cap, hv, hl, hc⟩
  · exact .inl h
  · exact .inr ⟨a, cap, hv, hl, fun j u hj => cell_later hb (hc j u hj)⟩
theorem RdA.small {w : World} {v : Value} {l : List UInt8} (h : RdA w v l) : l.length ≤ maxLen := by
  rcases h with ⟨_, rfl⟩ | ⟨a, cap, _, hl, _⟩
  · exact Nat.zero_le _
  · exact hl
theorem RdA.shape {w : World} {v : Value} {l : List UInt8} (h : RdA w v l) : ∃ a c, v = .slice a l.length c := by
  rcases h with ⟨rfl, rfl⟩ | ⟨a, cap, rfl, _⟩
  · exact ⟨_, _, rfl⟩
  · exact ⟨_, _, rfl⟩
theorem ArgLoads.keep {w w' : World} {v : Value} {ls : List (List UInt8)} (h : ArgLoads w v ls) (hb : Below w.heap.size w w') : ArgLoads w' v ls := by
  rcases h with h | ⟨b, off, cap, hv, h1, h2, h3⟩
  · exact .inl h
  · refine .inr ⟨b, off, cap, hv, Nat.lt_of_lt_of_le h1 hb.size, h2, fun i hi => ?_⟩
    obtain ⟨u, hu, hr⟩ := h3 i hi
    exact ⟨u, cell_later hb hu, hr.keep hb⟩
theorem ArgLoads.shape {w : World} {v : Value} {ls : List (List UInt8)} (h : ArgLoads w v ls) : ∃ a c, v = .slice a ls.length c := by
  rcases h with ⟨rfl, rfl⟩ | ⟨b, off, cap, rfl, _⟩
  · exact ⟨_, _, rfl⟩
  · exact ⟨_, _, rfl⟩

theorem rdA_string {w : World} {v : Value} {l : List UInt8} (h : RdA w v l) : (convert 24 9 v).run Try.prog w = .ok (.string (strOf l)) w := by
  rcases h with ⟨rfl, rfl⟩ | ⟨a, cap, rfl, _, hc⟩
  · exact run_convert_bytes_nil w 24 5 Try.underlying24 Try.underlying5 0 0 9 Try.underlying9
  · have hl : (loadCells a l.length).run Try.prog w = .ok ((l.map fun x => (x.toNat : Int)).map (Value.int .u8)).toArray w := by
      have h1 := run_loadCells_list (P := Try.prog) w a (cellsOf l) hc
      rw [cellsOf_length] at h1
      rw [h1, List.map_map]
      rfl
    rw [run_convert_bytes_string w 24 9 5 _ l.length cap Try.underlying24 Try.underlying5 Try.underlying9, run_bytesToString w _ l.length cap _ hl, foldl_push_bytes]
    congr 2
    apply ByteArray.ext
    apply Array.toList_inj.1
    simp [strOf, List.map_map, Function.comp_def, ByteArray.empty, ByteArray.emptyWithCapacity]
    rfl

theorem wpList_append_rdA {w : World} {ops : Array Oper} {rest : List Oper} {o : Oper} {a : Act} {Q : Exit → Act → World → Prop} (hgd : o.guard = none) (s x : Operand)
    (ho : o.op = .call { callee := .builtin .append, args := #[s, x], argTypes := #[24, 24] })
    (base : Nat) (v : Value) (xs : List UInt8) (hs : a.eval s = v) (hown : Own base w v xs) (vx : Value) (l : List UInt8) (hx : a.eval x = vx) (hrd : RdA w vx l)
    (hlen : xs.length + l.length ≤ 140737488355328) (hbase : base ≤ w.heap.size)
    (h : ∀ v' w', Own base w' v' (xs ++ l) → w.grownBy w' v.ownBlock → wpList Try.prog ops Q rest (a.put o.dst v') w') : wpList Try.prog ops Q (o :: rest) a w := by
  obtain ⟨i0, hi, hz0, hz1, hz2⟩ := info_parts row5
  rcases hrd with ⟨rfl, rfl⟩ | ⟨ad, cap, rfl, h1, h2⟩
  · refine wpList_append_own_none hgd s x 24 ho base 5 i0 1 Try.underlying24 hi v _ _ hs hown hx ?_
    exact h v w (by rw [List.append_nil]; exact hown) ⟨rfl, rfl, rfl, Nat.le_refl _, fun _ _ _ => rfl⟩
  · refine wpList_append_own w hgd s x 24 ho base 5 i0 (.int .u8 0) 1 1 Try.underlying24 hi hz0 hz1 hz2 rfl (by decide) v _ _ hs hown ad l.length cap (cellsOf l) hx (by simp [cellsOf]) h2 (cellsOf_oneCell l) (by unfold maxLen; omega) (by omega) hbase ?_
    intro v' w' h6 h7 _
    exact h v' w' (own_of h6 (by rw [List.length_append]) (by rw [cellsOf_append])) h7

theorem listOf {α : Type} {Q : Nat → α → Prop} (n : Nat) (h : ∀ i, i < n → ∃ z, Q i z) : ∃ l : List α, l.length = n ∧ ∀ i (hi : i < l.length), Q i (l[i]) := by
  induction n with
  | zero => exact ⟨[], rfl, fun i hi => absurd hi (by simp)⟩
  | succ n ih =>
    obtain ⟨l, hl, hq⟩ := ih fun i hi => h i (by omega)
    obtain ⟨z, hz⟩ := h n (by omega)
    refine ⟨l ++ [z], by simp [hl], fun i hi => ?_⟩
    by_cases hin : i < l.length
    · rw [List.getElem_append_left hin]; exact hq i hin
    · have hi' : i = l.length := by simp at hi; omega
      subst hi'
      rw [List.getElem_append_right (by omega)]
      simp only [Nat.sub_self, List.getElem_cons_zero]
      rw [hl]; exact hz
theorem addrAdd {b off : Nat} (i : Nat) : (⟨b, off, none⟩ : Addr).add i = ⟨b, off + i, none⟩ := by unfold Addr.add; split <;> simp_all
theorem cells24 : Try.prog.cellsOf 24 = 1 := by kernel_rfl

theorem bytes5' : Try.prog.bytesOf 5 = 1 := by kernel_rfl
theorem weights_all {H : Type} {P : Program} {e : TypeId} {d : DataW H} {n : Nat} : ∀ {l : List (DataW H)}, d ∈ l → n ∈ d.weights P e → n ∈ DataW.weightsAll P e l
  | [], h, _ => by cases h
  | x :: r, h, hn => by
    simp only [DataW.weightsAll, List.mem_append]
    cases List.mem_cons.1 h with
    | inl he => subst he; exact Or.inl hn
    | inr he => exact Or.inr (weights_all he hn)

theorem open_loads {H : Type} {enc : TypeId × Value → H} {W : World} {base : Nat} {v : Value} {d : DataW H} {p : List MemPlace}
    (hval : Value.okWide Try.prog W .any base 22 v) (hj : DataW.Trod enc Try.prog W 0 (fun _ => true) true 22 v d p) (hs : ∀ n ∈ d.weights Try.prog 22, n ≤ reachBytes) :
    ∃ ls, ArgLoads W v ls ∧ ∀ l ∈ ls, l.length ≤ 140737488351232 := by
  obtain ⟨a, len, cap, rfl⟩ := okWide_slice Try.underlying22 hval
  obtain ⟨fuel, hf⟩ := hj
  rcases Go.Deep.open_int_rows Try.underlying22 Try.underlying24 Try.underlying5 cells24 cells5 hf with ⟨hcs, _⟩ | ⟨x, l, c, A, L, C, Z, hcs, _, hl, hm, hx, hr⟩
  · simp [Value.cells] at hcs
    obtain ⟨rfl, rfl, rfl⟩ := hcs
    exact ⟨[], .inl ⟨rfl, rfl⟩, fun l hl => by cases hl⟩
  · simp [Value.cells] at hcs
    obtain ⟨rfl, rfl, rfl⟩ := hcs
    simp only [Prod.mk.injEq] at hx
    obtain ⟨rfl, _⟩ := hx
    have hh : W.has Try.prog .any base x 24 cap := by
      simp only [Value.okWide, Try.underlying22, Cell.okWide, Cell.ok] at hval
      exact hval.2.2
    obtain ⟨_, hspot, row, cells, hshape, _⟩ := hh
    have hblk : x.block < W.heap.size := by
      rcases Nat.lt_or_ge x.block W.heap.size with h | h
      · exact h
      · simp [World.shape?, Array.getElem?_eq_none h] at hshape
    obtain ⟨b, off, spot⟩ := x
    simp only at hspot hblk
    subst hspot
    obtain ⟨ls, hll, hq⟩ := listOf (Q := fun i (y : List UInt8) => (∃ u, W.cell? ⟨b, off + i, none⟩ = some u ∧ RdA W u y) ∧ y.length ≤ 140737488351232) len (fun i hi => by
      obtain ⟨h1, h2, h3, h4, h5, h6, h7⟩ := hr i (by omega)
      rw [addrAdd] at h1
      cases hA : A i with
      | none =>
        have := h6 hA
        have hL : L i = 0 := by omega
        rw [hA, hL, this] at h1
        exact ⟨[], ⟨_, h1, .inl ⟨rfl, rfl⟩⟩, by simp⟩
      | some a' =>
        obtain ⟨_, h8⟩ := h7 a' hA
        have hw8 : C i ≤ 140737488351232 := by
          have hmem : Go.Deep.intRow (H := H) .u8 (A i) (L i) (Z i) ∈ (List.range len).map fun r => Go.Deep.intRow (H := H) .u8 (A r) (L r) (Z r) := List.mem_map.2 ⟨i, List.mem_range.2 hi, rfl⟩
          have hwm : C i ∈ (Go.Deep.intRow (H := H) .u8 (A i) (L i) (Z i)).weights Try.prog 24 := by
            rw [hA]
            simp only [Go.Deep.intRow, DataW.weights, Try.underlying24, bytes5']
            refine List.mem_cons.2 (Or.inl ?_)
            simp [lits]
            omega
          have := hs (C i) (by
            simp only [DataW.weights, Try.underlying22]
            exact List.mem_cons.2 (Or.inr (List.mem_append.2 (Or.inl (weights_all hmem hwm)))))
          simpa [reachBytes] using this
        rw [hA] at h1
        have hlen : (((Z i).take (L i)).map fun n => UInt8.ofNat n.toNat).length = L i := by simp; omega
        refine ⟨((Z i).take (L i)).map fun n => UInt8.ofNat n.toNat, ⟨_, h1, .inr ⟨a', C i, by rw [hlen], by rw [hlen]; omega, fun j u hj => ?_⟩⟩, by rw [hlen]; omega⟩
        have hjl : j < L i := by
          have := (List.getElem?_eq_some_iff.1 hj).1
          rw [cellsOf_length, hlen] at this
          exact this
        rw [h8 j (by omega)]
        have hjz : j < (Z i).length := by omega
        have hw := h5 ((Z i)[j]) (List.getElem_mem hjz)
        have hb := bounds_u8 hw
        simp [cellsOf, u8v, hjl, hjz, UInt8.toNat_ofNat'] at hj
        rw [← hj]
        simp [List.getD_eq_getElem?_getD, hjz]
        omega)
    refine ⟨ls, .inr ⟨b, off, cap, by rw [hll], hblk, by omega, fun i hi => (hq i hi).1⟩, fun l hl => ?_⟩
    obtain ⟨i, hi, rfl⟩ := List.getElem_of_mem hl
    exact (hq i hi).2

end Go.Proofs.Ythaflimgigppaaa
