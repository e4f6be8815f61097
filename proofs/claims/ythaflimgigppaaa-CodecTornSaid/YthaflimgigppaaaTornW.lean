/-
  The walk of CodecTorn.
-/
import Derived.Test.YthaflimgigppaaaTornA
import Derived.Test.YthaflimgigppaaaLexN
import Derived.Deep.QuietTactic
import Derived.BigQuiet
namespace Go.Proofs.Ythaflimgigppaaa
open Go.RowKit
set_option linter.unusedVariables false

theorem IsLoads.mono {B B' : Nat} {w : World} {v : Value} {ls : List (List UInt8)} (h : IsLoads B w v ls) (hb : B' ≤ B) : IsLoads B' w v ls := by
  obtain ⟨vs, h1, h2⟩ := h
  refine ⟨vs, ⟨h1.1, ?_⟩, fun i hi => ?_⟩
  · rcases h1.2 with hn | ⟨g, cap, cur, hv, h3, h4⟩
    · exact .inl hn
    · exact .inr ⟨g, cap, cur, hv, Nat.le_trans hb h3, h4⟩
  · obtain ⟨u, hu, ho⟩ := h2 i hi
    exact ⟨u, hu, Own.mono ho hb⟩
theorem IsLoads.shape {B : Nat} {w : World} {v : Value} {ls : List (List UInt8)} (h : IsLoads B w v ls) : ∃ a c, v = .slice a ls.length c := by
  obtain ⟨vs, h1, _⟩ := h
  rcases h1.2 with ⟨rfl, hn⟩ | ⟨g, cap, cur, rfl, _⟩
  · exact ⟨none, 0, by rw [hn]⟩
  · exact ⟨_, _, rfl⟩
theorem bthen1 {w w1 w2 : World} (h : Below w.heap.size w w1) (k : Below w1.heap.size w1 w2) : Below w.heap.size w w2 := h.trans (k.mono h.size)

/-- The list of the ends, as cells. -/
def endCells (ls : List (List UInt8)) (n : Nat) : List Value := (List.range n).map fun i => .int .i64 (endF ls i : Int)
theorem endCells_length (ls : List (List UInt8)) (n : Nat) : (endCells ls n).length = n := by simp [endCells]
theorem endCells_snoc (ls : List (List UInt8)) (n : Nat) : endCells ls (n + 1) = endCells ls n ++ [.int .i64 (endF ls n : Int)] := by simp [endCells, List.range_succ]
theorem endCells_at (ls : List (List UInt8)) {n i : Nat} (h : i < n) : (endCells ls n)[i]? = some (.int .i64 (endF ls i : Int)) := by simp [endCells, h]
/-- A list of ints of the call's own: the ends of the first frames. -/
def Ends (B : Nat) (w : World) (v : Value) (ls : List (List UInt8)) (n : Nat) : Prop := w.ownsRow B 3 1 v n (endCells ls n)

theorem Ends.keep {B : Nat} {w w' : World} {v : Value} {ls : List (List UInt8)} {n : Nat} (h : Ends B w v ls n) (hb : Below w.heap.size w w') : Ends B w' v ls n := by
  refine ⟨h.1, ?_⟩
  rcases h.2 with hn | ⟨g, cap, cur, hv, h3, h4, h5⟩
  · exact .inl hn
  · exact .inr ⟨g, cap, cur, hv, h3, by rw [hb.block g (Array.getElem?_eq_some_iff.1 h4).1]; exact h4, h5⟩
theorem Ends.start (ls : List (List UInt8)) (w : World) : Ends w.heap.size (w.alloc (.cells #[.int .i64 0] 3)) (.slice (some ⟨w.heap.size, 0, none⟩) 1 1) ls 1 :=
  ⟨by simp [endCells], .inr ⟨w.heap.size, 1, #[.int .i64 0], rfl, Nat.le_refl _, heap_alloc_new w _, Nat.le_refl _, by unfold maxLen; omega, rfl, by simp [endCells, endF_zero]⟩⟩
theorem Ends.shape {B : Nat} {w : World} {v : Value} {ls : List (List UInt8)} {n : Nat} (h : Ends B w v ls (n + 1)) : ∃ g c, v = .slice (some ⟨g, 0, none⟩) (n + 1) c := by
  rcases h.2 with ⟨_, h0⟩ | ⟨g, cap, cur, hv, _⟩
  · omega
  · exact ⟨g, cap, hv⟩
theorem Ends.small {B : Nat} {w : World} {v : Value} {ls : List (List UInt8)} {n : Nat} (h : Ends B w v ls n) : n ≤ maxLen := by
  rcases h.2 with ⟨_, h0⟩ | ⟨g, cap, cur, hv, _, _, h8, h9, _⟩
  · omega
  · omega
theorem own_ne_ends {B : Nat} {w : World} {u v : Value} {l : List UInt8} {ls : List (List UInt8)} {n : Nat} (hu : Own B w u l) (hv : Ends B w v ls n) : v.ownBlock = none ∨ v.ownBlock ≠ u.ownBlock := by
  rcases hv.2 with ⟨rfl, _⟩ | ⟨g, cap, cur, rfl, _, hg, _⟩
  · exact .inl rfl
  · refine .inr ?_
    rcases hu.2 with ⟨rfl, _⟩ | ⟨g', cap', cur', rfl, _, hg', _⟩
    · simp [Value.ownBlock]
    · intro e
      obtain rfl : g = g' := by simpa [Value.ownBlock] using e
      have := hg.symm.trans hg'
      simp at this
theorem ends_ne_own {B : Nat} {w : World} {u v : Value} {l : List UInt8} {ls : List (List UInt8)} {n : Nat} (hu : Own B w u l) (hv : Ends B w v ls n) : u.ownBlock = none ∨ u.ownBlock ≠ v.ownBlock := by
  rcases hu.2 with ⟨rfl, _⟩ | ⟨g, cap, cur, rfl, _, hg, _⟩
  · exact .inl rfl
  · refine .inr ?_
    rcases hv.2 with ⟨rfl, _⟩ | ⟨g', cap', cur', rfl, _, hg', _⟩
    · simp [Value.ownBlock]
    · intro e
      obtain rfl : g = g' := by simpa [Value.ownBlock] using e
      have := hg.symm.trans hg'
      simp at this
theorem rowInt : (Try.prog.info? 3).map (fun i => (i.zero, i.size, i.bytes)) = some (some (.int .i64 0), 1, 8) := by kernel_rfl

theorem ArgLoads.small {w : World} {v : Value} {ls : List (List UInt8)} (h : ArgLoads w v ls) : ls.length ≤ maxLen := by
  rcases h with ⟨_, rfl⟩ | ⟨b, off, cap, _, _, h2, _⟩
  · exact Nat.zero_le _
  · exact h2
theorem joinF_small {ls : List (List UInt8)} (h : ∀ l ∈ ls, l.length ≤ 4096) : (joinF ls).length ≤ ls.length * 4110 := by
  induction ls with
  | nil => simp [joinF]
  | cons l ls ih =>
    rw [joinF_cons, List.length_append, frame_len, List.length_cons]
    have := ih fun x hx => h x (by simp [hx])
    have := h l (by simp)
    have := enc_len l.length
    omega

set_option maxRecDepth 20000 in
set_option maxHeartbeats 1600000 in
theorem torn_long {w : World} {v : Value} {ls : List (List UInt8)} (a : Int) (h : ArgLoads w v ls) (hl : 100 < ls.length) :
    Calls Try.prog 3 #[v, .int .i64 a] w fun e w' => e = .returned (.bool true) ∧ Below w.heap.size w w' := by
  have hm := h.small
  unfold maxLen at hm
  obtain ⟨sa, sc, rfl⟩ := h.shape
  clear h
  go_enter Try.func3, Try.ntmps3
  go_wp2_with fail
  refine (live_any _).mono ?_
  rintro e w1 ⟨rfl, hb⟩
  go_wp2_with fail
  go_ret
  exact ⟨rfl, hb⟩

end Go.Proofs.Ythaflimgigppaaa
