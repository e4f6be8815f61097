/-
  The document's own At, Get, Ceil, Floor as one option each; Bits; Same; Drop.
-/
import Derived.Test.YtkobiimkaimbaaaKRefM
namespace Go.Proofs.Ytkobiimkaimbaaa
open Go.RowKit
set_option linter.unusedVariables false

def atI (l : List Ent) (i : Int) : Option Ent := if 0 ≤ i then l[i.toNat]? else none
def entV : Option Ent → Ent
  | none => (⟨#[]⟩, 0)
  | some e => e
theorem atI_nat (l : List Ent) (n : Nat) : atI l (n : Int) = l[n]? := by
  unfold atI; rw [if_pos (by omega)]; simp
theorem rat_any {w : World} {v : Value} {l : List Ent} (i : Int) (h : Row w 2 v l.length (ents l)) (hl : l.length < 1000000) :
    Calls Try.prog 81 #[v, .int .i64 i] w fun e w' => e = .returned (.tuple #[.agg #[.string (entV (atI l i)).1, .int .i64 (entV (atI l i)).2], .bool (atI l i).isSome]) ∧ Below w.heap.size w w' := by
  by_cases h0 : 0 ≤ i ∧ i < (l.length : Int)
  · obtain ⟨n, rfl⟩ := Int.eq_ofNat_of_zero_le h0.1
    have hn : n < l.length := by omega
    have e : atI l (n : Int) = some (l[n]) := by rw [atI_nat, List.getElem?_eq_getElem hn]
    have := rat_yes n h hn hl
    rw [e]
    exact this
  · have e : atI l i = none := by
      unfold atI
      split
      · exact List.getElem?_eq_none (by omega)
      · rfl
    have := rat_no i h (by omega)
    rw [e]
    exact this

set_option maxRecDepth 100000 in
set_option maxHeartbeats 1600000 in
theorem rceil {w : World} {v : Value} {l : List Ent} (k : ByteArray) (h : Row w 2 v l.length (ents l)) (hl : l.length < 1000000) :
    Calls Try.prog 83 #[v, .string k] w fun e w' => e = .returned (.tuple #[.agg #[.string (entV (atI l (rk l k))).1, .int .i64 (entV (atI l (rk l k))).2], .bool (atI l (rk l k)).isSome]) ∧ Below w.heap.size w w' := by
  have bA : Below w.heap.size w (w.alloc (.cells #[.string ⟨#[]⟩, .int .i64 0] 48)) := (Below.refl _ _).alloc (Nat.le_refl _) _
  have hA : (w.alloc (.cells #[.string ⟨#[]⟩, .int .i64 0] 48)).heap[w.heap.size]? = some (Obj.cells #[.string ⟨#[]⟩, .int .i64 0] 48) := heap_alloc_new _ _
  have H := Lib.hid (h.below bA)
  have HBA := Lib.hid bA
  have HA := Lib.hid hA
  obtain ⟨aa, ca, rfl⟩ := h.shape
  have HM := Lib.hid (fun (w' : World) (hr : Row w' 2 (.slice aa l.length ca) l.length (ents l)) => rat_any (rk l k : Int) hr hl)
  clear h bA hA
  generalize atI l (rk l k) = o at *
  generalize hEV : entV o = ev at *
  obtain ⟨ek, ev⟩ := ev
  clear hEV
  go_enter Try.func83, Try.ntmps83
  go_wp2_with fail
  generalize (w.alloc (.cells #[.string ⟨#[]⟩, .int .i64 0] 48)) = W at *
  refine (rrank k H.out hl).mono ?_
  rintro e w1 ⟨rfl, rfl⟩
  go_wp2_with fail
  refine (HM.out _ H.out).mono ?_
  rintro e w2 ⟨rfl, u2⟩
  have hh := Hold.below (T := 48) u2 _ _ HA.out
  have x0 : w2.cell? ⟨w.heap.size, 0, none⟩ = some (.string ⟨#[]⟩) := cellB hh rfl
  have x1 : w2.cell? ⟨w.heap.size, 1, none⟩ = some (.int .i64 0) := cellB hh rfl
  have f0 : w2.frozen? ⟨w.heap.size, 0, none⟩ = false := frozenB hh
  have f1 : w2.frozen? ⟨w.heap.size, 1, none⟩ = false := frozenB hh
  have HH := Lib.hid hh
  have HU := Lib.hid (HBA.out.trans (u2.mono HBA.out.size))
  clear u2 hh
  go_wp2_with fail
  have y2 := setCellB (j := 1) (u := .int .i64 ev) (setCellB (j := 0) (u := .string ek) HH.out)
  have hc0 : ((w2.setCell ⟨w.heap.size, 0, none⟩ (.string ek)).setCell ⟨w.heap.size, 1, none⟩ (.int .i64 ev)).cell? ⟨w.heap.size, 0, none⟩ = some (.string ek) := cellB y2 rfl
  have hc1 : ((w2.setCell ⟨w.heap.size, 0, none⟩ (.string ek)).setCell ⟨w.heap.size, 1, none⟩ (.int .i64 ev)).cell? ⟨w.heap.size, 1, none⟩ = some (.int .i64 ev) := cellB y2 rfl
  refine bodyPost_ret (v := .tuple #[.agg #[.string ek, .int .i64 ev], .bool o.isSome]) (by simp [results, Try.results83, go_sem, hc0, hc1]) rfl ?_
  exact ⟨rfl, (HU.out.setCell (p := ⟨w.heap.size, 0, none⟩) (Nat.le_refl _) _).setCell (p := ⟨w.heap.size, 1, none⟩) (Nat.le_refl _) _⟩

def bitsF : Nat → Nat → Nat
  | 0, _ => 0
  | f + 1, n => if n = 0 then 0 else bitsF f (n / 2) + 1
def bits (n : Nat) : Nat := bitsF n n
theorem bitsF_eq : ∀ (f g n : Nat), n ≤ f → n ≤ g → bitsF f n = bitsF g n := by
  intro f
  induction f with
  | zero => intro g n h _; obtain rfl : n = 0 := by omega
            cases g <;> simp [bitsF]
  | succ f ih =>
    intro g n h h'
    cases g with
    | zero => obtain rfl : n = 0 := by omega
              simp [bitsF]
    | succ g =>
      rw [bitsF, bitsF]
      split
      · rfl
      · rw [ih g (n / 2) (by omega) (by omega)]
theorem bits_step (n : Nat) (h : 0 < n) : bits n = bits (n / 2) + 1 := by
  unfold bits
  cases n with
  | zero => omega
  | succ n =>
    rw [bitsF, if_neg (by omega), bitsF_eq n ((n + 1) / 2) ((n + 1) / 2) (by omega) (Nat.le_refl _)]
theorem bits_zero : bits 0 = 0 := rfl
set_option maxHeartbeats 800000 in
theorem rbits (n : Nat) (w : World) (hn : n < 1000000) : Calls Try.prog 86 #[.int .i64 (n : Int)] w fun e w' => e = .returned (.int .i64 (bits n : Int)) ∧ w = w' := by
  have hb : ∀ m, m < 1000000 → bits m ≤ m := by
    intro m
    induction m using Nat.strongRecOn with
    | _ m ih =>
      intro h
      rcases Nat.eq_zero_or_pos m with rfl | h0
      · simp [bits_zero]
      · rw [bits_step m h0]
        have := ih (m / 2) (by omega) (by omega)
        omega
  have HBB := Lib.hid hb
  clear hb
  go_enter Try.func86, Try.ntmps86
  go_wp2_with fail
  go_loop [0, 3] (fun a b => ∃ m c : Nat, a = .int .i64 (m : Int) ∧ b = .int .i64 (c : Int) ∧ m < 1000000 ∧ c + bits m = bits n) (fun a _ => (intOf a).toNat)
  case atStart => exact ⟨n, 0, rfl, rfl, hn, by omega⟩
  case round =>
    obtain ⟨m, c, rfl, rfl, hm, he⟩ := hrel
    have hc : c < 1000000 := by have := HBB.out n hn; omega
    rcases Nat.eq_zero_or_pos m with rfl | h0
    · rw [bits_zero] at he
      have HE := Lib.hid he
      clear he
      go_wp2_with fail
      go_returns
      exact ⟨by rw [← HE.out]; rfl, rfl⟩
    · rw [bits_step m h0] at he
      have HE := Lib.hid he
      clear he
      have hm0 : (0 : Int) < (m : Int) := by omega
      have hq : ((m : Int).tdiv 2) = ((m / 2 : Nat) : Int) := by rw [Int.tdiv_eq_ediv_of_nonneg (by omega)]; omega
      go_wp2_with fail
      go_round
      case rel => exact ⟨m / 2, c + 1, by go_num, by go_num, by omega, by have := HE.out; omega⟩
      case measure => simp [intOf]; omega

end Go.Proofs.Ytkobiimkaimbaaa
