/-
  Plain lemmas on worlds and on slices of bytes: what a slice of bytes reads as, and that it goes on reading so while only newer memory is written. No function of the program is named here.
-/
import Derived.Test.YthaflimgigppaaaRows
import Derived.WalkKit
import Derived.WalkSpells
import Derived.WalkLawsBesides
import Derived.Lib.AppendStr
import Derived.Lib.SlBytesRow
import Derived.Lib.Hide
namespace Go.Proofs.Ythaflimgigppaaa
open Go.RowKit

def u8v (b : UInt8) : Value := .int .u8 (b.toNat : Int)
def cellsOf (l : List UInt8) : List Value := l.map u8v
theorem cellsOf_length (l : List UInt8) : (cellsOf l).length = l.length := by simp [cellsOf]
theorem cellsOf_append (a b : List UInt8) : cellsOf (a ++ b) = cellsOf a ++ cellsOf b := by simp [cellsOf]
theorem cellsOf_oneCell (l : List UInt8) : ∀ u ∈ cellsOf l, u.oneCell' = true := by
  intro u hu
  simp only [cellsOf, List.mem_map] at hu
  obtain ⟨b, _, rfl⟩ := hu
  rfl
theorem strCells_eq (s : ByteArray) : Lib.strCells s = cellsOf s.data.toList := rfl

/-- The slice value v, of memory from block B on, reads as the bytes l. -/
def Rd (B : Nat) (w : World) (v : Value) (l : List UInt8) : Prop :=
  (v = .slice none 0 0 ∧ l = []) ∨
  ∃ b off cap, v = .slice (some ⟨b, off, none⟩) l.length cap ∧ B ≤ b ∧ b < w.heap.size ∧ l.length ≤ cap ∧ cap ≤ maxLen ∧
    ∀ i, i < l.length → w.cell? ⟨b, off + i, none⟩ = some (u8v (l.getD i 0))

/-- The slice value v is a row of the call's own, from block B on, of the bytes l. -/
def Own (B : Nat) (w : World) (v : Value) (l : List UInt8) : Prop := w.ownsRow B 5 1 v l.length (cellsOf l)

theorem Rd.mono {B B' : Nat} {w : World} {v : Value} {l : List UInt8} (h : Rd B w v l) (hb : B' ≤ B) : Rd B' w v l := by
  rcases h with h | ⟨b, off, cap, hv, h1, h2⟩
  · exact .inl h
  · exact .inr ⟨b, off, cap, hv, Nat.le_trans hb h1, h2⟩

theorem Rd.zero {B : Nat} {w : World} {v : Value} {l : List UInt8} (h : Rd B w v l) : Rd 0 w v l := h.mono (Nat.zero_le _)

theorem Rd.keep {B : Nat} {w w' : World} {v : Value} {l : List UInt8} (h : Rd B w v l) (hb : Below w.heap.size w w') : Rd B w' v l := by
  rcases h with h | ⟨b, off, cap, hv, h1, h2, h3, h4, h5⟩
  · exact .inl h
  · exact .inr ⟨b, off, cap, hv, h1, Nat.lt_of_lt_of_le h2 hb.size, h3, h4, fun i hi => cell_later hb (h5 i hi)⟩

theorem Rd.nils (B : Nat) (w : World) : Rd B w (.slice none 0 0) [] := .inl ⟨rfl, rfl⟩

theorem Own.nils (B : Nat) (w : World) : Own B w (.slice none 0 0) [] := World.ownsRow_nil w B _ 1

theorem own_of {B : Nat} {w : World} {v : Value} {l : List UInt8} {n : Nat} {cs : List Value} (h : w.ownsRow B 5 1 v n cs) (hn : n = l.length) (hc : cs = cellsOf l) : Own B w v l := by
  subst hn; subst hc; exact h

theorem Own.keep {B : Nat} {w w' : World} {v : Value} {l : List UInt8} (h : Own B w v l) (hb : Below w.heap.size w w') : Own B w' v l := by
  refine ⟨h.1, ?_⟩
  rcases h.2 with hn | ⟨g, cap, cur, hv, h1, h2, h3⟩
  · exact .inl hn
  · exact .inr ⟨g, cap, cur, hv, h1, by rw [hb.block g (Array.getElem?_eq_some_iff.1 h2).1]; exact h2, h3⟩

theorem Own.mono {B B' : Nat} {w : World} {v : Value} {l : List UInt8} (h : Own B w v l) (hb : B' ≤ B) : Own B' w v l := by
  refine ⟨h.1, ?_⟩
  rcases h.2 with hn | ⟨g, cap, cur, hv, h1, h2⟩
  · exact .inl hn
  · exact .inr ⟨g, cap, cur, hv, Nat.le_trans hb h1, h2⟩

theorem Own.rd {B : Nat} {w : World} {v : Value} {l : List UInt8} (h : Own B w v l) : Rd B w v l := by
  have h' := h
  obtain ⟨h1, h2⟩ := h
  rcases h2 with ⟨hv, hn⟩ | ⟨g, cap, cur, rfl, hb, hg, hle, hm, hc, ht⟩
  · exact .inl ⟨hv, List.eq_nil_of_length_eq_zero hn⟩
  · refine .inr ⟨g, 0, cap, rfl, hb, (Array.getElem?_eq_some_iff.1 hg).1, hle, hm, fun i hi => ?_⟩
    have := World.ownsRow.cellAt (w := w) (base := B) (e := 5) (size := 1) (g := g) (n := l.length) (cap := cap) (xs := cellsOf l) h' i (by omega)
    rw [Nat.zero_add, this]
    simp [cellsOf, hi, List.getD_eq_getElem?_getD]

/-- The value of such a slice: its length. -/
theorem Rd.shape {B : Nat} {w : World} {v : Value} {l : List UInt8} (h : Rd B w v l) : ∃ a c, v = .slice a l.length c := by
  rcases h with ⟨rfl, rfl⟩ | ⟨b, off, cap, rfl, _⟩
  · exact ⟨_, _, rfl⟩
  · exact ⟨_, _, rfl⟩

theorem Rd.news {w : World} {b off : Nat} {l : List UInt8} (h : ∀ i, i < l.length → w.cell? ⟨b, off + i, none⟩ = some (u8v (l.getD i 0))) :
    ∀ j u, (cellsOf l)[j]? = some u → w.cell? ((⟨b, off, none⟩ : Addr).add j) = some u := by
  intro j u hu
  have hj : j < l.length := by
    have := (List.getElem?_eq_some_iff.1 hu).1
    simpa [cellsOf_length] using this
  have : u = u8v (l.getD j 0) := by
    simp [cellsOf, hj] at hu
    simp [List.getD_eq_getElem?_getD, hj, hu]
  subst this
  have e := h j hj
  by_cases h0 : j = 0
  · subst h0; simpa [Addr.add] using e
  · simp only [Addr.add, h0, if_false]; exact e

theorem row5 : (Try.prog.info? 5).map (fun i => (i.zero, i.size, i.bytes)) = some (some (.int .u8 0), 1, 1) := by kernel_rfl

end Go.Proofs.Ythaflimgigppaaa
