/-
  What the document's own Seal does.
-/
import Derived.Test.YtoeaaddkeefgoaaRefPut
import Derived.Test.YtoeaaddkeefgoaaRefSum
import Derived.Test.YtoeaaddkeefgoaaSeal
namespace Go.Proofs.Ytoeaaddkeefgoaa
open Go.RowKit

/-- Four new cells. -/
theorem news4 (w : World) (x y z u0 : Value) (T : TypeId) : ∀ j u, [x, y, z, u0][j]? = some u → (w.alloc (.cells #[x, y, z, u0] T)).cell? ((⟨w.heap.size, 0, none⟩ : Addr).add j) = some u := by
  intro j u hj
  have hadd : (⟨w.heap.size, 0, none⟩ : Addr).add j = ⟨w.heap.size, j, none⟩ := by unfold Addr.add; split <;> simp_all
  rw [hadd, World.cell?, heap_alloc_new w _]
  simpa using hj

set_option maxHeartbeats 400000 in
theorem refSeal_long {w : World} {v : Value} {l : List UInt8} (h : Rd 0 w v l) (hl : 4096 < l.length) (hl2 : l.length ≤ 140737488355328) :
    Calls Try.prog 7 #[v] w fun e w' => e = .returned (.tuple #[.slice none 0 0, .int .i64 1]) ∧ w = w' := by
  obtain ⟨sa, sc, rfl⟩ := h.shape
  go_enter Try.func7, Try.ntmps7
  go_wp2_with fail
  go_ret2
  exact ⟨rfl, rfl⟩

set_option maxRecDepth 20000 in
set_option maxHeartbeats 800000 in
theorem refSeal_any {w : World} {v : Value} {l : List UInt8} (h : Rd 0 w v l) (hl : l.length ≤ 4096) :
    Calls Try.prog 7 #[v] w fun e w' => ∃ v', e = .returned (.tuple #[v', .int .i64 0]) ∧ Own w.heap.size w' v' (frameOf l) ∧ Below w.heap.size w w' := by
  obtain ⟨i0, hi, hz0, hz1, hz2⟩ := info_parts row5
  have HR := Lib.hid h
  have henc := enc_len l.length
  obtain ⟨sa, sc, rfl⟩ := h.shape
  clear h
  go_enter Try.func7, Try.ntmps7
  go_wp2_with fail
  refine (refPutNum_any [] l.length _ w (Rd.nils _ _) (by simp) (Lib.hid (by omega))).mono ?_
  rintro e w1 ⟨v1, rfl, o1, b1⟩
  have O1 := Lib.hid o1
  have B1 := Lib.hid b1
  have hz1' := b1.size
  clear o1 b1
  go_wp2_with (at_builtin; refine wpList_append_rd rfl _ _ rfl w.heap.size _ _ rfl O1.out _ l rfl (HR.out.keep B1.out) (by rw [List.nil_append]; omega) hz1' ?_)
  intro v2 w2 o2 g2
  have hb2 : Below w.heap.size w w2 := B1.out.grown g2 hz1' fun k hk => (World.ownsRow.lt O1.out k hk).1
  have O2 := Lib.hid o2
  have B2 := Lib.hid hb2
  have hz2' := hb2.size
  have HSum := Lib.hid (refSum_any (HR.out.keep hb2) (by omega))
  unfold r32 at HSum
  have hsc := sumB_cells (crc l)
  have hlt := (crc l).isLt
  clear o2 g2 hb2
  obtain ⟨r, hr⟩ : ∃ r, crc l = r := ⟨_, rfl⟩
  rw [hr] at HSum hsc hlt
  have HSc := Lib.hid hsc
  have Hr := Lib.hid hr
  clear hsc hr
  go_wp2_with fail
  refine HSum.out.mono ?_
  rintro e w3 ⟨rfl, rfl⟩
  have hlen : (enc l.length ++ l).length ≤ 4106 := by rw [List.length_append]; omega
  go_wp2_with (at_builtin; refine wpList_append_own _ rfl _ _ 22 rfl w.heap.size 5 i0 (.int .u8 0) 1 1 Try.underlying22 hi hz0 hz1 hz2 rfl (by decide) _ _ _ rfl (World.ownsRow.alloc O2.out _) ⟨w2.heap.size, 0, none⟩ 4 4 (cellsOf (sumB r)) rfl rfl (by rw [HSc.out]; exact news4 _ _ _ _ _ _) (cellsOf_oneCell _) (by unfold maxLen; omega) (by omega) (by simp; omega) ?_)
  intro v4 w4 o4 g4 _
  have hb4 : Below w.heap.size w w4 := (B2.out.alloc hz2' _).grown g4 (by simp; omega) fun k hk => (World.ownsRow.lt O2.out k hk).1
  go_wp2_with fail
  go_ret2
  refine ⟨_, rfl, ?_, hb4⟩
  exact own_of o4 (by simp only [frameOf, List.length_append, sumB_length]) (by simp only [frameOf, cellsOf_append, Hr.out])

end Go.Proofs.Ytoeaaddkeefgoaa
