/-
  The document's Parts, the law's large.
-/
import Derived.Test.YtjpkeoenajlmeaaDoorTFor
import Derived.Test.YtjpkeoenajlmeaaDoorTKit
namespace Go.Proofs.YtjpkeoenajlmeaaDoor
open Go.RowKit Go.Maps
set_option linter.unusedVariables false

theorem fo_nil {r : Fo} (h : r.len = 0) : r = .nil := by cases r with | nil => rfl | cons _ _ _ => simp [Fo.len] at h
theorem fo_pos {r : Fo} (h : 0 < r.len) : ∃ n k q, r = .cons n k q := by cases r with | nil => simp [Fo.len] at h | cons n k q => exact ⟨n, k, q, rfl⟩
theorem bZ (w : World) (o : Obj) : Below w.heap.size w (w.alloc o) := (Below.refl _ _).alloc (Nat.le_refl _) _

section
variable {G : Nat → Prop}
def PartsC (G : Nat → Prop) (n : Nd) (k : Fo) : Prop := ∀ (w : World) (v : Value) (m : Int), IsK w G v k → -6001 ≤ m → m ≤ 6000 → Calls Tryd.prog 25 #[.agg (treeA n v), .int .i64 m] w fun e w' => e = .returned (.int .i64 (partsL k 1 m)) ∧ Below w.heap.size w w'
set_option maxRecDepth 100000 in
set_option maxHeartbeats 3200000 in
theorem parts_step (n : Nd) (k : Fo) (ih : AllF (PartsC G) k) : PartsC G n k := by
  intro w v m hk h1 h2
  have bA : Below w.heap.size w (w.alloc (.cells (treeA n v) TrT)) := bZ _ _
  have hb : (w.alloc (.cells (treeA n v) TrT)).heap[w.heap.size]? = some (Obj.cells (treeA n v) TrT) := heap_alloc_new _ _
  obtain ⟨av, cv, rfl, hx⟩ := (hk.below bA).shape
  have hlen := hk.small
  unfold maxLen at hlen
  have HX := Lib.hid hx
  have HI := Lib.hid ih
  have HB := Lib.hid hb
  have HA := Lib.hid bA
  clear hk hx ih hb bA
  obtain ⟨kk, ff, tt, uu, ss, xa, xb⟩ := n
  simp only [treeA] at *
  go_enter Tryd.func25, Tryd.ntmps25
  go_wp2_with fail
  generalize (w.alloc (.cells #[.int .i64 kk, .int .i64 ff, .int .i64 tt, .int .u64 uu, .string ss, .slice av k.len cv] TrT)) = W at *
  go_loopw [5, 6] (fun vn vi wr => ∃ (i : Nat) (nn : Int) (r : Fo), vn = .int .i64 nn ∧ vi = .int .i64 (i : Int) ∧ i + r.len = k.len ∧ 1 ≤ nn ∧ nn ≤ max 1 (m + 1) ∧ partsL k 1 m = partsL r nn m ∧ AllF (PartsC G) r ∧ (0 < r.len → ∃ b o, av = some ⟨b, o, none⟩ ∧ AtF W G r b (o + i * 6)) ∧ Below W.heap.size W wr) (fun _ v _ => k.len - (intOf v).toNat)
  case atStart => exact ⟨0, 1, k, rfl, rfl, by omega, by omega, by omega, rfl, HI.out, fun hp => by obtain ⟨b, o, q1, _, q3⟩ := HX.out hp; exact ⟨b, o, q1, by simpa using q3⟩, Below.refl _ _⟩
  case round =>
    obtain ⟨i, nn, r, rfl, rfl, hi, hn1, hn2, hp, hall, hat, hbr⟩ := hrel
    have y5 := cellB (j := 5) (Hold.below hbr _ _ HB.out) rfl
    have HBR := Lib.hid hbr
    clear hbr
    by_cases hlt : 0 < r.len
    · obtain ⟨n', k', q, rfl⟩ := fo_pos hlt
      simp only [Fo.len] at hi
      obtain ⟨b, o, rfl, hat'⟩ := hat hlt
      obtain ⟨c0, c1, c2, c3, c4, v', c5, hk', hat2⟩ := hat'.cons
      by_cases hm : nn ≤ m
      · have e0 := bcellAt HBR.out c0
        have e1 := bcellAt HBR.out c1
        have e2 := bcellAt HBR.out c2
        have e3 := bcellAt HBR.out c3
        have e4 := bcellAt HBR.out c4
        have e5 := bcellAt HBR.out c5
        have HK := Lib.hid (hall.1 _ v' (m - nn) (hk'.below HBR.out) (by omega) (by omega))
        have bd := partsL_bd k' 1 (m - nn) (by omega)
        have hp2 : partsL (.cons n' k' q) nn m = partsL q (nn + partsL k' 1 (m - nn)) m := by simp only [partsL, if_pos hm]
        have HP := Lib.hid (hp.trans hp2)
        have HALL := Lib.hid hall.2
        have HAT := Lib.hid hat2
        clear hp hp2 hall hat2 hat hat' c0 c1 c2 c3 c4 c5 hk' HI HX
        obtain ⟨bd1, bd2⟩ := bd
        generalize partsL k' 1 (m - nn) = pp at *
        obtain ⟨k2, f2, t2, u2, s2, y2, z2⟩ := n'
        simp only [treeA] at *
        have hi1 : (i : Int) < (k.len : Int) := by omega
        go_wp2_with fail
        refine HK.out.mono ?_
        rintro e w1 ⟨rfl, u1⟩
        have HB1 := Lib.hid (bmore HBR.out u1)
        clear u1
        have hs1 : nn + pp ≤ 6001 := by omega
        go_wp2_with fail
        go_roundw
        case rel => exact ⟨i + 1, nn + pp, q, rfl, by go_num, by omega, by omega, by omega, HP.out, HALL.out, fun _ => ⟨b, o, rfl, by rw [show o + (i + 1) * 6 = o + i * 6 + 6 by omega]; exact HAT.out⟩, HB1.out⟩
        case measure => simp [intOf]; omega
      · have hp2 : partsL (.cons n' k' q) nn m = nn := by simp only [partsL, if_neg hm]
        have HP := Lib.hid (hp.trans hp2)
        have hi1 : (i : Int) < (k.len : Int) := by omega
        clear hp hp2 hall hat2 hat hat' c0 c1 c2 c3 c4 c5 hk' HI HX
        go_wp2_with fail
        go_returns
        exact ⟨by rw [HP.out]; rfl, bmore HA.out HBR.out⟩
    · obtain rfl := fo_nil (show r.len = 0 by omega)
      simp only [Fo.len, Nat.add_zero] at hi
      subst hi
      have HP := Lib.hid hp
      clear hp hall hat HI HX hlt
      go_wp2_with fail
      go_returns
      exact ⟨by rw [HP.out]; rfl, bmore HA.out HBR.out⟩
theorem parts_any (n : Nd) (k : Fo) : PartsC G n k := tree_all parts_step n k

end
end Go.Proofs.YtjpkeoenajlmeaaDoor
