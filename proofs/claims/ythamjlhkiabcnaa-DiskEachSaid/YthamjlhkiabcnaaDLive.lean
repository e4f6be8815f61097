/-
  The law's own 'live': a disk whose power fails behind two writes.
-/
import Derived.Test.YthamjlhkiabcnaaDSameD
import Derived.Test.YthamjlhkiabcnaaDCopy
namespace Go.Proofs.Ythamjlhkiabcnaa
open Go.RowKit

theorem Turned.next {w0 w w' : World} {a : Nat} {S : Nat → Prop} {d : Dk} (hb : Below w0.heap.size w0 w) (h : IsDisk w w0.heap.size a S d) {d' : Dk} (ht : Turned w w0.heap.size a S d' w') :
    ∃ S', IsDisk w' w0.heap.size a S' d' ∧ Below w0.heap.size w0 w' := by
  obtain ⟨S', h1, _, h3⟩ := ht
  exact ⟨S', h1, hb.trans (h3.below hb.size fun k hk => (h.lt k hk).1)⟩

theorem bthen {w w1 w2 : World} (h : Below w.heap.size w w1) (k : Below w1.heap.size w1 w2) : Below w.heap.size w w2 := h.trans (k.mono h.size)
theorem below_drewN' {w w1 : World} (h : Below w.heap.size w w1) (n : Nat) : Below w.heap.size w (w1.drewN n) := ⟨h.os, h.tape, h.output, h.size, h.block⟩

def tA : ByteArray := ⟨#[97]⟩
def tB : ByteArray := ⟨#[98]⟩
def tC : ByteArray := ⟨#[99]⟩
def lv0 : Dk := ⟨List.replicate 2 emptyB, List.replicate 2 emptyB, [], false, -1⟩
def lv1 : Dk := lv0.write 0 tA
def lv2 : Dk := { lv1 with left := 1 }
def lv3 : Dk := lv2.write 1 tB
def lv4 : Dk := lv3.write 0 tC
def lv5 : Dk := { lv4 with dead := false, left := -1 }

set_option maxRecDepth 20000 in
set_option maxHeartbeats 1600000 in
theorem live_any (w : World) :
    Calls Try.prog 11 #[] w fun e w' => e = .returned (.bool true) ∧ Below w.heap.size w w' := by
  go_enter Try.func11, Try.ntmps11
  go_wp2_with fail
  refine (new_yes 2 (B := w.heap.size) w (by decide) (by decide) (Nat.le_refl _)).mono ?_
  rintro e w1 ⟨a, S1, rfl, h1, _, b1⟩
  change IsDisk w1 w.heap.size a S1 lv0 at h1
  have H1 := Lib.hid h1
  clear h1
  go_wp2_with fail
  refine (num_any 0 _).mono ?_
  rintro e w2 ⟨rfl, rfl⟩
  go_wp2_with fail
  refine (write_any H1.out 0 tA (by decide) (by decide)).mono ?_
  rintro e w2 ⟨rfl, ht⟩
  obtain ⟨S2, h2, b2⟩ := Turned.next b1 H1.out ht
  change IsDisk w2 w.heap.size a S2 lv1 at h2
  have H2 := Lib.hid h2
  rw [show lv0.writeE 0 tA = 0 from rfl]
  clear h2 ht b1 H1
  go_wp2_with fail
  refine (arm_ok H2.out 1 (by decide) (by decide)).mono ?_
  rintro e w3 ⟨rfl, ht⟩
  obtain ⟨S3, h3, b3⟩ := Turned.next b2 H2.out ht
  change IsDisk w3 w.heap.size a S3 lv2 at h3
  have H3 := Lib.hid h3
  clear h3 ht b2 H2
  go_wp2_with fail
  refine (write_any H3.out 1 tB (by decide) (by decide)).mono ?_
  rintro e w4 ⟨rfl, ht⟩
  obtain ⟨S4, h4, b4⟩ := Turned.next b3 H3.out ht
  change IsDisk w4 w.heap.size a S4 lv3 at h4
  have H4 := Lib.hid h4
  rw [show lv2.writeE 1 tB = 0 from rfl]
  clear h4 ht b3 H3
  go_wp2_with fail
  refine (write_any H4.out 0 tC (by decide) (by decide)).mono ?_
  rintro e w5 ⟨rfl, ht⟩
  obtain ⟨S5, h5, b5⟩ := Turned.next b4 H4.out ht
  change IsDisk w5 w.heap.size a S5 lv4 at h5
  have H5 := Lib.hid h5
  rw [show lv3.writeE 0 tC = 20 from rfl]
  clear h5 ht b4 H4
  go_wp2_with fail
  refine (read_any H5.out 0).mono ?_
  rintro e w6 ⟨rfl, rfl⟩
  rw [show lv4.readV 0 = .tuple #[.string ⟨#[]⟩, .int .i64 20] from rfl]
  go_wp2_with fail
  refine (dead_any H5.out).mono ?_
  rintro e w6 ⟨rfl, rfl⟩
  rw [show lv4.dead = true from rfl]
  go_wp2_with fail
  refine (start_any H5.out).mono ?_
  rintro e w6 ⟨rfl, ht⟩
  obtain ⟨S6, h6, b6⟩ := Turned.next b5 H5.out ht
  change IsDisk w6 w.heap.size a S6 lv5 at h6
  have H6 := Lib.hid h6
  clear h6 ht b5 H5
  go_wp2_with fail
  refine (read_any H6.out 0).mono ?_
  rintro e w7 ⟨rfl, rfl⟩
  rw [show lv5.readV 0 = .tuple #[.string ⟨#[97]⟩, .int .i64 0] from rfl]
  go_wp2_with fail
  refine (cut_ok H6.out 1 (by decide) b6.size).mono ?_
  rintro e w7 ⟨x, S7, rfl, h7, _, b⟩
  have b7 := bthen b6 b
  have H7 := Lib.hid (H6.out.below b)
  have X7 := Lib.hid h7
  clear h7 b b6 H6
  go_wp2_with fail
  refine (new_no 0 w7 (by decide)).mono ?_
  rintro e w8 ⟨rfl, rfl⟩
  go_wp2_with fail
  refine (num_any _ _).mono ?_
  rintro e w8 ⟨rfl, rfl⟩
  go_wp2_with fail
  refine (num_any _ _).mono ?_
  rintro e w8 ⟨rfl, rfl⟩
  go_wp2_with fail
  refine (num_any _ _).mono ?_
  rintro e w8 ⟨rfl, rfl⟩
  go_wp2_with fail
  refine (num_any _ _).mono ?_
  rintro e w8 ⟨rfl, rfl⟩
  go_wp2_with fail
  refine (num_any _ _).mono ?_
  rintro e w8 ⟨rfl, rfl⟩
  go_wp2_with fail
  refine (num_any _ _).mono ?_
  rintro e w8 ⟨rfl, rfl⟩
  go_wp2_with fail
  refine (num_any _ _).mono ?_
  rintro e w8 ⟨rfl, rfl⟩
  go_wp2_with fail
  refine (image_any X7.out).mono ?_
  rintro e w8 ⟨v8, rfl, o8, b⟩
  have b8 := bthen b7 b
  have H8 := Lib.hid (H7.out.below b)
  have hba : Below w8.heap.size w8 (w8.alloc (.cells #[.string ⟨#[97]⟩, .string ⟨#[]⟩] 9)) := (Below.refl _ _).alloc (Nat.le_refl _) _
  have r8 := (row_of_own o8).below hba
  have R8 := Lib.hid r8
  have hlit := row_of_own (World.ownsRow_lit (base := w8.heap.size) (e := 9) (size := 1) w8 #[.string ⟨#[97]⟩, .string ⟨#[]⟩] 2 (Nat.le_refl _) (by decide) rfl)
  have HLit := Lib.hid hlit
  obtain ⟨a8, c8, rfl⟩ := (row_of_own o8).shape
  clear b b7 H7 X7 o8 r8 hlit
  go_wp2_with fail
  refine (texts_any (m := [tA, emptyB]) R8.out HLit.out (by decide)).mono ?_
  rintro e w9 ⟨rfl, m, rfl⟩
  have b9 := below_drewN' (bthen b8 hba) m
  have H9 := Lib.hid ((H8.out.below hba).below (below_drewN (Below.refl _ _) m))
  clear hba b8 H8 R8 HLit
  rw [show decide ((lv5.played 1).now = [tA, emptyB]) = true by decide +kernel]
  go_wp2_with fail
  refine (num_any _ _).mono ?_
  rintro e w10 ⟨rfl, rfl⟩
  go_wp2_with fail
  refine (writes_any H9.out).mono ?_
  rintro e w10 ⟨rfl, rfl⟩
  rw [show (lv5.log.length : Int) = 2 from rfl]
  go_wp2_with fail
  go_ret
  exact ⟨rfl, b9⟩

end Go.Proofs.Ythamjlhkiabcnaa
