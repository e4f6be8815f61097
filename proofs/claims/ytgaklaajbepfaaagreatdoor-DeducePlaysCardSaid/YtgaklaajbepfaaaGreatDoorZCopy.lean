/-
  maps.Clone at what is seen. (For a seat that reaches Copy.)
  The program's Copy, Given. (For a seat that reaches them.)
-/
import Derived.Ground.SlmcProg
import Derived.Shelf.Lay
import Derived.Shelf.SlMaps.Clone
import Derived.Test.YtgaklaajbepfaaaGreatDoorChecked
import Derived.Test.YtgaklaajbepfaaaGreatDoorELive
namespace Go.Proofs
open Go.RowKit Go.Maps Go.Shelf

def Tryz.cloneT_ren : Go.Shelf.Ren := ⟨fun | 5 => 55 | 7 => 91 | n => n, fun | 23 => 91 | 25 => 39 | 3 => 97 | 4 => 4 | 20 => 20 | n => n, fun | n => n⟩
theorem Tryz.cloneT : Go.Proofs.SlLaysW.n5 Tryz.prog Tryz.cloneT_ren := {
  mixed := by kernel_rfl
  f5 := ⟨Tryz.f55.name, by decide, Tryz.func55.trans (congrArg some (by kernel_rfl))⟩
  f7 := Tryz.func91.trans (congrArg some (by kernel_rfl))
  t4 := Tryz.underlying4
  a4 := Tryz.isAgg4
  z4 := Tryz.sizeOf4
  v4 := Tryz.zeroValue4
  t20 := Tryz.underlying20
  a20 := Tryz.isAgg20
  z20 := Tryz.sizeOf20
  v20 := Tryz.zeroValue20
  t23 := Tryz.underlying91
  a23 := Tryz.isAgg91
  z23 := Tryz.sizeOf91
  v23 := Tryz.zeroValue91 }
namespace YtgaklaajbepfaaaGreatDoor
theorem mclone {H : Type} (R : Value → Option (DataW H × List MemPlace)) (b n : Nat) (D : DataW H) (w : World) (hown : w.ownsMap Tryz.prog 39 R b n D) : Calls Tryz.prog 55 #[.map (some b)] w fun e w' => e = .returned (.map (some w.heap.size)) ∧ w'.ownsMap Tryz.prog 39 R w.heap.size n D ∧ w'.ownsMap Tryz.prog 39 R b n D ∧ Below w.heap.size w w' :=
  AnyW.maps_Clone_owns Tryz.cloneT _ R b n D w hown
end YtgaklaajbepfaaaGreatDoor
end Go.Proofs
namespace Go.Proofs.YtgaklaajbepfaaaGreatDoor
open Go.RowKit Go.Maps
set_option linter.unusedVariables false

theorem seen_clone {w : World} {mb : Nat} {p : Pl} {g : List Int} {s : Int → Option Way} (h : SeenM w mb p g s) : Calls Tryz.prog 55 #[.map (some mb)] w fun e w' => e = .returned (.map (some w.heap.size)) ∧ SeenM w' w.heap.size p g s ∧ Below w.heap.size w w' := by
  obtain ⟨n, D, L, hown, rest⟩ := h
  refine (mclone wayElem mb n D w hown).mono ?_
  rintro e w' ⟨rfl, h1, _, hb⟩
  exact ⟨rfl, ⟨n, D, L, h1, rest⟩, hb⟩
set_option maxRecDepth 100000 in
set_option maxHeartbeats 6400000 in
theorem kcopy_any {w : World} {B2 k : Nat} {gv : Value} {mb a : Nat} {p : Pl} {g : List Int} {s : Int → Option Way} (h : IsKnow w B2 k gv mb a p g s) (hgl : g.length ≤ 65536) : Calls Tryz.prog 10 #[.pointer (some ⟨k, 0, none⟩)] w fun e w' => ∃ k' gv' mb', e = .returned (.pointer (some ⟨k', 0, none⟩)) ∧ IsKnow w' w.heap.size k' gv' mb' a p g s ∧ Below w.heap.size w w' := by
  have c0 : w.cell? ⟨k, 0, none⟩ = some (.pointer (some ⟨a, 0, none⟩)) := cellB h.lay rfl
  have c1 : w.cell? ⟨k, 1, none⟩ = some gv := cellB h.lay rfl
  have c2 : w.cell? ⟨k, 2, none⟩ = some (.map (some mb)) := cellB h.lay rfl
  obtain ⟨ga, gc, rfl⟩ := (row_of_own h.row).shape
  have HC1 := Lib.hid (fun (W : World) (hW : Below w.heap.size w W) => cloneT_any ((row_of_own h.row).below hW) (by omega))
  have HC2 := Lib.hid (fun (W : World) (hW : Below w.heap.size w W) => seen_clone (h.seen.below hW))
  have HOK := Lib.hid h.ok
  have hkp : ∀ W, Below w.heap.size w W → (W.cell? ⟨k, 0, none⟩ = some (.pointer (some ⟨a, 0, none⟩)) ∧ W.cell? ⟨k, 1, none⟩ = some (.slice ga g.length gc) ∧ W.cell? ⟨k, 2, none⟩ = some (.map (some mb)) ∧ Below w.heap.size w W) := fun W hW => ⟨bcellAt hW c0, bcellAt hW c1, bcellAt hW c2, hW⟩
  have HKP := Lib.hid hkp
  clear h hkp
  go_enter Tryz.func10, Tryz.ntmps10
  go_upto_region 3 with fail
  go_region_held3 (fun w' => w'.cell? ⟨k, 0, none⟩ = some (.pointer (some ⟨a, 0, none⟩)) ∧ w'.cell? ⟨k, 1, none⟩ = some (.slice ga g.length gc) ∧ w'.cell? ⟨k, 2, none⟩ = some (.map (some mb)) ∧ Below w.heap.size w w') ((refine HKP.out _ ?_; first | exact bdd _ _ | exact bd _ | exact bdn _ _ | exact bmore (bmore (bmore (by first | exact bdn _ _ | exact bd _ | exact Below.refl _ _) u1) u2) (bA0 _ _) | exact bmore (bmore (by first | exact bdn _ _ | exact bd _ | exact Below.refl _ _) u1) u2 | exact bmore (by first | exact bdn _ _ | exact bd _ | exact Below.refl _ _) u1))
    ((first
      | ((with_reducible refine (HC1.out _ (by first | assumption | exact bdn _ _ | exact bd _ | exact Below.refl _ _)).mono ?_); rintro e w1 ⟨v1, rfl, hrow1, u1⟩; obtain ⟨sa1, sc1, rfl⟩ := (row_of_own hrow1).shape)
      | ((with_reducible refine (HC2.out _ (by first | assumption | exact bdn _ _ | exact bd _ | exact bmore (by first | exact bdn _ _ | exact bd _ | exact Below.refl _ _) u1)).mono ?_); rintro e w2 ⟨rfl, hseen2, u2⟩)))
  have hb1 : Below w.heap.size w w1 := bmore (bd w) u1
  have hA := bA0 w2 (.cells #[.pointer (some ⟨a, 0, none⟩), .slice sa1 g.length sc1, .map (some w1.heap.size)] KnowT)
  have HB := Lib.hid (bmore (bmore hb1 u2) hA)
  have hk : IsKnow (w2.alloc (.cells #[.pointer (some ⟨a, 0, none⟩), .slice sa1 g.length sc1, .map (some w1.heap.size)] KnowT)) w.heap.size w2.heap.size (.slice sa1 g.length sc1) w1.heap.size a p g s :=
    ⟨heap_alloc_new _ _, Nat.le_trans hb1.size u2.size, hb1.size, own_hold (own_hold hrow1 (Hold.below u2)) (Hold.below hA), hseen2.below hA, HOK.out⟩
  have HK := Lib.hid hk
  clear hb1 hA hk hrow1 hseen2 u1 u2 c0 c1 c2
  go_wp2_with fail
  go_returns
  exact ⟨_, _, _, rfl, HK.out, HB.out⟩
set_option maxRecDepth 100000 in
set_option maxHeartbeats 6400000 in
theorem kgiven_any {w : World} {B2 k : Nat} {gv : Value} {mb a : Nat} {p : Pl} {g : List Int} {s : Int → Option Way} (h : IsKnow w B2 k gv mb a p g s) (hgl : g.length ≤ 65536) : Calls Tryz.prog 50 #[.pointer (some ⟨k, 0, none⟩)] w fun e w' => ∃ v, e = .returned v ∧ w'.ownsRow w.heap.size TermT 1 v g.length (ints g) ∧ Below w.heap.size w w' := by
  have c1 : w.cell? ⟨k, 1, none⟩ = some gv := cellB h.lay rfl
  have HC := Lib.hid (cloneT_any (row_of_own h.row) (by omega))
  clear h
  go_enter Tryz.func50, Tryz.ntmps50
  go_wp2_with fail
  refine HC.out.mono ?_
  rintro e w1 ⟨v, rfl, hrow, hb⟩
  have HR := Lib.hid hrow
  have HB := Lib.hid hb
  clear hrow hb HC c1
  go_wp2_with fail
  go_returns
  exact ⟨v, rfl, HR.out, HB.out⟩
end Go.Proofs.YtgaklaajbepfaaaGreatDoor
