/-
  What is seen, out of memory: its keys, rising, are the plain list.
  The program's Seen. (For a seat that reaches them.)
-/
import Derived.Lib.SlKeysI
import Derived.Test.YtgaklaajbepfaaaGreatDoorEMem
import Derived.Test.YtgaklaajbepfaaaGreatDoorEDocP
import Derived.Test.YtgaklaajbepfaaaGreatDoorZSorted
import Derived.Test.YtgaklaajbepfaaaGreatDoorERules
namespace Go.Proofs.YtgaklaajbepfaaaGreatDoor
open Go.RowKit Go.Maps Go.Sort
set_option linter.unusedVariables false

theorem has_wf {w : World} {b n : Nat} {D : DataW Unit} {R : Value → Option (DataW Unit × List MemPlace)} (hown : w.ownsMap Tryz.prog TermT R b n D) (hk : Tryz.prog.underlying TermT = some (.int .i64)) {x : Int} (h : Maps.has D (.int .i64 x) = true) : i64R x := by
  have hwf := intKeys_wf hown hk
  obtain ⟨es, rfl, hko⟩ := hown.keysOf
  rw [has_eq, List.any_eq_true] at h
  obtain ⟨p, hp, hs⟩ := h
  obtain ⟨v, hv⟩ := hko p hp
  obtain ⟨y, _, hy, _⟩ := Maps.keyOf_i64 hk hv
  rw [hy] at hs
  have e : y = x := by simpa [Lit.sameKey] using hs
  have hx : x ∈ intKeys (DataW.map es) := List.mem_map.2 ⟨p, hp, by rw [hy, e]; rfl⟩
  have := bounds_i64 (hwf x hx)
  unfold i64R; omega
theorem SeenM.rise {w : World} {mb : Nat} {p : Pl} {g : List Int} {s : Int → Option Way} (h : SeenM w mb p g s) (hp : p.length ≤ 65536) (K : Keyed Tryz.prog TermT) (hk : Tryz.prog.underlying TermT = some (.int .i64)) :
    ∃ (n : Nat) (D : DataW Unit), w.ownsMap Tryz.prog TermT wayElem mb n D ∧ n ≤ g.length + p.length ∧ ∀ ss : List Int, ss.Perm (intKeys D) → ss.mergeSort (fun x y => decide (x ≤ y)) = seenL p s := by
  obtain ⟨n, D, L, hown, hat, hnd, hmem, hin, hle⟩ := h
  have hsin : ∀ t, (s t).isSome = true → inP p t = true := fun t ht => hin t ((hmem t).2 ht)
  refine ⟨n, D, hown, Nat.le_trans hle (Nat.add_le_add_left (nodup_in hnd hin) _), fun ss hss => ?_⟩
  have hcol : CollectedI D (fun _ => false) (seenL p s) := by
    refine ⟨(seenL_rise p s).imp fun h => Int.ne_of_lt h, fun x => ?_⟩
    rw [mem_seenL hsin]
    constructor
    · intro hx
      have hi := hsin x hx
      obtain ⟨z, rfl, _, hz⟩ := in_nat hi
      exact ⟨by rw [(hat _ (by unfold i64R; omega)).2]; exact hx, rfl⟩
    · rintro ⟨hx, _⟩
      rw [← (hat x (has_wf hown hk hx)).2]; exact hx
  have hperm := hcol.perm hown K hk (fun _ => rfl)
  have e := mergeSort_of_perm_i (hss.trans hperm.symm)
  rw [show (fun x y : Int => decide (x ≤ y)) = leI from rfl, e]
  exact List.mergeSort_of_pairwise ((seenL_rise p s).imp fun h => by simp only [leI, decide_eq_true_eq]; exact Int.le_of_lt h)
end Go.Proofs.YtgaklaajbepfaaaGreatDoor
namespace Go.Proofs.YtgaklaajbepfaaaGreatDoor
open Go.RowKit Go.Maps Go.Sort
set_option linter.unusedVariables false

set_option maxRecDepth 100000 in
set_option maxHeartbeats 6400000 in
theorem kseen_any {w : World} {B2 k : Nat} {gv : Value} {mb a : Nat} {p : Pl} {g : List Int} {s : Int → Option Way} (h : IsKnow w B2 k gv mb a p g s) (hp : p.length ≤ 65536) : Calls Tryz.prog 59 #[.pointer (some ⟨k, 0, none⟩)] w fun e w' => ∃ v, e = .returned v ∧ w'.ownsRow w.heap.size TermT 1 v (seenL p s).length (ints (seenL p s)) ∧ Below w.heap.size w w' := by
  have c2 : w.cell? ⟨k, 2, none⟩ = some (.map (some mb)) := cellB h.lay rfl
  have hgl := h.glen
  obtain ⟨n, D, hown, hn, hrise⟩ := h.seen.rise hp lawT Tryz.underlying39
  have hsz := hown.size_le
  have SC := Lib.hid (sorted_call mb n D wayElem w hown (by unfold maxLen; omega) (by omega))
  have HRI := Lib.hid hrise
  clear h hown hn hsz hgl hrise
  go_enter Tryz.func59, Tryz.ntmps59
  go_wp2_with fail
  refine (keys_call (some mb) w).mono ?_
  rintro e w1 ⟨rfl, rfl⟩
  go_wp2_with fail
  refine SC.out.mono ?_
  rintro e w2 ⟨v, ss, rfl, hS, hrow, _, hb⟩
  have hms := HRI.out ss hS
  have HF : Hid (w2.ownsRow w.heap.size TermT 1 v (seenL p s).length (ints (seenL p s))) := Lib.hid (by
    rw [hms] at hrow
    have hl : ss.length = (seenL p s).length := by rw [← hms, List.length_mergeSort]
    rw [hl] at hrow
    exact hrow)
  have HB := Lib.hid (((Below.refl _ w).alloc (Nat.le_refl _) _).trans hb)
  clear hrow hb hS hms
  go_wp2_with fail
  go_returns
  exact ⟨v, rfl, HF.out, HB.out⟩
end Go.Proofs.YtgaklaajbepfaaaGreatDoor
