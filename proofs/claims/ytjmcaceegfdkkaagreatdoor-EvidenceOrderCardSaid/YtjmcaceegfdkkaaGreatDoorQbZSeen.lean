/-
  What the law's live goes through: plain.
  New, Given; the law's live.
  slices.Sorted(maps.Keys(m)) at what is seen: the keys, rising. (For a seat that reaches Seen.)
  The document's seen, Derived, as flags: plain.
  What Seen tells, as a plain list; two rising lists of the same terms are one.
  What is seen, out of memory: its keys, rising, are the plain list.
  The program's Seen. (For a seat that reaches them.)
-/
import Derived.Lib.SliceRun
import Derived.Shelf.SlIterI.Nil
import Derived.Shelf.SortM.Plain
import Derived.Shelf.SortM.SortNone
import Derived.Ground.GgzProg
import Derived.Ground.SlgmProg
import Derived.Test.YtjmcaceegfdkkaaGreatDoorChecked
import Derived.Lib.SlKeysI
import Derived.Test.YtjmcaceegfdkkaaGreatDoorQbEAdd
import Derived.Test.YtjmcaceegfdkkaaGreatDoorQbTCmp
import Derived.Test.YtjmcaceegfdkkaaGreatDoorQbFOf
import Derived.Test.YtjmcaceegfdkkaaGreatDoorQbEDer
namespace Go.Proofs.YtjmcaceegfdkkaaGreatDoor
open Go.RowKit
set_option linter.unusedVariables false
end Go.Proofs.YtjmcaceegfdkkaaGreatDoor
namespace Go.Proofs.YtjmcaceegfdkkaaGreatDoor
open Go.RowKit Go.Maps
set_option linter.unusedVariables false
theorem knew (w : World) (a B : Nat) (p : Pl) (hB : B ≤ w.heap.size) : Calls Tryz.prog 72 #[.pointer (some ⟨a, 0, none⟩)] w fun e w' => e = .returned (.pointer (some ⟨w.heap.size + 1, 0, none⟩)) ∧ IsKnow w' B (w.heap.size + 1) (.slice none 0 0) w.heap.size a p [] (fun _ => none) ∧ Below w.heap.size w w' := by
  have hmm := @run_makeMap Tryz.prog
  have b1 := bA0 w (.map #[] 0)
  have b2 := bA0 (w.alloc (.map #[] 0)) (.cells #[.pointer (some ⟨a, 0, none⟩), .slice none 0 0, .map (some w.heap.size)] KnowT)
  have hl : ((w.alloc (.map #[] 0)).alloc (.cells #[.pointer (some ⟨a, 0, none⟩), .slice none 0 0, .map (some w.heap.size)] KnowT)).heap[w.heap.size + 1]? = some (Obj.cells #[.pointer (some ⟨a, 0, none⟩), .slice none 0 0, .map (some w.heap.size)] KnowT) := by
    have := heap_alloc_new (w.alloc (.map #[] 0)) (.cells #[.pointer (some ⟨a, 0, none⟩), .slice none 0 0, .map (some w.heap.size)] KnowT)
    rwa [World.size_alloc] at this
  have hk : IsKnow ((w.alloc (.map #[] 0)).alloc (.cells #[.pointer (some ⟨a, 0, none⟩), .slice none 0 0, .map (some w.heap.size)] KnowT)) B (w.heap.size + 1) (.slice none 0 0) w.heap.size a p [] (fun _ => none) :=
    ⟨hl, Nat.le_succ_of_le hB, hB, World.ownsRow_nil _ _ _ 1, (SeenM.new w p).below b2, SeenOk.nil p⟩
  have HK := Lib.hid hk
  have HB := Lib.hid (bmore b1 b2)
  clear hk hl b1 b2
  go_enter Tryz.func72, Tryz.ntmps72
  go_wp2_with fail
  go_returns
  exact ⟨rfl, HK.out, HB.out⟩
section
variable {w : World} {B a b : Nat} {v : Value} {p : Pl} {B2 k : Nat} {gv : Value} {mb : Nat} {g : List Int} {s : Int → Option Way}
end
end Go.Proofs.YtjmcaceegfdkkaaGreatDoor
namespace Go.Proofs
open Go.RowKit Go.Maps Go.Sort Go.Shelf
def Tryz.keysT_ren : Go.Shelf.Ren := ⟨fun | 7 => 126 | 10 => 166 | n => n, fun | 23 => 203 | 26 => 23 | 3 => 207 | 28 => 212 | 0 => 0 | 27 => 211 | 33 => 119 | 4 => 4 | n => n, fun | n => n⟩
theorem Tryz.keysT : Go.Proofs.SlLaysZI.n7 Tryz.prog Tryz.keysT_ren := {
  mixed := by kernel_rfl
  f7 := ⟨Tryz.f126.name, by decide, Tryz.func126.trans (congrArg some (by kernel_rfl))⟩
  f10 := ⟨Tryz.f166.name, by decide, Tryz.func166.trans (congrArg some (by kernel_rfl))⟩
  t0 := Tryz.underlying0
  a0 := Tryz.isAgg0
  z0 := Tryz.sizeOf0
  v0 := Tryz.zeroValue0
  t4 := Tryz.underlying4
  a4 := Tryz.isAgg4
  z4 := Tryz.sizeOf4
  v4 := Tryz.zeroValue4
  t23 := Tryz.underlying203
  a23 := Tryz.isAgg203
  z23 := Tryz.sizeOf203
  v23 := Tryz.zeroValue203
  t26 := Tryz.underlying23
  a26 := Tryz.isAgg23
  z26 := Tryz.sizeOf23
  v26 := Tryz.zeroValue23
  t27 := Tryz.underlying211
  a27 := Tryz.isAgg211
  z27 := Tryz.sizeOf211
  v27 := Tryz.zeroValue211
  t28 := Tryz.underlying212
  a28 := Tryz.isAgg212
  z28 := Tryz.sizeOf212
  v28 := Tryz.zeroValue212
  t33 := Tryz.underlying119
  a33 := Tryz.isAgg119
  z33 := Tryz.sizeOf119
  v33 := Tryz.zeroValue119 }
def Tryz.sortedT_ren : Go.Shelf.Ren := ⟨fun | 6 => 125 | 8 => 164 | 9 => 165 | 11 => 197 | 13 => 128 | 12 => 198 | 23 => 175 | 24 => 176 | 14 => 214 | 15 => 215 | 16 => 216 | 17 => 217 | 18 => 218 | 19 => 219 | 20 => 220 | 21 => 221 | 22 => 222 | 25 => 226 | 26 => 200 | 27 => 201 | 28 => 227 | 29 => 228 | 30 => 229 | 31 => 230 | n => n, fun | 26 => 23 | 28 => 212 | 24 => 49 | 0 => 0 | 3 => 3 | 37 => 216 | 48 => 255 | 50 => 24 | 4 => 4 | 40 => 248 | 39 => 247 | 45 => 252 | 5 => 5 | 9 => 9 | 51 => 271 | 55 => 241 | 57 => 286 | 58 => 192 | 33 => 119 | n => n, fun | n => n⟩
theorem Tryz.sortedT : Go.Proofs.SlLaysZI.n6 Tryz.prog Tryz.sortedT_ren := {
  mixed := by kernel_rfl
  f6 := ⟨Tryz.f125.name, by decide, Tryz.func125.trans (congrArg some (by kernel_rfl))⟩
  f8 := ⟨Tryz.f164.name, by decide, Tryz.func164.trans (congrArg some (by kernel_rfl))⟩
  f11 := ⟨Tryz.f197.name, by decide, Tryz.func197.trans (congrArg some (by kernel_rfl))⟩
  t0 := Tryz.underlying0
  a0 := Tryz.isAgg0
  z0 := Tryz.sizeOf0
  v0 := Tryz.zeroValue0
  t24 := Tryz.underlying49
  a24 := Tryz.isAgg49
  z24 := Tryz.sizeOf49
  v24 := Tryz.zeroValue49
  t26 := Tryz.underlying23
  a26 := Tryz.isAgg23
  z26 := Tryz.sizeOf23
  v26 := Tryz.zeroValue23
  t28 := Tryz.underlying212
  a28 := Tryz.isAgg212
  z28 := Tryz.sizeOf212
  v28 := Tryz.zeroValue212
  i26 := by kernel_rfl }
def Tryz.sortT_ren : Go.Shelf.Ren := ⟨fun | 5 => 165 | 8 => 128 | 7 => 198 | 19 => 175 | 20 => 176 | 10 => 214 | 11 => 215 | 12 => 216 | 13 => 217 | 14 => 218 | 15 => 219 | 16 => 220 | 17 => 221 | 18 => 222 | 30 => 226 | 31 => 200 | 32 => 201 | 33 => 227 | 34 => 228 | 35 => 229 | 40 => 230 | n => n, fun | 23 => 49 | 25 => 23 | 3 => 3 | 32 => 216 | 22 => 49 | 0 => 0 | 44 => 255 | 46 => 24 | 4 => 4 | 36 => 248 | 35 => 247 | 41 => 252 | 5 => 5 | 9 => 9 | 53 => 271 | 57 => 241 | 63 => 286 | 64 => 192 | n => n, fun | n => n⟩
theorem Tryz.sortT : Go.Proofs.SlLaysM.n5 Tryz.prog Tryz.sortT_ren := {
  mixed := by kernel_rfl
  f5 := ⟨Tryz.f165.name, by decide, Tryz.func165.trans (congrArg some (by kernel_rfl))⟩
  f7 := ⟨Tryz.f198.name, by decide, Tryz.func198.trans (congrArg some (by kernel_rfl))⟩
  f8 := Tryz.func128.trans (congrArg some (by kernel_rfl))
  f10 := ⟨Tryz.f214.name, by decide, Tryz.func214.trans (congrArg some (by kernel_rfl))⟩
  f11 := ⟨Tryz.f215.name, by decide, Tryz.func215.trans (congrArg some (by kernel_rfl))⟩
  f12 := ⟨Tryz.f216.name, by decide, Tryz.func216.trans (congrArg some (by kernel_rfl))⟩
  f13 := ⟨Tryz.f217.name, by decide, Tryz.func217.trans (congrArg some (by kernel_rfl))⟩
  f14 := ⟨Tryz.f218.name, by decide, Tryz.func218.trans (congrArg some (by kernel_rfl))⟩
  f15 := ⟨Tryz.f219.name, by decide, Tryz.func219.trans (congrArg some (by kernel_rfl))⟩
  f16 := ⟨Tryz.f220.name, by decide, Tryz.func220.trans (congrArg some (by kernel_rfl))⟩
  f17 := ⟨Tryz.f221.name, by decide, Tryz.func221.trans (congrArg some (by kernel_rfl))⟩
  f18 := ⟨Tryz.f222.name, by decide, Tryz.func222.trans (congrArg some (by kernel_rfl))⟩
  f19 := Tryz.func175.trans (congrArg some (by kernel_rfl))
  f20 := Tryz.func176.trans (congrArg some (by kernel_rfl))
  f30 := ⟨Tryz.f226.name, by decide, Tryz.func226.trans (congrArg some (by kernel_rfl))⟩
  f31 := Tryz.func200.trans (congrArg some (by kernel_rfl))
  f32 := Tryz.func201.trans (congrArg some (by kernel_rfl))
  f33 := ⟨Tryz.f227.name, by decide, Tryz.func227.trans (congrArg some (by kernel_rfl))⟩
  f34 := ⟨Tryz.f228.name, by decide, Tryz.func228.trans (congrArg some (by kernel_rfl))⟩
  f35 := ⟨Tryz.f229.name, by decide, Tryz.func229.trans (congrArg some (by kernel_rfl))⟩
  f40 := ⟨Tryz.f230.name, by decide, Tryz.func230.trans (congrArg some (by kernel_rfl))⟩
  t0 := Tryz.underlying0
  a0 := Tryz.isAgg0
  z0 := Tryz.sizeOf0
  v0 := Tryz.zeroValue0
  t3 := Tryz.underlying3
  a3 := Tryz.isAgg3
  z3 := Tryz.sizeOf3
  v3 := Tryz.zeroValue3
  t4 := Tryz.underlying4
  a4 := Tryz.isAgg4
  z4 := Tryz.sizeOf4
  v4 := Tryz.zeroValue4
  t5 := Tryz.underlying5
  a5 := Tryz.isAgg5
  z5 := Tryz.sizeOf5
  v5 := Tryz.zeroValue5
  t9 := Tryz.underlying9
  a9 := Tryz.isAgg9
  z9 := Tryz.sizeOf9
  v9 := Tryz.zeroValue9
  t22 := Tryz.underlying49
  a22 := Tryz.isAgg49
  z22 := Tryz.sizeOf49
  v22 := Tryz.zeroValue49
  t23 := Tryz.underlying49
  a23 := Tryz.isAgg49
  z23 := Tryz.sizeOf49
  v23 := Tryz.zeroValue49
  t25 := Tryz.underlying23
  a25 := Tryz.isAgg23
  z25 := Tryz.sizeOf23
  v25 := Tryz.zeroValue23
  t32 := Tryz.underlying216
  a32 := Tryz.isAgg216
  z32 := Tryz.sizeOf216
  v32 := Tryz.zeroValue216
  t35 := Tryz.underlying247
  a35 := Tryz.isAgg247
  z35 := Tryz.sizeOf247
  v35 := Tryz.zeroValue247
  t36 := Tryz.underlying248
  a36 := Tryz.isAgg248
  z36 := Tryz.sizeOf248
  v36 := Tryz.zeroValue248
  t41 := Tryz.underlying252
  a41 := Tryz.isAgg252
  z41 := Tryz.sizeOf252
  v41 := Tryz.zeroValue252
  t44 := Tryz.underlying255
  a44 := Tryz.isAgg255
  z44 := Tryz.sizeOf255
  v44 := Tryz.zeroValue255
  t46 := Tryz.underlying24
  a46 := Tryz.isAgg24
  z46 := Tryz.sizeOf24
  v46 := Tryz.zeroValue24
  t53 := Tryz.underlying271
  a53 := Tryz.isAgg271
  z53 := Tryz.sizeOf271
  v53 := Tryz.zeroValue271
  t57 := Tryz.underlying241
  a57 := Tryz.isAgg241
  z57 := Tryz.sizeOf241
  v57 := Tryz.zeroValue241
  t63 := Tryz.underlying286
  a63 := Tryz.isAgg286
  z63 := Tryz.sizeOf286
  v63 := Tryz.zeroValue286
  t64 := Tryz.underlying192
  a64 := Tryz.isAgg192
  z64 := Tryz.sizeOf192
  v64 := Tryz.zeroValue192 }
/-- slices.Sort's two contracts, at the fence that asks nothing. -/
theorem Tryz.sortsT (m : Nat) : AnyZI.SortsIn Tryz.prog Tryz.sortedT_ren Fence.wide m :=
  ⟨fun blk off cap ss W hH hblk hsz => callsIn_wide.2 (AnyM.slices_Sort_int Tryz.sortT blk off cap ss W hH hblk hsz),
   fun p cap W => callsIn_wide.2 (AnyM.slices_Sort_int_none Tryz.sortT p cap W)⟩
namespace YtjmcaceegfdkkaaGreatDoor
theorem keys_call (mb : Option Nat) (W : World) : Calls Tryz.prog 126 #[.map mb] W fun e w' => e = .returned (.func (.func 166) #[] #[.pointer (some ⟨W.heap.size, 0, none⟩)]) ∧ w' = W.alloc (.cells #[.map mb] 203) :=
  (callsIn_wide (n := 5)).1 (AnyZI.keys_in Tryz.keysT Fence.wide 5 trivial rfl mb W)
set_option maxRecDepth 100000 in
set_option maxHeartbeats 1000000 in
theorem sorted_call {H : Type} (b nn : Nat) (D0 : DataW H) (R : Value → Option (DataW H × List MemPlace)) (w : World) (hown : w.ownsMap Tryz.prog 23 R b nn D0) (hmax : Maps.size D0 ≤ maxLen) (hbytes : Maps.size D0 * 8 ≤ 140737488355328) :
    Calls Tryz.prog 125 #[.func (.func 166) #[] #[.pointer (some ⟨w.heap.size, 0, none⟩)]] (w.alloc (.cells #[.map (some b)] 203)) fun e w' => ∃ (v : Value) (ss : List Int), e = .returned v ∧ ss.Perm (intKeys D0) ∧
      w'.ownsRow w.heap.size 23 1 v ss.length ((ss.mergeSort (fun x y => decide (x ≤ y))).map encZ) ∧ (v = .slice none 0 0 ↔ ss = []) ∧ Below w.heap.size (w.alloc (.cells #[.map (some b)] 203)) w' := by
  refine (callsIn_wide (n := 5)).1 ?_
  have hbl := hown.lt
  have hseq : SeqGives Fence.wide 2 Tryz.prog 166 #[.pointer (some ⟨w.heap.size, 0, none⟩)] encZ (fun ss => ss.Perm (intKeys D0)) (Maps.size D0) (w.alloc (.cells #[.map (some b)] 203)) :=
    AnyZI.keys_gives (ρ := Tryz.keysT_ren) { Tryz.keysT with } Fence.wide _ trivial rfl (by omega) w.heap.size b nn D0 _ (by simp) (by simp) (by
      obtain ⟨es, clock, hb, Ft, hs, hD⟩ := hown
      exact ⟨es, clock, (Below.heap_alloc _ _ b hbl).trans hb, Ft, hs, hD⟩)
  have cS := AnyZI.sorted_in Tryz.sortedT Fence.wide 5 trivial trivial trivial trivial rfl (by omega) (Tryz.sortsT _) (enters_of Tryz.func165 (by kernel_rfl) rfl) 166 #[.pointer (some ⟨w.heap.size, 0, none⟩)] trivial (enters_of Tryz.func166 (by kernel_rfl) rfl) _ _ hmax hbytes _ hseq
  change CallsIn _ _ Tryz.prog 125 _ _ _ at cS
  refine cS.mono ?_
  rintro e w' ⟨v, ss, rfl, hS, hrow, hnil, hb⟩
  exact ⟨v, ss, rfl, hS, ownsRow_base_a hrow (by simp), hnil, hb.mono (by simp)⟩
end YtjmcaceegfdkkaaGreatDoor
end Go.Proofs
namespace Go.Proofs.YtjmcaceegfdkkaaGreatDoor
set_option linter.unusedVariables false
theorem in_nat {p : Pl} {x : Int} (h : inP p x = true) : ∃ z : Nat, x = (z : Int) ∧ 1 ≤ z ∧ z ≤ p.length := by
  simp only [inP, Bool.and_eq_true, decide_eq_true_eq] at h
  obtain ⟨z, rfl⟩ := Int.eq_ofNat_of_zero_le (show 0 ≤ x by omega)
  exact ⟨z, rfl, by omega, by omega⟩
end Go.Proofs.YtjmcaceegfdkkaaGreatDoor
namespace Go.Proofs.YtjmcaceegfdkkaaGreatDoor
set_option linter.unusedVariables false
/-- The terms of the pool that are seen, rising. -/
def seenL (p : Pl) (s : Int → Option Way) : List Int := ((List.range p.length).map fun i : Nat => (i : Int) + 1).filter fun t => (s t).isSome
theorem rise_map (n : Nat) : ((List.range n).map fun i : Nat => (i : Int) + 1).Pairwise (· < ·) := by
  rw [List.pairwise_map]
  refine List.pairwise_lt_range.imp fun h => ?_
  omega
theorem seenL_rise (p : Pl) (s : Int → Option Way) : (seenL p s).Pairwise (· < ·) := (rise_map p.length).filter _
theorem mem_seenL {p : Pl} {s : Int → Option Way} (h : ∀ t, (s t).isSome = true → inP p t = true) {t : Int} : t ∈ seenL p s ↔ (s t).isSome = true := by
  unfold seenL
  rw [List.mem_filter]
  refine ⟨fun h => h.2, fun hs => ⟨?_, hs⟩⟩
  obtain ⟨z, rfl, h1, h2⟩ := in_nat (h t hs)
  rw [List.mem_map]
  exact ⟨z - 1, List.mem_range.2 (by omega), by omega⟩
end Go.Proofs.YtjmcaceegfdkkaaGreatDoor
namespace Go.Proofs.YtjmcaceegfdkkaaGreatDoor
open Go.RowKit Go.Maps Go.Sort
set_option linter.unusedVariables false
theorem has_wf {w : World} {b n : Nat} {D : DataW Unit} {R : Value → Option (DataW Unit × List MemPlace)} (hown : w.ownsMap Tryz.prog TermT R b n D) (hk : Tryz.prog.underlying TermT = some (.int .i64)) {x : Int} (h : Maps.has D (.int .i64 x) = true) : i64R x := by
  have hwf := intKeys_wf hown hk
  obtain ⟨es, rfl, hko⟩ := hown.keysOf
  rw [has_eq, List.any_eq_true] at h
  obtain ⟨p, hp, hs⟩ := h
  obtain ⟨v, hv⟩ := hko p hp
  obtain ⟨y, _, hy, _⟩ := Maps.keyOf_i64 hk hv
  rw [hy] at hs
  have e : y = x := by simpa [Lit.sameKey] using hs
  have hx : x ∈ intKeys (DataW.map es) := List.mem_map.2 ⟨p, hp, by rw [hy, e]; rfl⟩
  have := bounds_i64 (hwf x hx)
  unfold i64R; omega
theorem SeenM.rise {w : World} {mb : Nat} {p : Pl} {g : List Int} {s : Int → Option Way} (h : SeenM w mb p g s) (hp : p.length ≤ 65536) (K : Keyed Tryz.prog TermT) (hk : Tryz.prog.underlying TermT = some (.int .i64)) :
    ∃ (n : Nat) (D : DataW Unit), w.ownsMap Tryz.prog TermT wayElem mb n D ∧ n ≤ g.length + p.length ∧ ∀ ss : List Int, ss.Perm (intKeys D) → ss.mergeSort (fun x y => decide (x ≤ y)) = seenL p s := by
  obtain ⟨n, D, L, hown, hat, hnd, hmem, hin, hle⟩ := h
  have hsin : ∀ t, (s t).isSome = true → inP p t = true := fun t ht => hin t ((hmem t).2 ht)
  refine ⟨n, D, hown, Nat.le_trans hle (Nat.add_le_add_left (nodup_in hnd hin) _), fun ss hss => ?_⟩
  have hcol : CollectedI D (fun _ => false) (seenL p s) := by
    refine ⟨(seenL_rise p s).imp fun h => Int.ne_of_lt h, fun x => ?_⟩
    rw [mem_seenL hsin]
    constructor
    · intro hx
      have hi := hsin x hx
      obtain ⟨z, rfl, _, hz⟩ := in_nat hi
      exact ⟨by rw [(hat _ (by unfold i64R; omega)).2]; exact hx, rfl⟩
    · rintro ⟨hx, _⟩
      rw [← (hat x (has_wf hown hk hx)).2]; exact hx
  have hperm := hcol.perm hown K hk (fun _ => rfl)
  have e := mergeSort_of_perm_i (hss.trans hperm.symm)
  rw [show (fun x y : Int => decide (x ≤ y)) = leI from rfl, e]
  exact List.mergeSort_of_pairwise ((seenL_rise p s).imp fun h => by simp only [leI, decide_eq_true_eq]; exact Int.le_of_lt h)
end Go.Proofs.YtjmcaceegfdkkaaGreatDoor
namespace Go.Proofs.YtjmcaceegfdkkaaGreatDoor
open Go.RowKit Go.Maps Go.Sort
set_option linter.unusedVariables false
set_option maxRecDepth 100000 in
set_option maxHeartbeats 6400000 in
theorem kseen_any {w : World} {B2 k : Nat} {gv : Value} {mb a : Nat} {p : Pl} {g : List Int} {s : Int → Option Way} (h : IsKnow w B2 k gv mb a p g s) (hp : p.length ≤ 65536) : Calls Tryz.prog 74 #[.pointer (some ⟨k, 0, none⟩)] w fun e w' => ∃ v, e = .returned v ∧ w'.ownsRow w.heap.size TermT 1 v (seenL p s).length (ints (seenL p s)) ∧ Below w.heap.size w w' := by
  have c2 : w.cell? ⟨k, 2, none⟩ = some (.map (some mb)) := cellB h.lay rfl
  have hgl := h.glen
  obtain ⟨n, D, hown, hn, hrise⟩ := h.seen.rise hp lawT Tryz.underlying23
  have hsz := hown.size_le
  have SC := Lib.hid (sorted_call mb n D wayElem w hown (by unfold maxLen; omega) (by omega))
  have HRI := Lib.hid hrise
  clear h hown hn hsz hgl hrise
  go_enter Tryz.func74, Tryz.ntmps74
  go_wp2_with fail
  refine (keys_call (some mb) w).mono ?_
  rintro e w1 ⟨rfl, rfl⟩
  go_wp2_with fail
  refine SC.out.mono ?_
  rintro e w2 ⟨v, ss, rfl, hS, hrow, _, hb⟩
  have hms := HRI.out ss hS
  have HF : Hid (w2.ownsRow w.heap.size TermT 1 v (seenL p s).length (ints (seenL p s))) := Lib.hid (by
    rw [hms] at hrow
    have hl : ss.length = (seenL p s).length := by rw [← hms, List.length_mergeSort]
    rw [hl] at hrow
    exact hrow)
  have HB := Lib.hid (((Below.refl _ w).alloc (Nat.le_refl _) _).trans hb)
  clear hrow hb hS hms
  go_wp2_with fail
  go_returns
  exact ⟨v, rfl, HF.out, HB.out⟩
end Go.Proofs.YtjmcaceegfdkkaaGreatDoor
