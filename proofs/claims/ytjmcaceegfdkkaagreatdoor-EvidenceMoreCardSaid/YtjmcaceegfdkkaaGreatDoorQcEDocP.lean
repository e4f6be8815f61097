/-
  What the law's live goes through: plain.
  New, Given; the law's live.
  slices.Sorted(maps.Keys(m)) at what is seen: the keys, rising. (For a seat that reaches Seen.)
  The document's seen, Derived, as flags: plain.
-/
import Derived.Lib.SliceRun
import Derived.Shelf.SlIterI.Nil
import Derived.Shelf.SortM.Plain
import Derived.Shelf.SortM.SortNone
import Derived.Ground.GgzProg
import Derived.Ground.SlgmProg
import Derived.Test.YtjmcaceegfdkkaaGreatDoorChecked
import Derived.Test.YtjmcaceegfdkkaaGreatDoorQcEAdd
import Derived.Test.YtjmcaceegfdkkaaGreatDoorQcTRefP
import Derived.Test.YtjmcaceegfdkkaaGreatDoorQcTLent
import Derived.Test.YtjmcaceegfdkkaaGreatDoorQcEDer
namespace Go.Proofs.YtjmcaceegfdkkaaGreatDoor
open Go.RowKit
set_option linter.unusedVariables false
end Go.Proofs.YtjmcaceegfdkkaaGreatDoor
namespace Go.Proofs.YtjmcaceegfdkkaaGreatDoor
open Go.RowKit Go.Maps
set_option linter.unusedVariables false
theorem knew (w : World) (a B : Nat) (p : Pl) (hB : B ≤ w.heap.size) : Calls Tryz.prog 72 #[.pointer (some ⟨a, 0, none⟩)] w fun e w' => e = .returned (.pointer (some ⟨w.heap.size + 1, 0, none⟩)) ∧ IsKnow w' B (w.heap.size + 1) (.slice none 0 0) w.heap.size a p [] (fun _ => none) ∧ Below w.heap.size w w' := by
 have hmm := @run_makeMap Tryz.prog
 have b1 := bA0 w (.map #[] 0)
 have b2 := bA0 (w.alloc (.map #[] 0)) (.cells #[.pointer (some ⟨a, 0, none⟩), .slice none 0 0, .map (some w.heap.size)] KnowT)
 have hl : ((w.alloc (.map #[] 0)).alloc (.cells #[.pointer (some ⟨a, 0, none⟩), .slice none 0 0, .map (some w.heap.size)] KnowT)).heap[w.heap.size + 1]? = some (Obj.cells #[.pointer (some ⟨a, 0, none⟩), .slice none 0 0, .map (some w.heap.size)] KnowT) := by
  have := heap_alloc_new (w.alloc (.map #[] 0)) (.cells #[.pointer (some ⟨a, 0, none⟩), .slice none 0 0, .map (some w.heap.size)] KnowT)
  rwa [World.size_alloc] at this
 have hk : IsKnow ((w.alloc (.map #[] 0)).alloc (.cells #[.pointer (some ⟨a, 0, none⟩), .slice none 0 0, .map (some w.heap.size)] KnowT)) B (w.heap.size + 1) (.slice none 0 0) w.heap.size a p [] (fun _ => none) :=
  ⟨hl, Nat.le_succ_of_le hB, hB, World.ownsRow_nil _ _ _ 1, (SeenM.new w p).below b2, SeenOk.nil p⟩
 have HK := Lib.hid hk
 have HB := Lib.hid (bmore b1 b2)
 clear hk hl b1 b2
 go_enter Tryz.func72, Tryz.ntmps72
 go_wp2_with fail
 go_returns
 exact ⟨rfl, HK.out, HB.out⟩
section
variable {w : World} {B a b : Nat} {v : Value} {p : Pl} {B2 k : Nat} {gv : Value} {mb : Nat} {g : List Int} {s : Int → Option Way}
end
end Go.Proofs.YtjmcaceegfdkkaaGreatDoor
namespace Go.Proofs
open Go.RowKit Go.Maps Go.Sort Go.Shelf
def Tryz.keysT_ren : Go.Shelf.Ren := ⟨fun | 7 => 126 | 10 => 166 | n => n, fun | 23 => 203 | 26 => 23 | 3 => 207 | 28 => 212 | 0 => 0 | 27 => 211 | 33 => 119 | 4 => 4 | n => n, fun | n => n⟩
theorem Tryz.keysT : Go.Proofs.SlLaysZI.n7 Tryz.prog Tryz.keysT_ren := {
 mixed := by kernel_rfl
 f7 := ⟨Tryz.f126.name, by decide, Tryz.func126.trans (congrArg some (by kernel_rfl))⟩
 f10 := ⟨Tryz.f166.name, by decide, Tryz.func166.trans (congrArg some (by kernel_rfl))⟩
 t0 := Tryz.underlying0
 a0 := Tryz.isAgg0
 z0 := Tryz.sizeOf0
 v0 := Tryz.zeroValue0
 t4 := Tryz.underlying4
 a4 := Tryz.isAgg4
 z4 := Tryz.sizeOf4
 v4 := Tryz.zeroValue4
 t23 := Tryz.underlying203
 a23 := Tryz.isAgg203
 z23 := Tryz.sizeOf203
 v23 := Tryz.zeroValue203
 t26 := Tryz.underlying23
 a26 := Tryz.isAgg23
 z26 := Tryz.sizeOf23
 v26 := Tryz.zeroValue23
 t27 := Tryz.underlying211
 a27 := Tryz.isAgg211
 z27 := Tryz.sizeOf211
 v27 := Tryz.zeroValue211
 t28 := Tryz.underlying212
 a28 := Tryz.isAgg212
 z28 := Tryz.sizeOf212
 v28 := Tryz.zeroValue212
 t33 := Tryz.underlying119
 a33 := Tryz.isAgg119
 z33 := Tryz.sizeOf119
 v33 := Tryz.zeroValue119 }
def Tryz.sortedT_ren : Go.Shelf.Ren := ⟨fun | 6 => 125 | 8 => 164 | 9 => 165 | 11 => 197 | 13 => 128 | 12 => 198 | 23 => 175 | 24 => 176 | 14 => 214 | 15 => 215 | 16 => 216 | 17 => 217 | 18 => 218 | 19 => 219 | 20 => 220 | 21 => 221 | 22 => 222 | 25 => 226 | 26 => 200 | 27 => 201 | 28 => 227 | 29 => 228 | 30 => 229 | 31 => 230 | n => n, fun | 26 => 23 | 28 => 212 | 24 => 49 | 0 => 0 | 3 => 3 | 37 => 216 | 48 => 255 | 50 => 24 | 4 => 4 | 40 => 248 | 39 => 247 | 45 => 252 | 5 => 5 | 9 => 9 | 51 => 271 | 55 => 241 | 57 => 286 | 58 => 192 | 33 => 119 | n => n, fun | n => n⟩
theorem Tryz.sortedT : Go.Proofs.SlLaysZI.n6 Tryz.prog Tryz.sortedT_ren := {
 mixed := by kernel_rfl
 f6 := ⟨Tryz.f125.name, by decide, Tryz.func125.trans (congrArg some (by kernel_rfl))⟩
 f8 := ⟨Tryz.f164.name, by decide, Tryz.func164.trans (congrArg some (by kernel_rfl))⟩
 f11 := ⟨Tryz.f197.name, by decide, Tryz.func197.trans (congrArg some (by kernel_rfl))⟩
 t0 := Tryz.underlying0
 a0 := Tryz.isAgg0
 z0 := Tryz.sizeOf0
 v0 := Tryz.zeroValue0
 t24 := Tryz.underlying49
 a24 := Tryz.isAgg49
 z24 := Tryz.sizeOf49
 v24 := Tryz.zeroValue49
 t26 := Tryz.underlying23
 a26 := Tryz.isAgg23
 z26 := Tryz.sizeOf23
 v26 := Tryz.zeroValue23
 t28 := Tryz.underlying212
 a28 := Tryz.isAgg212
 z28 := Tryz.sizeOf212
 v28 := Tryz.zeroValue212
 i26 := by kernel_rfl }
def Tryz.sortT_ren : Go.Shelf.Ren := ⟨fun | 5 => 165 | 8 => 128 | 7 => 198 | 19 => 175 | 20 => 176 | 10 => 214 | 11 => 215 | 12 => 216 | 13 => 217 | 14 => 218 | 15 => 219 | 16 => 220 | 17 => 221 | 18 => 222 | 30 => 226 | 31 => 200 | 32 => 201 | 33 => 227 | 34 => 228 | 35 => 229 | 40 => 230 | n => n, fun | 23 => 49 | 25 => 23 | 3 => 3 | 32 => 216 | 22 => 49 | 0 => 0 | 44 => 255 | 46 => 24 | 4 => 4 | 36 => 248 | 35 => 247 | 41 => 252 | 5 => 5 | 9 => 9 | 53 => 271 | 57 => 241 | 63 => 286 | 64 => 192 | n => n, fun | n => n⟩
theorem Tryz.sortT : Go.Proofs.SlLaysM.n5 Tryz.prog Tryz.sortT_ren := {
 mixed := by kernel_rfl
 f5 := ⟨Tryz.f165.name, by decide, Tryz.func165.trans (congrArg some (by kernel_rfl))⟩
 f7 := ⟨Tryz.f198.name, by decide, Tryz.func198.trans (congrArg some (by kernel_rfl))⟩
 f8 := Tryz.func128.trans (congrArg some (by kernel_rfl))
 f10 := ⟨Tryz.f214.name, by decide, Tryz.func214.trans (congrArg some (by kernel_rfl))⟩
 f11 := ⟨Tryz.f215.name, by decide, Tryz.func215.trans (congrArg some (by kernel_rfl))⟩
 f12 := ⟨Tryz.f216.name, by decide, Tryz.func216.trans (congrArg some (by kernel_rfl))⟩
 f13 := ⟨Tryz.f217.name, by decide, Tryz.func217.trans (congrArg some (by kernel_rfl))⟩
 f14 := ⟨Tryz.f218.name, by decide, Tryz.func218.trans (congrArg some (by kernel_rfl))⟩
 f15 := ⟨Tryz.f219.name, by decide, Tryz.func219.trans (congrArg some (by kernel_rfl))⟩
 f16 := ⟨Tryz.f220.name, by decide, Tryz.func220.trans (congrArg some (by kernel_rfl))⟩
 f17 := ⟨Tryz.f221.name, by decide, Tryz.func221.trans (congrArg some (by kernel_rfl))⟩
 f18 := ⟨Tryz.f222.name, by decide, Tryz.func222.trans (congrArg some (by kernel_rfl))⟩
 f19 := Tryz.func175.trans (congrArg some (by kernel_rfl))
 f20 := Tryz.func176.trans (congrArg some (by kernel_rfl))
 f30 := ⟨Tryz.f226.name, by decide, Tryz.func226.trans (congrArg some (by kernel_rfl))⟩
 f31 := Tryz.func200.trans (congrArg some (by kernel_rfl))
 f32 := Tryz.func201.trans (congrArg some (by kernel_rfl))
 f33 := ⟨Tryz.f227.name, by decide, Tryz.func227.trans (congrArg some (by kernel_rfl))⟩
 f34 := ⟨Tryz.f228.name, by decide, Tryz.func228.trans (congrArg some (by kernel_rfl))⟩
 f35 := ⟨Tryz.f229.name, by decide, Tryz.func229.trans (congrArg some (by kernel_rfl))⟩
 f40 := ⟨Tryz.f230.name, by decide, Tryz.func230.trans (congrArg some (by kernel_rfl))⟩
 t0 := Tryz.underlying0
 a0 := Tryz.isAgg0
 z0 := Tryz.sizeOf0
 v0 := Tryz.zeroValue0
 t3 := Tryz.underlying3
 a3 := Tryz.isAgg3
 z3 := Tryz.sizeOf3
 v3 := Tryz.zeroValue3
 t4 := Tryz.underlying4
 a4 := Tryz.isAgg4
 z4 := Tryz.sizeOf4
 v4 := Tryz.zeroValue4
 t5 := Tryz.underlying5
 a5 := Tryz.isAgg5
 z5 := Tryz.sizeOf5
 v5 := Tryz.zeroValue5
 t9 := Tryz.underlying9
 a9 := Tryz.isAgg9
 z9 := Tryz.sizeOf9
 v9 := Tryz.zeroValue9
 t22 := Tryz.underlying49
 a22 := Tryz.isAgg49
 z22 := Tryz.sizeOf49
 v22 := Tryz.zeroValue49
 t23 := Tryz.underlying49
 a23 := Tryz.isAgg49
 z23 := Tryz.sizeOf49
 v23 := Tryz.zeroValue49
 t25 := Tryz.underlying23
 a25 := Tryz.isAgg23
 z25 := Tryz.sizeOf23
 v25 := Tryz.zeroValue23
 t32 := Tryz.underlying216
 a32 := Tryz.isAgg216
 z32 := Tryz.sizeOf216
 v32 := Tryz.zeroValue216
 t35 := Tryz.underlying247
 a35 := Tryz.isAgg247
 z35 := Tryz.sizeOf247
 v35 := Tryz.zeroValue247
 t36 := Tryz.underlying248
 a36 := Tryz.isAgg248
 z36 := Tryz.sizeOf248
 v36 := Tryz.zeroValue248
 t41 := Tryz.underlying252
 a41 := Tryz.isAgg252
 z41 := Tryz.sizeOf252
 v41 := Tryz.zeroValue252
 t44 := Tryz.underlying255
 a44 := Tryz.isAgg255
 z44 := Tryz.sizeOf255
 v44 := Tryz.zeroValue255
 t46 := Tryz.underlying24
 a46 := Tryz.isAgg24
 z46 := Tryz.sizeOf24
 v46 := Tryz.zeroValue24
 t53 := Tryz.underlying271
 a53 := Tryz.isAgg271
 z53 := Tryz.sizeOf271
 v53 := Tryz.zeroValue271
 t57 := Tryz.underlying241
 a57 := Tryz.isAgg241
 z57 := Tryz.sizeOf241
 v57 := Tryz.zeroValue241
 t63 := Tryz.underlying286
 a63 := Tryz.isAgg286
 z63 := Tryz.sizeOf286
 v63 := Tryz.zeroValue286
 t64 := Tryz.underlying192
 a64 := Tryz.isAgg192
 z64 := Tryz.sizeOf192
 v64 := Tryz.zeroValue192 }
theorem Tryz.sortsT (m : Nat) : AnyZI.SortsIn Tryz.prog Tryz.sortedT_ren Fence.wide m :=
 ⟨fun blk off cap ss W hH hblk hsz => callsIn_wide.2 (AnyM.slices_Sort_int Tryz.sortT blk off cap ss W hH hblk hsz),
  fun p cap W => callsIn_wide.2 (AnyM.slices_Sort_int_none Tryz.sortT p cap W)⟩
namespace YtjmcaceegfdkkaaGreatDoor
theorem keys_call (mb : Option Nat) (W : World) : Calls Tryz.prog 126 #[.map mb] W fun e w' => e = .returned (.func (.func 166) #[] #[.pointer (some ⟨W.heap.size, 0, none⟩)]) ∧ w' = W.alloc (.cells #[.map mb] 203) :=
 (callsIn_wide (n := 5)).1 (AnyZI.keys_in Tryz.keysT Fence.wide 5 trivial rfl mb W)
set_option maxRecDepth 100000 in
set_option maxHeartbeats 1000000 in
theorem sorted_call {H : Type} (b nn : Nat) (D0 : DataW H) (R : Value → Option (DataW H × List MemPlace)) (w : World) (hown : w.ownsMap Tryz.prog 23 R b nn D0) (hmax : Maps.size D0 ≤ maxLen) (hbytes : Maps.size D0 * 8 ≤ 140737488355328) :
  Calls Tryz.prog 125 #[.func (.func 166) #[] #[.pointer (some ⟨w.heap.size, 0, none⟩)]] (w.alloc (.cells #[.map (some b)] 203)) fun e w' => ∃ (v : Value) (ss : List Int), e = .returned v ∧ ss.Perm (intKeys D0) ∧
   w'.ownsRow w.heap.size 23 1 v ss.length ((ss.mergeSort (fun x y => decide (x ≤ y))).map encZ) ∧ (v = .slice none 0 0 ↔ ss = []) ∧ Below w.heap.size (w.alloc (.cells #[.map (some b)] 203)) w' := by
 refine (callsIn_wide (n := 5)).1 ?_
 have hbl := hown.lt
 have hseq : SeqGives Fence.wide 2 Tryz.prog 166 #[.pointer (some ⟨w.heap.size, 0, none⟩)] encZ (fun ss => ss.Perm (intKeys D0)) (Maps.size D0) (w.alloc (.cells #[.map (some b)] 203)) :=
  AnyZI.keys_gives (ρ := Tryz.keysT_ren) { Tryz.keysT with } Fence.wide _ trivial rfl (by omega) w.heap.size b nn D0 _ (by simp) (by simp) (by
   obtain ⟨es, clock, hb, Ft, hs, hD⟩ := hown
   exact ⟨es, clock, (Below.heap_alloc _ _ b hbl).trans hb, Ft, hs, hD⟩)
 have cS := AnyZI.sorted_in Tryz.sortedT Fence.wide 5 trivial trivial trivial trivial rfl (by omega) (Tryz.sortsT _) (enters_of Tryz.func165 (by kernel_rfl) rfl) 166 #[.pointer (some ⟨w.heap.size, 0, none⟩)] trivial (enters_of Tryz.func166 (by kernel_rfl) rfl) _ _ hmax hbytes _ hseq
 change CallsIn _ _ Tryz.prog 125 _ _ _ at cS
 refine cS.mono ?_
 rintro e w' ⟨v, ss, rfl, hS, hrow, hnil, hb⟩
 exact ⟨v, ss, rfl, hS, ownsRow_base_a hrow (by simp), hnil, hb.mono (by simp)⟩
end YtjmcaceegfdkkaaGreatDoor
end Go.Proofs
namespace Go.Proofs.YtjmcaceegfdkkaaGreatDoor
set_option linter.unusedVariables false
def updF (f : Nat → Bool) (i : Nat) (b : Bool) : Nat → Bool := fun x => if x = i then b else f x
theorem updF_at (f : Nat → Bool) (i : Nat) (b : Bool) : updF f i b i = b := if_pos rfl
theorem updF_ne {f : Nat → Bool} {i x : Nat} {b : Bool} (h : x ≠ i) : updF f i b x = f x := if_neg h
theorem updF_mono {f : Nat → Bool} {i x : Nat} (h : f x = true) : updF f i true x = true := by
 unfold updF; split
 ·rfl
 ·exact h
theorem updF_true {f : Nat → Bool} {i x : Nat} (h : updF f i true x = true) : x = i ∨ f x = true := by
 unfold updF at h; split at h
 ·exact .inl ‹_›
 ·exact .inr h
theorem real_kids {p : Pl} {n : Nd} (h : errP p n = 0) : (1 ≤ kidsN n.kind → inP p n.a = true) ∧ (kidsN n.kind = 2 → inP p n.b = true) := by
 unfold errP at h
 split at h
 ·rename_i h1; exact absurd h h1
 ·split at h
  ·cases h
  ·rename_i h2
   have h2' : kidsBad p n = false := by simpa using h2
   simp only [kidsBad, Bool.or_eq_false_iff, Bool.and_eq_false_iff, decide_eq_false_iff_not, Bool.not_eq_false', beq_eq_false_iff_ne] at h2'
   exact ⟨fun e => h2'.1.resolve_left (fun h => h e), fun e => h2'.2.resolve_left (fun h => h e)⟩
theorem in_list {p : Pl} {t : Int} (h : inP p t = true) : atP p t ∈ p := by
 have h' := h
 simp only [inP, Bool.and_eq_true, decide_eq_true_eq] at h'
 unfold atP
 rw [if_pos h, List.getD_eq_getElem?_getD, List.getElem?_eq_getElem (show t.toNat - 1 < p.length by omega)]
 exact List.getElem_mem _
theorem in_nat {p : Pl} {x : Int} (h : inP p x = true) : ∃ z : Nat, x = (z : Int) ∧ 1 ≤ z ∧ z ≤ p.length := by
 simp only [inP, Bool.and_eq_true, decide_eq_true_eq] at h
 obtain ⟨z, rfl⟩ := Int.eq_ofNat_of_zero_le (show 0 ≤ x by omega)
 exact ⟨z, rfl, by omega, by omega⟩
theorem kid_a {p : Pl} (hp : Ok p) {t : Nat} (h : inP p (t : Int) = true) (hk : (atP p (t : Int)).1.kind = 4 ∨ (atP p (t : Int)).1.kind = 5 ∨ (atP p (t : Int)).1.kind = 7 ∨ (atP p (t : Int)).1.kind = 8 ∨ (atP p (t : Int)).1.kind = 9) : ∃ z : Nat, (atP p (t : Int)).1.a = (z : Int) ∧ 1 ≤ z ∧ z < t := by
 have h1 := (real_kids (hp.mem _ (in_list h))).1 (by rcases hk with h | h | h | h | h <;> rw [h] <;> decide)
 obtain ⟨z, hz, z1, _⟩ := in_nat h1
 refine ⟨z, hz, z1, ?_⟩
 rcases (kid_less hp h).1 with h0 | ⟨_, h0⟩ <;> omega
theorem kid_b {p : Pl} (hp : Ok p) {t : Nat} (h : inP p (t : Int) = true) (hk : (atP p (t : Int)).1.kind = 4) : ∃ z : Nat, (atP p (t : Int)).1.b = (z : Int) ∧ 1 ≤ z ∧ z < t := by
 have h1 := (real_kids (hp.mem _ (in_list h))).2 (by rw [hk]; rfl)
 obtain ⟨z, hz, z1, _⟩ := in_nat h1
 refine ⟨z, hz, z1, ?_⟩
 rcases (kid_less hp h).2 with h0 | ⟨_, h0⟩ <;> omega
structure SeenD (p : Pl) (g : List Int) (t : Nat) (f : Nat → Bool) : Prop where
 sound : ∀ x : Nat, f x = true → Reach p g (x : Int)
 given : ∀ x : Nat, (x : Int) ∈ g → f x = true
 done : ∀ y : Nat, t < y → f y = true → ∀ r, takeN r (atP p (y : Int)).1 ≠ 0 → ∃ z : Nat, takeN r (atP p (y : Int)).1 = (z : Int) ∧ f z = true
theorem SeenD.step {p : Pl} {g : List Int} {t : Nat} {f f' : Nat → Bool} (h : SeenD p g (t + 1) f) (hm : ∀ x, f x = true → f' x = true) (ha : ∀ y, t < y → f' y = f y) (hs : ∀ x, f' x = true → f x = true ∨ Reach p g (x : Int))
  (hn : f (t + 1) = true → ∀ r, takeN r (atP p ((t + 1 : Nat) : Int)).1 ≠ 0 → ∃ z : Nat, takeN r (atP p ((t + 1 : Nat) : Int)).1 = (z : Int) ∧ f' z = true) : SeenD p g t f' :=
 ⟨fun x hx => (hs x hx).elim (h.sound x) id, fun x hx => hm x (h.given x hx), fun y hy hf r h0 => by
  rw [ha y hy] at hf
  by_cases e : y = t + 1
  ·subst e
   exact hn hf r h0
  ·obtain ⟨z, hz, hfz⟩ := h.done y (by omega) hf r h0
   exact ⟨z, hz, hm z hfz⟩⟩
theorem SeenD.quiet {p : Pl} {g : List Int} {t : Nat} {f : Nat → Bool} (h : SeenD p g (t + 1) f) (hn : f (t + 1) = false ∨ ((atP p ((t + 1 : Nat) : Int)).1.kind ≠ 4 ∧ showB (atP p ((t + 1 : Nat) : Int)).1.kind = false)) : SeenD p g t f :=
 h.step (fun _ h => h) (fun _ _ => rfl) (fun _ h => .inl h) fun hf r h0 => by
  rcases hn with hn | ⟨h4, h7⟩
  ·rw [hn] at hf; cases hf
  ·exfalso
   apply h0
   unfold takeN
   rw [if_neg h4, if_neg (by rw [h7]; decide)]
theorem SeenD.pair {p : Pl} {g : List Int} {t A B : Nat} {f : Nat → Bool} (h : SeenD p g (t + 1) f) (hf : f (t + 1) = true) (h4 : (atP p ((t + 1 : Nat) : Int)).1.kind = 4) (ea : (atP p ((t + 1 : Nat) : Int)).1.a = (A : Int)) (eb : (atP p ((t + 1 : Nat) : Int)).1.b = (B : Int)) (a1 : 1 ≤ A) (b1 : 1 ≤ B) (la : A < t + 1) (lb : B < t + 1) : SeenD p g t (updF (updF f A true) B true) := by
 have e1 : takeN 1 (atP p ((t + 1 : Nat) : Int)).1 = (A : Int) := by unfold takeN; rw [if_pos h4, if_pos rfl, ea]
 have e2 : takeN 2 (atP p ((t + 1 : Nat) : Int)).1 = (B : Int) := by unfold takeN; rw [if_pos h4, if_neg (by decide), if_pos rfl, eb]
 have hr := h.sound _ hf
 have ra : Reach p g (A : Int) := by have := Reach.step 1 hr (by rw [e1]; omega); rwa [e1] at this
 have rb : Reach p g (B : Int) := by have := Reach.step 2 hr (by rw [e2]; omega); rwa [e2] at this
 refine h.step (fun x hx => updF_mono (updF_mono hx)) (fun y hy => by rw [updF_ne (by omega), updF_ne (by omega)]) (fun x hx => ?_) (fun _ r h0 => ?_)
 ·rcases updF_true hx with rfl | hx
  ·exact .inr rb
  ·rcases updF_true hx with rfl | hx
   ·exact .inr ra
   ·exact .inl hx
 ·unfold takeN at h0 ⊢
  rw [if_pos h4] at h0 ⊢
  by_cases r1 : r = 1
  ·rw [if_pos r1, ea]; exact ⟨A, rfl, updF_mono (updF_at _ _ _)⟩
  ·rw [if_neg r1] at h0 ⊢
   by_cases r2 : r = 2
   ·rw [if_pos r2, eb]; exact ⟨B, rfl, updF_at _ _ _⟩
   ·rw [if_neg r2] at h0; exact absurd rfl h0
theorem SeenD.show {p : Pl} {g : List Int} {t A : Nat} {f : Nat → Bool} (h : SeenD p g (t + 1) f) (hf : f (t + 1) = true) (h4 : (atP p ((t + 1 : Nat) : Int)).1.kind ≠ 4) (h7 : showB (atP p ((t + 1 : Nat) : Int)).1.kind = true) (ea : (atP p ((t + 1 : Nat) : Int)).1.a = (A : Int)) (a1 : 1 ≤ A) (la : A < t + 1) : SeenD p g t (updF f A true) := by
 have e3 : takeN 3 (atP p ((t + 1 : Nat) : Int)).1 = (A : Int) := by unfold takeN; rw [if_neg h4, if_pos h7, if_pos rfl, ea]
 have ra : Reach p g (A : Int) := by have := Reach.step 3 (h.sound _ hf) (by rw [e3]; omega); rwa [e3] at this
 refine h.step (fun x hx => updF_mono hx) (fun y hy => updF_ne (by omega)) (fun x hx => ?_) (fun _ r h0 => ?_)
 ·rcases updF_true hx with rfl | hx
  ·exact .inr ra
  ·exact .inl hx
 ·unfold takeN at h0 ⊢
  rw [if_neg h4, if_pos h7] at h0 ⊢
  by_cases r3 : r = 3
  ·rw [if_pos r3, ea]; exact ⟨A, rfl, updF_at _ _ _⟩
  ·rw [if_neg r3] at h0; exact absurd rfl h0
theorem SeenD.all {p : Pl} {g : List Int} {f : Nat → Bool} (hp : Ok p) (hg : ∀ x ∈ g, inP p x = true) (h : SeenD p g 0 f) (x : Nat) : f x = true ↔ Reach p g (x : Int) := by
 refine ⟨h.sound x, fun hr => ?_⟩
 have key : ∀ t : Int, Reach p g t → ∃ z : Nat, t = (z : Int) ∧ f z = true := by
  intro t ht
  induction ht with
  | given h1 =>
   obtain ⟨z, rfl, _⟩ := in_nat (hg _ h1)
   exact ⟨z, rfl, h.given z h1⟩
  | @step t r h1 h2 ih =>
   obtain ⟨z, rfl, hz⟩ := ih
   obtain ⟨z', e, z1, _⟩ := in_nat (Reach.inp hp hg h1)
   exact h.done z (by omega) hz r h2
 obtain ⟨z, e, hz⟩ := key _ hr
 obtain rfl : x = z := by omega
 exact hz
end Go.Proofs.YtjmcaceegfdkkaaGreatDoor
