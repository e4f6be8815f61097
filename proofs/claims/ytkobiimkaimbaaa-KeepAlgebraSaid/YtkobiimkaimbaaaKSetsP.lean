/-
  Plain: what a set's calls answer is what the document's lists say; sets as sets are.
-/
import Derived.Test.YtkobiimkaimbaaaKAddP
import Derived.Test.YtkobiimkaimbaaaKWithin
namespace Go.Proofs.Ytkobiimkaimbaaa
set_option linter.unusedVariables false

/-- Keys in order. -/
abbrev Tr.Ok (t : Tr Int Unit) : Prop := Srt t.toL
theorem Tr.Ok.ext {x y : Tr Int Unit} (hx : x.Ok) (hy : y.Ok) (h : ∀ k, k ∈ x.keys ↔ k ∈ y.keys) : x.keys = y.keys := SrtK.ext hx.keys hy.keys h
theorem Tr.Ok.lst {x : Tr Int Unit} {l : List Int} (hx : x.Ok) (hy : SrtK l) (h : ∀ k, k ∈ x.keys ↔ k ∈ l) : x.keys = l := SrtK.ext hx.keys hy h
abbrev uor (x y : Tr Int Unit) : Tr Int Unit := Tr.merge how1 x y
theorem uor_ok {x y : Tr Int Unit} (hx : x.Ok) (hy : y.Ok) : (uor x y).Ok := (Tr.merge_all how1 x y hx hy).1
theorem uor_mem {x y : Tr Int Unit} (hx : x.Ok) (hy : y.Ok) {k : Int} : k ∈ (uor x y).keys ↔ k ∈ x.keys ∨ k ∈ y.keys := (Tr.merge_all how1 x y hx hy).2 k
theorem uand_ok {x y : Tr Int Unit} (hx : x.Ok) (hy : y.Ok) : (Tr.common x y).Ok := (Tr.common_all x y hx hy).1
theorem uand_mem {x y : Tr Int Unit} (hx : x.Ok) (hy : y.Ok) {k : Int} : k ∈ (Tr.common x y).keys ↔ k ∈ x.keys ∧ k ∈ y.keys := (Tr.common_all x y hx hy).2 k
theorem uminus_ok {x y : Tr Int Unit} (hx : x.Ok) (hy : y.Ok) : (Tr.minus x y).Ok := (Tr.minus_all x y hx hy).1
theorem uminus_mem {x y : Tr Int Unit} (hx : x.Ok) (hy : y.Ok) {k : Int} : k ∈ (Tr.minus x y).keys ↔ k ∈ x.keys ∧ ¬ k ∈ y.keys := (Tr.minus_all x y hx hy).2 k
theorem setOf_ok (l : List Int) : (setOf l).Ok := (setOf_all l).1

theorem all_hasK {x y : Tr Int Unit} (hy : y.Ok) : (x.toL.all fun a => y.hasK a.1) = decide (∀ k ∈ x.keys, k ∈ y.keys) := by
  rw [Bool.eq_iff_iff, List.all_eq_true, decide_eq_true_iff]
  constructor
  · intro h k hk
    obtain ⟨a, ha, rfl⟩ := List.mem_map.1 hk
    have := h a ha
    rw [hasK_eq hy] at this
    exact of_decide_eq_true this
  · intro h a ha
    rw [hasK_eq hy]
    exact decide_eq_true (h a.1 (List.mem_map.2 ⟨a, ha, rfl⟩))

section
variable (l m : List Int) (k : Int)
theorem sets_size : (setOf l).size = (rsetOf l).length := by rw [← keys_len, setOf_keys]
theorem sets_has : (setOf l).hasK k = decide (k ∈ rsetOf l) := by rw [hasK_eq (setOf_ok l), setOf_keys]
theorem sets_within : ((setOf l).toL.all fun a => (setOf m).hasK a.1) = (((ronly (rsetOf l) (rsetOf m) false).length : Int) == 0) := by
  rw [all_hasK (setOf_ok m), setOf_keys, setOf_keys, Bool.eq_iff_iff, decide_eq_true_iff, beq_iff_eq, Int.natCast_eq_zero, List.length_eq_zero_iff]
  constructor
  · intro h
    unfold ronly
    rw [List.filter_eq_nil_iff]
    intro a ha
    simp [h a ha]
  · intro h a ha
    unfold ronly at h
    rw [List.filter_eq_nil_iff] at h
    have := h a ha
    simpa using this
theorem sets_add : (Tr.put (setOf l) k ()).keys = radd (rsetOf l) k :=
  Tr.Ok.lst (Tr.srt_put (setOf_ok l) k ()) (radd_all _ k (rsetOf_all l).1).1 fun x => by rw [Tr.mem_put (setOf_ok l), (radd_all _ k (rsetOf_all l).1).2, setOf_keys]
theorem sets_drop : (Tr.del (setOf l) k).keys = ronly (rsetOf l) [k] false :=
  Tr.Ok.lst (Tr.srt_del (setOf_ok l) k) (ronly_srt _ _ (rsetOf_all l).1) fun x => by rw [Tr.mem_del (setOf_ok l), mem_ronly, setOf_keys]; simp
theorem sets_and : (Tr.common (setOf l) (setOf m)).keys = ronly (rsetOf l) (rsetOf m) true :=
  Tr.Ok.lst (uand_ok (setOf_ok l) (setOf_ok m)) (ronly_srt _ _ (rsetOf_all l).1) fun x => by rw [uand_mem (setOf_ok l) (setOf_ok m), mem_ronly, setOf_keys, setOf_keys]; simp
theorem sets_minus : (Tr.minus (setOf l) (setOf m)).keys = ronly (rsetOf l) (rsetOf m) false :=
  Tr.Ok.lst (uminus_ok (setOf_ok l) (setOf_ok m)) (ronly_srt _ _ (rsetOf_all l).1) fun x => by rw [uminus_mem (setOf_ok l) (setOf_ok m), mem_ronly, setOf_keys, setOf_keys]; simp
theorem sets_or : (uor (setOf l) (setOf m)).keys = rsetOf (rsetOf l ++ rsetOf m) :=
  Tr.Ok.lst (uor_ok (setOf_ok l) (setOf_ok m)) (rsetOf_all _).1 fun x => by rw [uor_mem (setOf_ok l) (setOf_ok m), (rsetOf_all _).2, List.mem_append, setOf_keys, setOf_keys]
end

section
variable {a b c : Tr Int Unit} (ha : a.Ok) (hb : b.Ok) (hc : c.Ok)
include ha hb
theorem alg1 : (uor a b).keys = (uor b a).keys := (uor_ok ha hb).ext (uor_ok hb ha) fun k => by rw [uor_mem ha hb, uor_mem hb ha]; exact Or.comm
theorem alg2 : (Tr.common a b).keys = (Tr.common b a).keys := (uand_ok ha hb).ext (uand_ok hb ha) fun k => by rw [uand_mem ha hb, uand_mem hb ha]; exact And.comm
theorem alg5 : (uor a (Tr.common a b)).keys = a.keys := (uor_ok ha (uand_ok ha hb)).ext ha fun k => by rw [uor_mem ha (uand_ok ha hb), uand_mem ha hb]; exact ⟨fun h => h.elim id And.left, .inl⟩
theorem alg6 : (Tr.common a (uor a b)).keys = a.keys := (uand_ok ha (uor_ok ha hb)).ext ha fun k => by rw [uand_mem ha (uor_ok ha hb), uor_mem ha hb]; exact ⟨And.left, fun h => ⟨h, .inl h⟩⟩
theorem alg7 : (uor (Tr.minus a b) (Tr.common a b)).keys = a.keys := (uor_ok (uminus_ok ha hb) (uand_ok ha hb)).ext ha fun k => by
  rw [uor_mem (uminus_ok ha hb) (uand_ok ha hb), uminus_mem ha hb, uand_mem ha hb]
  exact ⟨fun h => h.elim And.left And.left, fun h => (Classical.em (k ∈ b.keys)).elim (fun h' => .inr ⟨h, h'⟩) (fun h' => .inl ⟨h, h'⟩)⟩
theorem alg8 : (Tr.common (Tr.minus a b) (Tr.common a b)).size = 0 := by
  rw [← keys_len, List.length_eq_zero_iff]
  refine List.eq_nil_iff_forall_not_mem.2 fun k hk => ?_
  rw [uand_mem (uminus_ok ha hb) (uand_ok ha hb), uminus_mem ha hb, uand_mem ha hb] at hk
  exact hk.1.2 hk.2.2
theorem alg9 : ((Tr.common a b).toL.all fun x => a.hasK x.1) = true := by
  rw [all_hasK ha]
  exact decide_eq_true fun k hk => ((uand_mem ha hb).1 hk).1
theorem alg10 : (a.toL.all fun x => (uor a b).hasK x.1) = true := by
  rw [all_hasK (uor_ok ha hb)]
  exact decide_eq_true fun k hk => (uor_mem ha hb).2 (.inl hk)
include hc
theorem alg3 : (uor (uor a b) c).keys = (uor a (uor b c)).keys := (uor_ok (uor_ok ha hb) hc).ext (uor_ok ha (uor_ok hb hc)) fun k => by
  rw [uor_mem (uor_ok ha hb) hc, uor_mem ha hb, uor_mem ha (uor_ok hb hc), uor_mem hb hc]; exact or_assoc
theorem alg4 : (Tr.common (Tr.common a b) c).keys = (Tr.common a (Tr.common b c)).keys := (uand_ok (uand_ok ha hb) hc).ext (uand_ok ha (uand_ok hb hc)) fun k => by
  rw [uand_mem (uand_ok ha hb) hc, uand_mem ha hb, uand_mem ha (uand_ok hb hc), uand_mem hb hc]; exact and_assoc
end

end Go.Proofs.Ytkobiimkaimbaaa
