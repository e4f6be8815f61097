/-
  Knowledge that is new; what was given, told.
-/
import Derived.Test.YtjpkeoenajlmeaaDoorYOpM
import Derived.Test.YtjpkeoenajlmeaaDoorTLive
import Derived.Lib.SliceRun
namespace Go.Proofs.YtjpkeoenajlmeaaDoor
open Go.RowKit Go.Maps
set_option linter.unusedVariables false

theorem knew (w : World) (a B : Nat) (p : Pl) (hB : B ≤ w.heap.size) : Calls Tryd.prog 47 #[.pointer (some ⟨a, 0, none⟩)] w fun e w' => e = .returned (.pointer (some ⟨w.heap.size + 1, 0, none⟩)) ∧ IsKnow w' B (w.heap.size + 1) (.slice none 0 0) w.heap.size a p [] (fun _ => none) ∧ Below w.heap.size w w' := by
  have hmm := @run_makeMap Tryd.prog
  have b1 := bA0 w (.map #[] 0)
  have b2 := bA0 (w.alloc (.map #[] 0)) (.cells #[.pointer (some ⟨a, 0, none⟩), .slice none 0 0, .map (some w.heap.size)] KnowT)
  have hl : ((w.alloc (.map #[] 0)).alloc (.cells #[.pointer (some ⟨a, 0, none⟩), .slice none 0 0, .map (some w.heap.size)] KnowT)).heap[w.heap.size + 1]? = some (Obj.cells #[.pointer (some ⟨a, 0, none⟩), .slice none 0 0, .map (some w.heap.size)] KnowT) := by
    have := heap_alloc_new (w.alloc (.map #[] 0)) (.cells #[.pointer (some ⟨a, 0, none⟩), .slice none 0 0, .map (some w.heap.size)] KnowT)
    rwa [World.size_alloc] at this
  have hk : IsKnow ((w.alloc (.map #[] 0)).alloc (.cells #[.pointer (some ⟨a, 0, none⟩), .slice none 0 0, .map (some w.heap.size)] KnowT)) B (w.heap.size + 1) (.slice none 0 0) w.heap.size a p [] (fun _ => none) :=
    ⟨hl, Nat.le_succ_of_le hB, hB, World.ownsRow_nil _ _ _ 1, (SeenM.new w p).below b2, SeenOk.nil p⟩
  have HK := Lib.hid hk
  have HB := Lib.hid (bmore b1 b2)
  clear hk hl b1 b2
  go_enter Tryd.func47, Tryd.ntmps47
  go_wp2_with fail
  go_returns
  exact ⟨rfl, HK.out, HB.out⟩
set_option maxHeartbeats 800000 in
theorem cloneT_any {w : World} {v : Value} {l : List Int} (h : Row w 1 v l.length (ints l)) (hl : l.length ≤ 1099511627776) :
    Calls Tryd.prog 71 #[v] w fun e w' => ∃ v', e = .returned v' ∧ w'.ownsRow w.heap.size TermT 1 v' l.length (ints l) ∧ Below w.heap.size w w' := by
  obtain ⟨i0, hi, hz0, hz1, hz2⟩ := info_parts rowTK
  rcases h.2 with ⟨rfl, hn⟩ | ⟨b, off, cap, rfl, h1, h2, h3, h4⟩
  · have hnil : l = [] := List.eq_nil_of_length_eq_zero hn
    subst hnil
    have hq := fun (w : World) => Lib.run_eql_slice_nil (P := Tryd.prog) w 50 TermT none 0 0 0 0 Tryd.underlying50
    go_enter Tryd.func71, Tryd.ntmps71
    go_wp2_with fail
    go_returns
    exact ⟨_, rfl, World.ownsRow_nil w _ _ 1, Below.refl _ _⟩
  · have hN : ∀ j u, (ints l)[j]? = some u → w.cell? ((⟨b, off, none⟩ : Addr).add j) = some u := fun j u hj => by
      have hadd : (⟨b, off, none⟩ : Addr).add j = ⟨b, off + j, none⟩ := by unfold Addr.add; split <;> simp_all
      rw [hadd]; exact h4 j u hj
    have hq := fun (w : World) => Lib.run_eql_slice_nil (P := Tryd.prog) w 50 TermT (some ⟨b, off, none⟩) l.length cap 0 0 Tryd.underlying50
    have hown0 : (w.alloc (.cells #[] TermT)).ownsRow w.heap.size TermT 1 (.slice (some ⟨w.heap.size, 0, none⟩) 0 0) 0 [] := World.ownsRow_made w #[] 0 (Nat.le_refl _) (by unfold maxLen; omega) rfl
    go_enter Tryd.func71, Tryd.ntmps71
    go_wp2_with (first
      | (at_builtin; refine wpList_append_own _ rfl _ _ 50 rfl w.heap.size TermT i0 (.int .i64 0) 1 8 Tryd.underlying50 hi hz0 hz1 hz2 rfl (by decide) _ _ _ rfl hown0 ⟨b, off, none⟩ l.length cap (ints l) rfl (by simp [ints]) ?c1 (ints_oneCellK l) (by unfold maxLen; omega) (by omega) (by simp) ?_))
    case c1 => exact fun j u hu => (World.grownBy_alloc w _ none).cell (hN j u hu) (by simp)
    intro v' w' hown' hgrow' _
    go_wp2_with fail
    go_returns
    refine ⟨_, rfl, ?_, ?_⟩
    · simpa using hown'
    · refine ((Below.refl _ _).alloc (Nat.le_refl _) _).grown hgrow' (by simp) ?_
      intro k hk
      simp [Value.ownBlock] at hk
      omega
section
variable {w : World} {B a b : Nat} {v : Value} {p : Pl} {B2 k : Nat} {gv : Value} {mb : Nat} {g : List Int} {s : Int → Option Way}
theorem given_any (hk : IsKnow w B2 k gv mb a p g s) (hp : p.length ≤ 65536) : Calls Tryd.prog 52 #[.pointer (some ⟨k, 0, none⟩)] w fun e w' => ∃ v', e = .returned v' ∧ w'.ownsRow w.heap.size TermT 1 v' g.length (ints g) ∧ Below w.heap.size w w' := by
  have c1 : w.cell? ⟨k, 1, none⟩ = some gv := cellB hk.lay rfl
  have hr := row_of_own hk.row
  have hg := hk.glen
  obtain ⟨ga, gc, rfl⟩ := hr.shape
  have HC := Lib.hid (cloneT_any hr (by omega))
  clear hk hr
  go_enter Tryd.func52, Tryd.ntmps52
  go_wp2_with fail
  refine HC.out.mono ?_
  rintro e w1 ⟨v', rfl, h1, h2⟩
  have H1 := Lib.hid h1
  have H2 := Lib.hid h2
  clear h1 h2
  go_wp2_with fail
  go_returns
  exact ⟨v', rfl, H1.out, H2.out⟩
end


end Go.Proofs.YtjpkeoenajlmeaaDoor
