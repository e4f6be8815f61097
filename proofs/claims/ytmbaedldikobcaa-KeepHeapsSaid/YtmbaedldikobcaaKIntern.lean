/-
  A table of numbers of texts in memory: NewIntern, look, Of.
-/
import Derived.Test.YtmbaedldikobcaaKRow
import Derived.Maps.OwnSet
import Derived.Maps.AppendAt
import Derived.Maps.Views
import Derived.Defers
import Derived.StringKeys
namespace Go.Proofs.Ytmbaedldikobcaa
open Go.RowKit Go.Maps
set_option linter.unusedVariables false

abbrev IntT : TypeId := 152
abbrev MapSI : TypeId := 150
def strs (l : List ByteArray) : List Value := l.map Value.string
theorem strs_at (l : List ByteArray) (i : Nat) (h : i < l.length) : (strs l)[i]? = some (.string (l[i])) := by simp [strs, h]
theorem strs_oneCell (l : List ByteArray) : ∀ u ∈ strs l, u.oneCell' = true := by
  intro u hu
  simp only [strs, List.mem_map] at hu
  obtain ⟨b, _, rfl⟩ := hu
  rfl
theorem rowStr : (Try.prog.info? 9).map (fun i => (i.zero, i.size, i.bytes)) = some (some (.string ⟨#[]⟩), 1, 16) := by kernel_rfl
theorem lawS : Keyed Try.prog 9 := string_keyed Try.underlying9
theorem zeroI (w : World) : (zeroValue 3).run Try.prog w = .ok (.int .i64 0) w := by kernel_rfl
/-- What a text reads as, as a key. -/
def keyS (s : ByteArray) : Lit := .string s.data.toList
theorem keyS_of {s : ByteArray} (h : s.size ≤ maxLen) : keyOf Try.prog 9 (.string s) = some (keyS s) := WideMaps.keyOf_string_mk Try.underlying9 h
theorem keyS_inj {a b : ByteArray} (h : keyS a = keyS b) : a = b := by
  simp only [keyS, Lit.string.injEq] at h
  cases a; cases b
  simp at h
  rw [h]

/-- The datum of a list of texts: each has its place. -/
structure Dict (ws : List ByteArray) (D : DataW Unit) : Prop where
  map : IsMap D
  has : ∀ s, Maps.has D (keyS s) = true ↔ s ∈ ws
  at_ : ∀ (i : Nat) s, ws[i]? = some s → D.atKey (keyS s) (.lit (.int .i64 0)) = .lit (.int .i64 (i : Int))
theorem Dict.nil : Dict [] (.map []) := ⟨isMap_empty, fun s => by simp [Maps.has], fun i s h => by simp at h⟩
theorem Dict.snoc {ws : List ByteArray} {D : DataW Unit} (h : Dict ws D) {s : ByteArray} (hs : s ∉ ws) (hk : WideAt.IsKeyLit (keyS s)) : Dict (ws ++ [s]) (D.put (keyS s) (.lit (.int .i64 (ws.length : Int)))) := by
  refine ⟨h.map.put _ _, fun x => ?_, fun i x hx => ?_⟩
  · by_cases e : x = s
    · subst e
      rw [has_put_same h.map hk]; simp
    · rw [has_put_other (fun e' => e (keyS_inj e')), h.has]
      simp [e]
  · by_cases e : x = s
    · subst e
      rw [atKey_put_same h.map hk]
      rcases Nat.lt_or_ge i ws.length with hi | hi
      · rw [List.getElem?_append_left hi] at hx
        exact absurd (List.mem_of_getElem? hx) hs
      · rw [List.getElem?_append_right hi] at hx
        have : i - ws.length = 0 := by
          rcases Nat.eq_zero_or_pos (i - ws.length) with h0 | h0
          · exact h0
          · rw [List.getElem?_eq_none (by simp; omega)] at hx; cases hx
        rw [show i = ws.length by omega]
    · rw [atKey_put_other (fun e' => e (keyS_inj e'))]
      refine h.at_ i x ?_
      rcases Nat.lt_or_ge i ws.length with hi | hi
      · rwa [List.getElem?_append_left hi] at hx
      · rw [List.getElem?_append_right hi] at hx
        exfalso
        have := List.mem_of_getElem? hx
        simp at this
        exact e this

/-- At a stands a table of the texts ws: the map at b, the list v; all of it from B on. -/
structure IsIn (w : World) (B a b : Nat) (v : Value) (ws : List ByteArray) : Prop where
  lay : w.heap[a]? = some (Obj.cells #[.map (some b), v] IntT)
  ga : B ≤ a
  gb : B ≤ b
  row : w.ownsRow B 9 1 v ws.length (strs ws)
  dict : ∃ D : DataW Unit, w.ownsMap Try.prog 9 (plainElem Try.prog 3) b ws.length D ∧ Dict ws D

set_option maxHeartbeats 800000 in
theorem newIntern (w : World) : Calls Try.prog 59 #[] w fun e w' => e = .returned (.pointer (some ⟨w.heap.size + 1, 0, none⟩)) ∧ IsIn w' w.heap.size (w.heap.size + 1) w.heap.size (.slice none 0 0) [] ∧ Below w.heap.size w w' := by
  have hmm := @run_makeMap Try.prog
  go_enter Try.func59, Try.ntmps59
  go_wp2_with fail
  go_returns
  refine ⟨rfl, ⟨?_, by omega, Nat.le_refl _, World.ownsRow_nil _ _ _ 1, _, (World.ownsMap_made w _ _ _).alloc _, Dict.nil⟩, ((Below.refl _ _).alloc (Nat.le_refl _) _).alloc (by simp) _⟩
  have e : w.heap.size + 1 = (w.alloc (.map #[] 0)).heap.size := by simp
  rw [e]
  exact heap_alloc_new _ _

set_option maxHeartbeats 800000 in
theorem look_idle (w : World) : CallsD Try.prog 142 #[] .returning w fun e' u' w' => e' = .returned (.tuple #[]) ∧ u' = .returning ∧ w' = w := by
  refine callsD_of_wpS Try.func142 rfl fun c₀ cs hu => ?_
  simp only [Try.ntmps142, List.size_toArray, List.length_nil, Nat.reduceSub, Array.replicate_succ, Array.replicate_zero, List.push_toArray, List.append_toArray, List.nil_append]
  apply wpS_region
  simp [wpOpsS, go_sem, recoverD, hu]
  cases c₀
  simp_all [bodyPostS, results, Try.results142, go_sem]

set_option maxHeartbeats 800000 in
theorem look_any {w : World} {a b : Nat} {v : Value} {s : ByteArray} {num : Int} {hs : Bool} (hl : w.heap[a]? = some (Obj.cells #[.map (some b), v] IntT))
    (hrun : (Instr.lookup MapSI (.map (some b)) (.string s) true).run Try.prog w = .ok (.tuple #[.int .i64 num, .bool hs]) w) :
    Calls Try.prog 108 #[.pointer (some ⟨a, 0, none⟩), .string s] w fun e w' => e = .returned (.tuple #[.int .i64 num, .bool hs, .bool true]) ∧ w = w' := by
  have c0 : w.cell? ⟨a, 0, none⟩ = some (.map (some b)) := cellB hl rfl
  go_enter_defers Try.func108, Try.ntmps108
  go_wp2_with fail
  refine leaves_cons (f := 142) (args := #[]) (by simp) (by simp [go_sem]) ?_
  refine (look_idle _).mono ?_
  rintro e u' w'' ⟨rfl, rfl, rfl⟩
  simp [Leaves, settle, results, Try.results108, go_sem]

theorem IsIn.look {w : World} {B a b : Nat} {v : Value} {ws : List ByteArray} (h : IsIn w B a b v ws) {s : ByteArray} (hs : s.size ≤ maxLen) :
    ∃ v ps, ∃ D : DataW Unit, (Instr.lookup MapSI (.map (some b)) (.string s) true).run Try.prog w = .ok (.tuple #[v, .bool (Maps.has D (keyS s))]) w ∧ Dict ws D ∧ plainElem (H := Unit) Try.prog 3 v = some (D.atKey (keyS s) (.lit (.int .i64 0)), ps) := by
  obtain ⟨D, ho, hd⟩ := h.dict
  obtain ⟨v, ps, h1, h2⟩ := ho.look_ok lawS Try.underlying150 (zeroI w) (plainElem_int Try.underlying3 (by decide)) (keyS_of hs)
  exact ⟨v, ps, D, h1, hd, h2⟩
theorem look_yes {w : World} {B a b : Nat} {v : Value} {ws : List ByteArray} (h : IsIn w B a b v ws) {s : ByteArray} (hs : s.size ≤ maxLen) {i : Nat} (hi : ws[i]? = some s) :
    Calls Try.prog 108 #[.pointer (some ⟨a, 0, none⟩), .string s] w fun e w' => e = .returned (.tuple #[.int .i64 (i : Int), .bool true, .bool true]) ∧ w = w' := by
  obtain ⟨x, ps, D, h1, hd, h2⟩ := h.look hs
  obtain ⟨n, rfl, h3, _⟩ := plainElem_int_inv Try.underlying3 h2
  rw [hd.at_ i s hi] at h3
  simp at h3
  obtain ⟨rfl, _⟩ := h3
  rw [(hd.has s).2 (List.mem_of_getElem? hi)] at h1
  exact look_any h.lay h1
theorem look_no {w : World} {B a b : Nat} {v : Value} {ws : List ByteArray} (h : IsIn w B a b v ws) {s : ByteArray} (hs : s.size ≤ maxLen) (hi : s ∉ ws) :
    Calls Try.prog 108 #[.pointer (some ⟨a, 0, none⟩), .string s] w fun e w' => ∃ n : Int, e = .returned (.tuple #[.int .i64 n, .bool false, .bool true]) ∧ w = w' := by
  obtain ⟨x, ps, D, h1, hd, h2⟩ := h.look hs
  obtain ⟨n, rfl, h3, _⟩ := plainElem_int_inv Try.underlying3 h2
  rw [show Maps.has D (keyS s) = false from by cases e : Maps.has D (keyS s); rfl; exact absurd ((hd.has s).1 e) hi] at h1
  exact (look_any h.lay h1).mono fun e w' ⟨p, q⟩ => ⟨n, p, q⟩

theorem grown_below {w w' : World} {B : Nat} {row : Option Nat} (h : w.grownBy w' row) (hB : B ≤ w.heap.size) (hr : ∀ k, row = some k → B ≤ k) : Below B w w' :=
  (Below.refl B w).grown h hB hr
theorem grownBy_set (w : World) (a o : Nat) (v : Value) : w.grownBy (w.setCell ⟨a, o, none⟩ v) (some a) :=
  ⟨rfl, rfl, rfl, by simp [World.setCell], fun k hk hne => Below.heap_setCell _ _ _ _ (fun e => hne (by rw [e]))⟩
/-- What Of leaves: the table with one text more, or as it was. -/
def OfPost (w : World) (B a b : Nat) (v : Value) (ws ws' : List ByteArray) (n : Nat) (e : Ending) (w' : World) : Prop :=
  e = .returned (.int .i64 (n : Int)) ∧ Below B w w' ∧ (∀ k, k < w.heap.size → k ≠ a → k ≠ b → v.ownBlock ≠ some k → w'.heap[k]? = w.heap[k]?) ∧
    ∃ v', IsIn w' B a b v' ws' ∧ (v'.ownBlock = v.ownBlock ∨ ∃ g, v'.ownBlock = some g ∧ w.heap.size ≤ g)

set_option maxHeartbeats 800000 in
theorem of_old {w : World} {B a b : Nat} {v : Value} {ws : List ByteArray} (h : IsIn w B a b v ws) {s : ByteArray} (hs : s.size ≤ maxLen) {i : Nat} (hi : ws[i]? = some s) :
    Calls Try.prog 61 #[.pointer (some ⟨a, 0, none⟩), .string s] w (OfPost w B a b v ws ws i) := by
  have H := Lib.hid h
  have HI := Lib.hid hi
  clear h hi
  go_enter Try.func61, Try.ntmps61
  go_wp2_with fail
  refine (look_yes H.out hs HI.out).mono ?_
  rintro e w1 ⟨rfl, rfl⟩
  go_wp2_with fail
  go_returns
  exact ⟨rfl, Below.refl _ _, fun _ _ _ _ _ => rfl, v, H.out, .inl rfl⟩

set_option maxRecDepth 100000 in
set_option maxHeartbeats 1600000 in
theorem of_new {w : World} {B a b : Nat} {v : Value} {ws : List ByteArray} (h : IsIn w B a b v ws) {s : ByteArray} (hs : s.size ≤ maxLen) (hi : s ∉ ws) (hl : ws.length < 1000000) :
    Calls Try.prog 61 #[.pointer (some ⟨a, 0, none⟩), .string s] w (OfPost w B a b v ws (ws ++ [s]) ws.length) := by
  obtain ⟨i0, hi0, hz0, hz1, hz2⟩ := info_parts rowStr
  obtain ⟨D, hown, hd⟩ := h.dict
  obtain ⟨av, cv, rfl⟩ := (row_of_own h.row).shape
  have hal : a < w.heap.size := (Array.getElem?_eq_some_iff.1 h.lay).1
  have hbl := hown.lt
  have hab : a ≠ b := by
    rintro rfl
    obtain ⟨es, clock, hb, _⟩ := hown
    rw [h.lay] at hb
    cases hb
  have hav : ∀ g, (Value.slice av ws.length cv).ownBlock = some g → g ≠ a ∧ g ≠ b ∧ g < w.heap.size ∧ B ≤ g := fun g e => by
    obtain ⟨hB, cur, hc⟩ := own_type h.row e
    refine ⟨?_, ?_, (Array.getElem?_eq_some_iff.1 hc).1, hB⟩
    · rintro rfl
      rw [h.lay] at hc
      simp only [Option.some.injEq, Obj.cells.injEq] at hc
      exact absurd hc.2.1 (by decide)
    · rintro rfl
      obtain ⟨es, clock, hb, _⟩ := hown
      rw [hc] at hb
      cases hb
  have H := Lib.hid h
  have HD := Lib.hid hd
  have HI := Lib.hid hi
  have HAV := Lib.hid hav
  have HAB := Lib.hid hab
  have HO := Lib.hid hown
  have c0 : w.cell? ⟨a, 0, none⟩ = some (.map (some b)) := cellB h.lay rfl
  have c1 : w.cell? ⟨a, 1, none⟩ = some (.slice av ws.length cv) := cellB h.lay rfl
  have hwf : (Lit.int .i64 (ws.length : Int)).wf = true := WalkArith.wf_i64 (by omega)
  clear h hd hi hav hab hown
  go_enter Try.func61, Try.ntmps61
  go_wp2_with fail
  refine (look_no H.out hs HI.out).mono ?_
  rintro e w1 ⟨n, rfl, rfl⟩
  go_wp2_with (first | (at_mapUpdate; refine wpList_mapUpdate_own _ rfl _ _ _ MapSI rfl 9 3 lawS Try.underlying150 _ b ws.length _ rfl HO.out (by unfold maxLen; omega) _ _ _ rfl rfl (keyS_of hs) _ [] (plainElem_int Try.underlying3 hwf) ?_))
  intro w2 hown2 hg2
  have hlay2 : w2.heap[a]? = some (Obj.cells #[.map (some b), .slice av ws.length cv] IntT) := by
    rw [hg2.block a hal (fun e => HAB.out (Option.some.inj e))]; exact H.out.lay
  have d1 : w2.cell? ⟨a, 1, none⟩ = some (.slice av ws.length cv) := cellB hlay2 rfl
  have df : w2.frozen? ⟨a, 1, none⟩ = false := frozenB hlay2
  have hrow2 : w2.ownsRow B 9 1 (.slice av ws.length cv) ws.length (strs ws) := by
    refine own_kept H.out.row hg2 (fun r e => ?_)
    cases e
    obtain ⟨es, clock, hb, _⟩ := HO.out
    exact ⟨_, hb, rfl⟩
  have bA : Below w2.heap.size w2 (w2.alloc (.cells #[.string s] 9)) := (Below.refl _ _).alloc (Nat.le_refl _) _
  have hBw : B ≤ w2.heap.size := Nat.le_trans H.out.ga (Nat.le_of_lt (Nat.lt_of_lt_of_le hal hg2.size))
  have HL2 := Lib.hid hlay2
  have HR2 := Lib.hid hrow2
  have HRA := Lib.hid (own_hold hrow2 (Hold.below bA))
  have HG2 := Lib.hid hg2
  have HO2 := Lib.hid hown2
  have HBA := Lib.hid bA
  have hal2 : a < w2.heap.size := Nat.lt_of_lt_of_le hal hg2.size
  clear hlay2 hrow2 hg2 hown2 bA c0 c1
  go_wp2_with (first
    | (at_builtin; refine wpList_append_own_at _ rfl _ _ 97 rfl B 9 i0 (.string ⟨#[]⟩) 1 16 Try.underlying97 hi0 hz0 hz1 hz2 rfl (by decide) _ _ _ rfl HRA.out ⟨w2.heap.size, 0, none⟩ 1 1 [.string s] rfl rfl (cell_one_new _ _ _) (by simp [Value.oneCell']) (by unfold maxLen; omega) (by omega) (by simp; omega) ?_
       intro v' w5 hown' hg' hnil hw
       obtain ⟨sa, sc, rfl⟩ := (row_of_own hown').shape
       have hl5 : w5.heap[a]? = some (Obj.cells #[.map (some b), .slice av ws.length cv] IntT) := by
         rw [hg'.block a (by simp; omega) (fun e => (HAV.out a e.symm).1 rfl), HBA.out.block a hal2]; exact HL2.out
       have x5 : w5.cell? ⟨a, 1, none⟩ = some (.slice av ws.length cv) := cellB hl5 rfl
       have f5 : w5.frozen? ⟨a, 1, none⟩ = false := frozenB hl5
       have HL5 := Lib.hid hl5
       have HO5 := Lib.hid hown'
       have HG5 := Lib.hid hg'
       have HWW := Lib.hid hw
       clear hl5 hown' hg' hnil hw))
  go_returns
  have g1 : Below B w w2 := grown_below HG2.out (by have := H.out.ga; omega) (fun k e => by cases e; exact H.out.gb)
  have g2 : Below B w (w2.alloc (.cells #[.string s] 9)) := g1.trans (HBA.out.mono hBw)
  have g3 : Below B w w5 := g2.trans (grown_below HG5.out (by simp; omega) (fun k e => (HAV.out k e).2.2.2))
  have hab := HAB.out
  have hba : b ≠ a := fun e => hab e.symm
  refine ⟨rfl, g3.setCell (p := ⟨a, 1, none⟩) H.out.ga _, fun k hk h1 h2 h3 => ?_, .slice sa (ws.length + 1) sc, ⟨?_, H.out.ga, H.out.gb, ?_, _, ?_, HD.out.snoc HI.out (lawS.key (keyS_of hs))⟩, ?_⟩
  · rw [Below.heap_setCell _ _ _ _ h1, HG5.out.block k (by have := HG2.out.size; simp; omega) (fun e => h3 e.symm), HBA.out.block k (Nat.lt_of_lt_of_le hk HG2.out.size), HG2.out.block k hk (fun e => h2 (Option.some.inj e))]
  · exact setCellB HL5.out
  · have := own_hold HO5.out (Hold.setCell (o := 1) (v := .slice sa (ws.length + 1) sc) HL5.out (by decide))
    simpa [strs] using this
  · have m1 := HO2.out.alloc (.cells #[.string s] 9)
    have m2 := m1.kept HG5.out (fun e => (HAV.out b e.symm).2.1 rfl)
    have m3 := m2.kept (grownBy_set w5 a 1 (.slice sa (ws.length + 1) sc)) (fun e => hba (Option.some.inj e))
    simpa using m3
  · rcases HWW.out with e | e
    · exact .inl e
    · exact .inr ⟨_, e, by have := HG2.out.size; simp; omega⟩

end Go.Proofs.Ytmbaedldikobcaa
