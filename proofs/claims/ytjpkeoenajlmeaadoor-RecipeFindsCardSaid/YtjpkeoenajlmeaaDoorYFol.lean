/-
  The law's given: both pools, the program's knowledge, what was given.
  What follow, Eval and Trace answer.
-/
import Derived.Test.YtjpkeoenajlmeaaDoorYLive
import Derived.Test.YtjpkeoenajlmeaaDoorTROf
import Derived.Test.YtjpkeoenajlmeaaDoorTLent
import Derived.Test.YtjpkeoenajlmeaaDoorTOf
import Derived.Test.YtjpkeoenajlmeaaDoorTBeside
import Derived.Test.YtjpkeoenajlmeaaDoorTRefP
import Derived.Test.YtjpkeoenajlmeaaDoorTAlike
import Derived.Test.YtjpkeoenajlmeaaDoorTMakesP
import Derived.Test.YtjpkeoenajlmeaaDoorYDoA
namespace Go.Proofs.YtjpkeoenajlmeaaDoor
open Go.RowKit Go.Maps
set_option linter.unusedVariables false

/-- Twain rows of terms that do not share a block. -/
def Twain (u v : Value) : Prop := ∀ r, u.ownBlock = some r → v.ownBlock ≠ some r
theorem two_left {w : World} {u u' v : Value} (h : Twain u v) (hu : u'.ownBlock = u.ownBlock ∨ ∃ q, u'.ownBlock = some q ∧ w.heap.size ≤ q) (hv : ∀ r, v.ownBlock = some r → r < w.heap.size) : Twain u' v := by
  intro r hr e
  rcases hu with hu | ⟨q, hq, hs⟩
  · exact h r (hu ▸ hr) e
  · rw [hq] at hr; cases hr
    have := hv _ e; omega
theorem two_right {w : World} {u v v' : Value} (h : Twain u v) (hv : v'.ownBlock = v.ownBlock ∨ ∃ q, v'.ownBlock = some q ∧ w.heap.size ≤ q) (hu : ∀ r, u.ownBlock = some r → r < w.heap.size) : Twain u v' := by
  intro r hr e
  rcases hv with hv | ⟨q, hq, hs⟩
  · exact h r hr (hv ▸ e)
  · rw [hq] at e; cases e
    have := hu _ hr; omega
theorem own_lt {w : World} {base n size : Nat} {e : TypeId} {v : Value} {xs : List Value} (h : w.ownsRow base e size v n xs) : ∀ r, v.ownBlock = some r → r < w.heap.size := fun r hr => by
  obtain ⟨_, cur, hc⟩ := own_type h hr
  exact (Array.getElem?_eq_some_iff.1 hc).1
/-- Knowledge stays where its own blocks do. -/
theorem IsKnow.stay {w w' : World} {B2 k mb a : Nat} {gv : Value} {p : Pl} {g : List Int} {s : Int → Option Way} (hk : IsKnow w B2 k gv mb a p g s) (h : ∀ j, j < w.heap.size → (j = k ∨ j = mb ∨ gv.ownBlock = some j) → w'.heap[j]? = w.heap[j]?) : IsKnow w' B2 k gv mb a p g s := by
  have hml : mb < w.heap.size := hk.seen.lt
  refine ⟨by rw [h k hk.lt (.inl rfl)]; exact hk.lay, hk.gk, hk.gm, ?_, hk.seen.same (fun es c hm => by rw [h mb hml (.inr (.inl rfl))]; exact hm), hk.ok⟩
  obtain ⟨h1, h3⟩ := hk.row
  refine ⟨h1, ?_⟩
  rcases h3 with h3 | ⟨r, cap, cur, rfl, hb, hr, rest⟩
  · exact .inl h3
  · exact .inr ⟨r, cap, cur, rfl, hb, by rw [h r (Array.getElem?_eq_some_iff.1 hr).1 (.inr (.inr rfl))]; exact hr, rest⟩
/-- Knowledge stays where another row of terms grows. -/
theorem IsKnow.beside {w w' : World} {B2 k mb a B : Nat} {gv xg : Value} {p : Pl} {g l : List Int} {s : Int → Option Way} (hk : IsKnow w B2 k gv mb a p g s) (hx : w.ownsRow B TermT 1 xg l.length (ints l)) (h2 : Twain gv xg) (hg : w.grownBy w' xg.ownBlock) : IsKnow w' B2 k gv mb a p g s := by
  obtain ⟨es, c, hm⟩ := hk.seen.mapb
  refine hk.stay fun j hj hor => hg.block j hj (fun e => ?_)
  obtain ⟨_, cur, hc⟩ := own_type hx e.symm
  rcases hor with rfl | rfl | h
  · rw [hk.lay] at hc
    simp only [Option.some.injEq, Obj.cells.injEq] at hc
    exact absurd hc.2.1 (by decide)
  · rw [hm] at hc; cases hc
  · exact h2 j h e.symm

/-- Another row of terms stays where knowledge grows. -/
theorem row_kg {w w' : World} {B B2 k mb a n : Nat} {gv xg : Value} {p : Pl} {g : List Int} {s : Int → Option Way} {xs : List Value} (hr : w.ownsRow B TermT 1 xg n xs) (hk : IsKnow w B2 k gv mb a p g s) (h2 : Twain gv xg) (hg : KG w B2 k mb gv w') : w'.ownsRow B TermT 1 xg n xs := by
  obtain ⟨h1, h3⟩ := hr
  refine ⟨h1, ?_⟩
  rcases h3 with h3 | ⟨r, cap, cur, rfl, hb, hr, rest⟩
  · exact .inl h3
  · refine .inr ⟨r, cap, cur, rfl, hb, ?_, rest⟩
    rw [hg.keep r (Array.getElem?_eq_some_iff.1 hr).1 (fun e => ?_) (fun e => ?_) (fun e => h2 r e rfl)]
    · exact hr
    · rw [e, hk.lay] at hr
      simp only [Option.some.injEq, Obj.cells.injEq] at hr
      exact absurd hr.2.1 (by decide)
    · obtain ⟨es, c, hm⟩ := hk.seen.mapb
      rw [e, hm] at hr; cases hr
/-- Knowledge stays where a cell of another type is set. -/
theorem IsKnow.set {w : World} {B2 k mb a c o : Nat} {gv u : Value} {p : Pl} {g : List Int} {s : Int → Option Way} {cs : Array Value} {T : TypeId} (hk : IsKnow w B2 k gv mb a p g s) (hs : w.heap[c]? = some (Obj.cells cs T)) (h1 : T ≠ KnowT) (h2 : T ≠ TermT) : IsKnow (w.setCell ⟨c, o, none⟩ u) B2 k gv mb a p g s := by
  obtain ⟨es, cl, hm⟩ := hk.seen.mapb
  refine hk.stay fun j hj hor => Below.heap_setCell _ _ _ _ (fun e => ?_)
  rcases hor with rfl | rfl | h
  · have := hk.lay
    rw [e, hs] at this
    simp only [Option.some.injEq, Obj.cells.injEq] at this
    exact h1 this.2.1
  · rw [e, hs] at hm; cases hm
  · obtain ⟨_, cur, hc⟩ := own_type hk.row h
    rw [e, hs] at hc
    simp only [Option.some.injEq, Obj.cells.injEq] at hc
    exact h2 hc.2.1

theorem mem_take_step (l : List Int) (x : Int) (j : Nat) (h : j < l.length) : decide (x ∈ l.take (j + 1)) = (decide (x ∈ l.take j) || (l[j] == x)) := by
  have e : l.take (j + 1) = l.take j ++ [l[j]] := by simp
  rw [e]
  by_cases h1 : x ∈ l.take j
  · have h2 : x ∈ l.take j ++ [l[j]] := List.mem_append_left _ h1
    rw [decide_eq_true h1, decide_eq_true h2, Bool.true_or]
  · rw [decide_eq_false h1, Bool.false_or]
    by_cases h2 : l[j] = x
    · have h3 : x ∈ l.take j ++ [l[j]] := List.mem_append_right _ (by rw [h2]; simp)
      rw [decide_eq_true h3]; simp [h2]
    · have h3 : x ∉ l.take j ++ [l[j]] := fun hm => by
        rcases List.mem_append.1 hm with h4 | h4
        · exact h1 h4
        · exact h2 (List.mem_singleton.1 h4).symm
      rw [decide_eq_false h3]; simp [h2]
abbrev SidesT : TypeId := 52
/-- What given leaves: the sides at sb. -/
structure Sides (w : World) (B sb pa b : Nat) (vv : Value) (k mb : Nat) (gv : Value) (s : Int → Option Way) (ra : Nat) (rl rs rd gvl : Value) (q : Pl) (gl : List Int) : Prop where
  lay : w.heap[sb]? = some (Obj.cells #[.pointer (some ⟨pa, 0, none⟩), .pointer (some ⟨k, 0, none⟩), .pointer (some ⟨ra, 0, none⟩), gvl] SidesT)
  gsb : B ≤ sb
  pool : IsPool w B pa b vv q
  know : IsKnow w B k gv mb pa q gl s
  ref : IsRef w B ra rl rs rd q
  row : w.ownsRow B TermT 1 gvl gl.length (ints gl)
  mbb : mb ≠ b
  two : Twain gv gvl
theorem Sides.below {w w' : World} {B sb pa b : Nat} {vv : Value} {k mb : Nat} {gv : Value} {s : Int → Option Way} {ra : Nat} {rl rs rd gvl : Value} {q : Pl} {gl : List Int} (h : Sides w B sb pa b vv k mb gv s ra rl rs rd gvl q gl) (hb : Below w.heap.size w w') : Sides w' B sb pa b vv k mb gv s ra rl rs rd gvl q gl :=
  ⟨Hold.below hb _ _ h.lay, h.gsb, h.pool.below hb, h.know.below hb, h.ref.below hb, own_hold h.row (Hold.below hb), h.mbb, h.two⟩
/-- What given makes of trees, in plain data: the pool, what was given. -/
def givP : Fo → Pl → List Int → Pl × List Int
  | .nil, q, g => (q, g)
  | .cons n k r, q, g => givP r (ofP n k q).2.2 (if (ofP n k q).2.1 = 0 then addG (ofP n k q).2.2 g (ofP n k q).1 else g)
def GivenPost (w : World) (fo : Fo) (e : Ending) (w' : World) : Prop :=
  ∃ (sb pa b : Nat) (vv : Value) (k mb : Nat) (gv : Value) (s : Int → Option Way) (ra : Nat) (rl rs rd gvl : Value) (q : Pl) (gl : List Int), e = .returned (.tuple #[.pointer (some ⟨sb, 0, none⟩), .bool true]) ∧ Sides w' w.heap.size sb pa b vv k mb gv s ra rl rs rd gvl q gl ∧ q.length ≤ fo.size ∧ gl.length ≤ fo.len ∧ Below w.heap.size w w' ∧ (q, gl) = givP fo [] []

set_option maxRecDepth 100000 in
set_option maxHeartbeats 25600000 in
theorem lgiven_any {w : World} (hl : Laid w) {fo : Fo} {vn : Value} (hk : IsK w (fun b => b < w.heap.size) vn fo) (hok : OkF fo) (hsz : fo.size ≤ 6000) (hln : fo.len ≤ 400) : Calls Tryd.prog 19 #[vn] w (GivenPost w fo) := by
  obtain ⟨av, cv, rfl, hx⟩ := hk.shape
  have HX := Lib.hid hx
  have HL := Lib.hid hl
  have HOK := Lib.hid hok
  have HBG := Lib.hid hl.lt
  clear hk hl hok hx
  go_enter Tryd.func19, Tryd.ntmps19
  go_wp2_with fail
  refine (pnew w).mono ?_
  rintro e w2 ⟨rfl, p2, u2⟩
  have HA2 := Lib.hid u2
  have HP2 := Lib.hid p2
  have hsz2 := u2.size
  clear u2 p2
  go_wp2_with fail
  refine (rnew w2 w.heap.size HA2.out.size).mono ?_
  rintro e w3 ⟨rfl, r3, u3⟩
  have b4 := bA0 w3 (.cells #[.pointer (some ⟨w.heap.size + 1, 0, none⟩), .pointer none, .pointer (some ⟨w2.heap.size, 0, none⟩), .slice none 0 0] SidesT)
  have hs4 : (w3.alloc (.cells #[.pointer (some ⟨w.heap.size + 1, 0, none⟩), .pointer none, .pointer (some ⟨w2.heap.size, 0, none⟩), .slice none 0 0] SidesT)).heap[w3.heap.size]? = some (Obj.cells #[.pointer (some ⟨w.heap.size + 1, 0, none⟩), .pointer none, .pointer (some ⟨w2.heap.size, 0, none⟩), .slice none 0 0] SidesT) := heap_alloc_new _ _
  have HP3 := Lib.hid ((HP2.out.below u3).below b4)
  have HA3 := Lib.hid (bmore HA2.out (bmore u3 b4))
  have HR3 := Lib.hid (r3.below b4)
  have HS4 := Lib.hid hs4
  have HSB := Lib.hid (show w.heap.size ≤ w3.heap.size from Nat.le_trans hsz2 u3.size)
  have hpb : w.heap.size < w2.heap.size := HP2.out.lt |> Nat.lt_of_succ_lt
  have HN4 := Lib.hid (show w.heap.size < (w3.alloc (.cells #[.pointer (some ⟨w.heap.size + 1, 0, none⟩), .pointer none, .pointer (some ⟨w2.heap.size, 0, none⟩), .slice none 0 0] SidesT)).heap.size from Nat.lt_of_lt_of_le hpb (Nat.le_trans u3.size b4.size))
  have z0 := cellB (j := 0) hs4 rfl
  clear u3 r3 HP2 HA2 b4 hs4 hpb hsz2
  generalize w.heap.size + 1 = pa at *
  generalize w2.heap.size = ra at *
  go_wp2_with fail
  generalize (w3.alloc (.cells #[.pointer (some ⟨pa, 0, none⟩), .pointer none, .pointer (some ⟨ra, 0, none⟩), .slice none 0 0] SidesT)) = w4 at *
  generalize w3.heap.size = sb at *
  refine (knew w4 pa w.heap.size [] HA3.out.size).mono ?_
  rintro e w5 ⟨rfl, k5, u5⟩
  have hs5 := Hold.below u5 _ _ HS4.out
  have HP5 := Lib.hid (HP3.out.below u5)
  have HR5 := Lib.hid (HR3.out.below u5)
  have HA5 := Lib.hid (bmore HA3.out u5)
  have HS5 := Lib.hid hs5
  have HK5 := Lib.hid k5
  have HMB := Lib.hid (show w4.heap.size ≠ w.heap.size by have := HN4.out; omega)
  clear u5 k5 HP3 HR3 HA3 HS4 z0 HN4
  generalize w4.heap.size + 1 = k at *
  generalize w4.heap.size = mb at *
  have hT : ∀ T, T ≠ SidesT → Hold T w5 (w5.setCell ⟨sb, 1, none⟩ (.pointer (some ⟨k, 0, none⟩))) := fun T h => Hold.setCell HS5.out (fun e => h e.symm)
  have hmp : ∀ (j : Nat) es c, w5.heap[j]? = some (.map es c) → (w5.setCell ⟨sb, 1, none⟩ (.pointer (some ⟨k, 0, none⟩))).heap[j]? = some (.map es c) := fun j es c h => by
    rw [Below.heap_setCell _ _ _ _ (fun e => by rw [e, HS5.out] at h; cases h)]; exact h
  have HP6 := Lib.hid (HP5.out.heldK (hT _ (by decide)) (hT _ (by decide)) (fun es c hm => hmp _ es c hm))
  have HR6 := Lib.hid (HR5.out.hold (hT _ (by decide)) (hT _ (by decide)) (hT _ (by decide)))
  have HK6 : Hid (IsKnow (w5.setCell ⟨sb, 1, none⟩ (.pointer (some ⟨k, 0, none⟩))) w.heap.size k (.slice none 0 0) mb pa [] [] (fun _ => none)) := Lib.hid ⟨hT _ (by decide) _ _ HK5.out.lay, HK5.out.gk, HK5.out.gm, own_hold HK5.out.row (hT _ (by decide)), HK5.out.seen.same (fun es c hm => hmp _ es c hm), HK5.out.ok⟩
  have HS6 : Hid ((w5.setCell ⟨sb, 1, none⟩ (.pointer (some ⟨k, 0, none⟩))).heap[sb]? = some (Obj.cells #[.pointer (some ⟨pa, 0, none⟩), .pointer (some ⟨k, 0, none⟩), .pointer (some ⟨ra, 0, none⟩), .slice none 0 0] SidesT)) := Lib.hid (by rw [setCellB HS5.out]; rfl)
  have HA6 : Hid (Below w.heap.size w (w5.setCell ⟨sb, 1, none⟩ (.pointer (some ⟨k, 0, none⟩)))) := Lib.hid (HA5.out.setCell (p := ⟨sb, 1, none⟩) HSB.out _)
  clear hT hmp HP5 HR5 HA5
  have x1 := cellB (j := 1) hs5 rfl
  have f1 := frozenB (j := 1) hs5
  have y0 := cellB (j := 0) HS6.out rfl
  have y1 := cellB (j := 1) HS6.out rfl
  clear hs5 HS5 HK5
  go_wp2_with fail
  generalize (w5.setCell ⟨sb, 1, none⟩ (.pointer (some ⟨k, 0, none⟩))) = w6 at *
  clear y0 y1 x1 f1
  go_loopw [5] (fun v5 wr => ∃ (i : Nat) (r : Fo) (vv rl rs rd gv gvl : Value) (q : Pl) (gl : List Int) (s : Int → Option Way), v5 = .int .i64 (i : Int) ∧ i + r.len = fo.len ∧ q.length + r.size ≤ fo.size ∧ OkF r ∧ (0 < r.len → ∃ b o, av = some ⟨b, o, none⟩ ∧ b < w.heap.size ∧ AtF w (fun b => b < w.heap.size) r b (o + i * 6)) ∧ Below w.heap.size w wr ∧ Sides wr w.heap.size sb pa w.heap.size vv k mb gv s ra rl rs rd gvl q gl ∧ gl.length ≤ i ∧ givP fo [] [] = givP r q gl) (fun v _ => fo.len - (intOf v).toNat)
  case atStart => exact ⟨0, fo, _, _, _, _, _, _, [], [], _, rfl, by omega, by simp, HOK.out, fun hp => by obtain ⟨b, o, q1, q2, q3⟩ := HX.out hp; exact ⟨b, o, q1, q2, by simpa using q3⟩, HA6.out, ⟨HS6.out, HSB.out, HP6.out, HK6.out, HR6.out, World.ownsRow_nil _ _ _ 1, HMB.out, fun r hr => by simp [Value.ownBlock] at hr⟩, Nat.zero_le _, rfl⟩
  case round =>
    clear HP6 HR6 HK6 HS6 HA6 HX HMB
    obtain ⟨i, r, vv, rl, rs, rd, gv, gvl, q, gl, s, rfl, hi, hqs, hokr, hat, hbr, hsd, hgli, hgp⟩ := hrel
    have HSD := Lib.hid hsd
    have HGP := Lib.hid hgp
    have HBR := Lib.hid hbr
    obtain ⟨gva, gvc, rfl⟩ := (row_of_own hsd.row).shape
    clear hsd hbr hgp
    by_cases hlt : 0 < r.len
    · obtain ⟨n', kd, rr, rfl⟩ := fo_pos hlt
      simp only [Fo.len] at hi
      simp only [Fo.size] at hqs
      obtain ⟨b, o, rfl, hbw, hat'⟩ := hat hlt
      obtain ⟨c0, c1, c2, c3, c4, v', c5, hk', hat2⟩ := hat'.cons
      obtain ⟨av2, cv2, rfl, _⟩ := hk'.shape
      obtain ⟨ok1, ok2, ok3, ok4, ok5⟩ := hokr
      have hlent := fun (W : World) (h : Below wr.heap.size wr W) => lent_any n' kd ((hk'.below HBR.out).below h) (by omega)
      have LE := Lib.hid hlent
      have hgood := ofP_ok n' kd q HSD.out.pool.ok ⟨ok2, ok3, ok4.bare, trivial⟩ (by simp only [Fo.size]; omega)
      have hroom : (lkT n' kd 0 0).2 = 0 → (grT n' kd q).2.1 = 0 := fun h => (grT_good n' kd q HSD.out.pool.ok (lkT_good h).1 ⟨ok2, ok3, ok4.bare, trivial⟩ (lkT_good h).2.1 (lkT_good h).2.2 (by simp only [Fo.size]; omega)).1
      have HOF := Lib.hid (fun (W : World) (v : Value) (h1 : Laid W) (h2 : IsPool W w.heap.size pa w.heap.size vv q) (h3 : IsK W (Safe W w.heap.size) v kd) => pof HBG.out h1 h2 h3 ok1 ok2 ok3 ok4 hroom)
      have HRO := Lib.hid (fun (W : World) (v : Value) (h2 : IsRef W w.heap.size ra rl rs rd q) (h3 : IsK W (Safe W w.heap.size) v kd) => rof h2 h3 ok1 ok2 ok3 ok4 hroom)
      have HSZ : Hid ((ofP n' kd q).2.2.length + rr.size ≤ fo.size ∧ ((ofP n' kd q).2.1 = 0 → inP (ofP n' kd q).2.2 (ofP n' kd q).1 = true) ∧ ∃ e, (ofP n' kd q).2.2 = q ++ e) := Lib.hid (by
        rcases hgood with ⟨h0, h⟩ | ⟨_, _, h3, h4, _, e, h6, h7⟩
        · rw [h]; exact ⟨by simp only; omega, fun h => absurd h h0, [], by simp⟩
        · rw [h3]
          refine ⟨?_, fun _ => h4.1, e, h6⟩
          rw [h6]
          simp only [Fo.size] at h7
          simp; omega)
      have HGP2 : Hid (givP fo [] [] = givP rr (ofP n' kd q).2.2 (if (ofP n' kd q).2.1 = 0 then addG (ofP n' kd q).2.2 gl (ofP n' kd q).1 else gl)) := Lib.hid (by rw [HGP.out]; rfl)
      have HAT := Lib.hid hat2
      have HKW := Lib.hid hk'
      have HOKR := Lib.hid ok5
      clear hgood hroom hat hat' hat2 hk' ok1 ok2 ok3 ok4 ok5 HGP hlent
      generalize ofP n' kd q = oq at *
      obtain ⟨o1, o2, q2⟩ := oq
      obtain ⟨hsz2, hino, eq, rfl⟩ : q2.length + rr.size ≤ fo.size ∧ (o2 = 0 → inP q2 o1 = true) ∧ ∃ e, q2 = q ++ e := HSZ.out
      have HINO := Lib.hid hino
      clear hino
      have hoo : (o1 != o1) = false := by simp
      have hee : (o2 != o2) = false := by simp
      obtain ⟨k1, f1, t1, n1, s1, y1, z1⟩ := n'
      have LE2 : Hid (∀ W : World, Below wr.heap.size wr W → Calls Tryd.prog 10 #[.agg #[.int .i64 k1, .int .i64 f1, .int .i64 t1, .int .u64 n1, .string s1, .slice av2 kd.len cv2]] W fun e w4 => ∃ v4, e = .returned (.agg #[.int .i64 k1, .int .i64 f1, .int .i64 t1, .int .u64 n1, .string s1, v4]) ∧ IsK w4 (NewT W w4) v4 kd ∧ Below W.heap.size W w4) := Lib.hid (fun W h => LE.out W h)
      clear LE
      simp only [treeA] at *
      have y0 := cellB (j := 0) HSD.out.lay rfl
      have y2 := cellB (j := 2) HSD.out.lay rfl
      have e0 := bcellAt HBR.out c0
      have e1 := bcellAt HBR.out c1
      have e2 := bcellAt HBR.out c2
      have e3 := bcellAt HBR.out c3
      have e4 := bcellAt HBR.out c4
      have e5 := bcellAt HBR.out c5
      have hi0 : (0 : Int) ≤ (i : Int) := by omega
      have hi1 : (i : Int) < (fo.len : Int) := by omega
      have HKP := Lib.hid (fun (V : World) (hb : Below wr.heap.size wr V) => (show V.cell? ⟨sb, 0, none⟩ = some (.pointer (some ⟨pa, 0, none⟩)) ∧ V.cell? ⟨b, o + i * 6, none⟩ = some (.int .i64 k1) ∧ V.cell? ⟨b, o + i * 6 + 1, none⟩ = some (.int .i64 f1) ∧ V.cell? ⟨b, o + i * 6 + 2, none⟩ = some (.int .i64 t1) ∧ V.cell? ⟨b, o + i * 6 + 3, none⟩ = some (.int .u64 n1) ∧ V.cell? ⟨b, o + i * 6 + 4, none⟩ = some (.string s1) ∧ V.cell? ⟨b, o + i * 6 + 5, none⟩ = some (.slice av2 kd.len cv2) from ⟨bcellAt hb y0, bcellAt hb e0, bcellAt hb e1, bcellAt hb e2, bcellAt hb e3, bcellAt hb e4, bcellAt hb e5⟩))
      have HKQ := Lib.hid (fun (V V' : World) (hs : V.heap[sb]? = some (Obj.cells #[.pointer (some ⟨pa, 0, none⟩), .pointer (some ⟨k, 0, none⟩), .pointer (some ⟨ra, 0, none⟩), .slice gva gl.length gvc] SidesT)) (hb : Below w.heap.size w V) => (show V.cell? ⟨sb, 0, none⟩ = some (.pointer (some ⟨pa, 0, none⟩)) ∧ V.cell? ⟨b, o + i * 6, none⟩ = some (.int .i64 k1) ∧ V.cell? ⟨b, o + i * 6 + 1, none⟩ = some (.int .i64 f1) ∧ V.cell? ⟨b, o + i * 6 + 2, none⟩ = some (.int .i64 t1) ∧ V.cell? ⟨b, o + i * 6 + 3, none⟩ = some (.int .u64 n1) ∧ V.cell? ⟨b, o + i * 6 + 4, none⟩ = some (.string s1) ∧ V.cell? ⟨b, o + i * 6 + 5, none⟩ = some (.slice av2 kd.len cv2) from ⟨cellB (j := 0) hs rfl, bcellAt hb c0, bcellAt hb c1, bcellAt hb c2, bcellAt hb c3, bcellAt hb c4, bcellAt hb c5⟩))
      go_wp2_with fail
      go_region_held3 (fun V => V.cell? ⟨sb, 0, none⟩ = some (.pointer (some ⟨pa, 0, none⟩)) ∧ V.cell? ⟨b, o + i * 6, none⟩ = some (.int .i64 k1) ∧ V.cell? ⟨b, o + i * 6 + 1, none⟩ = some (.int .i64 f1) ∧ V.cell? ⟨b, o + i * 6 + 2, none⟩ = some (.int .i64 t1) ∧ V.cell? ⟨b, o + i * 6 + 3, none⟩ = some (.int .u64 n1) ∧ V.cell? ⟨b, o + i * 6 + 4, none⟩ = some (.string s1) ∧ V.cell? ⟨b, o + i * 6 + 5, none⟩ = some (.slice av2 kd.len cv2)) ((first | (refine HKP.out _ ?_; first | exact bd _ | exact bdn _ _ | exact bmore (bd _) u4) | exact HKQ.out _ wr HS6.out HA6.out))
        ((first
          | ((with_reducible refine (LE2.out _ (bd _)).mono ?_); rintro e w4 ⟨v4, rfl, k4, u4⟩)
          | ((with_reducible refine (HOF.out _ _ (HL.out.below (bmore HBR.out (bmore (bd _) u4))) (HSD.out.pool.below (bmore (bd _) u4)) (k4.newT (B := w.heap.size))).mono ?_); rintro e w6 ⟨rfl, g6⟩; have HS6 := Lib.hid (g6.hold (HSD.out.pool.below (bmore (bd _) u4)) (T := SidesT) (by decide) (by decide) _ _ (Hold.below (bmore (bd _) u4) _ _ HSD.out.lay)); have HA6 := Lib.hid ((bmore HBR.out (bmore (bd _) u4)).trans g6.1))))
      have hu := bmore (bd wr) u4
      have hsd4 := HSD.out.below hu
      have HQ6 := Lib.hid (IsRef.grew hsd4.pool hsd4.ref g6)
      have HK6 := Lib.hid (hsd4.know.grow hsd4.pool hsd4.mbb g6)
      have HR6 := Lib.hid (own_hold hsd4.row (g6.hold hsd4.pool (T := TermT) (by decide) (by decide)))
      obtain ⟨u6, _, v6, p6, _⟩ := g6
      have HP6 := Lib.hid p6
      have hkl := (HKW.out.below HA6.out).keep (G' := Safe w6 w.heap.size) (fun b hb _ => ⟨.inl hb, rfl⟩)
      have HKL := Lib.hid hkl
      have hs6 := HS6.out
      have z2 := cellB (j := 2) hs6 rfl
      clear u6 p6 hkl hs6 hsd4 hu k4 u4 e0 e1 e2 e3 e4 e5 y0 y2 HKP HKQ LE2 HOF
      have e0 := bcellAt HA6.out c0
      have e1 := bcellAt HA6.out c1
      have e2 := bcellAt HA6.out c2
      have e3 := bcellAt HA6.out c3
      have e4 := bcellAt HA6.out c4
      have e5 := bcellAt HA6.out c5
      have HKP := Lib.hid (fun (V : World) (hb : Below w6.heap.size w6 V) => (show V.cell? ⟨sb, 2, none⟩ = some (.pointer (some ⟨ra, 0, none⟩)) ∧ V.cell? ⟨b, o + i * 6, none⟩ = some (.int .i64 k1) ∧ V.cell? ⟨b, o + i * 6 + 1, none⟩ = some (.int .i64 f1) ∧ V.cell? ⟨b, o + i * 6 + 2, none⟩ = some (.int .i64 t1) ∧ V.cell? ⟨b, o + i * 6 + 3, none⟩ = some (.int .u64 n1) ∧ V.cell? ⟨b, o + i * 6 + 4, none⟩ = some (.string s1) ∧ V.cell? ⟨b, o + i * 6 + 5, none⟩ = some (.slice av2 kd.len cv2) from ⟨bcellAt hb z2, bcellAt hb e0, bcellAt hb e1, bcellAt hb e2, bcellAt hb e3, bcellAt hb e4, bcellAt hb e5⟩))
      have HKQ := Lib.hid (fun (V V' : World) (hs : V.heap[sb]? = some (Obj.cells #[.pointer (some ⟨pa, 0, none⟩), .pointer (some ⟨k, 0, none⟩), .pointer (some ⟨ra, 0, none⟩), .slice gva gl.length gvc] SidesT)) (hb : Below w.heap.size w V) => (show V.cell? ⟨sb, 2, none⟩ = some (.pointer (some ⟨ra, 0, none⟩)) ∧ V.cell? ⟨b, o + i * 6, none⟩ = some (.int .i64 k1) ∧ V.cell? ⟨b, o + i * 6 + 1, none⟩ = some (.int .i64 f1) ∧ V.cell? ⟨b, o + i * 6 + 2, none⟩ = some (.int .i64 t1) ∧ V.cell? ⟨b, o + i * 6 + 3, none⟩ = some (.int .u64 n1) ∧ V.cell? ⟨b, o + i * 6 + 4, none⟩ = some (.string s1) ∧ V.cell? ⟨b, o + i * 6 + 5, none⟩ = some (.slice av2 kd.len cv2) from ⟨cellB (j := 2) hs rfl, bcellAt hb c0, bcellAt hb c1, bcellAt hb c2, bcellAt hb c3, bcellAt hb c4, bcellAt hb c5⟩))
      go_wp2_with fail
      go_region_held3 (fun V => V.cell? ⟨sb, 2, none⟩ = some (.pointer (some ⟨ra, 0, none⟩)) ∧ V.cell? ⟨b, o + i * 6, none⟩ = some (.int .i64 k1) ∧ V.cell? ⟨b, o + i * 6 + 1, none⟩ = some (.int .i64 f1) ∧ V.cell? ⟨b, o + i * 6 + 2, none⟩ = some (.int .i64 t1) ∧ V.cell? ⟨b, o + i * 6 + 3, none⟩ = some (.int .u64 n1) ∧ V.cell? ⟨b, o + i * 6 + 4, none⟩ = some (.string s1) ∧ V.cell? ⟨b, o + i * 6 + 5, none⟩ = some (.slice av2 kd.len cv2)) ((first | (refine HKP.out _ ?_; first | exact bd _ | exact bdn _ _) | exact HKQ.out _ w6 HS7.out HA7.out))
        (((with_reducible refine (HRO.out _ _ (HQ6.out.below (bd w6)) (HKL.out.safe (bd w6))).mono ?_); rintro e w7 ⟨rfl, x1, x2, x3, r7, m7⟩; have HS7 := Lib.hid (m7.hold (T := SidesT) (by decide) (by decide) (by decide) _ _ (Hold.below (bd w6) _ _ HS6.out)); have HA7 := Lib.hid ((HA6.out.trans ((bd w6).mono HA6.out.size)).trans m7.1)))
      have SD7 : Hid (Sides w7 w.heap.size sb pa w.heap.size v6 k mb gv s ra x1 x2 x3 (.slice gva gl.length gvc) (q ++ eq) gl) := Lib.hid ⟨m7.hold (T := SidesT) (by decide) (by decide) (by decide) _ _ (Hold.below (bd w6) _ _ HS6.out), HSD.out.gsb, IsPool.rmost (HP6.out.below (bd w6)) m7, (HK6.out.below (bd w6)).rmost m7, r7, own_hold (own_hold HR6.out (Hold.below (bd w6))) (m7.hold (T := TermT) (by decide) (by decide) (by decide)), HSD.out.mbb, HSD.out.two⟩
      clear m7 r7 e0 e1 e2 e3 e4 e5 c0 c1 c2 c3 c4 c5 z2 HQ6 HK6 HR6 HP6 HKL HRO HSD HKW HBR HA6 HS6 HKP HKQ HS7
      go_wp2_with fail
      refine (num9_any o2 w7).mono ?_
      rintro e w8 ⟨rfl, rfl⟩
      by_cases h0 : o2 = 0
      · subst h0
        have hgp2 := HGP2.out
        rw [if_pos rfl] at hgp2
        have HGP3 := Lib.hid hgp2
        have hin := HINO.out rfl
        have hti : i64R o1 := in_i64 SD7.out.pool.ok.len (.inr hin)
        have HTI := Lib.hid hti
        have HIN := Lib.hid hin
        clear hgp2 HGP2 HINO hin hti
        go_wp2_with fail
        go_loopw [10, 11] (fun v10 v11 wr => ∃ j : Nat, v10 = .bool (decide (o1 ∈ gl.take j)) ∧ v11 = .int .i64 (j : Int) ∧ j ≤ gl.length ∧ Below w7.heap.size w7 wr) (fun _ v _ => gl.length - (intOf v).toNat)
        case atStart => exact ⟨0, by simp, rfl, Nat.zero_le _, Below.refl _ _⟩
        case round =>
          obtain ⟨j, rfl, rfl, hj, hb⟩ := hrel
          have HB := Lib.hid hb
          have hsd := SD7.out.below hb
          have c3 := cellB (j := 3) hsd.lay rfl
          clear hb
          by_cases hlt : j < gl.length
          · obtain ⟨qa, qc, hqe, hqx⟩ := (row_of_own hsd.row).at
            obtain ⟨gb, go, rfl, qq⟩ := hqx (by omega)
            cases hqe
            have d3 := qq j _ (ints_at gl j hlt)
            have htk := mem_take_step gl o1 j hlt
            have HTK := Lib.hid htk
            generalize gl[j] = x at *
            generalize decide (o1 ∈ gl.take j) = d1 at *
            have hj0 : (0 : Int) ≤ (j : Int) := by omega
            have hj1 : (j : Int) < (gl.length : Int) := by omega
            clear qq hqx htk hsd
            cases d1 with
            | true =>
              go_wp2_with fail
              go_roundw
              case rel => exact ⟨j + 1, by rw [HTK.out, Bool.true_or], by go_num, by omega, HB.out⟩
              case measure => simp [intOf]; omega
            | false =>
              go_wp2_with fail
              go_roundw
              case rel => exact ⟨j + 1, by rw [HTK.out, Bool.false_or], by go_num, by omega, HB.out⟩
              case measure => simp [intOf]; omega
          · obtain rfl : j = gl.length := by omega
            have HSD := Lib.hid hsd
            rw [List.take_of_length_le (Nat.le_refl _)]
            have HA8 := Lib.hid (HA7.out.trans (HB.out.mono HA7.out.size))
            have y1 := cellB (j := 1) hsd.lay rfl
            have hll : gl.length ≤ 400 := by omega
            by_cases hm : o1 ∈ gl
            · rw [decide_eq_true hm]
              have hag : addG (q ++ eq) gl o1 = gl := by unfold addG; rw [if_neg (fun h => h.2 hm)]
              have AD := Lib.hid (add_any hsd.pool hsd.know hsd.mbb HTI.out)
              have HAG := Lib.hid hag
              clear hsd hag hlt
              go_wp2_with fail
              refine AD.out.mono ?_
              rintro e w9 ⟨he, gv3, s3, k3, kg3, hgv⟩
              rw [HIN.out, if_pos rfl] at he
              subst he
              rw [HAG.out] at k3
              have SD9 : Hid (Sides w9 w.heap.size sb pa w.heap.size v6 k mb gv3 s3 ra x1 x2 x3 (.slice gva gl.length gvc) (q ++ eq) gl) := Lib.hid ⟨kg3.hold HSD.out.know (by decide) (by decide) _ _ HSD.out.lay, HSD.out.gsb, HSD.out.pool.kg HSD.out.know HSD.out.mbb kg3, k3, HSD.out.ref.hold (kg3.hold HSD.out.know (by decide) (by decide)) (kg3.hold HSD.out.know (by decide) (by decide)) (kg3.hold HSD.out.know (by decide) (by decide)), row_kg HSD.out.row HSD.out.know HSD.out.two kg3, HSD.out.mbb, two_left HSD.out.two hgv (own_lt HSD.out.row)⟩
              have HA9 := Lib.hid (HA8.out.trans kg3.below)
              clear k3 kg3 AD
              go_wp2_with fail
              go_roundw
              case rel => exact ⟨i + 1, rr, _, _, _, _, _, _, q ++ eq, gl, _, by go_num, by omega, hsz2, HOKR.out, fun _ => ⟨b, o, rfl, hbw, by rw [show o + (i + 1) * 6 = o + i * 6 + 6 by omega]; exact HAT.out⟩, HA9.out, SD9.out, by omega, by rw [HGP3.out, HAG.out]⟩
              case measure => simp [intOf]; omega
            · rw [decide_eq_false hm]
              have hag : addG (q ++ eq) gl o1 = gl ++ [o1] := by unfold addG; rw [if_pos ⟨HIN.out, hm⟩]
              have HAG := Lib.hid hag
              have HRT := Lib.hid (own_hold hsd.row (Hold.below (bA0 wr (.cells #[.int .i64 o1] TermT))))
              clear hsd hag hlt
              go_wp2_with (at_builtin; refine wpList_append_tw rfl _ _ rfl w.heap.size (.slice gva gl.length gvc) gl rfl HRT.out wr.heap.size o1 rfl (cellB (j := 0) (heap_alloc_new _ _) rfl) (by omega) (Nat.le_trans HA8.out.size (bA0 _ _).size) ?_; intro v9 w9 hrow9 hg9 hv9; obtain ⟨sa, sc, rfl⟩ := (row_of_own hrow9).shape; have hs9 := hold_row HRT.out hg9 (T' := SidesT) (by decide) _ _ (Hold.below (bA0 wr (.cells #[.int .i64 o1] TermT)) _ _ HSD.out.lay); have x3c := cellB (j := 3) hs9 rfl; have f3 := frozenB (j := 3) hs9; have hset : (w9.setCell ⟨sb, 3, none⟩ (.slice sa (gl.length + 1) sc)).heap[sb]? = some (Obj.cells #[.pointer (some ⟨pa, 0, none⟩), .pointer (some ⟨k, 0, none⟩), .pointer (some ⟨ra, 0, none⟩), .slice sa (gl.length + 1) sc] SidesT) := (by rw [setCellB hs9]; rfl); have y1' := cellB (j := 1) hset rfl; have HX9 := Lib.hid hset; clear hset)
              have hA := bA0 wr (.cells #[.int .i64 o1] TermT)
              have hT : ∀ T, T ≠ TermT → T ≠ SidesT → Hold T wr (w9.setCell ⟨sb, 3, none⟩ (.slice sa (gl.length + 1) sc)) := fun T h h' => ((Hold.below hA).trans (hold_row HRT.out hg9 h)).trans (Hold.setCell hs9 (fun e => h' e.symm))
              have hk9 := ((HSD.out.know.below hA).beside HRT.out HSD.out.two hg9).set (o := 3) (u := .slice sa (gl.length + 1) sc) hs9 (by decide) (by decide)
              have hp9 := HSD.out.pool.heldK (hT _ (by decide) (by decide)) (hT _ (by decide) (by decide)) (fun es c hm => by
                rw [Below.heap_setCell _ _ _ _ (fun e => by
                  have := map_row HRT.out hg9 ((hA.block _ (Array.getElem?_eq_some_iff.1 hm).1).trans hm)
                  rw [e, hs9] at this; cases this)]
                exact map_row HRT.out hg9 ((hA.block _ (Array.getElem?_eq_some_iff.1 hm).1).trans hm))
              have hr9 := HSD.out.ref.hold (hT _ (by decide) (by decide)) (hT _ (by decide) (by decide)) (hT _ (by decide) (by decide))
              have hw9 : (w9.setCell ⟨sb, 3, none⟩ (.slice sa (gl.length + 1) sc)).ownsRow w.heap.size TermT 1 (.slice sa (gl.length + 1) sc) (gl ++ [o1]).length (ints (gl ++ [o1])) := by have h9 := own_hold hrow9 (Hold.setCell (o := 3) (v := .slice sa (gl.length + 1) sc) hs9 (T := TermT) (by decide)); rw [show (gl ++ [o1]).length = gl.length + 1 by simp] at h9 ⊢; exact h9
              have ht9 : Twain gv (.slice sa (gl.length + 1) sc) := two_right (w := wr) HSD.out.two (v' := .slice sa (gl.length + 1) sc) (by rw [show (gl ++ [o1]).length = gl.length + 1 by simp] at hv9; rcases hv9 with h | h; exact .inl h; exact .inr ⟨_, h, hA.size⟩) (own_lt HSD.out.know.row)
              have hb9 : Below w.heap.size w (w9.setCell ⟨sb, 3, none⟩ (.slice sa (gl.length + 1) sc)) := (((HA8.out.trans (hA.mono HA8.out.size)).trans (grown_below hg9 (Nat.le_trans HA8.out.size hA.size) (fun g e => (own_type HRT.out e).1)))).setCell (p := ⟨sb, 3, none⟩) HSD.out.gsb _
              have HP9 := Lib.hid hp9
              have HR9 := Lib.hid hr9
              have HK9 := Lib.hid hk9
              have HW9 := Lib.hid hw9
              have HT9 := Lib.hid ht9
              have HB9 := Lib.hid hb9
              clear hA hT hk9 hp9 hr9 hw9 ht9 hb9 hrow9 hg9 hv9 hs9 x3c f3 y1' HRT
              refine (add_any HP9.out HK9.out HSD.out.mbb HTI.out).mono ?_
              rintro e w10 ⟨he, gv3, s3, k3, kg3, hgv⟩
              rw [HIN.out, if_pos rfl] at he
              subst he
              rw [HAG.out] at k3
              have SD9 : Hid (Sides w10 w.heap.size sb pa w.heap.size v6 k mb gv3 s3 ra x1 x2 x3 (.slice sa (gl.length + 1) sc) (q ++ eq) (gl ++ [o1])) := Lib.hid ⟨kg3.hold HK9.out (by decide) (by decide) _ _ HX9.out, HSD.out.gsb, HP9.out.kg HK9.out HSD.out.mbb kg3, k3, HR9.out.hold (kg3.hold HK9.out (by decide) (by decide)) (kg3.hold HK9.out (by decide) (by decide)) (kg3.hold HK9.out (by decide) (by decide)), row_kg HW9.out HK9.out HT9.out kg3, HSD.out.mbb, two_left HT9.out hgv (own_lt HW9.out)⟩
              have HA9 := Lib.hid (HB9.out.trans kg3.below)
              clear k3 kg3
              go_wp2_with fail
              go_roundw
              case rel => exact ⟨i + 1, rr, _, _, _, _, _, _, q ++ eq, gl ++ [o1], _, by go_num, by omega, hsz2, HOKR.out, fun _ => ⟨b, o, rfl, hbw, by rw [show o + (i + 1) * 6 = o + i * 6 + 6 by omega]; exact HAT.out⟩, HA9.out, SD9.out, by simp; omega, by rw [HGP3.out, HAG.out]⟩
              case measure => simp [intOf]; omega
      · have hb : (o2 != 0) = true := by simp [h0]
        have hgp2 := HGP2.out
        rw [if_neg h0] at hgp2
        have HGP3 := Lib.hid hgp2
        clear hgp2 HGP2 HINO
        go_wp2_with fail
        go_roundw
        case rel => exact ⟨i + 1, rr, _, _, _, _, _, _, q ++ eq, gl, _, by go_num, by omega, hsz2, HOKR.out, fun _ => ⟨b, o, rfl, hbw, by rw [show o + (i + 1) * 6 = o + i * 6 + 6 by omega]; exact HAT.out⟩, HA7.out, SD7.out, by omega, HGP3.out⟩
        case measure => simp [intOf]; omega
    · obtain rfl := fo_nil (show r.len = 0 by omega)
      simp only [Fo.len, Nat.add_zero] at hi
      simp only [Fo.size, Nat.add_zero] at hqs
      subst hi
      clear hat hlt
      go_wp2_with fail
      go_returns
      exact ⟨sb, pa, w.heap.size, vv, k, mb, gv, s, ra, rl, rs, rd, _, q, gl, rfl, HSD.out, hqs, hgli, HBR.out, by rw [HGP.out]; rfl⟩
end Go.Proofs.YtjpkeoenajlmeaaDoor
namespace Go.Proofs.YtjpkeoenajlmeaaDoor
open Go.RowKit Go.Maps
set_option linter.unusedVariables false

theorem runP_cons (p : Pl) (g m : List Int) (o : OpP) (l : List OpP) : runP p g m (o :: l) = if (doP p g m o).2.1 ≠ 0 then (m, (doP p g m o).2.1, (doP p g m o).2.2) else runP (doP p g m o).2.2 g (m ++ [(doP p g m o).1]) l := rfl
theorem CodesP.same {w w' : World} {cb n : Nat} {m : Int → Code3} (h : CodesP w cb n m) (hs : ∀ es c, w.heap[cb]? = some (.map es c) → w'.heap[cb]? = some (.map es c)) : CodesP w' cb n m := by
  obtain ⟨D, ⟨es, c, hb, r⟩, h2⟩ := h
  exact ⟨D, ⟨es, c, hs _ _ hb, r⟩, h2⟩
theorem CodesP.lt {w : World} {cb n : Nat} {m : Int → Code3} (h : CodesP w cb n m) : cb < w.heap.size := by
  obtain ⟨D, h1, _⟩ := h
  exact h1.lt
theorem CodesP.below {w w' : World} {cb n : Nat} {m : Int → Code3} (h : CodesP w cb n m) (hb : Below w.heap.size w w') : CodesP w' cb n m :=
  h.same fun es c hm => by rw [hb.block cb h.lt]; exact hm
section
variable {w : World} {B a b : Nat} {v : Value} {p : Pl}
theorem Grew.map {w' : World} {q : Pl} {j : Nat} {es c} (hp : IsPool w B a b v p) (hg : Grew w B a b v q w') (hj : j ≠ b) (hm : w.heap[j]? = some (.map es c)) : w'.heap[j]? = some (.map es c) := by
  rw [hg.2.1 j (Array.getElem?_eq_some_iff.1 hm).1 (fun e => ?_) hj (fun e => ?_)]
  · exact hm
  · rw [e, hp.lay] at hm; cases hm
  · obtain ⟨_, cur, hc⟩ := own_type hp.row e
    rw [hm] at hc; cases hc
theorem GrewV.grown {w1 w2 : World} {v1 : Value} {row : Option Nat} (hg : GrewV w B a b v w1 v1) (hB : B ≤ w.heap.size) (h : w1.grownBy w2 row) (hr : ∀ k, row = some k → w.heap.size ≤ k) : GrewV w B a b v w2 v1 := by
  obtain ⟨g1, g2, g4⟩ := hg
  refine ⟨g1.trans (grown_below h (Nat.le_trans hB g1.size) (fun k e => Nat.le_trans hB (hr k e))), fun k hk h1 h2 h3 => ?_, g4⟩
  rw [h.block k (Nat.lt_of_lt_of_le hk g1.size) (fun e => by have := hr k e.symm; omega), g2 k hk h1 h2 h3]
variable {B2 k mb : Nat} {gv : Value} {g : List Int} {s : Int → Option Way}
theorem follow_nil (pa : Option Addr) (vl : Value) (w : World) : Calls Tryd.prog 55 #[.pointer pa, .pointer none, vl] w fun e w' => e = .returned (.tuple #[.slice none 0 0, .int .i64 2]) ∧ w = w' := by
  cases pa with
  | none =>
    go_enter Tryd.func55, Tryd.ntmps55
    go_wp2_with fail
    go_returns
    exact ⟨rfl, rfl⟩
  | some x =>
    go_enter Tryd.func55, Tryd.ntmps55
    go_wp2_with fail
    go_returns
    exact ⟨rfl, rfl⟩
def FolPost (w : World) (B a b : Nat) (v : Value) (r : List Int × Int × Pl) (e : Ending) (w' : World) : Prop :=
  ∃ mv, e = .returned (.tuple #[mv, .int .i64 r.2.1]) ∧ w'.ownsRow w.heap.size TermT 1 mv r.1.length (ints r.1) ∧ Grew w B a b v r.2.2 w'
set_option maxRecDepth 100000 in
set_option maxHeartbeats 12800000 in
theorem follow_any (hB : 0 < B) (hp : IsPool w B a b v p) (hl : Laid w) (hk : IsKnow w B2 k gv mb a p g s) (hmb : mb ≠ b) {B3 : Nat} {vl : Value} {l : List OpP} (hops : w.ownsRow B3 OpT 5 vl l.length (opsV l)) (hok : ∀ o ∈ l, OpOk o) :
    Calls Tryd.prog 55 #[.pointer (some ⟨a, 0, none⟩), .pointer (some ⟨k, 0, none⟩), vl] w (FolPost w B a b v (folP p g l)) := by
  obtain ⟨la, lc, rfl⟩ := (row_of_own hops).shape
  have hll : l.length ≤ maxLen := (row_of_own hops).small
  unfold maxLen at hll
  have HP := Lib.hid hp
  have HL := Lib.hid hl
  have HK := Lib.hid hk
  have HO := Lib.hid hops
  have HOK := Lib.hid hok
  have HBL := Lib.hid hB
  have hbl : b < w.heap.size := by obtain ⟨D, ho, _⟩ := hp.dict; exact ho.lt
  clear hp hl hk hops hok hmb hB
  by_cases h256 : 256 < l.length
  · obtain ⟨r, hr⟩ : ∃ r, r = folP p g l := ⟨_, rfl⟩
    rw [← hr]
    have HR : Hid (r = ([], 6, p)) := Lib.hid (by rw [hr]; unfold folP; exact if_pos h256)
    have hc : (256 : Int) < (l.length : Int) := by omega
    clear hr h256
    go_enter Tryd.func55, Tryd.ntmps55
    go_wp2_with fail
    go_returns
    rw [HR.out]
    exact ⟨_, rfl, World.ownsRow_nil _ _ _ 1, Grew.same HP.out (Below.refl _ _)⟩
  have hc : decide ((256 : Int) < (l.length : Int)) = false := decide_eq_false (by omega)
  by_cases h0 : l.length = 0
  · obtain ⟨r, hr⟩ : ∃ r, r = folP p g l := ⟨_, rfl⟩
    rw [← hr]
    have HR : Hid (r = ([], 3, p)) := Lib.hid (by rw [hr]; unfold folP; rw [if_neg h256]; exact if_pos h0)
    have hc0 : ((l.length : Int) == 0) = true := by simp [h0]
    clear hr h256 h0
    go_enter Tryd.func55, Tryd.ntmps55
    go_wp2_with fail
    go_returns
    rw [HR.out]
    exact ⟨_, rfl, World.ownsRow_nil _ _ _ 1, Grew.same HP.out (Below.refl _ _)⟩
  have hc0 : ((l.length : Int) == 0) = false := by simp; intro e; rw [e] at h0; exact h0 rfl
  obtain ⟨r, hr⟩ : ∃ r, r = folP p g l := ⟨_, rfl⟩
  rw [← hr]
  have HR : Hid (r = runP p g [] l) := Lib.hid (by rw [hr]; unfold folP; rw [if_neg h256]; exact if_neg h0)
  have hl256 : l.length ≤ 256 := by omega
  clear hr h256 h0
  go_enter Tryd.func55, Tryd.ntmps55
  go_wp2_with fail
  refine (codes_any w).mono ?_
  rintro e w1 ⟨rfl, c1, u1⟩
  have C1 := Lib.hid c1
  have U1 := Lib.hid u1
  have GA := Lib.hid (given_any (HK.out.below u1) HP.out.ok.len)
  clear c1 u1
  go_wp2_with fail
  refine GA.out.mono ?_
  rintro e w2 ⟨kv, rfl, k2, u2⟩
  obtain ⟨ka, kc, rfl⟩ := (row_of_own k2).shape
  have b3 := bA0 w2 (.cells #[.pointer (some ⟨a, 0, none⟩), .slice ka g.length kc, .slice none 0 0] MakT)
  have hm3 := heap_alloc_new w2 (.cells #[.pointer (some ⟨a, 0, none⟩), .slice ka g.length kc, .slice none 0 0] MakT)
  have hu := bmore (bmore U1.out u2) b3
  have hcb := C1.out.lt
  have C3 := Lib.hid ((C1.out.below u2).below b3)
  have HM3 := Lib.hid (show Mk (w2.alloc (.cells #[.pointer (some ⟨a, 0, none⟩), .slice ka g.length kc, .slice none 0 0] MakT)) w.heap.size w2.heap.size a (.slice ka g.length kc) (.slice none 0 0) g [] from ⟨hm3, own_base (own_hold k2 (Hold.below b3)) U1.out.size, World.ownsRow_nil _ _ _ 1⟩)
  have HGV := Lib.hid (GrewV.start HP.out hu)
  have HP3 := Lib.hid (HP.out.below hu)
  have HO3 := Lib.hid (own_hold HO.out (Hold.below hu))
  have hmk : w.heap.size < w2.heap.size := Nat.lt_of_lt_of_le hcb u2.size
  clear GA k2 u2 b3 hm3 hu C1 U1 hcb
  go_wp2_with fail
  generalize (w2.alloc (.cells #[.pointer (some ⟨a, 0, none⟩), .slice ka g.length kc, .slice none 0 0] MakT)) = w3 at *
  generalize w2.heap.size = mk at *
  go_loopw [37] (fun v37 wr => ∃ (i : Nat) (q e : Pl) (made : List Int) (mv vv : Value), v37 = .int .i64 (i : Int) ∧ i ≤ l.length ∧ made.length = i ∧ q = p ++ e ∧ Mk wr w.heap.size mk a (.slice ka g.length kc) mv g made ∧ Twain mv (.slice ka g.length kc) ∧ IsPool wr B a b vv q ∧ CodesP wr w.heap.size 12 tabP ∧ wr.ownsRow B3 OpT 5 (.slice la l.length lc) l.length (opsV l) ∧ GrewV w B a b v wr vv ∧ (∀ x ∈ made, Der q (Reach q g) x) ∧ runP p g [] l = runP q g made (l.drop i)) (fun v _ => l.length - (intOf v).toNat)
  case atStart => exact ⟨0, p, [], [], _, v, rfl, Nat.zero_le _, rfl, by simp, HM3.out, fun r hr => by simp [Value.ownBlock] at hr, HP3.out, C3.out, HO3.out, HGV.out, fun x hx => by simp at hx, rfl⟩
  case round =>
    clear HM3 HP3 C3 HO3 HGV
    obtain ⟨_, q, e, made, mv, vv, rfl, hi, rfl, rfl, hmk', htw, hpl, hcd, hop, hgv, hder, hrun⟩ := hrel
    have HMK := Lib.hid hmk'
    have HTW := Lib.hid htw
    have HPL := Lib.hid hpl
    have HCD := Lib.hid hcd
    have HOP := Lib.hid hop
    have HGV := Lib.hid hgv
    have HDER := Lib.hid hder
    have HRUN := Lib.hid hrun
    have HGI := Lib.hid (fun x (hx : x ∈ g) => inP_le (q := p ++ e) (HK.out.ok.ing x hx) (by simp))
    obtain ⟨ma, mc, rfl⟩ := (row_of_own hmk'.mr).shape
    have z2 := cellB (j := 2) hmk'.lay rfl
    clear hmk' htw hpl hcd hop hgv hder hrun
    by_cases hlt : made.length < l.length
    · obtain ⟨qa, qc, hqe, hqx⟩ := (row_of_own HOP.out).at2
      obtain ⟨lb, lo, rfl, qq⟩ := hqx (by omega)
      cases hqe
      obtain ⟨a0, a1, a2, a3, a4⟩ := opsV_at l made.length hlt
      have c0 := qq _ _ a0
      have c1 := qq _ _ a1
      have c2 := qq _ _ a2
      have c3 := qq _ _ a3
      have c4 := qq _ _ a4
      simp only [← Nat.add_assoc] at c1 c2 c3 c4
      have hoo := HOK.out _ (List.getElem_mem hlt)
      have hdr : l.drop made.length = l[made.length] :: l.drop (made.length + 1) := List.drop_eq_getElem_cons hlt
      have hrun := HRUN.out
      rw [hdr, runP_cons] at hrun
      have HRUN2 := Lib.hid hrun
      clear qq hqx a0 a1 a2 a3 a4 hdr hrun HRUN
      generalize l[made.length] = o at *
      have HOO := Lib.hid hoo
      obtain ⟨oc, oa, ob, on, os⟩ := o
      simp only at c0 c1 c2 c3 c4
      have hi0 : (0 : Int) ≤ (made.length : Int) := by omega
      have hi1 : (made.length : Int) < (l.length : Int) := by omega
      have bO := bA0 wr (.cells #[.int .i64 oc, .int .i64 oa, .int .i64 ob, .int .u64 on, .string os] OpT)
      have hO := heap_alloc_new wr (.cells #[.int .i64 oc, .int .i64 oa, .int .i64 ob, .int .u64 on, .string os] OpT)
      have y0 := cellB (j := 0) hO rfl
      have y1 := cellB (j := 1) hO rfl
      have y2 := cellB (j := 2) hO rfl
      have y3 := cellB (j := 3) hO rfl
      have y4 := cellB (j := 4) hO rfl
      have hlk := (HCD.out.below bO).look hoo.code
      have hmi : ∀ x ∈ made, i64R x := fun x hx => in_i64 HPL.out.ok.len (.inr (der_in (fun t h => Reach.inp HPL.out.ok HGI.out h) (HDER.out x hx)))
      have hll2 := Laid.base HL.out HBL.out (HGV.out.1.trans (bO.mono (Nat.le_trans (Nat.le_trans HP.out.ga (Nat.le_of_lt HP.out.lt)) HGV.out.1.size)))
      have DO := Lib.hid (do_any (o := ⟨oc, oa, ob, on, os⟩) (HPL.out.below bO) hll2 (HMK.out.below bO) hmi hoo)
      have HBO := Lib.hid bO
      have HSN := Lib.hid (fun (h : (doP (p ++ e) g made ⟨oc, oa, ob, on, os⟩).2.1 = 0) => do_sound HPL.out.ok HGI.out HDER.out h)
      have HEX := Lib.hid (doP_out (p ++ e) g made ⟨oc, oa, ob, on, os⟩).1
      clear bO hO hmi hll2 hoo
      generalize codeV (tabP oc) = cd at *
      go_wp2_with fail
      generalize hW1 : (wr.alloc (.cells #[.int .i64 oc, .int .i64 oa, .int .i64 ob, .int .u64 on, .string os] OpT)) = W1 at *
      refine DO.out.mono ?_
      generalize doP (p ++ e) g made ⟨oc, oa, ob, on, os⟩ = rr at *
      obtain ⟨t, er, q'⟩ := rr
      rintro en w4 ⟨rfl, g4⟩
      have hp1 := HPL.out.below HBO.out
      obtain ⟨vv2, hp4, hgv4⟩ := (HGV.out.below (Nat.le_trans (Nat.le_trans HP.out.ga (Nat.le_of_lt HP.out.lt)) HGV.out.1.size) HBO.out).step g4
      have HMK4 : Hid (Mk w4 w.heap.size mk a (.slice ka g.length kc) (.slice ma made.length mc) g made) := Lib.hid (by
        have h := HMK.out.below HBO.out
        exact ⟨g4.hold hp1 (by decide) (by decide) _ _ h.lay, own_hold h.kr (g4.hold hp1 (by decide) (by decide)), own_hold h.mr (g4.hold hp1 (by decide) (by decide))⟩)
      have HCD4 := Lib.hid ((HCD.out.below HBO.out).same (fun es c hm => g4.map hp1 (by omega) hm))
      have HOP4 := Lib.hid (own_hold HOP.out ((Hold.below HBO.out).trans (g4.hold hp1 (by decide) (by decide))))
      have HP4 := Lib.hid hp4
      have HGV4 := Lib.hid hgv4
      clear hp1 hp4 hgv4 g4 y0 y1 y2 y3 y4 c0 c1 c2 c3 c4 z2 hlk DO
      have z2 := cellB (j := 2) HMK4.out.lay rfl
      have z2f := frozenB (j := 2) HMK4.out.lay
      by_cases her : er = 0
      · subst her
        obtain ⟨e2, rfl⟩ := HEX.out
        have hsn := HSN.out rfl
        have HSN2 := Lib.hid hsn
        have hrun := HRUN2.out
        rw [if_neg (by simp)] at hrun
        have HRUN3 := Lib.hid hrun
        have HRT := Lib.hid (own_hold HMK4.out.mr (Hold.below (bA0 w4 (.cells #[.int .i64 t] TermT))))
        have hbB : B ≤ w.heap.size := Nat.le_trans HP.out.ga (Nat.le_of_lt HP.out.lt)
        have hw4 : w.heap.size ≤ w4.heap.size := HGV4.out.1.size
        clear hsn hrun HSN HRUN2
        go_wp2_with (at_builtin; refine wpList_append_tw rfl _ _ rfl w.heap.size (.slice ma made.length mc) made rfl HRT.out w4.heap.size t rfl (cellB (j := 0) (heap_alloc_new _ _) rfl) (by omega) (Nat.le_trans hw4 (bA0 _ _).size) ?_; intro v9 w9 hrow9 hg9 hv9; obtain ⟨sa, sc, rfl⟩ := (row_of_own hrow9).shape; have hs9 := hold_row HRT.out hg9 (T' := MakT) (by decide) _ _ (Hold.below (bA0 w4 (.cells #[.int .i64 t] TermT)) _ _ HMK4.out.lay); have x2c := cellB (j := 2) hs9 rfl; have f2c := frozenB (j := 2) hs9)
        have hA := bA0 w4 (.cells #[.int .i64 t] TermT)
        have hln : (made ++ [t]).length = made.length + 1 := by simp
        rw [hln] at hrow9 hv9
        have hT : ∀ T, T ≠ TermT → T ≠ MakT → Hold T w4 (w9.setCell ⟨mk, 2, none⟩ (.slice sa (made.length + 1) sc)) := fun T h h' => ((Hold.below hA).trans (hold_row HRT.out hg9 h)).trans (Hold.setCell hs9 (fun e => h' e.symm))
        have hmap : ∀ (j : Nat) es c, w4.heap[j]? = some (.map es c) → (w9.setCell ⟨mk, 2, none⟩ (.slice sa (made.length + 1) sc)).heap[j]? = some (.map es c) := fun j es c hm => by
          have h9 := map_row HRT.out hg9 ((hA.block _ (Array.getElem?_eq_some_iff.1 hm).1).trans hm)
          rw [Below.heap_setCell _ _ _ _ (fun e => by rw [e, hs9] at h9; cases h9)]
          exact h9
        have hkr9 := own_hold (own_kept (own_hold HMK4.out.kr (Hold.below hA)) hg9 (fun r hr hx => HTW.out r hr hx)) (Hold.setCell (o := 2) (v := .slice sa (made.length + 1) sc) hs9 (T := TermT) (by decide))
        have HMK9 : Hid (Mk (w9.setCell ⟨mk, 2, none⟩ (.slice sa (made.length + 1) sc)) w.heap.size mk a (.slice ka g.length kc) (.slice sa (made.length + 1) sc) g (made ++ [t])) := Lib.hid ⟨(by first | (rw [setCellB hs9]; done) | (rw [setCellB hs9]; rfl)), hkr9, by rw [hln]; exact own_hold hrow9 (Hold.setCell (o := 2) (v := .slice sa (made.length + 1) sc) hs9 (T := TermT) (by decide))⟩
        have HTW9 : Hid (Twain (.slice sa (made.length + 1) sc) (.slice ka g.length kc)) := Lib.hid (two_left (w := w4) HTW.out (u' := .slice sa (made.length + 1) sc) (by rcases hv9 with h | h; exact .inl h; exact .inr ⟨_, h, hA.size⟩) (own_lt HMK4.out.kr))
        have HP9 := Lib.hid (HP4.out.heldK (hT _ (by decide) (by decide)) (hT _ (by decide) (by decide)) (fun es c hm => hmap _ es c hm))
        have HCD9 := Lib.hid (HCD4.out.same (fun es c hm => hmap _ es c hm))
        have HOP9 := Lib.hid (own_hold HOP4.out (hT _ (by decide) (by decide)))
        have HGV9 := Lib.hid (((HGV4.out.below (Nat.le_trans hbB hw4) hA).grown hbB hg9 (fun j e => (own_type HRT.out e).1)).set (o := 2) (.slice sa (made.length + 1) sc) hbB (Nat.le_of_lt hmk))
        have HRUN9 := HRUN3
        clear hA hT hmap hkr9 hrow9 hg9 hv9 hs9 x2c f2c HRT
        go_wp2_with fail
        go_roundw
        case rel => exact ⟨made.length + 1, (p ++ e) ++ e2, e ++ e2, made ++ [t], _, vv2, by go_num, by omega, by simp, by simp, HMK9.out, HTW9.out, HP9.out, HCD9.out, HOP9.out, HGV9.out, fun x hx => by
            rcases List.mem_append.1 hx with hx | hx
            · exact der_ext (fun t h => ⟨Reach.inp HPL.out.ok HGI.out h, (reach_ext HPL.out.ok HGI.out e2).2 h⟩) (HDER.out x hx)
            · rw [List.mem_singleton.1 hx]; exact HSN2.out, HRUN9.out⟩
        case measure => simp [intOf]; omega
      · have hb : (er != 0) = true := by simp [her]
        have hrun := HRUN2.out
        rw [if_pos her] at hrun
        have HRUN3 := Lib.hid hrun
        clear hrun HRUN2 her
        go_wp2_with fail
        go_returns
        rw [HR.out, HRUN3.out]
        exact ⟨_, rfl, HMK4.out.mr, HGV4.out.fin HP4.out⟩
    · have hrun := HRUN.out
      rw [List.drop_eq_nil_of_le (by omega)] at hrun
      have HRUN3 := Lib.hid hrun
      have hge : decide (made.length < l.length) = false := decide_eq_false hlt
      clear hrun
      go_wp2_with fail
      go_returns
      rw [HR.out, HRUN3.out]
      exact ⟨_, rfl, HMK.out.mr, HGV.out.fin HPL.out⟩
/-- What Eval answers. -/
def EvPost (w : World) (B a b : Nat) (v : Value) (r : List Int × Int × Pl) (e : Ending) (w' : World) : Prop :=
  e = .returned (.tuple #[.int .i64 (evlP r).1, .int .i64 (evlP r).2.1, .int .i64 (evlP r).2.2]) ∧ Grew w B a b v r.2.2 w'
theorem eval_nil (pa : Option Addr) (vl : Value) (w : World) : Calls Tryd.prog 24 #[.pointer pa, .pointer none, vl] w fun e w' => e = .returned (.tuple #[.int .i64 0, .int .i64 2, .int .i64 0]) ∧ w = w' := by
  have FN := Lib.hid (fun (W : World) => follow_nil pa vl W)
  go_enter Tryd.func24, Tryd.ntmps24
  go_wp2_with fail
  refine (FN.out _).mono ?_
  rintro e w1 ⟨rfl, rfl⟩
  go_wp2_with fail
  go_returns
  exact ⟨rfl, rfl⟩
theorem fol_made {g : List Int} {l : List OpP} (h : (folP p g l).2.1 = 0) : 0 < (folP p g l).1.length := by
  unfold folP at h ⊢
  split at h
  · cases h
  · rename_i h1
    rw [if_neg h1]
    split at h
    · cases h
    · rename_i h2
      rw [if_neg h2]
      have := (run_long (g := g) l p []).2 h
      simp at this
      omega
set_option maxRecDepth 100000 in
set_option maxHeartbeats 1600000 in
theorem eval_any (hB : 0 < B) (hp : IsPool w B a b v p) (hl : Laid w) (hk : IsKnow w B2 k gv mb a p g s) (hmb : mb ≠ b) {B3 : Nat} {vl : Value} {l : List OpP} (hops : w.ownsRow B3 OpT 5 vl l.length (opsV l)) (hok : ∀ o ∈ l, OpOk o) :
    Calls Tryd.prog 24 #[.pointer (some ⟨a, 0, none⟩), .pointer (some ⟨k, 0, none⟩), vl] w (EvPost w B a b v (folP p g l)) := by
  have FO := Lib.hid (follow_any hB hp hl hk hmb hops hok)
  have HM := Lib.hid (fun h => fol_made (p := p) (g := g) (l := l) h)
  clear hp hl hk hmb hops hok hB
  generalize folP p g l = r at *
  obtain ⟨made, er, q⟩ := r
  obtain ⟨r, hr⟩ : ∃ r, r = evlP (made, er, q) := ⟨_, rfl⟩
  have HR := Lib.hid hr
  unfold EvPost
  rw [← hr]
  clear hr
  obtain ⟨r1, r2, r3⟩ := r
  simp only at HM ⊢
  go_enter Tryd.func24, Tryd.ntmps24
  go_wp2_with fail
  refine FO.out.mono ?_
  rintro e w1 ⟨mv, rfl, hm1, g1⟩
  have HG := Lib.hid g1
  clear g1 FO
  simp only at hm1 ⊢
  by_cases h0 : er = 0
  · subst h0
    have hpos := HM.out rfl
    obtain ⟨qa, qc, rfl, hqx⟩ := (row_of_own hm1).at
    obtain ⟨gb, go, rfl, qq⟩ := hqx hpos
    obtain ⟨nl, x, hnl, hx, hev⟩ : ∃ nl x, made.length = nl + 1 ∧ (ints made)[nl]? = some (.int .i64 x) ∧ made.getD (made.length - 1) 0 = x := by
      have hn : made.length - 1 < made.length := by omega
      refine ⟨made.length - 1, made[made.length - 1], by omega, ints_at made _ hn, ?_⟩
      rw [List.getD_eq_getElem?_getD, List.getElem?_eq_getElem hn, Option.getD_some]
    have c0 := qq nl _ hx
    have hr := HR.out
    unfold evlP at hr
    rw [if_neg (by simp)] at hr
    simp only [hev, Prod.mk.injEq] at hr
    obtain ⟨rfl, rfl, rfl⟩ := hr
    have hml := (row_of_own hm1).small
    unfold maxLen at hml
    have hx0 : ((made.length : Int) - 1) = (nl : Int) := by omega
    have hn0 : (0 : Int) ≤ (nl : Int) := by omega
    have hn1 : (nl : Int) < (made.length : Int) := by omega
    have hx0' := hx0
    clear hm1 hqx qq HR
    go_wp2_with fail
    go_returns
    exact ⟨rfl, HG.out⟩
  · have hb : (er != 0) = true := by simp [h0]
    have hr := HR.out
    unfold evlP at hr
    rw [if_pos h0] at hr
    simp only [Prod.mk.injEq] at hr
    obtain ⟨rfl, rfl, rfl⟩ := hr
    obtain ⟨qa, qc, rfl⟩ := (row_of_own hm1).shape
    clear HR hm1
    go_wp2_with fail
    go_returns
    exact ⟨rfl, HG.out⟩
end
end Go.Proofs.YtjpkeoenajlmeaaDoor
