/-
  The statement CodecFrames. No condition.
-/
import Derived.Test.YtoeaaddkeefgoaaFramesL
import Derived.Test.YtoeaaddkeefgoaaArgs
import Derived.JoinedCond
import Derived.Deep.QuietTactic
import Derived.BigQuiet
namespace Go.Proofs.Ytoeaaddkeefgoaa
open Go.RowKit
set_option linter.unusedVariables false

theorem IsLoads.mono {B B' : Nat} {w : World} {v : Value} {ls : List (List UInt8)} (h : IsLoads B w v ls) (hb : B' ≤ B) : IsLoads B' w v ls := by
  obtain ⟨vs, h1, h2⟩ := h
  refine ⟨vs, ⟨h1.1, ?_⟩, fun i hi => ?_⟩
  · rcases h1.2 with hn | ⟨g, cap, cur, hv, h3, h4⟩
    · exact .inl hn
    · exact .inr ⟨g, cap, cur, hv, Nat.le_trans hb h3, h4⟩
  · obtain ⟨u, hu, ho⟩ := h2 i hi
    exact ⟨u, hu, Own.mono ho hb⟩
theorem IsLoads.shape {B : Nat} {w : World} {v : Value} {ls : List (List UInt8)} (h : IsLoads B w v ls) : ∃ a c, v = .slice a ls.length c := by
  obtain ⟨vs, h1, _⟩ := h
  rcases h1.2 with ⟨rfl, hn⟩ | ⟨g, cap, cur, rfl, _⟩
  · exact ⟨none, 0, by rw [hn]⟩
  · exact ⟨_, _, rfl⟩
theorem Own.aside {B g : Nat} {w w' : World} {u : Value} {l : List UInt8} (h : Own B w u l) (hg : w.grownBy w' (some g)) (hlt : g < B) : Own B w' u l :=
  World.ownsRow.kept h hg (by
    cases hk : u.ownBlock with
    | none => exact .inl rfl
    | some k => exact .inr fun e => by have := (World.ownsRow.lt h k hk).1; cases e; omega)
theorem IsLoads.aside {B g : Nat} {w w' : World} {v : Value} {ls : List (List UInt8)} (h : IsLoads B w v ls) (hg : w.grownBy w' (some g)) (hlt : g < B) : IsLoads B w' v ls := by
  obtain ⟨vs, h1, h2⟩ := h
  refine ⟨vs, World.ownsRow.kept h1 hg ?_, fun i hi => ?_⟩
  · cases hk : v.ownBlock with
    | none => exact .inl rfl
    | some k => exact .inr fun e => by have := (World.ownsRow.lt h1 k hk).1; cases e; omega
  · obtain ⟨u, hu, ho⟩ := h2 i hi
    exact ⟨u, hu, Own.aside ho hg hlt⟩
theorem bthen1 {w w1 w2 : World} (h : Below w.heap.size w w1) (k : Below w1.heap.size w1 w2) : Below w.heap.size w w2 := h.trans (k.mono h.size)

set_option maxRecDepth 20000 in
set_option maxHeartbeats 6400000 in
theorem framesW_walk {w : World} {v : Value} {p : List UInt8} (h : Rd 0 w v p) (hp : p.length ≤ 1099511627776) :
    Calls Try.prog 3 #[v] w fun e w' => e = .returned (.bool true) ∧ Below w.heap.size w w' := by
  obtain ⟨sa, sc, rfl⟩ := h.shape
  have HR := Lib.hid h
  clear h
  by_cases hlong : 12288 < p.length
  · go_enter Try.func3, Try.ntmps3
    go_wp2_with fail
    refine (live_any _).mono ?_
    rintro e w1 ⟨rfl, hb⟩
    go_wp2_with fail
    go_ret
    exact ⟨rfl, hb⟩
  · have hA := (Below.refl w.heap.size w).alloc (Nat.le_refl _) (.cells #[] 5)
    have hO := own_made w (Nat.le_refl _)
    have hRA := HR.out.keep hA
    have HA := Lib.hid (And.intro hA (And.intro hO hRA))
    clear hA hO hRA
    go_enter Try.func3, Try.ntmps3
    go_wp2_with (at_builtin; refine wpList_append_rd rfl _ _ rfl w.heap.size _ _ rfl HA.out.2.1 _ _ rfl HA.out.2.2 (by simp; omega) (by simp) ?_)
    intro gv w1 hown1 hg1
    have hb1 := below_append HA.out.1 HA.out.2.1 hg1 (by simp)
    obtain ⟨ga, gc, rfl⟩ := hown1.rd.shape
    have O1 := Lib.hid hown1
    have B1 := Lib.hid hb1
    have hz1 := hb1.size
    have HGB := Lib.hid fun g (hg : (Value.slice ga p.length gc).ownBlock = some g) => World.ownsRow.lt hown1 g hg
    clear HA hg1 hown1 hb1
    obtain ⟨ss, hss⟩ : ∃ s, sealS p = s := ⟨_, rfl⟩
    obtain ⟨os, hos⟩ : ∃ s, openT p = s := ⟨_, rfl⟩
    obtain ⟨fs, hfs⟩ : ∃ s, framesS p = s := ⟨_, rfl⟩
    have C1 := Lib.hid fun (W : World) (r : Rd 0 W (.slice ga p.length gc) p) => hss ▸ seal_both r (by omega)
    have C2 := Lib.hid fun (W : World) (r : Rd 0 W (.slice sa p.length sc) p) => hss ▸ refSeal_both r (by omega)
    have C3 := Lib.hid fun (W : World) (r : Rd 0 W (.slice ga p.length gc) p) => hos ▸ open_both r hp
    have C4 := Lib.hid fun (W : World) (r : Rd 0 W (.slice sa p.length sc) p) => hos ▸ refOpen_both r hp
    have C5 := Lib.hid fun (W : World) (r : Rd 0 W (.slice ga p.length gc) p) => hfs ▸ frames_any r hp
    have C6 := Lib.hid fun (W : World) (r : Rd 0 W (.slice sa p.length sc) p) => hfs ▸ refFrames_any r hp
    have BB1 := Lib.hid (Below.refl w1.heap.size w1)
    have G1 := O1
    go_wp2_with fail
    refine (C1.out _ (G1.out.rd.mono (Nat.zero_le _))).mono ?_
    rintro e w2 ⟨a2, c2, rfl, o2, b2⟩
    have X2_2 := Lib.hid (Own.mono o2 BB1.out.size)
    have BB2 := Lib.hid (BB1.out.trans (b2.mono BB1.out.size))
    have G2 := Lib.hid (G1.out.keep b2)
    clear o2 b2 G1  C1 O1
    go_wp2_with fail
    refine (C2.out _ (HR.out.keep (B1.out.trans (BB2.out.mono hz1)))).mono ?_
    rintro e w3 ⟨a3, c3, rfl, o3, b3⟩
    have X3_3 := Lib.hid (Own.mono o3 BB2.out.size)
    have BB3 := Lib.hid (BB2.out.trans (b3.mono BB2.out.size))
    have G3 := Lib.hid (G2.out.keep b3)
    have X2_3 := Lib.hid (X2_2.out.keep b3)
    clear o3 b3 G2 X2_2 C2
    go_wp2_with fail
    refine (C3.out _ (G3.out.rd.mono (Nat.zero_le _))).mono ?_
    rintro e w4 ⟨a4, c4, rfl, o4, b4⟩
    have X4_4 := Lib.hid (Own.mono o4 BB3.out.size)
    have BB4 := Lib.hid (BB3.out.trans (b4.mono BB3.out.size))
    have G4 := Lib.hid (G3.out.keep b4)
    have X2_4 := Lib.hid (X2_3.out.keep b4)
    have X3_4 := Lib.hid (X3_3.out.keep b4)
    clear o4 b4 G3 X2_3 X3_3 C3
    go_wp2_with fail
    refine (C4.out _ (HR.out.keep (B1.out.trans (BB4.out.mono hz1)))).mono ?_
    rintro e w5 ⟨a5, c5, rfl, o5, b5⟩
    have X5_5 := Lib.hid (Own.mono o5 BB4.out.size)
    have BB5 := Lib.hid (BB4.out.trans (b5.mono BB4.out.size))
    have G5 := Lib.hid (G4.out.keep b5)
    have X2_5 := Lib.hid (X2_4.out.keep b5)
    have X3_5 := Lib.hid (X3_4.out.keep b5)
    have X4_5 := Lib.hid (X4_4.out.keep b5)
    clear o5 b5 G4 X2_4 X3_4 X4_4 C4
    go_wp2_with fail
    refine (C5.out _ (G5.out.rd.mono (Nat.zero_le _))).mono ?_
    rintro e w6 ⟨v6, rfl, o6, b6⟩
    have X6_6 := Lib.hid (IsLoads.mono o6 BB5.out.size)
    have BB6 := Lib.hid (BB5.out.trans (b6.mono BB5.out.size))
    have G6 := Lib.hid (G5.out.keep b6)
    have X2_6 := Lib.hid (X2_5.out.keep b6)
    have X3_6 := Lib.hid (X3_5.out.keep b6)
    have X4_6 := Lib.hid (X4_5.out.keep b6)
    have X5_6 := Lib.hid (X5_5.out.keep b6)
    clear o6 b6 G5 X2_5 X3_5 X4_5 X5_5 C5
    obtain ⟨la6, lc6, rfl⟩ := X6_6.out.shape
    go_wp2_with fail
    refine (C6.out _ (HR.out.keep (B1.out.trans (BB6.out.mono hz1)))).mono ?_
    rintro e w7 ⟨v7, rfl, o7, b7⟩
    have X7_7 := Lib.hid (IsLoads.mono o7 BB6.out.size)
    have BB7 := Lib.hid (BB6.out.trans (b7.mono BB6.out.size))
    have G7 := Lib.hid (G6.out.keep b7)
    have X2_7 := Lib.hid (X2_6.out.keep b7)
    have X3_7 := Lib.hid (X3_6.out.keep b7)
    have X4_7 := Lib.hid (X4_6.out.keep b7)
    have X5_7 := Lib.hid (X5_6.out.keep b7)
    have X6_7 := Lib.hid (X6_6.out.keep b7)
    clear o7 b7 G6 X2_6 X3_6 X4_6 X5_6 X6_6 C6
    obtain ⟨la7, lc7, rfl⟩ := X7_7.out.shape
    clear BB2 BB3 BB4 BB5 BB6
    have hq := bthen1 B1.out BB7.out
    have s2 := rd_string X2_7.out.rd
    have s3 := rd_string X3_7.out.rd
    have s4 := rd_string X4_7.out.rd
    have s5 := rd_string X5_7.out.rd
    have C7 := Lib.hid (sum_any (G7.out.rd.mono (Nat.zero_le _)) hp)
    have C8 := Lib.hid (refSum_any (HR.out.keep hq) hp)
    unfold r32 at C7 C8
    have HQ := Lib.hid hq
    clear hq
    go_wp2_with fail
    refine (lawnum_any _ _).mono ?_
    rintro e w8 ⟨rfl, rfl⟩
    go_wp2_with fail
    refine (lawnum_any _ _).mono ?_
    rintro e w8 ⟨rfl, rfl⟩
    go_wp2_with fail
    refine (lawnum_any _ _).mono ?_
    rintro e w8 ⟨rfl, rfl⟩
    go_wp2_with fail
    refine C7.out.mono ?_
    rintro e w8 ⟨rfl, rfl⟩
    go_wp2_with fail
    refine C8.out.mono ?_
    rintro e w8 ⟨rfl, rfl⟩
    go_wp2_with fail
    obtain ⟨fl, fpl, fer⟩ := fs
    simp only at *
    clear X2_7 X3_7 s2 s3 s4 s5 C7 C8 BB7
    go_loopw [20] (fun i wr => ∃ (k : Nat) (cs : List Value), k ≤ p.length ∧ i = .int .i64 (k : Int) ∧ wr.ownsRow w.heap.size 5 1 (.slice ga p.length gc) p.length cs ∧ (∀ j, k ≤ j → j < p.length → cs[j]? = some (u8v (p.getD j 0))) ∧
      Own w1.heap.size wr (.slice a4 os.1.length c4) os.1 ∧ Own w1.heap.size wr (.slice a5 os.1.length c5) os.1 ∧ IsLoads w1.heap.size wr (.slice la6 fl.length lc6) fl ∧ IsLoads w1.heap.size wr (.slice la7 fl.length lc7) fl ∧ Below w.heap.size w wr) (fun i _ => p.length - (intOf i).toNat)
    case atStart => exact ⟨0, _, Nat.zero_le _, rfl, G7.out, fun j _ hj => by simp [cellsOf, hj, List.getD_eq_getElem?_getD], X4_7.out, X5_7.out, X6_7.out, X7_7.out, HQ.out⟩
    case round =>
      obtain ⟨k, cs, hk, rfl, ho, hcs, h4, h5, h6, h7, hb⟩ := hrel
      have HO := Lib.hid ho
      have HCs := Lib.hid hcs
      have H4 := Lib.hid h4
      have H5 := Lib.hid h5
      have H6 := Lib.hid h6
      have H7 := Lib.hid h7
      have HB := Lib.hid hb
      clear G7 X4_7 X5_7 X6_7 X7_7 HQ h4 h5 h6 h7 hb
      by_cases hlt : k < p.length
      · obtain ⟨g, rfl⟩ : ∃ g, ga = some ⟨g, 0, none⟩ := by
          rcases ho.2 with ⟨_, h0⟩ | ⟨g, cap, cur, hv, _⟩
          · omega
          · simp only [Value.slice.injEq] at hv
            exact ⟨g, hv.1⟩
        obtain ⟨hg1, hg2⟩ := HGB.out g rfl
        have xk : wr.cell? ⟨g, k, none⟩ = some (u8v (p.getD k 0)) := by rw [ho.cellAt k (by omega)]; exact hcs k (Nat.le_refl _) hlt
        have hfz := ho.frozenAt k
        unfold u8v at xk
        clear ho hcs
        generalize p.getD k 0 = y at *
        go_wp2_with fail
        obtain ⟨hs1, hs2⟩ := HO.out.stored k (.int .u8 (bits BinOp.xor IntKind.u8 (y.toNat : Int) 85))
        refine ⟨⟨k + 1, _, by omega, by go_num, hs1, fun j hj hjp => ?_, Own.aside H4.out hs2 hg2, Own.aside H5.out hs2 hg2, IsLoads.aside H6.out hs2 hg2, IsLoads.aside H7.out hs2 hg2, HB.out.setCell (p := ⟨g, k, none⟩) hg1 _⟩, by simp [intOf]; omega⟩
        have hne : k ≠ j := by omega
        rw [List.getElem?_set_ne hne]
        exact HCs.out j (by omega) hjp
      · clear ho hcs HO HCs
        go_wp2_with fail
        obtain ⟨vs6, hv6, hu6⟩ := H6.out
        obtain ⟨vs7, hv7, hu7⟩ := H7.out
        have HV6 := Lib.hid hv6
        have HV7 := Lib.hid hv7
        have HU6 := Lib.hid hu6
        have HU7 := Lib.hid hu7
        have s4 := rd_string H4.out.rd
        have s5 := rd_string H5.out.rd
        have S4 := Lib.hid H4.out.rd
        have S5 := Lib.hid H5.out.rd
        clear hv6 hv7 hu6 hu7 H4 H5 H6 H7 s4 s5
        go_loopw [21] (fun i w9 => ∃ q n : Nat, q ≤ fl.length ∧ i = .int .i64 (q : Int) ∧ w9 = wr.drewN n) (fun i _ => fl.length - (intOf i).toNat)
        case atStart => exact ⟨0, 0, Nat.zero_le _, rfl, rfl⟩
        case round =>
          obtain ⟨q, n, hq, rfl, rfl⟩ := hrel
          have hbn := below_drewN (Below.refl wr.heap.size wr) n
          by_cases hlt2 : q < fl.length
          · obtain ⟨g6, rfl⟩ : ∃ g, la6 = some ⟨g, 0, none⟩ := by
              rcases HV6.out.2 with ⟨_, h0⟩ | ⟨g, cap, cur, hv, _⟩
              · omega
              · simp only [Value.slice.injEq] at hv
                exact ⟨g, hv.1⟩
            obtain ⟨g7, rfl⟩ : ∃ g, la7 = some ⟨g, 0, none⟩ := by
              rcases HV7.out.2 with ⟨_, h0⟩ | ⟨g, cap, cur, hv, _⟩
              · omega
              · simp only [Value.slice.injEq] at hv
                exact ⟨g, hv.1⟩
            obtain ⟨u6, hx6, ho6⟩ := HU6.out q hlt2
            obtain ⟨u7, hx7, ho7⟩ := HU7.out q hlt2
            have x6 : wr.cell? ⟨g6, q, none⟩ = some u6 := by rw [HV6.out.cellAt q (by omega)]; exact hx6
            have x7 : wr.cell? ⟨g7, q, none⟩ = some u7 := by rw [HV7.out.cellAt q (by omega)]; exact hx7
            obtain ⟨a6, c6, rfl⟩ := ho6.rd.shape
            obtain ⟨a7, c7, rfl⟩ := ho7.rd.shape
            have r6 := fun m => rd_string (ho6.rd.keep (below_drewN (Below.refl wr.heap.size wr) m))
            have r7 := fun m => rd_string (ho7.rd.keep (below_drewN (Below.refl wr.heap.size wr) m))
            clear ho6 ho7 hx6 hx7
            generalize fl[q] = y at *
            go_wp2_with fail
            have hfl : fl.length ≤ maxLen := by
              rcases HV6.out.2 with ⟨_, h0⟩ | ⟨g, cap, cur, hv, _, _, h8, h9, _⟩
              · omega
              · omega
            unfold maxLen at hfl
            have hw : IntKind.i64.wrap ((q : Int) + 1) = (q : Int) + 1 := IntWalk.i64_in _ (by omega)
            go_quiet (fail)
            go_wp2_with fail
            exact ⟨⟨q + 1, n + nq, by omega, by go_num, rfl⟩, by simp [intOf]; omega⟩
          · have s4 := rd_string (S4.out.keep hbn)
            have s5 := rd_string (S5.out.keep hbn)
            go_wp2_with fail
            refine (live_any _).mono ?_
            rintro e wL ⟨rfl, hbL⟩
            go_wp2_with fail
            go_ret
            exact ⟨rfl, bthen1 (below_drewN HB.out n) hbL⟩

