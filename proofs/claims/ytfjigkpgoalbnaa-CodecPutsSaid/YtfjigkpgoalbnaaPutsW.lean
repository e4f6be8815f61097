/-
  The statement CodecPuts: every number, int and text that is laid behind bytes; what was handed in stays. No condition.
-/
import Derived.Test.YtfjigkpgoalbnaaRefPut
import Derived.Test.YtfjigkpgoalbnaaLive
import Derived.Test.YtfjigkpgoalbnaaArgs
import Derived.Test.YtfjigkpgoalbnaaChain
namespace Go.Proofs.Ytfjigkpgoalbnaa
open Go.ChangeShapes Go.WideShapes Go.ChangeAt Go.RowKit
open Go.ChangeMaps (open_string shut_string)
set_option linter.unusedVariables false

def restB : List UInt8 := [114, 101, 115, 116]

set_option maxRecDepth 20000 in
set_option maxHeartbeats 3200000 in
theorem puts_walk {w : World} (n : Nat) (i : Int) (s : ByteArray) (v : Value) (b : List UInt8) (hp : Rd 0 w v b) (hn : Hid (n < 18446744073709551616)) (hi : Hid (-9223372036854775808 ≤ i ∧ i ≤ 9223372036854775807)) (hs : s.size ≤ 12288) (hbl : b.length ≤ 12288) :
    Calls Try.prog 3 #[v, .int .u64 (n : Int), .int .i64 i, .string s] w fun e w' => e = .returned (.bool true) ∧ Below w.heap.size w w' := by
  have hA := (Below.refl w.heap.size w).alloc (Nat.le_refl _) (.cells #[] 5)
  have HA := Lib.hid (And.intro hA (And.intro (own_made w (Nat.le_refl _)) (hp.keep hA)))
  clear hA
  obtain ⟨sa, sc, rfl⟩ := hp.shape
  go_enter Try.func3, Try.ntmps3
  go_wp2_with (at_builtin; refine wpList_append_rd rfl _ _ rfl w.heap.size _ _ rfl HA.out.2.1 _ _ rfl HA.out.2.2 (by simp; omega) (by simp) ?_)
  intro v1 w1 hown1 hg1
  have hb1 := below_append HA.out.1 HA.out.2.1 hg1 (by simp)
  clear HA hg1
  go_wp2_with (at_builtin; refine wpList_append_str rfl _ _ rfl w.heap.size _ _ rfl hown1 ⟨#[114, 101, 115, 116]⟩ rfl (by show b.length + 4 ≤ _; omega) hb1.size ?_)
  intro v2 w2 hown2 hg2
  have hb2 := below_append hb1 hown1 hg2 hb1.size
  clear hb1 hown1 hg2
  obtain ⟨c, hc, _, hcut⟩ := rd_cut0 hown2.rd.zero b.length (by simp)
  rw [List.take_left] at hc
  go_wp2_with fail
  refine (putNum_any b n c w2 hc (by omega) hn).mono ?_
  rintro e w3 ⟨v3, rfl, hown3, hb⟩
  have hb3 := bthen hb2 hb
  have hc3 := hc.keep hb
  have hg3 := hown2.rd.keep hb
  clear hb2 hb hc hown2
  go_wp2_with fail
  refine (putInt_any b i c w3 hc3 (by omega) hi.out.1 hi.out.2).mono ?_
  rintro e w4 ⟨v4, rfl, hown4, hb⟩
  have hb4 := bthen hb3 hb
  have hc4 := hc3.keep hb
  have hg4 := hg3.keep hb
  have hx4 := hown3.rd.keep hb
  clear hb3 hb hc3 hg3 hown3
  go_wp2_with fail
  refine (putText_any b s c w4 hc4 (by omega) (by omega)).mono ?_
  rintro e w5 ⟨v5, rfl, hown5, hb⟩
  have hb5 := bthen hb4 hb
  have hp5 := hp.keep hb5
  have hg5 := hg4.keep hb
  have hx5 := hx4.keep hb
  have hy5 := hown4.rd.keep hb
  have hz5 := hown5.rd
  clear hb4 hb hc4 hg4 hx4 hown4 hown5 hcut
  have sx := string_stays hx5.zero
  have sy := string_stays hy5.zero
  have sz := string_stays hz5.zero
  have sg := string_stays hg5.zero
  have sb := string_stays hp5
  have hlt : (9223372036854775807 < (strOf b).size + 4) = False := by rw [strOf_size]; simp; omega
  have hcat : strOf b ++ ⟨#[114, 101, 115, 116]⟩ = strOf (b ++ [114, 101, 115, 116]) := by
    apply ByteArray.ext
    apply Array.toList_inj.1
    simp [strOf, ByteArray.data_append]
  clear hx5 hy5 hz5 hg5
  go_wp2_with fail
  refine lex_start (S := fun W => Stay w5 W) (by kernel_rfl) (Stay.here _) (fun hS => ?_)
  refine lex_take (i := 0) (v := ?_) rfl (by kernel_rfl) (by kernel_rfl) (by kernel_rfl) (by rfl) hS ?_ ?_
  rotate_left
  · ((intro W hW; go_simp) <;> with_reducible rfl)
  simp only [Act.put, List.setIfInBounds_toArray, List.set_cons_zero, List.set_cons_succ]
  refine lex_take (i := 1) (v := ?_) rfl (by kernel_rfl) (by kernel_rfl) (by kernel_rfl) (by rfl) hS ?_ ?_
  rotate_left
  · ((intro W hW; go_simp) <;> with_reducible rfl)
  simp only [Act.put, List.setIfInBounds_toArray, List.set_cons_zero, List.set_cons_succ]
  refine lex_take (i := 2) (v := ?_) rfl (by kernel_rfl) (by kernel_rfl) (by kernel_rfl) (by rfl) hS ?_ ?_
  rotate_left
  · ((intro W hW; go_simp) <;> with_reducible rfl)
  simp only [Act.put, List.setIfInBounds_toArray, List.set_cons_zero, List.set_cons_succ]
  refine lex_take (i := 3) (v := ?_) rfl (by kernel_rfl) (by kernel_rfl) (by kernel_rfl) (by rfl) hS ?_ ?_
  rotate_left
  · ((intro W hW; go_simp) <;> with_reducible rfl)
  simp only [Act.put, List.setIfInBounds_toArray, List.set_cons_zero, List.set_cons_succ]
  refine lex_call (i := 4) (f := 13) rfl (by kernel_rfl) (by rfl) ?_ _ (refPutNum_any b n _ _ (hp5.keep hS) (by omega) hn) ?_
  · go_simp
  rintro e w6 ⟨v6, rfl, hown6, hb6⟩
  have q0 := hS
  have hS : Stay w5 w6 ∧ Stay w6 w6 := ⟨Stay.more q0 hb6, Stay.refl _⟩
  refine ⟨_, rfl, fun W => Stay w5 W ∧ Stay w6 W, fun W ⟨h0, h1⟩ => h0, hS, ?_⟩
  clear q0
  simp only [Act.put, List.setIfInBounds_toArray, List.set_cons_zero, List.set_cons_succ]
  have s6 := string_stays hown6.rd.zero
  clear hown6
  refine lex_take (i := 5) (v := ?_) rfl (by kernel_rfl) (by kernel_rfl) (by kernel_rfl) (by rfl) hS ?_ ?_
  rotate_left
  · ((intro W hW; go_simp) <;> with_reducible rfl)
  simp only [Act.put, List.setIfInBounds_toArray, List.set_cons_zero, List.set_cons_succ]
  refine lex_take (i := 6) (v := ?_) rfl (by kernel_rfl) (by kernel_rfl) (by kernel_rfl) (by rfl) hS ?_ ?_
  rotate_left
  · ((intro W hW; go_simp) <;> with_reducible rfl)
  simp only [Act.put, List.setIfInBounds_toArray, List.set_cons_zero, List.set_cons_succ]
  refine lex_take (i := 7) (v := ?_) rfl (by kernel_rfl) (by kernel_rfl) (by kernel_rfl) (by rfl) hS ?_ ?_
  rotate_left
  · ((intro W hW; go_simp) <;> with_reducible rfl)
  simp only [Act.put, List.setIfInBounds_toArray, List.set_cons_zero, List.set_cons_succ]
  refine lex_take (i := 8) (v := ?_) rfl (by kernel_rfl) (by kernel_rfl) (by kernel_rfl) (by rfl) hS ?_ ?_
  rotate_left
  · ((intro W hW; go_simp) <;> with_reducible rfl)
  simp only [Act.put, List.setIfInBounds_toArray, List.set_cons_zero, List.set_cons_succ]
  refine lex_take (i := 9) (v := ?_) rfl (by kernel_rfl) (by kernel_rfl) (by kernel_rfl) (by rfl) hS ?_ ?_
  rotate_left
  · ((intro W hW; go_simp) <;> with_reducible rfl)
  simp only [Act.put, List.setIfInBounds_toArray, List.set_cons_zero, List.set_cons_succ]
  refine lex_take (i := 10) (v := ?_) rfl (by kernel_rfl) (by kernel_rfl) (by kernel_rfl) (by rfl) hS ?_ ?_
  rotate_left
  · ((intro W hW; go_simp) <;> with_reducible rfl)
  simp only [Act.put, List.setIfInBounds_toArray, List.set_cons_zero, List.set_cons_succ]
  refine lex_take (i := 11) (v := ?_) rfl (by kernel_rfl) (by kernel_rfl) (by kernel_rfl) (by rfl) hS ?_ ?_
  rotate_left
  · ((intro W hW; go_simp) <;> with_reducible rfl)
  simp only [Act.put, List.setIfInBounds_toArray, List.set_cons_zero, List.set_cons_succ]
  refine lex_call (i := 12) (f := 14) rfl (by kernel_rfl) (by rfl) ?_ _ (refPutInt_any b i _ _ (hp5.keep hS.1) (by omega) hi.out.1 hi.out.2) ?_
  · go_simp
  rintro e w7 ⟨v7, rfl, hown7, hb7⟩
  obtain ⟨q0, q1⟩ := hS
  have hS : Stay w5 w7 ∧ Stay w6 w7 ∧ Stay w7 w7 := ⟨Stay.more q0 hb7, Stay.more q1 hb7, Stay.refl _⟩
  refine ⟨_, rfl, fun W => Stay w5 W ∧ Stay w6 W ∧ Stay w7 W, fun W ⟨h0, h1, h2⟩ => ⟨h0, h1⟩, hS, ?_⟩
  clear q0 q1
  simp only [Act.put, List.setIfInBounds_toArray, List.set_cons_zero, List.set_cons_succ]
  have s7 := string_stays hown7.rd.zero
  clear hown7
  refine lex_take (i := 13) (v := ?_) rfl (by kernel_rfl) (by kernel_rfl) (by kernel_rfl) (by rfl) hS ?_ ?_
  rotate_left
  · ((intro W hW; go_simp) <;> with_reducible rfl)
  simp only [Act.put, List.setIfInBounds_toArray, List.set_cons_zero, List.set_cons_succ]
  refine lex_take (i := 14) (v := ?_) rfl (by kernel_rfl) (by kernel_rfl) (by kernel_rfl) (by rfl) hS ?_ ?_
  rotate_left
  · ((intro W hW; go_simp) <;> with_reducible rfl)
  simp only [Act.put, List.setIfInBounds_toArray, List.set_cons_zero, List.set_cons_succ]
  refine lex_take (i := 15) (v := ?_) rfl (by kernel_rfl) (by kernel_rfl) (by kernel_rfl) (by rfl) hS ?_ ?_
  rotate_left
  · ((intro W hW; go_simp) <;> with_reducible rfl)
  simp only [Act.put, List.setIfInBounds_toArray, List.set_cons_zero, List.set_cons_succ]
  refine lex_take (i := 16) (v := ?_) rfl (by kernel_rfl) (by kernel_rfl) (by kernel_rfl) (by rfl) hS ?_ ?_
  rotate_left
  · ((intro W hW; go_simp) <;> with_reducible rfl)
  simp only [Act.put, List.setIfInBounds_toArray, List.set_cons_zero, List.set_cons_succ]
  refine lex_take (i := 17) (v := ?_) rfl (by kernel_rfl) (by kernel_rfl) (by kernel_rfl) (by rfl) hS ?_ ?_
  rotate_left
  · ((intro W hW; go_simp) <;> with_reducible rfl)
  simp only [Act.put, List.setIfInBounds_toArray, List.set_cons_zero, List.set_cons_succ]
  refine lex_take (i := 18) (v := ?_) rfl (by kernel_rfl) (by kernel_rfl) (by kernel_rfl) (by rfl) hS ?_ ?_
  rotate_left
  · ((intro W hW; go_simp) <;> with_reducible rfl)
  simp only [Act.put, List.setIfInBounds_toArray, List.set_cons_zero, List.set_cons_succ]
  refine lex_take (i := 19) (v := ?_) rfl (by kernel_rfl) (by kernel_rfl) (by kernel_rfl) (by rfl) hS ?_ ?_
  rotate_left
  · ((intro W hW; go_simp) <;> with_reducible rfl)
  simp only [Act.put, List.setIfInBounds_toArray, List.set_cons_zero, List.set_cons_succ]
  refine lex_take (i := 20) (v := ?_) rfl (by kernel_rfl) (by kernel_rfl) (by kernel_rfl) (by rfl) hS ?_ ?_
  rotate_left
  · ((intro W hW; go_simp) <;> with_reducible rfl)
  simp only [Act.put, List.setIfInBounds_toArray, List.set_cons_zero, List.set_cons_succ]
  refine lex_call (i := 21) (f := 15) rfl (by kernel_rfl) (by rfl) ?_ _ (refPutText_any b s _ _ (hp5.keep hS.1) (by omega) (by omega)) ?_
  · go_simp
  rintro e w8 ⟨v8, rfl, hown8, hb8⟩
  obtain ⟨q0, q1, q2⟩ := hS
  have hS : Stay w5 w8 ∧ Stay w6 w8 ∧ Stay w7 w8 ∧ Stay w8 w8 := ⟨Stay.more q0 hb8, Stay.more q1 hb8, Stay.more q2 hb8, Stay.refl _⟩
  refine ⟨_, rfl, fun W => Stay w5 W ∧ Stay w6 W ∧ Stay w7 W ∧ Stay w8 W, fun W ⟨h0, h1, h2, h3⟩ => ⟨h0, h1, h2⟩, hS, ?_⟩
  clear q0 q1 q2
  simp only [Act.put, List.setIfInBounds_toArray, List.set_cons_zero, List.set_cons_succ]
  have s8 := string_stays hown8.rd.zero
  clear hown8
  refine lex_take (i := 22) (v := ?_) rfl (by kernel_rfl) (by kernel_rfl) (by kernel_rfl) (by rfl) hS ?_ ?_
  rotate_left
  · ((intro W hW; go_simp) <;> with_reducible rfl)
  simp only [Act.put, List.setIfInBounds_toArray, List.set_cons_zero, List.set_cons_succ]
  refine lex_take (i := 23) (v := ?_) rfl (by kernel_rfl) (by kernel_rfl) (by kernel_rfl) (by rfl) hS ?_ ?_
  rotate_left
  · ((intro W hW; go_simp) <;> with_reducible rfl)
  simp only [Act.put, List.setIfInBounds_toArray, List.set_cons_zero, List.set_cons_succ]
  refine lex_take (i := 24) (v := ?_) rfl (by kernel_rfl) (by kernel_rfl) (by kernel_rfl) (by rfl) hS ?_ ?_
  rotate_left
  · ((intro W hW; go_simp) <;> with_reducible rfl)
  simp only [Act.put, List.setIfInBounds_toArray, List.set_cons_zero, List.set_cons_succ]
  refine lex_take (i := 25) (v := ?_) rfl (by kernel_rfl) (by kernel_rfl) (by kernel_rfl) (by rfl) hS ?_ ?_
  rotate_left
  · ((intro W hW; go_simp) <;> with_reducible rfl)
  simp only [Act.put, List.setIfInBounds_toArray, List.set_cons_zero, List.set_cons_succ]
  refine lex_take (i := 26) (v := ?_) rfl (by kernel_rfl) (by kernel_rfl) (by kernel_rfl) (by rfl) hS ?_ ?_
  rotate_left
  · ((intro W hW; go_simp) <;> with_reducible rfl)
  simp only [Act.put, List.setIfInBounds_toArray, List.set_cons_zero, List.set_cons_succ]
  refine lex_take (i := 27) (v := ?_) rfl (by kernel_rfl) (by kernel_rfl) (by kernel_rfl) (by rfl) hS ?_ ?_
  rotate_left
  · ((intro W hW; go_simp) <;> with_reducible rfl)
  simp only [Act.put, List.setIfInBounds_toArray, List.set_cons_zero, List.set_cons_succ]
  refine lex_take (i := 28) (v := ?_) rfl (by kernel_rfl) (by kernel_rfl) (by kernel_rfl) (by rfl) hS ?_ ?_
  rotate_left
  · ((intro W hW; go_simp) <;> with_reducible rfl)
  simp only [Act.put, List.setIfInBounds_toArray, List.set_cons_zero, List.set_cons_succ]
  refine lex_take (i := 29) (v := ?_) rfl (by kernel_rfl) (by kernel_rfl) (by kernel_rfl) (by rfl) hS ?_ ?_
  rotate_left
  · ((intro W hW; go_simp) <;> with_reducible rfl)
  simp only [Act.put, List.setIfInBounds_toArray, List.set_cons_zero, List.set_cons_succ]
  refine lex_take (i := 30) (v := ?_) rfl (by kernel_rfl) (by kernel_rfl) (by kernel_rfl) (by rfl) hS ?_ ?_
  rotate_left
  · ((intro W hW; go_simp) <;> with_reducible rfl)
  simp only [Act.put, List.setIfInBounds_toArray, List.set_cons_zero, List.set_cons_succ]
  refine lex_take (i := 31) (v := ?_) rfl (by kernel_rfl) (by kernel_rfl) (by kernel_rfl) (by rfl) hS ?_ ?_
  rotate_left
  · ((intro W hW; go_simp) <;> with_reducible rfl)
  simp only [Act.put, List.setIfInBounds_toArray, List.set_cons_zero, List.set_cons_succ]
  refine lex_take (i := 32) (v := ?_) rfl (by kernel_rfl) (by kernel_rfl) (by kernel_rfl) (by rfl) hS ?_ ?_
  rotate_left
  · ((intro W hW; go_simp) <;> with_reducible rfl)
  simp only [Act.put, List.setIfInBounds_toArray, List.set_cons_zero, List.set_cons_succ]
  refine lex_take (i := 33) (v := ?_) rfl (by kernel_rfl) (by kernel_rfl) (by kernel_rfl) (by rfl) hS ?_ ?_
  rotate_left
  · ((intro W hW; go_simp) <;> with_reducible rfl)
  simp only [Act.put, List.setIfInBounds_toArray, List.set_cons_zero, List.set_cons_succ]
  refine lex_call (i := 34) (f := 9) rfl (by kernel_rfl) (by rfl) ?_ _ (live_any _) ?_
  · go_simp
  rintro e w9 ⟨rfl, hb9⟩
  obtain ⟨q0, q1, q2, q3⟩ := hS
  have hS : Stay w5 w9 ∧ Stay w6 w9 ∧ Stay w7 w9 ∧ Stay w8 w9 ∧ Stay w9 w9 := ⟨Stay.more q0 hb9, Stay.more q1 hb9, Stay.more q2 hb9, Stay.more q3 hb9, Stay.refl _⟩
  refine ⟨_, rfl, fun W => Stay w5 W ∧ Stay w6 W ∧ Stay w7 W ∧ Stay w8 W ∧ Stay w9 W, fun W ⟨h0, h1, h2, h3, h4⟩ => ⟨h0, h1, h2, h3⟩, hS, ?_⟩
  clear q0 q1 q2 q3
  simp only [Act.put, List.setIfInBounds_toArray, List.set_cons_zero, List.set_cons_succ]
  refine lex_take (i := 35) (v := ?_) rfl (by kernel_rfl) (by kernel_rfl) (by kernel_rfl) (by rfl) hS ?_ ?_
  rotate_left
  · ((intro W hW; go_simp) <;> with_reducible rfl)
  simp only [Act.put, List.setIfInBounds_toArray, List.set_cons_zero, List.set_cons_succ]
  refine lex_take (i := 36) (v := ?_) rfl (by kernel_rfl) (by kernel_rfl) (by kernel_rfl) (by rfl) hS ?_ ?_
  rotate_left
  · ((intro W hW; go_simp) <;> with_reducible rfl)
  simp only [Act.put, List.setIfInBounds_toArray, List.set_cons_zero, List.set_cons_succ]
  refine lex_done (by kernel_rfl) ?_
  go_wp2_with fail
  go_ret
  exact ⟨rfl, hb5.trans (hS.1.mono hb5.size)⟩

set_option maxRecDepth 20000 in
set_option maxHeartbeats 800000 in
theorem puts_big {w : World} (n i : Int) (s : ByteArray) (v : Value) (p : List UInt8) (hp : Rd 0 w v p) (h : 12288 < s.size ∨ 12288 < p.length) :
    Calls Try.prog 3 #[v, .int .u64 n, .int .i64 i, .string s] w fun e w' => e = .returned (.bool true) ∧ Below w.heap.size w w' := by
  obtain ⟨sa, sc, rfl⟩ := hp.shape
  by_cases hs : 12288 < p.length
  · go_enter Try.func3, Try.ntmps3
    go_wp2_with fail
    refine (live_any _).mono ?_
    rintro e w1 ⟨rfl, hb⟩
    go_wp2_with fail
    go_ret
    exact ⟨rfl, hb⟩
  · have hpl : 12288 < s.size := by omega
    go_enter Try.func3, Try.ntmps3
    go_wp2_with fail
    refine (live_any _).mono ?_
    rintro e w1 ⟨rfl, hb⟩
    go_wp2_with fail
    go_ret
    exact ⟨rfl, hb⟩

theorem puts_all {w : World} (n i : Int) (s : ByteArray) (v : Value) (p : List UInt8) (hp : Rd 0 w v p) (wn : (Lit.int .u64 n).wf = true) (wi : (Lit.int .i64 i).wf = true) :
    Calls Try.prog 3 #[v, .int .u64 n, .int .i64 i, .string s] w fun e w' => e = .returned (.bool true) ∧ Below w.heap.size w w' := by
  by_cases hb : 12288 < s.size ∨ 12288 < p.length
  · exact puts_big n i s v p hp hb
  · have hn : 0 ≤ n ∧ n < 18446744073709551616 := by
      simp [Lit.wf, IntKind.min, IntKind.max, IntKind.signed, IntKind.bits] at wn
      omega
    have hi : -9223372036854775808 ≤ i ∧ i ≤ 9223372036854775807 := by
      simp [Lit.wf, IntKind.min, IntKind.max, IntKind.signed, IntKind.bits] at wi
      omega
    obtain ⟨m, rfl⟩ := Int.eq_ofNat_of_zero_le hn.1
    exact puts_walk m i s v p hp (Lib.hid (by omega)) (Lib.hid hi) (by omega) (by omega)

set_option maxRecDepth 100000 in
theorem puts_lifted (os : Os) (started : os.Started) (H : Type) (enc : TypeId × Value → H) :
    ReturnsInHanded {} Try.checked os 3 .any (Rows.codecPutsSpec.pre6 enc Try.prog Try.f3 Rows.codecPutsRow.domain false) (Rows.codecPutsSpec.post enc Try.prog Try.f3 false true false false) := by
  refine returnsInHanded_of_change (C := Try.checked) own started (by kernel_rfl) Try.func3
    (ChangeSpec.witness6 (enc := enc) (C := Try.checked) false ⟨#[], #[.slice none 0 0, .int .u64 0, .int .i64 0, .string ⟨#[]⟩], []⟩ 8 (by kernel_rfl) (by kernel_rfl) (by kernel_rfl) (by kernel_rfl)) ?_
  intro W base args ds gs before hval0 hW hcnd _
  have hval : ∀ (j : Nat) t v, Try.f3.params[j]? = some t → args[j]? = some v → Value.okWide Try.prog W .any base t v := hval0
  have hW' := hW
  obtain ⟨p, q, hA0, hV, rfl, hfz, hnd⟩ := hW
  have hA : DataW.TrodAll enc Try.prog W 0 (fun _ => true) true Try.f3.params.toList args.toList ds p := hA0
  rw [Try.params3] at hA hval
  obtain ⟨v0, vs0, d0, ds0, p0, q0, hargs, rfl, rfl, h0, r0⟩ := trodAll_cons hA
  obtain ⟨v1, vs1, d1, ds1, p1, q1, rfl, rfl, rfl, h1, r1⟩ := trodAll_cons r0
  obtain ⟨v2, vs2, d2, ds2, p2, q2, rfl, rfl, rfl, h2, r2⟩ := trodAll_cons r1
  obtain ⟨v3, vs3, d3, ds3, p3, q3, rfl, rfl, rfl, h3, r3⟩ := trodAll_cons r2
  obtain ⟨rfl, rfl, rfl⟩ := trodAll_nil r3
  obtain rfl : args = #[v0, v1, v2, v3] := by cases args; simp_all
  obtain ⟨rfl, rfl⟩ := trodVars_none hV
  obtain ⟨l0, w0⟩ := open_bytes (hval 0 22 v0 rfl rfl) h0
  have lt0 := places_lt h0
  obtain ⟨a1, rfl, rfl, rfl, w1⟩ := open_int Try.underlying23 (hval 1 23 v1 rfl rfl) h1
  obtain ⟨a2, rfl, rfl, rfl, w2⟩ := open_int Try.underlying2 (hval 2 2 v2 rfl rfl) h2
  obtain ⟨s3, rfl, rfl, rfl, w3⟩ := open_string Try.underlying9 (hval 3 9 v3 rfl rfl) h3
  clear hA0 hval0
  refine (puts_all a1 a2 s3 v0 l0 w0 w1 w2).mono fun e W' ⟨he, bel⟩ => ?_
  subst he
  exact ⟨_, rfl, _, _, _, [], _, [], hW', trodAll_mk1 (shut_bool Try.underlying4 _), (trodAll_cons_mk (Below.trod laidOut (by kernel_rfl) (of_decide_eq_true (by kernel_rfl)) h0 bel lt0) (trodAll_cons_mk (shut_int Try.underlying23 w1) (trodAll_cons_mk (shut_int Try.underlying2 w2)
    (trodAll_cons_mk (shut_string Try.underlying9 w3) trodAll_mk0)))), rfl, bel.frame _, fun h => by cases h⟩

/-- The statement. -/
theorem puts_holds : Rows.CodecPutsSaid :=
  OpenClaim.holds_of_wide 3 Try.f3 rfl rfl rfl rfl rfl rfl rfl ⟨rfl, rfl, rfl, rfl, rfl⟩ rfl rfl rfl rfl rfl (by kernel_rfl) Try.func3 (by kernel_rfl)
    (of_decide_eq_true (by kernel_rfl)) (by unfold Func.isWrapper; first | (rw [if_pos (by decide +kernel)]; kernel_rfl) | (rw [if_neg (by decide +kernel)]; exact ⟨rfl, rfl⟩))
    (fun os started H enc _ => puts_lifted os started H enc)

#print axioms puts_holds
end Go.Proofs.Ytfjigkpgoalbnaa
