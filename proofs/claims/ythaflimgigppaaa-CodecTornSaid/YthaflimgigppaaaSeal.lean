/-
  What codec.Seal does.
-/
import Derived.Test.YthaflimgigppaaaSumBytes
import Derived.Deep.RegionLaw
namespace Go.Proofs.Ythaflimgigppaaa
open Go.RowKit

/-- append to a row of the call's own, as one step of a region that draws its order. -/
theorem step_append_own {P : Program} {ops : Array Oper} {o : Oper} {a : Act} {w : World} {K : Act → World → Prop} {Q : Exit → Act → World → Prop} {E : Prop}
    (hg : o.guard = none) (s x : Operand) (t : TypeId) (hop : o.op = Op.call { callee := Callee.builtin Builtin.append, args := #[s, x], argTypes := #[t, t] })
    (base : Nat) (e : TypeId) (i : TypeInfo) (z : Value) (size bytes : Nat) (ht : P.underlying t = some (.slice e)) (hi : P.info? e = some i) (hz : i.zero = some z)
    (hsize : i.size = size) (hby : i.bytes = bytes) (hzs : z.cells.size = size) (hsz : 0 < size)
    (v : Value) (n : Nat) (xs : List Value) (hs : a.eval s = v) (hown : w.ownsRow base e size v n xs)
    (ad : Addr) (m c : Nat) (news : List Value) (hx : a.eval x = .slice (some ad) m c) (hl : news.length = m * size) (hnews : ∀ j u, news[j]? = some u → w.cell? (ad.add j) = some u) (h1 : ∀ u ∈ news, u.oneCell' = true)
    (h63 : n + m ≤ maxLen) (hbytes : (n + m) * bytes ≤ 140737488355328) (hbase : base ≤ w.heap.size)
    (h : ∀ v' w', w'.ownsRow base e size v' (n + m) (xs ++ news) → w.grownBy w' v.ownBlock → K (a.put o.dst v') w') :
    if Region.wanted o (yielded ops a.tmps) = true then Oper.wp P o a w K Q else E := by
  have hw : Region.wanted o (yielded ops a.tmps) = true := by simp [Region.wanted, hg]
  rw [if_pos hw]
  exact wp_append_own w s x t hop base e i z size bytes ht hi hz hsize hby hzs hsz v n xs hs hown ad m c news hx hl hnews h1 h63 hbytes hbase fun v' w' h2 h3 _ => h v' w' h2 h3

/-- The frame of a load. -/
def frameOf (l : List UInt8) : List UInt8 := enc l.length ++ l ++ sumB (crc l)

set_option maxHeartbeats 400000 in
theorem seal_long {w : World} {v : Value} {l : List UInt8} (h : Rd 0 w v l) (hl : 4096 < l.length) (hl2 : l.length ≤ 140737488355328) :
    Calls Try.prog 5 #[v] w fun e w' => e = .returned (.tuple #[.slice none 0 0, .int .i64 1]) ∧ w = w' := by
  obtain ⟨sa, sc, rfl⟩ := h.shape
  go_enter Try.func5, Try.ntmps5
  go_wp2_with fail
  go_ret2
  exact ⟨rfl, rfl⟩

theorem four_cells (w1 : World) {x0 x1 x2 x3 : Int} {l : List UInt8} (hx : cellsOf l = [.int .u8 x0, .int .u8 x1, .int .u8 x2, .int .u8 x3]) :
    ∀ i, i < l.length → (w1.alloc (.cells #[.int .u8 x0, .int .u8 x1, .int .u8 x2, .int .u8 x3] 42)).cell? ⟨w1.heap.size, 0 + i, none⟩ = some (u8v (l.getD i 0)) := by
  intro i hi
  have hl : l.length = 4 := by have := congrArg List.length hx; simpa [cellsOf_length] using this
  have he : (cellsOf l)[i]? = some (u8v (l.getD i 0)) := by simp [cellsOf, hi, List.getD_eq_getElem?_getD]
  rw [hx] at he
  rcases (show i = 0 ∨ i = 1 ∨ i = 2 ∨ i = 3 by omega) with rfl | rfl | rfl | rfl <;> simp at he <;> simp [go_sem, he]
theorem seal_len1 {l : List UInt8} (hl : l.length ≤ 4096) : (([] : List UInt8) ++ enc (strOf l).size ++ (strOf l).data.toList).length + 4 ≤ maxLen := by
  have := enc_len (strOf l).size
  simp only [List.nil_append, List.length_append, strOf_toList]
  unfold maxLen; omega
theorem seal_len2 {l : List UInt8} (hl : l.length ≤ 4096) : ((([] : List UInt8) ++ enc (strOf l).size ++ (strOf l).data.toList).length + 4) * 1 ≤ 140737488355328 := by
  have := enc_len (strOf l).size
  simp only [List.nil_append, List.length_append, strOf_toList]
  omega

set_option maxHeartbeats 800000 in
theorem seal_any {w : World} {v : Value} {l : List UInt8} (h : Rd 0 w v l) (hl : l.length ≤ 4096) :
    Calls Try.prog 5 #[v] w fun e w' => ∃ v', e = .returned (.tuple #[v', .int .i64 0]) ∧ Own w.heap.size w' v' (frameOf l) ∧ Below w.heap.size w w' := by
  obtain ⟨i0, hi, hz0, hz1, hz2⟩ := info_parts row5
  obtain ⟨x0, x1, x2, x3, hx⟩ : ∃ x0 x1 x2 x3 : Int, cellsOf (sumB (crc l)) = [.int .u8 x0, .int .u8 x1, .int .u8 x2, .int .u8 x3] := ⟨_, _, _, _, sumB_cells (crc l)⟩
  have hsb := sumBytes_any h (by omega)
  rw [hx] at hsb
  have HX := Lib.hid hx
  have HB := Lib.hid hsb
  clear hx hsb
  have hshape := h.shape
  have hss : (strOf l).size ≤ 549755813888 := by have := strOf_size l; omega
  obtain ⟨sa, sc, rfl⟩ := h.shape
  have hcf : ∀ (args : Array Value) (w : World), (callFunc 15 args).run Try.prog w = .ok (.enter 15 args) w := fun _ _ => by kernel_rfl
  have Hcf := Lib.hid hcf
  clear hcf hshape
  go_enter Try.func5, Try.ntmps5
  go_wp2_with fail
  refine HB.out.mono ?_
  rintro e w1 ⟨rfl, hb⟩
  have h1 := h.keep hb
  clear h HB
  have h2 := h1.keep ((Below.refl w1.heap.size w1).alloc (Nat.le_refl _) (.cells #[.int .u8 x0, .int .u8 x1, .int .u8 x2, .int .u8 x3] 42))
  have hnew := Rd.news (w := w1.alloc (.cells #[.int .u8 x0, .int .u8 x1, .int .u8 x2, .int .u8 x3] 42)) (b := w1.heap.size) (off := 0) (l := sumB (crc l)) (four_cells w1 HX.out)
  have hsz : (w1.alloc (.cells #[.int .u8 x0, .int .u8 x1, .int .u8 x2, .int .u8 x3] 42)).heap.size = w1.heap.size + 1 := by simp
  have hb2 : Below w.heap.size w (w1.alloc (.cells #[.int .u8 x0, .int .u8 x1, .int .u8 x2, .int .u8 x3] 42)) := hb.alloc hb.size _
  have hbs := hb.size
  clear h1 hb
  go_wp2_with fail
  generalize w1.alloc (.cells #[.int .u8 x0, .int .u8 x1, .int .u8 x2, .int .u8 x3] 42) = w2 at *
  have hcv : (convert 24 9 (.slice sa l.length sc)).run Try.prog w2.drew = .ok (.string (strOf l)) w2.drew := rd_string (h2.keep (Below.refl _ _).drew)
  clear h2
  go_region_law (first
    | (go_simp; go_at_call 15; refine (putText_any [] (strOf l) _ _ (Rd.nils _ _) (by simp) hss).mono ?_; rintro e w3 ⟨v3, rfl, hown3, hb3⟩)
    | (refine step_append_own rfl _ _ 24 rfl w.heap.size 5 i0 (.int .u8 0) 1 1 Try.underlying24 hi hz0 hz1 hz2 rfl (by decide) _ _ _ rfl (Own.mono hown3 (Nat.le_trans hbs (by simp; omega))) ⟨w1.heap.size, 0, none⟩ 4 4 (cellsOf (sumB (crc l))) rfl rfl (fun j u hu => cell_later hb3 (by simpa using hnew j u hu)) (cellsOf_oneCell _) (seal_len1 hl) (seal_len2 hl) (Nat.le_trans hb2.size (Nat.le_trans (by simp) hb3.size)) ?_; intro v4 w4 hown4 hg4))
  have hg5 : w3.grownBy w4 v3.ownBlock := hg4
  clear hg4 hcv hnew
  go_wp2
  go_ret2
  have hbd := hb2.size
  have hbd3 := hb3.size
  have hsd : w2.drew.heap.size = w2.heap.size := rfl
  refine ⟨_, rfl, own_of hown4 ?_ ?_, ?_⟩
  · simp only [frameOf, List.nil_append, List.length_append, strOf_toList, strOf_size, sumB_length]
  · simp only [frameOf, List.nil_append, strOf_toList, strOf_size, cellsOf_append]
  · refine ((hb2.trans ((Below.refl _ _).drew)).trans (hb3.mono (by omega))).grown hg5 (by omega) fun k hk => ?_
    have := (World.ownsRow.lt hown3 k hk).1
    omega

end Go.Proofs.Ythaflimgigppaaa
