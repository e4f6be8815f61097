/-
  What the disk's functions do that write: spend, lay, Write, Arm, Start; and Read.
-/
import Derived.Test.YthamjlhkiabcnaaDDisk
import Derived.StillTailTactics
import Derived.RegionTactic
import Derived.Deep.RegionLaw
namespace Go.Proofs.Ythamjlhkiabcnaa
open Go.RowKit

/-- A write that nothing refuses. -/
def Dk.lay (d : Dk) (x : Int × ByteArray) : Dk := { d with now := d.now.set x.1.toNat x.2, log := d.log ++ [x] }
/-- One of the writes that are left is taken. -/
def Dk.spent (d : Dk) : Bool := d.dead || d.left == 0
def Dk.spend (d : Dk) : Dk := if d.left = 0 then { d with dead := true } else if d.dead then d else if d.left = -1 then d else { d with left := d.left - 1 }
def Dk.has (d : Dk) (at_ : Int) : Bool := decide (0 ≤ at_ ∧ at_ < d.now.length)
/-- What Write answers, and the disk behind it. -/
def Dk.writeE (d : Dk) (at_ : Int) (s : ByteArray) : Int := if d.has at_ = false then 2 else if 1024 < s.size then 1 else if d.spent then 20 else 0
def Dk.write (d : Dk) (at_ : Int) (s : ByteArray) : Dk := if d.has at_ = false then d else if 1024 < s.size then d else if d.spent then d.spend else d.spend.lay (at_, s)

theorem Dk.spend_now (d : Dk) : d.spend.now = d.now := by unfold Dk.spend; split <;> (try split) <;> (try split) <;> rfl
theorem Dk.spend_log (d : Dk) : d.spend.log = d.log := by unfold Dk.spend; split <;> (try split) <;> (try split) <;> rfl
theorem Dk.spend_first (d : Dk) : d.spend.first = d.first := by unfold Dk.spend; split <;> (try split) <;> (try split) <;> rfl
theorem Dk.Good.spend {d : Dk} (g : d.Good) : d.spend.Good := by
  refine ⟨by rw [d.spend_now]; exact g.pos, by rw [d.spend_now]; exact g.le, by rw [d.spend_now, d.spend_first]; exact g.flen, by rw [d.spend_now, d.spend_log]; exact g.logIn, by rw [d.spend_log]; exact g.logLen, ?_, ?_⟩
  · have h1 := g.leftLo
    unfold Dk.spend
    split
    · exact h1
    · split
      · exact h1
      · split
        · exact h1
        · show -1 ≤ d.left - 1; omega
  · have h1 := g.leftHi
    unfold Dk.spend
    split
    · exact h1
    · split
      · exact h1
      · split
        · exact h1
        · show d.left - 1 ≤ _; omega
theorem Dk.Good.lay {d : Dk} (g : d.Good) {x : Int × ByteArray} (hx : d.has x.1 = true) (hl : d.log.length < 4294967296) : (d.lay x).Good := by
  have hx' : 0 ≤ x.1 ∧ x.1 < d.now.length := by simpa [Dk.has] using hx
  refine ⟨by simpa [Dk.lay] using g.pos, by simpa [Dk.lay] using g.le, by simpa [Dk.lay] using g.flen, ?_, by simp [Dk.lay]; omega, g.leftLo, g.leftHi⟩
  intro y hy
  simp only [Dk.lay, List.mem_append, List.mem_singleton, List.length_set] at hy ⊢
  rcases hy with hy | rfl
  · exact g.logIn y hy
  · exact hx'

/-- A call has turned the disk at a to d. -/
def Turned (w : World) (B a : Nat) (S : Nat → Prop) (d : Dk) (w' : World) : Prop := ∃ S', IsDisk w' B a S' d ∧ (∀ k, S' k → S k ∨ w.heap.size ≤ k) ∧ Touch S w w'

theorem step_append_at {P : Program} {w : World} {ops : Array Oper} {o : Oper} {a : Act} {K : Act → World → Prop} {Q : Exit → Act → World → Prop} {E : Prop} (hgd : o.guard = none) (s x : Operand) (t : TypeId)
    (ho : o.op = .call { callee := .builtin .append, args := #[s, x], argTypes := #[t, t] })
    (base : Nat) (e : TypeId) (i : TypeInfo) (z : Value) (size bytes : Nat) (ht : P.underlying t = some (.slice e)) (hi : P.info? e = some i) (hz : i.zero = some z)
    (hsize : i.size = size) (hby : i.bytes = bytes) (hzs : z.cells.size = size) (hsz : 0 < size)
    (v : Value) (n : Nat) (xs : List Value) (hs : a.eval s = v) (hown : w.ownsRow base e size v n xs)
    (ad : Addr) (m c : Nat) (news : List Value) (hx : a.eval x = .slice (some ad) m c) (hm : 0 < m) (hl : news.length = m * size) (hnews : ∀ j u, news[j]? = some u → w.cell? (ad.add j) = some u) (h1 : ∀ u ∈ news, u.oneCell' = true)
    (h63 : n + m ≤ maxLen) (hbytes : (n + m) * bytes ≤ 140737488355328) (hbase : base ≤ w.heap.size)
    (h : ∀ v' w', w'.ownsRow base e size v' (n + m) (xs ++ news) → w.grownBy w' v.ownBlock → (v'.ownBlock = v.ownBlock ∨ v'.ownBlock = some w.heap.size) → K (a.put o.dst v') w') : if Region.wanted o (yielded ops a.tmps) = true then Oper.wp P o a w K Q else E := by
  have hw : Region.wanted o (yielded ops a.tmps) = true := by simp [Region.wanted, hgd]
  rw [if_pos hw]
  exact wp_append_at w s x t ho base e i z size bytes ht hi hz hsize hby hzs hsz v n xs hs hown ad m c news hx hm hl hnews h1 h63 hbytes hbase h

theorem news2 (w : World) (x y : Value) (T : TypeId) : ∀ j u, [x, y][j]? = some u → (w.alloc (.cells #[x, y] T)).cell? ((⟨w.heap.size, 0, none⟩ : Addr).add j) = some u := by
  intro j u hj
  have hadd : (⟨w.heap.size, 0, none⟩ : Addr).add j = ⟨w.heap.size, j, none⟩ := by unfold Addr.add; split <;> simp_all
  rw [hadd, World.cell?, heap_alloc_new w _]
  simpa using hj

theorem cell_new (w : World) (cs : Array Value) (T : TypeId) (fz : Nat × Nat) (i : Nat) : (w.alloc (.cells cs T fz)).cell? ⟨w.heap.size, i, none⟩ = cs[i]? := by
  rw [World.cell?, heap_alloc_new w _]
  simp

section
variable {w : World} {B a : Nat} {S : Nat → Prop} {d : Dk}

theorem Turned.here (h : IsDisk w B a S d) : Turned w B a S d w := ⟨S, h, fun _ hk => .inl hk, Touch.refl _ _⟩
theorem Turned.then {d1 d2 : Dk} {w1 w2 : World} (h : Turned w B a S d1 w1) (k : ∀ S', IsDisk w1 B a S' d1 → Turned w1 B a S' d2 w2) : Turned w B a S d2 w2 := by
  obtain ⟨S1, h1, h2, h3⟩ := h
  obtain ⟨S2, k1, k2, k3⟩ := k S1 h1
  refine ⟨S2, k1, fun q hq => ?_, h3.step k3 h2⟩
  rcases k2 q hq with e | e
  · exact h2 q e
  · have := h3.size; exact .inr (by omega)

theorem Turned.trans {S1 : Nat → Prop} {d2 : Dk} {w1 w2 : World} (h2 : ∀ k, S1 k → S k ∨ w.heap.size ≤ k) (h3 : Touch S w w1) (k : Turned w1 B a S1 d2 w2) : Turned w B a S d2 w2 := by
  obtain ⟨S2, k1, k2, k3⟩ := k
  refine ⟨S2, k1, fun q hq => ?_, h3.step k3 h2⟩
  rcases k2 q hq with e | e
  · exact h2 q e
  · have := h3.size; exact .inr (by omega)

theorem turned_dead (h : IsDisk w B a S d) (b : Bool) : Turned w B a S { d with dead := b } (w.setCell ⟨a, 3, none⟩ (.bool b)) := by
  obtain ⟨⟨fv, bv, lv, h⟩, g⟩ := h
  exact ⟨S, ⟨⟨fv, bv, lv, h.tailSet 0 (.bool b)⟩, ⟨g.pos, g.le, g.flen, g.logIn, g.logLen, g.leftLo, g.leftHi⟩⟩, fun _ hk => .inl hk, touch_set _ _ _ _ _ h.memA⟩
theorem turned_left (h : IsDisk w B a S d) (n : Int) (h1 : -1 ≤ n) (h2 : n ≤ 9223372036854775807) : Turned w B a S { d with left := n } (w.setCell ⟨a, 4, none⟩ (.int .i64 n)) := by
  obtain ⟨⟨fv, bv, lv, h⟩, g⟩ := h
  exact ⟨S, ⟨⟨fv, bv, lv, h.tailSet 1 (.int .i64 n)⟩, ⟨g.pos, g.le, g.flen, g.logIn, g.logLen, h1, h2⟩⟩, fun _ hk => .inl hk, touch_set _ _ _ _ _ h.memA⟩

set_option maxHeartbeats 800000 in
theorem spend_any (h : IsDisk w B a S d) : Calls Try.prog 46 #[.pointer (some ⟨a, 0, none⟩)] w fun e w' => e = .returned (.bool (!d.spent)) ∧ Turned w B a S d.spend w' := by
  have H := Lib.hid h
  obtain ⟨⟨fv, bv, lv, h⟩, g⟩ := h
  have c3 := (two_cells h.block).1
  have c4 := (two_cells h.block).2
  have fz := h.fz
  have g1 := g.leftLo
  have g2 := g.leftHi
  have HG := Lib.hid g
  clear h g
  by_cases h0 : d.left = 0
  · have hp : (!d.spent) = false := by simp [Dk.spent, h0]
    have hd : d.spend = { d with dead := true } := by simp [Dk.spend, h0]
    have ht := turned_dead H.out true
    rw [hp, hd]
    rw [h0] at c4
    have HT := Lib.hid ht
    clear ht hp hd h0
    go_enter Try.func46, Try.ntmps46
    go_wp2
    go_ret
    exact ⟨rfl, HT.out⟩
  · have hn0 : (d.left == 0) = false := by simpa using h0
    cases hdd : d.dead
    · have hp : (!d.spent) = true := by simp [Dk.spent, h0, hdd]
      rw [hdd] at c3
      by_cases hm : d.left = -1
      · have hd : d.spend = d := by simp [Dk.spend, hdd, hm]
        rw [hp, hd]
        rw [hm] at c4
        clear hp hd hdd h0 hn0 hm
        go_enter Try.func46, Try.ntmps46
        go_wp2
        go_ret
        exact ⟨rfl, Turned.here H.out⟩
      · have hd : d.spend = { d with left := d.left - 1 } := by simp [Dk.spend, h0, hdd, hm]
        have hnm : (d.left != -1) = true := by simpa using hm
        have ht := turned_left H.out (d.left - 1) (by omega) (by omega)
        rw [hp, hd]
        have HT := Lib.hid ht
        clear ht hp hd hdd h0 hm
        go_enter Try.func46, Try.ntmps46
        go_wp2
        go_ret
        exact ⟨rfl, HT.out⟩
    · have hp : (!d.spent) = false := by simp [Dk.spent, hdd]
      have hd : d.spend = d := by simp [Dk.spend, h0, hdd]
      rw [hp, hd]
      rw [hdd] at c3
      clear hp hd hdd h0
      go_enter Try.func46, Try.ntmps46
      go_wp2
      go_ret
      exact ⟨rfl, Turned.here H.out⟩

set_option maxHeartbeats 400000 in
theorem arm_bad (n : Int) (h : n < -1) (w : World) : Calls Try.prog 30 #[.pointer (some ⟨a, 0, none⟩), .int .i64 n] w fun e w' => e = .returned (.int .i64 2) ∧ w = w' := by
  go_enter Try.func30, Try.ntmps30
  go_wp2
  go_ret
  exact ⟨rfl, rfl⟩

set_option maxHeartbeats 400000 in
theorem arm_ok (h : IsDisk w B a S d) (n : Int) (h1 : -1 ≤ n) (h2 : n ≤ 9223372036854775807) : Calls Try.prog 30 #[.pointer (some ⟨a, 0, none⟩), .int .i64 n] w fun e w' => e = .returned (.int .i64 0) ∧ Turned w B a S { d with left := n } w' := by
  have HT := Lib.hid (turned_left h n h1 h2)
  obtain ⟨⟨fv, bv, lv, h⟩, g⟩ := h
  have c4 := (two_cells h.block).2
  have fz := h.fz
  clear h g
  go_enter Try.func30, Try.ntmps30
  go_wp2
  go_ret
  exact ⟨rfl, HT.out⟩

set_option maxHeartbeats 400000 in
theorem start_any (h : IsDisk w B a S d) : Calls Try.prog 34 #[.pointer (some ⟨a, 0, none⟩)] w fun e w' => e = .returned (.tuple #[]) ∧ Turned w B a S { d with dead := false, left := -1 } w' := by
  have ht := turned_dead h false
  have HT := Lib.hid ht
  obtain ⟨⟨fv, bv, lv, h⟩, g⟩ := h
  have c3 := (two_cells h.block).1
  have c4 := (two_cells h.block).2
  have fz := h.fz
  clear h g ht
  go_enter Try.func34, Try.ntmps34
  go_wp2
  go_end0
  exact ⟨rfl, HT.out.then fun S' h' => turned_left h' (-1) (by decide) (by decide)⟩

set_option maxHeartbeats 800000 in
theorem lay_any (h : IsDisk w B a S d) (n : Int) (s : ByteArray) (hn : d.has n = true) (hl : d.log.length < 4294967296) :
    Calls Try.prog 47 #[.pointer (some ⟨a, 0, none⟩), .agg #[.int .i64 n, .string s]] w fun e w' => e = .returned (.tuple #[]) ∧ Turned w B a S (d.lay (n, s)) w' := by
  obtain ⟨i0, hi, hz0, hz1, hz2⟩ := info_parts rowW
  have HG := Lib.hid (h.2.lay (x := (n, s)) hn hl)
  obtain ⟨⟨fv, bv, lv, h⟩, g⟩ := h
  have hn' : 0 ≤ n ∧ n < d.now.length := by simpa [Dk.has] using hn
  obtain ⟨hn0, hn1⟩ := hn'
  have hpos := g.pos
  clear g hn
  obtain ⟨m, rfl⟩ := Int.eq_ofNat_of_zero_le hn0
  rcases h.onow.2 with ⟨_, h0⟩ | ⟨gb, cap, cur, rfl, hgb, hblk, hcap, hmax, _, _⟩
  · omega
  have h1 := h.below (w' := w.alloc (.cells #[.int .i64 (m : Int), .string s] 51)) ((Below.refl _ _).alloc (Nat.le_refl _) _)
  have hx : ∀ o, (w.alloc (.cells #[.int .i64 (m : Int), .string s] 51)).frozen? ⟨gb, o, none⟩ = false := fun o => h1.onow.frozenAt o
  have hcm : (w.alloc (.cells #[.int .i64 (m : Int), .string s] 51)).cell? ⟨gb, m, none⟩ = some (.string (d.now[m]'(by omega))) := by
    have := h1.onow.cellAt m (by omega)
    rw [this]
    exact strs_at _ _ _
  go_enter Try.func47, Try.ntmps47
  go_wp2
  have e1 := h1.c1
  have e2 := h1.c2
  have z0 : (w.alloc (.cells #[.int .i64 (m : Int), .string s] 51)).cell? ⟨w.heap.size, 0, none⟩ = some (.int .i64 (m : Int)) := cell_new _ _ _ _ _
  have z1 : (w.alloc (.cells #[.int .i64 (m : Int), .string s] 51)).cell? ⟨w.heap.size, 1, none⟩ = some (.string s) := cell_new _ _ _ _ _
  have hsz : w.heap.size < (w.alloc (.cells #[.int .i64 (m : Int), .string s] 51)).heap.size := by simp
  have hW0 : Touch S w (w.alloc (.cells #[.int .i64 (m : Int), .string s] 51)) := touch_alloc _ _ _
  generalize w.alloc (.cells #[.int .i64 (m : Int), .string s] 51) = W at *
  clear hblk
  go_still_tail 9, (by kernel_rfl)
  go_wp2
  have h2 := (h1.nowSet rfl m s).keep (touch_drew _ fun _ => False) (fun _ _ h => h)
  have hgw : gb < w.heap.size := (h.onow.lt gb rfl).2
  have ht : Touch (fun k => k = gb) W (W.setCell ⟨gb, m, none⟩ (.string s)).drew := (touch_set W gb m (.string s) (fun k => k = gb) rfl).trans (touch_drew _ _)
  have z0' : (W.setCell ⟨gb, m, none⟩ (.string s)).drew.cell? ⟨w.heap.size, 0, none⟩ = some (.int .i64 (m : Int)) := by
    rw [World.cell?_of_block (w := W) (ht.block w.heap.size hsz (by omega))]; exact z0
  have z1' : (W.setCell ⟨gb, m, none⟩ (.string s)).drew.cell? ⟨w.heap.size, 1, none⟩ = some (.string s) := by
    rw [World.cell?_of_block (w := W) (ht.block w.heap.size hsz (by omega))]; exact z1
  have hT := Touch.step (S := S) (hW0.mono fun k _ hk => hk) (ht.mono (T := S) fun k _ hk => by subst hk; exact h.memB rfl) fun k hk => .inl hk
  generalize (W.setCell ⟨gb, m, none⟩ (.string s)).drew = V at *
  clear h1 e1 e2 z0 z1 hx hcm ht hW0
  have f2 := h2.c2
  have fz := h2.fz
  have hV := hT.size
  clear hn0 hn1
  have h3 := h2.keep ((touch_drew V fun _ => False).trans (touch_alloc V.drew (.cells #[.int .i64 (m : Int), .string s] 51) _)) (fun _ _ h => h)
  have hq : ∀ w', (V.drew.alloc (.cells #[.int .i64 (m : Int), .string s] 51)).grownBy w' lv.ownBlock → w'.cell? ⟨a, 2, none⟩ = some lv ∧ w'.frozen? ⟨a, 2, none⟩ = false := fun w' hg => by
    have hb := hg.block a h3.alt (fun e => h3.apL a e.symm rfl)
    exact ⟨(World.cell?_of_block (w := V.drew.alloc _) (a := ⟨a, 2, none⟩) hb).trans h3.c2, (World.frozen?_of_block (w := V.drew.alloc _) (a := ⟨a, 2, none⟩) hb).trans (h3.fz 2)⟩
  have HQ := Lib.hid hq
  clear hq
  have f3 : (V.alloc (.cells #[.int .i64 (m : Int), .string s] 51)).cell? ⟨a, 2, none⟩ = some lv := (h2.keep (touch_alloc V _ fun _ => False) (fun _ _ h => h)).c2
  have H3 := Lib.hid h3
  clear h3
  go_region_law (
    (refine step_append_at rfl _ _ 46 rfl B 51 i0 (.agg #[.int .i64 0, .string ⟨#[]⟩]) 2 24 Try.underlying46 hi hz0 hz1 hz2 rfl (by decide) lv d.log.length (wrs d.log) rfl (h2.olog.drew.alloc _) ⟨V.heap.size, 0, none⟩ 1 1 [.int .i64 (m : Int), .string s] rfl (by decide) rfl (news2 V.drew _ _ _) (wrs_oneCell [((m : Int), s)]) (by unfold maxLen; omega) (by omega) (by simp; omega) ?_
     intro v' w' hown' hg hw
     obtain ⟨q1, q2⟩ := HQ.out w' hg
     obtain ⟨sa, sc, rfl⟩ := (row_of_own hown').shape))
  all_goals
    go_end0
    refine ⟨rfl, ?_⟩
    obtain ⟨S', k1, k2, k3⟩ := H3.out.logPut (x := ((m : Int), s)) hown' hg (hw.imp (fun e => e) fun e => ⟨_, e, Nat.le_refl _⟩)
    refine ⟨S', ⟨⟨fv, _, _, k1⟩, HG.out⟩, fun k hk => (k2 k hk).imp (fun e => e) fun e => ?_, hT.trans (((touch_drew V S).trans (touch_alloc V.drew _ S)).trans k3)⟩
    have : V.heap.size ≤ k := Nat.le_trans (by simp) e
    omega

/-- What Read answers. -/
def Dk.readV (d : Dk) (n : Int) : Value := .tuple (if d.has n = false then #[.string ⟨#[]⟩, .int .i64 2] else if d.dead then #[.string ⟨#[]⟩, .int .i64 20] else #[.string (d.now.getD n.toNat ⟨#[]⟩), .int .i64 0])

set_option maxHeartbeats 800000 in
theorem read_any (h : IsDisk w B a S d) (n : Int) : Calls Try.prog 32 #[.pointer (some ⟨a, 0, none⟩), .int .i64 n] w fun e w' => e = .returned (d.readV n) ∧ w = w' := by
  have HH := Lib.hid (has_any h n)
  obtain ⟨⟨fv, bv, lv, h⟩, g⟩ := h
  have hpos := g.pos
  have c3 := (two_cells h.block).1
  by_cases hn : d.has n = false
  · have e : d.readV n = .tuple #[.string ⟨#[]⟩, .int .i64 2] := by simp [Dk.readV, hn]
    have hb : decide (0 ≤ n ∧ n < d.now.length) = false := hn
    rw [e]
    clear e hn
    go_enter Try.func32, Try.ntmps32
    go_wp2_with fail
    refine HH.out.mono ?_
    rintro e w1 ⟨rfl, rfl⟩
    rw [hb]
    clear hb
    go_wp2_with fail
    go_ret2
    exact ⟨rfl, rfl⟩
  · have hb : decide (0 ≤ n ∧ n < d.now.length) = true := by simpa [Dk.has] using hn
    have hn' : 0 ≤ n ∧ n < d.now.length := by simpa using hb
    obtain ⟨hn0, hn1⟩ := hn'
    obtain ⟨m, rfl⟩ := Int.eq_ofNat_of_zero_le hn0
    have hm : m < d.now.length := by omega
    cases hd : d.dead
    · have e : d.readV (m : Int) = .tuple #[.string (d.now[m]), .int .i64 0] := by simp [Dk.readV, hn, hd, hm]
      rw [e]
      rw [hd] at c3
      clear e hn hd
      have c1 := h.c1
      rcases h.onow.2 with ⟨_, h0⟩ | ⟨gb, cap, cur, rfl, hgb, hblk, hcap, hmax, _, _⟩
      · omega
      have hc := h.rnow.strAt rfl m hm
      rw [Nat.zero_add] at hc
      clear h g hblk
      go_enter Try.func32, Try.ntmps32
      go_wp2_with fail
      refine HH.out.mono ?_
      rintro e w1 ⟨rfl, rfl⟩
      rw [hb]
      clear hb
      go_wp2_with fail
      go_ret2
      exact ⟨rfl, rfl⟩
    · have e : d.readV (m : Int) = .tuple #[.string ⟨#[]⟩, .int .i64 20] := by simp [Dk.readV, hn, hd]
      rw [e]
      rw [hd] at c3
      clear e hn hd
      go_enter Try.func32, Try.ntmps32
      go_wp2_with fail
      refine HH.out.mono ?_
      rintro e w1 ⟨rfl, rfl⟩
      rw [hb]
      clear hb
      go_wp2_with fail
      go_ret2
      exact ⟨rfl, rfl⟩

set_option maxHeartbeats 800000 in
theorem write_any (h : IsDisk w B a S d) (n : Int) (s : ByteArray) (hs : s.size ≤ maxLen) (hl : d.log.length < 4294967296) :
    Calls Try.prog 19 #[.pointer (some ⟨a, 0, none⟩), .int .i64 n, .string s] w fun e w' => e = .returned (.int .i64 (d.writeE n s)) ∧ Turned w B a S (d.write n s) w' := by
  have HH := Lib.hid (has_any h n)
  have HT := Lib.hid (tooLong_any s w hs)
  have HS := Lib.hid (spend_any h)
  have H := Lib.hid h
  clear h
  by_cases hn : d.has n = false
  · have e1 : d.writeE n s = 2 := by simp [Dk.writeE, hn]
    have e2 : d.write n s = d := by simp [Dk.write, hn]
    have hb : decide (0 ≤ n ∧ n < d.now.length) = false := hn
    rw [e1, e2]
    clear e1 e2 hn
    go_enter Try.func19, Try.ntmps19
    go_wp2_with fail
    refine HH.out.mono ?_
    rintro e w1 ⟨rfl, rfl⟩
    rw [hb]
    clear hb
    go_wp2_with fail
    go_ret
    exact ⟨rfl, Turned.here H.out⟩
  · have hb : decide (0 ≤ n ∧ n < d.now.length) = true := by simpa [Dk.has] using hn
    by_cases hlong : 1024 < s.size
    · have e1 : d.writeE n s = 1 := by simp [Dk.writeE, hn, hlong]
      have e2 : d.write n s = d := by simp [Dk.write, hn, hlong]
      have hb2 : decide (1024 < s.size) = true := by simpa using hlong
      rw [e1, e2]
      clear e1 e2 hn hlong
      go_enter Try.func19, Try.ntmps19
      go_wp2_with fail
      refine HH.out.mono ?_
      rintro e w1 ⟨rfl, rfl⟩
      rw [hb]
      clear hb
      go_wp2_with fail
      refine HT.out.mono ?_
      rintro e w1 ⟨rfl, rfl⟩
      rw [hb2]
      clear hb2
      go_wp2_with fail
      go_ret
      exact ⟨rfl, Turned.here H.out⟩
    · have hb2 : decide (1024 < s.size) = false := by simpa using hlong
      cases hsp : d.spent
      · have e1 : d.writeE n s = 0 := by simp [Dk.writeE, hn, hlong, hsp]
        have e2 : d.write n s = d.spend.lay (n, s) := by simp [Dk.write, hn, hlong, hsp]
        have hh : d.spend.has n = true := by unfold Dk.has; rw [d.spend_now]; exact hb
        have hll : d.spend.log.length < 4294967296 := by rw [d.spend_log]; exact hl
        rw [e1, e2]
        have HP := Lib.hid hsp
        have HHs := Lib.hid hh
        clear e1 e2 hn hlong hsp hh
        go_enter Try.func19, Try.ntmps19
        go_wp2_with fail
        refine HH.out.mono ?_
        rintro e w1 ⟨rfl, rfl⟩
        rw [hb]
        clear hb
        go_wp2_with fail
        refine HT.out.mono ?_
        rintro e w1 ⟨rfl, rfl⟩
        rw [hb2]
        clear hb2
        go_wp2_with fail
        refine HS.out.mono ?_
        rintro e w1 ⟨rfl, ht⟩
        rw [HP.out]
        obtain ⟨S1, d1, d2, d3⟩ := ht
        have D1 := Lib.hid d1
        have D2 := Lib.hid d2
        have D3 := Lib.hid d3
        have hl1 := lay_any d1 n s HHs.out hll
        have HL := Lib.hid hl1
        clear d1 d2 d3 hl1
        go_wp2_with fail
        refine HL.out.mono ?_
        rintro e w2 ⟨rfl, ht⟩
        have T2 := Lib.hid (Turned.trans D2.out D3.out ht)
        clear ht
        go_wp2_with fail
        go_ret
        exact ⟨rfl, T2.out⟩
      · have e1 : d.writeE n s = 20 := by simp [Dk.writeE, hn, hlong, hsp]
        have e2 : d.write n s = d.spend := by simp [Dk.write, hn, hlong, hsp]
        rw [e1, e2]
        have HP := Lib.hid hsp
        clear e1 e2 hn hlong hsp
        go_enter Try.func19, Try.ntmps19
        go_wp2_with fail
        refine HH.out.mono ?_
        rintro e w1 ⟨rfl, rfl⟩
        rw [hb]
        clear hb
        go_wp2_with fail
        refine HT.out.mono ?_
        rintro e w1 ⟨rfl, rfl⟩
        rw [hb2]
        clear hb2
        go_wp2_with fail
        refine HS.out.mono ?_
        rintro e w1 ⟨rfl, ht⟩
        rw [HP.out]
        have T2 := Lib.hid ht
        clear ht
        go_wp2_with fail
        go_ret
        exact ⟨rfl, T2.out⟩
end

end Go.Proofs.Ythamjlhkiabcnaa
