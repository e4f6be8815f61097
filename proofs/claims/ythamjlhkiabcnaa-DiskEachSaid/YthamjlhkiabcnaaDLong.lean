/-
  What the law's long, made do: are there too many acts; a disk on which acts were done.
-/
import Derived.Test.YthamjlhkiabcnaaDArgs
namespace Go.Proofs.Ythamjlhkiabcnaa
open Go.RowKit

def LongPost (image : List ByteArray) (l : List Act3) (w : World) (e : Ending) (w' : World) : Prop :=
  (∃ b : Bool, e = .returned (.bool b) ∧ (b = false → image.length ≤ 40 ∧ l.length ≤ 60)) ∧ w = w'

set_option maxHeartbeats 3200000 in
theorem long_any {w : World} {v1 v2 : Value} {image : List ByteArray} {l : List Act3} (h1 : Row w 1 v1 image.length (strs image)) (h2 : Row w 3 v2 l.length (acs l)) (hi : image.length ≤ maxLen) (hl : l.length ≤ maxLen)
    (hs1 : ∀ s ∈ image, s.size ≤ maxLen) (hs2 : ∀ y ∈ l, ActOk y) :
    Calls Try.prog 10 #[v1, v2] w (LongPost image l w) := by
  unfold maxLen at hi hl
  obtain ⟨a1, c1, rfl, _, r1⟩ := h1.room
  obtain ⟨a2, c2, rfl, _, r2⟩ := h2.room
  have R1 := Lib.hid r1
  have R2 := Lib.hid r2
  have HS1 := Lib.hid hs1
  have HS2 := Lib.hid hs2
  clear h1 h2 r1 r2 hs1 hs2
  go_enter Try.func10, Try.ntmps10
  go_wp2_with fail
  go_loop [5, 6] (fun n i => ∃ (k : Nat) (m : Int), k ≤ image.length ∧ k ≤ 41 ∧ i = .int .i64 (k : Int) ∧ n = .int .i64 m) (fun _ i => 41 - (intOf i).toNat)
  case atStart => exact ⟨0, 0, by omega, by omega, rfl, rfl⟩
  case round =>
    obtain ⟨k, m, hk, hk', rfl, rfl⟩ := hrel
    by_cases hlt : k < image.length ∧ k ≤ 40
    · obtain ⟨hlt, hle⟩ := hlt
      obtain ⟨b1, o1, rfl, _, q1⟩ := R1.out (by omega)
      have x1 := q1 k _ (strs_at image k hlt)
      have hsz := HS1.out _ (List.getElem_mem hlt)
      unfold maxLen at hsz
      clear q1
      generalize image[k] = s at *
      go_wp2_with fail
      go_round
      case rel => exact ⟨k + 1, _, by omega, by omega, by go_num, rfl⟩
      case measure => simp [intOf]; omega
    · by_cases hlt2 : k < image.length
      · have hgb : decide ((k : Int) ≤ 40) = false := by simp; omega
        clear hlt
        go_wp2_with fail
        go_loop [5, 7] (fun n i => ∃ (k : Nat) (m : Int), k ≤ l.length ∧ k ≤ 61 ∧ i = .int .i64 (k : Int) ∧ n = .int .i64 m) (fun _ i => 61 - (intOf i).toNat)
        case atStart => exact ⟨0, _, by omega, by omega, rfl, rfl⟩
        case round =>
          obtain ⟨j, m', hj, hj', rfl, rfl⟩ := hrel
          by_cases hjt : j < l.length ∧ j ≤ 60
          · obtain ⟨hjt, hje⟩ := hjt
            obtain ⟨b2, o2, rfl, _, q2⟩ := R2.out (by omega)
            have x2 := q2 _ _ (acs_at l j hjt).2.2
            rw [← Nat.add_assoc] at x2
            have hsz := (HS2.out _ (List.getElem_mem hjt)).2.2
            unfold maxLen at hsz
            clear q2
            generalize (l[j]).2.2 = s at *
            go_wp2_with fail
            go_round
            case rel => exact ⟨j + 1, _, by omega, by omega, by go_num, rfl⟩
            case measure => simp [intOf]; omega
          · by_cases hjt2 : j < l.length
            · have hj60 : 60 < l.length := by omega
              have hgb2 : decide ((j : Int) ≤ 60) = false := by simp; omega
              clear hjt
              go_wp2_with fail
              go_ret
              exact ⟨⟨true, rfl, fun h => by cases h⟩, rfl⟩
            · by_cases hl60 : 60 < l.length
              · clear hjt
                go_wp2_with fail
                go_ret
                exact ⟨⟨true, rfl, fun h => by cases h⟩, rfl⟩
              · have hl60' : l.length ≤ 60 := by omega
                clear hjt hl60
                by_cases hi40 : 40 < image.length
                · go_wp2_with fail
                  go_ret
                  exact ⟨⟨true, rfl, fun h => by cases h⟩, rfl⟩
                · have hi40' : image.length ≤ 40 := by omega
                  clear hi40
                  go_wp2_with fail
                  go_ret
                  exact ⟨⟨_, rfl, fun _ => ⟨hi40', hl60'⟩⟩, rfl⟩
      · clear hlt
        go_wp2_with fail
        go_loop [5, 7] (fun n i => ∃ (k : Nat) (m : Int), k ≤ l.length ∧ k ≤ 61 ∧ i = .int .i64 (k : Int) ∧ n = .int .i64 m) (fun _ i => 61 - (intOf i).toNat)
        case atStart => exact ⟨0, _, by omega, by omega, rfl, rfl⟩
        case round =>
          obtain ⟨j, m', hj, hj', rfl, rfl⟩ := hrel
          by_cases hjt : j < l.length ∧ j ≤ 60
          · obtain ⟨hjt, hje⟩ := hjt
            obtain ⟨b2, o2, rfl, _, q2⟩ := R2.out (by omega)
            have x2 := q2 _ _ (acs_at l j hjt).2.2
            rw [← Nat.add_assoc] at x2
            have hsz := (HS2.out _ (List.getElem_mem hjt)).2.2
            unfold maxLen at hsz
            clear q2
            generalize (l[j]).2.2 = s at *
            go_wp2_with fail
            go_round
            case rel => exact ⟨j + 1, _, by omega, by omega, by go_num, rfl⟩
            case measure => simp [intOf]; omega
          · by_cases hjt2 : j < l.length
            · have hj60 : 60 < l.length := by omega
              have hgb2 : decide ((j : Int) ≤ 60) = false := by simp; omega
              clear hjt
              go_wp2_with fail
              go_ret
              exact ⟨⟨true, rfl, fun h => by cases h⟩, rfl⟩
            · by_cases hl60 : 60 < l.length
              · clear hjt
                go_wp2_with fail
                go_ret
                exact ⟨⟨true, rfl, fun h => by cases h⟩, rfl⟩
              · have hl60' : l.length ≤ 60 := by omega
                clear hjt hl60
                by_cases hi40 : 40 < image.length
                · go_wp2_with fail
                  go_ret
                  exact ⟨⟨true, rfl, fun h => by cases h⟩, rfl⟩
                · have hi40' : image.length ≤ 40 := by omega
                  clear hi40
                  go_wp2_with fail
                  go_ret
                  exact ⟨⟨_, rfl, fun _ => ⟨hi40', hl60'⟩⟩, rfl⟩


/-- What an act does to a disk. -/
def Dk.act (d : Dk) (x : Act3) : Dk :=
  if x.1 = 1 then d.write x.2.1 x.2.2 else if x.1 = 2 then (if x.2.1 < -1 then d else { d with left := x.2.1 }) else if x.1 = 3 then { d with dead := false, left := -1 } else d
def Dk.acts (d : Dk) (l : List Act3) : Dk := l.foldl Dk.act d
def fresh (image : List ByteArray) : Dk := ⟨image, image, [], false, -1⟩

/-- The log, laid on the blocks at first, makes the blocks. -/
def Dk.Sound (d : Dk) : Prop := d.now = (d.log.foldl Dk.lay d.start).now

theorem write_log (d : Dk) (n : Int) (s : ByteArray) : (d.write n s).log.length ≤ d.log.length + 1 := by
  unfold Dk.write
  split
  · omega
  · split
    · omega
    · split
      · rw [d.spend_log]; omega
      · show (d.spend.log ++ [_]).length ≤ _
        rw [List.length_append, d.spend_log]; simp
theorem write_first (d : Dk) (n : Int) (s : ByteArray) : (d.write n s).first = d.first := by
  unfold Dk.write
  split
  · rfl
  · split
    · rfl
    · split
      · rw [d.spend_first]
      · exact d.spend_first
theorem sound_of {d e : Dk} (h : d.Sound) (h1 : e.first = d.first) (h2 : e.now = d.now) (h3 : e.log = d.log) : e.Sound := by
  unfold Dk.Sound Dk.start at *
  rw [h1, h2, h3]; exact h
theorem lay_sound {d : Dk} (h : d.Sound) (x : Int × ByteArray) : (d.lay x).Sound := by
  unfold Dk.Sound at *
  show d.now.set _ _ = ((d.log ++ [x]).foldl Dk.lay d.start).now
  rw [List.foldl_append, h]
  rfl
theorem write_sound {d : Dk} (h : d.Sound) (n : Int) (s : ByteArray) : (d.write n s).Sound := by
  have hs : d.spend.Sound := sound_of h d.spend_first d.spend_now d.spend_log
  unfold Dk.write
  split
  · exact h
  · split
    · exact h
    · split
      · exact hs
      · exact lay_sound hs _
theorem act_sound {d : Dk} (h : d.Sound) (x : Act3) : (d.act x).Sound := by
  unfold Dk.act
  split
  · exact write_sound h _ _
  · split
    · split
      · exact h
      · exact sound_of h rfl rfl rfl
    · split
      · exact sound_of h rfl rfl rfl
      · exact h
theorem act_log (d : Dk) (x : Act3) : (d.act x).log.length ≤ d.log.length + 1 := by
  unfold Dk.act
  split
  · exact write_log _ _ _
  · split
    · split <;> simp
    · split <;> simp
theorem act_first (d : Dk) (x : Act3) : (d.act x).first = d.first := by
  unfold Dk.act
  split
  · exact write_first _ _ _
  · split
    · split <;> rfl
    · split <;> rfl
theorem act_len (d : Dk) (x : Act3) : (d.act x).now.length = d.now.length := by
  unfold Dk.act
  split
  · exact write_len _ _ _
  · split
    · split <;> rfl
    · split <;> rfl
theorem acts_facts (l : List Act3) : ∀ d : Dk, (d.acts l).log.length ≤ d.log.length + l.length ∧ (d.acts l).first = d.first ∧ (d.acts l).now.length = d.now.length ∧ (d.Sound → (d.acts l).Sound) := by
  induction l with
  | nil => intro d; exact ⟨Nat.le_refl _, rfl, rfl, fun h => h⟩
  | cons x l ih =>
    intro d
    obtain ⟨h1, h2, h3, h4⟩ := ih (d.act x)
    have e : d.acts (x :: l) = (d.act x).acts l := rfl
    rw [e]
    have := act_log d x
    refine ⟨by simp; omega, h2.trans (act_first d x), h3.trans (act_len d x), fun h => h4 (act_sound h x)⟩
theorem acts_succ (d : Dk) (l : List Act3) (k : Nat) (h : k < l.length) : d.acts (l.take (k + 1)) = (d.acts (l.take k)).act (l[k]) := by
  unfold Dk.acts
  rw [List.take_succ_eq_append_getElem h, List.foldl_append]
  rfl

theorem made_step {w wr w2 : World} {B a : Nat} {S2 : Nat → Prop} {d' : Dk} (hb2 : Below w.heap.size w wr) (hS2 : ∀ q, S2 q → w.heap.size ≤ q) (ht : Turned wr B a S2 d' w2) :
    ∃ S3, IsDisk w2 B a S3 d' ∧ (∀ q, S3 q → w.heap.size ≤ q) ∧ Below w.heap.size w w2 := by
  obtain ⟨S3, h1, h2, h3⟩ := ht
  have := hb2.size
  refine ⟨S3, h1, fun q hq => ?_, hb2.trans (h3.below hb2.size hS2)⟩
  rcases h2 q hq with e | e
  · exact hS2 q e
  · omega
theorem turned_drew {w w2 : World} {B a : Nat} {S : Nat → Prop} {d' : Dk} (h : Turned w.drew B a S d' w2) : Turned w B a S d' w2 := by
  obtain ⟨S3, h1, h2, h3⟩ := h
  exact ⟨S3, h1, h2, (touch_drew w S).trans h3⟩

/-- What made answers. -/
def MadePost (w : World) (B : Nat) (image : List ByteArray) (l : List Act3) (e : Ending) (w' : World) : Prop :=
  Below w.heap.size w w' ∧ (e = .returned (.pointer none) ∨ ∃ a S, e = .returned (.pointer (some ⟨a, 0, none⟩)) ∧ IsDisk w' B a S ((fresh image).acts l) ∧ (∀ k, S k → w.heap.size ≤ k) ∧ 1 ≤ image.length)

set_option maxHeartbeats 3200000 in
theorem made_any {w : World} {B : Nat} {v1 v2 : Value} {image : List ByteArray} {l : List Act3} (h1 : Row w 1 v1 image.length (strs image)) (h2 : Row w 3 v2 l.length (acs l)) (hi : image.length ≤ 40) (hl : l.length ≤ 60)
    (hs1 : ∀ s ∈ image, s.size ≤ maxLen) (hs2 : ∀ y ∈ l, ActOk y) (hB : B ≤ w.heap.size) :
    Calls Try.prog 21 #[v1, v2] w (MadePost w B image l) := by
  by_cases hpos : 1 ≤ image.length
  · by_cases hlong : anyLong image = true
    · have HL := Lib.hid (load_long h1 hpos (by omega) hs1 hlong)
      clear hlong
      go_enter Try.func21, Try.ntmps21
      go_wp2_with fail
      refine HL.out.mono ?_
      rintro e w1 ⟨rfl, rfl⟩
      go_wp2_with fail
      refine (num_any _ _).mono ?_
      rintro e w1 ⟨rfl, rfl⟩
      go_wp2_with fail
      go_ret
      exact ⟨Below.refl _ _, .inl rfl⟩
    · have HL := Lib.hid (load_ok h1 hpos (by omega) hs1 (by simpa using hlong) hB)
      have HS2 := Lib.hid hs2
      obtain ⟨a2, c2, rfl, _, r2⟩ := h2.room
      have R2 := Lib.hid r2
      clear hlong h2 r2 hs2
      go_enter Try.func21, Try.ntmps21
      go_wp2_with fail
      refine HL.out.mono ?_
      rintro e w1 ⟨a, S1, rfl, hd, hS, hb⟩
      have HD := Lib.hid hd
      have HS := Lib.hid hS
      clear hd hS
      go_wp2_with fail
      refine (num_any _ _).mono ?_
      rintro e w2 ⟨rfl, rfl⟩
      go_wp2_with fail
      go_loopw [7] (fun i wr => ∃ k : Nat, k ≤ l.length ∧ i = .int .i64 (k : Int) ∧ ∃ S', IsDisk wr B a S' ((fresh image).acts (l.take k)) ∧ (∀ q, S' q → w.heap.size ≤ q) ∧ Below w.heap.size w wr) (fun i _ => l.length - (intOf i).toNat)
      case atStart => exact ⟨0, Nat.zero_le _, rfl, S1, HD.out, HS.out, hb⟩
      case round =>
        obtain ⟨k, hk, rfl, S2, hd2, hS2, hb2⟩ := hrel
        by_cases hlt : k < l.length
        · obtain ⟨b2, o2, rfl, _, q2⟩ := R2.out (by omega)
          obtain ⟨g0, g1, g2⟩ := acs_at l k hlt
          have x0 := cell_later hb2 (q2 _ _ g0)
          have x1 := cell_later hb2 (q2 _ _ g1)
          have x2 := cell_later hb2 (q2 _ _ g2)
          rw [← Nat.add_assoc] at x1 x2
          obtain ⟨⟨y0, y1⟩, ⟨y2, y3⟩, y4⟩ := HS2.out _ (List.getElem_mem hlt)
          have hsucc := Lib.hid (acts_succ (fresh image) l k hlt)
          have hlog := (acts_facts (l.take k) (fresh image)).1
          have hlt' : ((fresh image).acts (l.take k)).log.length < 4294967296 := by
            simp [fresh] at hlog ⊢; omega
          have HLg := Lib.hid hlt'
          have HD2 := Lib.hid hd2
          have HS3 := Lib.hid hS2
          clear q2 g0 g1 g2 hlog hlt' hd2 hS2
          generalize l[k] = x at *
          obtain ⟨xk, xa, xs⟩ := x
          simp only at x0 x1 x2 y0 y1 y2 y3 y4
          by_cases hk1 : xk = 1
          · have e1 : ((xk : Int) == 1) = true := by simp [hk1]
            have HK := Lib.hid hk1
            clear hk1
            go_wp2_with fail
            go_still_tail 11, (by kernel_rfl)
            go_wp2_with fail
            refine (write_any (HD2.out.keep (touch_drew wr fun _ => False) fun _ _ h => h) xa xs y4 HLg.out).mono ?_
            rintro e w2 ⟨rfl, ht0⟩
            have ht := turned_drew ht0
            clear ht0
            obtain ⟨S3, k1, k2, k3⟩ := made_step hb2 HS3.out ht
            have K1 := Lib.hid k1
            have K2 := Lib.hid k2
            clear k1 k2 ht
            go_wp2_with fail
            go_roundw
            case rel => exact ⟨k + 1, by omega, by go_num, S3, by rw [hsucc.out, show Dk.act _ (xk, xa, xs) = _ from if_pos HK.out]; exact K1.out, K2.out, k3⟩
            case measure => simp [intOf]; omega
          · have e1 : ((xk : Int) == 1) = false := by simp [hk1]
            by_cases hk2 : xk = 2
            · have e2 : ((xk : Int) == 2) = true := by simp [hk2]
              have HK1 := Lib.hid hk1
              have HK := Lib.hid hk2
              clear hk2 hk1
              by_cases hn : xa < -1
              · go_wp2_with fail
                refine (arm_bad xa hn _).mono ?_
                rintro e w2 ⟨rfl, rfl⟩
                have ht := Turned.here HD2.out
                have Hn := Lib.hid hn
                obtain ⟨S3, k1, k2, k3⟩ := made_step hb2 HS3.out ht
                have K1 := Lib.hid k1
                have K2 := Lib.hid k2
                clear k1 k2 ht
                go_wp2_with fail
                go_roundw
                case rel => exact ⟨k + 1, by omega, by go_num, S3, by rw [hsucc.out, show Dk.act _ (xk, xa, xs) = _ from (if_neg HK1.out).trans ((if_pos HK.out).trans (if_pos Hn.out))]; exact K1.out, K2.out, k3⟩
                case measure => simp [intOf]; omega
              · go_wp2_with fail
                refine (arm_ok HD2.out xa (by omega) (by omega)).mono ?_
                rintro e w2 ⟨rfl, ht⟩
                have Hn := Lib.hid hn
                obtain ⟨S3, k1, k2, k3⟩ := made_step hb2 HS3.out ht
                have K1 := Lib.hid k1
                have K2 := Lib.hid k2
                clear k1 k2 ht
                go_wp2_with fail
                go_roundw
                case rel => exact ⟨k + 1, by omega, by go_num, S3, by rw [hsucc.out, show Dk.act _ (xk, xa, xs) = _ from (if_neg HK1.out).trans ((if_pos HK.out).trans (if_neg (show ¬ xa < -1 by have := Hn.out; omega)))]; exact K1.out, K2.out, k3⟩
                case measure => simp [intOf]; omega
            · have e2 : ((xk : Int) == 2) = false := by simp [hk2]
              by_cases hk3 : xk = 3
              · have e3 : ((xk : Int) == 3) = true := by simp [hk3]
                have HK1 := Lib.hid hk1
                have HK2 := Lib.hid hk2
                have HK := Lib.hid hk3
                clear hk3 hk2 hk1
                go_wp2_with fail
                refine (start_any HD2.out).mono ?_
                rintro e w2 ⟨rfl, ht⟩
                obtain ⟨S3, k1, k2, k3⟩ := made_step hb2 HS3.out ht
                have K1 := Lib.hid k1
                have K2 := Lib.hid k2
                clear k1 k2 ht
                go_wp2_with fail
                go_roundw
                case rel => exact ⟨k + 1, by omega, by go_num, S3, by rw [hsucc.out, show Dk.act _ (xk, xa, xs) = _ from (if_neg HK1.out).trans ((if_neg HK2.out).trans (if_pos HK.out))]; exact K1.out, K2.out, k3⟩
                case measure => simp [intOf]; omega
              · have e3 : ((xk : Int) == 3) = false := by simp [hk3]
                have HK1 := Lib.hid hk1
                have HK2 := Lib.hid hk2
                have HK := Lib.hid hk3
                clear hk3 hk2 hk1
                have ht := Turned.here HD2.out
                obtain ⟨S3, k1, k2, k3⟩ := made_step hb2 HS3.out ht
                have K1 := Lib.hid k1
                have K2 := Lib.hid k2
                clear k1 k2 ht
                go_wp2_with fail
                go_roundw
                case rel => exact ⟨k + 1, by omega, by go_num, S3, by rw [hsucc.out, show Dk.act _ (xk, xa, xs) = _ from (if_neg HK1.out).trans ((if_neg HK2.out).trans (if_neg HK.out))]; exact K1.out, K2.out, k3⟩
                case measure => simp [intOf]; omega
        · obtain rfl : k = l.length := by omega
          rw [List.take_length] at hd2
          have HD2 := Lib.hid hd2
          have HS3 := Lib.hid hS2
          clear hd2 hS2
          go_wp2_with fail
          go_ret
          exact ⟨hb2, .inr ⟨a, S2, rfl, HD2.out, HS3.out, hpos⟩⟩
  · have HL := Lib.hid (load_arg h1 (by omega) (by omega))
    go_enter Try.func21, Try.ntmps21
    go_wp2_with fail
    refine HL.out.mono ?_
    rintro e w1 ⟨rfl, rfl⟩
    go_wp2_with fail
    refine (num_any _ _).mono ?_
    rintro e w1 ⟨rfl, rfl⟩
    go_wp2_with fail
    go_ret
    exact ⟨Below.refl _ _, .inl rfl⟩

end Go.Proofs.Ythamjlhkiabcnaa
