/- Contracts and plain words that the laws' proofs stand on, put together. -/
import Derived.Test.YtkakcdojbgnocaaGreatDoorLibAF
import Derived.Test.YtkakcdojbgnocaaGreatDoorLibAA
import Derived.Test.YtkakcdojbgnocaaGreatDoorLibAE
import Derived.Deep.RegionHeld3
import Derived.BigQuiet
import Derived.Test.YtkakcdojbgnocaaGreatDoorLibAD
/- Stamps and clocks in plain words. No program in it. -/
namespace Go.Proofs.YtkakcdojbgnocaaGreatDoor
set_option linter.unusedVariables false

structure StampN where
  wall : Int
  count : Int
  dev : Int
theorem StampN.ext' {a b : StampN} (h1 : a.wall = b.wall) (h2 : a.count = b.count) (h3 : a.dev = b.dev) : a = b := by
  cases a; cases b
  simp only at h1 h2 h3
  subst h1 h2 h3
  rfl
def rightT (s : StampN) : Bool := decide (0 ≤ s.wall) && (decide (s.wall ≤ 4398046511104) && (decide (0 ≤ s.count) && (decide (s.count ≤ 65535) && (decide (0 ≤ s.dev) && decide (s.dev ≤ 63)))))
theorem rightT_iff {s : StampN} : rightT s = true ↔ 0 ≤ s.wall ∧ s.wall ≤ 4398046511104 ∧ 0 ≤ s.count ∧ s.count ≤ 65535 ∧ 0 ≤ s.dev ∧ s.dev ≤ 63 := by
  unfold rightT
  simp only [Bool.and_eq_true, decide_eq_true_iff]
def lessT (a b : StampN) : Bool := if a.wall ≠ b.wall then decide (a.wall < b.wall) else if a.count ≠ b.count then decide (a.count < b.count) else decide (a.dev < b.dev)
def sameT (x y : StampN) : Bool := x.wall == y.wall && (x.count == y.count && x.dev == y.dev)
theorem sameT_iff {x y : StampN} : sameT x y = true ↔ x = y := by
  unfold sameT
  simp only [Bool.and_eq_true, beq_iff_eq]
  constructor
  · rintro ⟨h1, h2, h3⟩
    exact StampN.ext' h1 h2 h3
  · rintro rfl
    exact ⟨rfl, rfl, rfl⟩

structure ClockN where
  now : Int
  last : StampN
structure OkK (c : ClockN) : Prop where
  now0 : 0 ≤ c.now
  now1 : c.now ≤ 4398046511104
  right : rightT c.last = true
def tickK (c : ClockN) (ms : Int) : ClockN × Int := if ms < 0 ∨ 4398046511104 - c.now < ms then (c, 4) else (⟨c.now + ms, c.last⟩, 0)
def peekK (c : ClockN) : StampN × Int := if c.last.wall < c.now then (⟨c.now, 0, c.last.dev⟩, 0) else if 65535 ≤ c.last.count then (⟨0, 0, 0⟩, 7) else (⟨c.last.wall, c.last.count + 1, c.last.dev⟩, 0)
def nextK (c : ClockN) : ClockN := if (peekK c).2 = 0 then ⟨c.now, (peekK c).1⟩ else c
def takeK (c : ClockN) (s : StampN) : ClockN := if c.last.wall < s.wall ∨ (c.last.wall = s.wall ∧ c.last.count < s.count) then ⟨c.now, ⟨s.wall, s.count, c.last.dev⟩⟩ else c
def restoreK (c : ClockN) (s : StampN) : ClockN × Int := if rightT s = false then (c, 4) else (takeK c s, 0)
def hearK (c : ClockN) (s : StampN) : ClockN × Int := if rightT s = false then (c, 4) else if c.now + 60000 < s.wall then (c, 8) else (takeK c s, 0)

/-- At most as late, whosever it is. -/
def AtMost (m s : StampN) : Prop := m.wall < s.wall ∨ (m.wall = s.wall ∧ m.count ≤ s.count)
theorem AtMost.trans {a b c : StampN} (h : AtMost a b) (k : AtMost b c) : AtMost a c := by
  unfold AtMost at *
  omega
theorem take_most (c : ClockN) (s : StampN) : AtMost c.last (takeK c s).last ∧ AtMost s (takeK c s).last := by
  unfold takeK AtMost
  by_cases h : c.last.wall < s.wall ∨ (c.last.wall = s.wall ∧ c.last.count < s.count)
  · rw [if_pos h]
    exact ⟨by simp only; omega, .inr ⟨rfl, Int.le_refl _⟩⟩
  · rw [if_neg h]
    exact ⟨.inr ⟨rfl, Int.le_refl _⟩, by omega⟩
theorem tick_last (c : ClockN) (ms : Int) : (tickK c ms).1.last = c.last := by
  unfold tickK
  split <;> rfl
/-- The next stamp is above all that was at most the last one. -/
theorem peek_less {c : ClockN} (h0 : (peekK c).2 = 0) {m : StampN} (hm : AtMost m c.last) : lessT m (peekK c).1 = true := by
  unfold peekK at h0 ⊢
  unfold AtMost at hm
  by_cases c1 : c.last.wall < c.now
  · rw [if_pos c1] at h0 ⊢
    unfold lessT
    rw [if_pos (by simp only; omega)]
    exact decide_eq_true (by simp only; omega)
  · rw [if_neg c1] at h0 ⊢
    by_cases c2 : 65535 ≤ c.last.count
    · rw [if_pos c2] at h0
      cases h0
    · rw [if_neg c2]
      unfold lessT
      by_cases e : m.wall = c.last.wall
      · rw [if_neg (by simp only; omega), if_pos (by simp only; omega)]
        exact decide_eq_true (by simp only; omega)
      · rw [if_pos (by simp only; omega)]
        exact decide_eq_true (by simp only; omega)
theorem next_most (c : ClockN) : AtMost c.last (nextK c).last := by
  unfold nextK
  split
  · rename_i h0
    unfold peekK at h0 ⊢
    unfold AtMost
    by_cases c1 : c.last.wall < c.now
    · rw [if_pos c1]; simp only; omega
    · rw [if_neg c1] at h0 ⊢
      by_cases c2 : 65535 ≤ c.last.count
      · rw [if_pos c2] at h0
        cases h0
      · rw [if_neg c2]; exact .inr ⟨rfl, by simp only; omega⟩
  · exact .inr ⟨rfl, Int.le_refl _⟩
theorem next_last {c : ClockN} (h0 : (peekK c).2 = 0) : (nextK c).last = (peekK c).1 := by unfold nextK; rw [if_pos h0]

def bytesT (s : StampN) : List Int := short s.wall.toNat ++ (short s.count.toNat ++ short s.dev.toNat)
theorem bytesT_len {s : StampN} (h : rightT s = true) : (bytesT s).length ≤ 30 := by
  have h := rightT_iff.1 h
  unfold bytesT
  rw [List.length_append, List.length_append]
  have l1 := short_ten s.wall.toNat (by omega)
  have l2 := short_ten s.count.toNat (by omega)
  have l3 := short_ten s.dev.toNat (by omega)
  omega

end Go.Proofs.YtkakcdojbgnocaaGreatDoor

/- Contracts of the reference of layer 19: which stamps may be, which are ahead; the next one; a tick. -/
namespace Go.Proofs.YtkakcdojbgnocaaGreatDoor
open Go.RowKit
set_option linter.unusedVariables false

def valT (s : StampN) : Value := .agg #[.int .i64 s.wall, .int .i64 s.count, .int .i64 s.dev]
def valK (c : ClockN) : Value := .agg #[.int .i64 c.now, .int .i64 c.last.wall, .int .i64 c.last.count, .int .i64 c.last.dev]

set_option maxRecDepth 100000 in
theorem refTRightC (s : StampN) (w : World) :
    Calls Tryz.prog 22 #[valT s] w fun e w' => e = .returned (.bool (rightT s)) ∧ Below w.heap.size w w' := by
  obtain ⟨a, b, d⟩ := s
  unfold valT rightT
  dsimp only
  have o1 := ObjAt.new w #[.int .i64 a, .int .i64 b, .int .i64 d] 27
  have hb := below_alloc w (.cells #[.int .i64 a, .int .i64 b, .int .i64 d] 27)
  have u0 := o1.cell 0 rfl; have u1 := o1.cell 1 rfl; have u2 := o1.cell 2 rfl
  clear o1
  by_cases q0 : 0 ≤ a
  · have d0 : decide (0 ≤ a) = true := decide_eq_true q0
    by_cases q1 : a ≤ 4398046511104
    · have d1 : decide (a ≤ 4398046511104) = true := decide_eq_true q1
      by_cases q2 : 0 ≤ b
      · have d2 : decide (0 ≤ b) = true := decide_eq_true q2
        by_cases q3 : b ≤ 65535
        · have d3 : decide (b ≤ 65535) = true := decide_eq_true q3
          by_cases q4 : 0 ≤ d
          · have d4 : decide (0 ≤ d) = true := decide_eq_true q4
            by_cases q5 : d ≤ 63
            · have d5 : decide (d ≤ 63) = true := decide_eq_true q5
              go_enter Tryz.func22, Tryz.ntmps22
              go_wp2
              go_ret
              exact ⟨by simp [*], hb⟩
            · have d5 : decide (d ≤ 63) = false := decide_eq_false q5
              go_enter Tryz.func22, Tryz.ntmps22
              go_wp2
              go_ret
              exact ⟨by simp [*], hb⟩
          · have d4 : decide (0 ≤ d) = false := decide_eq_false q4
            go_enter Tryz.func22, Tryz.ntmps22
            go_wp2
            go_ret
            exact ⟨by simp [*], hb⟩
        · have d3 : decide (b ≤ 65535) = false := decide_eq_false q3
          go_enter Tryz.func22, Tryz.ntmps22
          go_wp2
          go_ret
          exact ⟨by simp [*], hb⟩
      · have d2 : decide (0 ≤ b) = false := decide_eq_false q2
        go_enter Tryz.func22, Tryz.ntmps22
        go_wp2
        go_ret
        exact ⟨by simp [*], hb⟩
    · have d1 : decide (a ≤ 4398046511104) = false := decide_eq_false q1
      go_enter Tryz.func22, Tryz.ntmps22
      go_wp2
      go_ret
      exact ⟨by simp [*], hb⟩
  · have d0 : decide (0 ≤ a) = false := decide_eq_false q0
    go_enter Tryz.func22, Tryz.ntmps22
    go_wp2
    go_ret
    exact ⟨by simp [*], hb⟩

end Go.Proofs.YtkakcdojbgnocaaGreatDoor

/- Contracts of the reference of layer 19: a stamp restored, or heard; the next one. -/
namespace Go.Proofs.YtkakcdojbgnocaaGreatDoor
open Go.RowKit
set_option linter.unusedVariables false

end Go.Proofs.YtkakcdojbgnocaaGreatDoor

/- Contracts of the reference of layer 19: a stamp, packed. -/
namespace Go.Proofs.YtkakcdojbgnocaaGreatDoor
open Go.RowKit
set_option linter.unusedVariables false

set_option maxRecDepth 100000 in
theorem refTPutC (x : StampN) (n : Nat) (w : World) (hx : rightT x = true) (hn : (bytesT x).length = n) :
    Calls Tryz.prog 35 #[valT x] w (GivesOwned 5 ((bytesT x).map (Value.int .u8)) n w) := by
  obtain ⟨i0, hi, hz0, hz1, hz2⟩ := info_parts info8
  obtain ⟨d0, d1, e0, e1, s0, s1⟩ := rightT_iff.1 hx
  clear hx
  obtain ⟨dev, inc, seq⟩ := x
  dsimp only at *
  obtain ⟨D, rfl⟩ := Int.eq_ofNat_of_zero_le d0
  obtain ⟨I, rfl⟩ := Int.eq_ofNat_of_zero_le (show 0 ≤ inc by omega)
  obtain ⟨S, rfl⟩ := Int.eq_ofNat_of_zero_le (show 0 ≤ seq by omega)
  have o1 := ObjAt.new w #[.int .i64 (D : Int), .int .i64 (I : Int), .int .i64 (S : Int)] 27
  have b1 := below_alloc w (.cells #[.int .i64 (D : Int), .int .i64 (I : Int), .int .i64 (S : Int)] 27)
  have hs1 : w.heap.size < (w.alloc (.cells #[.int .i64 (D : Int), .int .i64 (I : Int), .int .i64 (S : Int)] 27)).heap.size := by simp
  have u0 := o1.cell 0 rfl; have u1 := o1.cell 1 rfl; have u2 := o1.cell 2 rfl
  have l1 := short_ten D (by omega)
  have l2 := short_ten I (by omega)
  have l3 := short_ten S (by omega)
  unfold valT
  unfold bytesT at *
  dsimp only at *
  rw [Int.toNat_natCast, Int.toNat_natCast, Int.toNat_natCast] at *
  rw [List.length_append, List.length_append] at hn
  have H1 := fun w => refNumC (short D) D (short D).length w rfl rfl (by omega)
  have H2 := fun w => refNumC (short I) I (short I).length w rfl rfl (by omega)
  have H3 := fun w => refNumC (short S) S (short S).length w rfl rfl (by omega)
  rw [List.map_append, List.map_append, ← List.append_assoc]
  obtain ⟨m1, h1⟩ : ∃ m, (short D).length = m := ⟨_, rfl⟩
  obtain ⟨m2, h2⟩ : ∃ m, (short I).length = m := ⟨_, rfl⟩
  obtain ⟨m3, h3⟩ : ∃ m, (short S).length = m := ⟨_, rfl⟩
  rw [h1, h2, h3] at hn
  rw [h1] at H1 l1
  rw [h2] at H2 l2
  rw [h3] at H3 l3
  generalize short D = y1 at *
  generalize short I = y2 at *
  generalize short S = y3 at *
  have L2 := Lib.hid h2
  have L3 := Lib.hid h3
  have hn12 : m1 + m2 + m3 = n := by omega
  clear h1 h2 h3 hn
  have c1 : ((D : Nat) : Int) < 18446744073709551616 := by omega
  have c2 : ((I : Nat) : Int) < 18446744073709551616 := by omega
  have c3 : ((S : Nat) : Int) < 18446744073709551616 := by omega
  go_enter Tryz.func35, Tryz.ntmps35
  go_wp2_with (first
    | (go_at_call 37; (with_reducible refine (H1 _).mono ?_); rintro e w2 ⟨a2, c2, rfl, ho2, hx2⟩; have b2 := b1.trans (hx2.mono b1.size); have o2 := o1.below hx2 o1.lt; have v0 := o2.cell 0 rfl; have v1 := o2.cell 1 rfl; have v2 := o2.cell 2 rfl)
    | (go_at_call 37; (with_reducible refine (H2 _).mono ?_); rintro e w3 ⟨a3, c3, rfl, ho3, hx3⟩; have b3 := b2.trans (hx3.mono b2.size); have ho23 := (ho2.base b1.size).below hx3 (Nat.le_refl _); have o3 := o2.below hx3 o2.lt)
    | (at_builtin; refine wpList_append_where rfl (.tmp 8) (.tmp 12) 40 rfl 5 i0 (.int .u8 0) 1 Tryz.underlying40 hi hz0 hz1 hz2 rfl ho23 rfl ho3.reads rfl (by rw [List.length_map, L2.out]) ho3.nil0 (bytes_one y2 .u8) (m1 + m2) rfl (by unfold maxLen; omega) (by omega) b3.size ?_; intro a4 c4 w4 ho4 hx4 hg4 hn4; have b4 := b3.trans hx4; have o4 := o3.keeps (Keeps.ofGrown hx4 hg4) (fun hk => absurd ((ho2.at' _ hk).1) (Nat.not_le.2 hs1)); have v0 := o4.cell 0 rfl; have v1 := o4.cell 1 rfl; have v2 := o4.cell 2 rfl)
    | (go_at_call 37; (with_reducible refine (H3 _).mono ?_); rintro e w5 ⟨a5, c5, rfl, ho5, hx5⟩; have b5 := b4.trans (hx5.mono b4.size); have ho45 := ho4.below hx5 (Nat.le_refl _))
    | (at_builtin; refine wpList_append_where rfl (.tmp 14) (.tmp 18) 40 rfl 5 i0 (.int .u8 0) 1 Tryz.underlying40 hi hz0 hz1 hz2 rfl ho45 rfl ho5.reads rfl (by rw [List.length_map, L3.out]) ho5.nil0 (bytes_one y3 .u8) n hn12 (by unfold maxLen; omega) (by omega) b5.size ?_; intro a6 c6 w6 ho6 hx6 hg6 hn6))
  go_ret
  exact ⟨a6, c6, rfl, ho6, b5.trans hx6⟩
end Go.Proofs.YtkakcdojbgnocaaGreatDoor
