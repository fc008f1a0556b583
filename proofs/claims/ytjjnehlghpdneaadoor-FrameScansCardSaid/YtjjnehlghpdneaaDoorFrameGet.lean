/- Contracts of layer 4's functions and of its reference: what bytes begin with, and what they are. -/
import Derived.Test.YtjjnehlghpdneaaDoorFrame
namespace Go.Proofs.YtjjnehlghpdneaaDoor
open Go.RowKit
set_option linter.unusedVariables false

/-- A body of the call's own, how many bytes its frame has, the error's number. -/
def GetIs (r : List Int × Nat × Int) (w : World) (en : Ending) (w' : World) : Prop :=
  ∃ (A : Option Addr) (C : Nat), en = .returned (.tuple #[.slice A r.1.length C, .int .i64 (r.2.1 : Int), .int .i64 r.2.2]) ∧ Owned w.heap.size 5 A r.1.length C (r.1.map (Value.int .u8)) w' ∧ Below w.heap.size w w'
/-- A body of the call's own, the error's number. -/
def OneIs (r : List Int × Int) (w : World) (en : Ending) (w' : World) : Prop :=
  ∃ (A : Option Addr) (C : Nat), en = .returned (.tuple #[.slice A r.1.length C, .int .i64 r.2]) ∧ Owned w.heap.size 5 A r.1.length C (r.1.map (Value.int .u8)) w' ∧ Below w.heap.size w w'
/-- The body of the frame that bytes are. -/
def oneGot (b : List Int) : List Int × Int := if (frameGot b).2.2 ≠ 0 then ([], (frameGot b).2.2) else if (frameGot b).2.1 < b.length then ([], 1) else ((frameGot b).1, 0)

theorem frameGot_bounds (l : List Int) (hl : IsBytes l) : (frameGot l).1.length ≤ l.length ∧ (frameGot l).2.1 ≤ l.length ∧ IsBytes (frameGot l).1 := by
  have h0 : IsBytes [] := fun x hx => by cases hx
  obtain ⟨x, k, e, h1, hx, h2⟩ := frameGot_cases l hl
  rcases h2 with ⟨he, h2⟩ | ⟨rfl, hk, hk1, hk2, ⟨_, h2⟩ | ⟨_, _, h2⟩ | ⟨c1, c2, y, s, m, hy, hm4, hs, hyl, hml, hby, hbm, ⟨_, h2⟩ | ⟨_, h2⟩⟩⟩
  · rw [h2]; exact ⟨Nat.zero_le _, Nat.zero_le _, h0⟩
  · rw [h2]; exact ⟨Nat.zero_le _, Nat.zero_le _, h0⟩
  · rw [h2]; exact ⟨Nat.zero_le _, Nat.zero_le _, h0⟩
  · rw [h2]; exact ⟨Nat.zero_le _, Nat.zero_le _, h0⟩
  · rw [h2]
    refine ⟨?_, c2, hby⟩
    show y.length ≤ l.length
    unfold frameLen at c2
    omega

theorem getFC (l : List Int) (n : Nat) (a : Option Addr) (c : Nat) (w : World) (hl : l.length = n) (ha : Reads w a (l.map (Value.int .u8))) (hb : IsBytes l) (hn : n ≤ c) (hm : c ≤ maxLen) (h12 : n ≤ 1000000000000) (hT : CTab w) :
    Calls Tryd.prog 12 #[.slice a n c] w (GetIs (frameGot l) w) := by
  have HC := cutC l n a c w hl ha hb hn hm hT
  have hB := frameGot_bounds l hb
  unfold CutIs at HC
  generalize frameGot l = r at HC hB ⊢
  obtain ⟨y, N, e⟩ := r
  simp only [] at HC hB
  have hy12 : y.length ≤ 1000000000000 := by omega
  have H1 := fun a c w ha hc => cloneC y y.length a c w rfl ha hc hy12
  unfold GetIs
  simp only []
  generalize y.length = L at HC H1 ⊢
  go_enter Tryd.func12, Tryd.ntmps12
  go_wp2_with (first
    | (go_at_call 25; (with_reducible refine HC.mono ?_); rintro e w1 ⟨A, C, rfl, hr, hA, -, hb1⟩)
    | (go_at_call 26; (with_reducible refine (H1 _ _ _ hr hA).mono ?_); rintro e w2 ⟨A2, C2, rfl, ho2, hb2⟩))
  go_ret3
  exact ⟨A2, C2, rfl, ho2.base hb1.size, hb1.trans (hb2.mono hb1.size)⟩

theorem oneFC (l : List Int) (n : Nat) (a : Option Addr) (c : Nat) (w : World) (hl : l.length = n) (ha : Reads w a (l.map (Value.int .u8))) (hb : IsBytes l) (hn : n ≤ c) (hm : c ≤ maxLen) (h12 : n ≤ 1000000000000) (hT : CTab w) :
    Calls Tryd.prog 13 #[.slice a n c] w (OneIs (oneGot l) w) := by
  have HC := cutC l n a c w hl ha hb hn hm hT
  have hB := frameGot_bounds l hb
  unfold CutIs at HC
  unfold oneGot
  rw [hl] at hB ⊢
  generalize frameGot l = r at HC hB ⊢
  obtain ⟨y, N, e⟩ := r
  simp only [] at HC hB ⊢
  have hy12 : y.length ≤ 1000000000000 := by omega
  have H1 := fun a c w ha hc => cloneC y y.length a c w rfl ha hc hy12
  unfold OneIs
  by_cases c1 : e ≠ 0
  · rw [if_pos c1]
    simp only []
    generalize y.length = L at HC
    go_enter Tryd.func13, Tryd.ntmps13
    go_wp2_with (go_at_call 25; (with_reducible refine HC.mono ?_); rintro e w1 ⟨A, C, rfl, hr, hA, -, hb1⟩)
    go_ret2
    exact ⟨none, 0, rfl, owned_nil _ _ _, hb1⟩
  · rw [if_neg c1]
    have c1' : e = 0 := by omega
    subst c1'
    by_cases c2 : N < n
    · rw [if_pos c2]
      simp only []
      generalize y.length = L at HC
      go_enter Tryd.func13, Tryd.ntmps13
      go_wp2_with (go_at_call 25; (with_reducible refine HC.mono ?_); rintro e w1 ⟨A, C, rfl, hr, hA, -, hb1⟩)
      go_ret2
      exact ⟨none, 0, rfl, owned_nil _ _ _, hb1⟩
    · rw [if_neg c2]
      simp only []
      generalize y.length = L at HC H1 ⊢
      go_enter Tryd.func13, Tryd.ntmps13
      go_wp2_with (first
        | (go_at_call 25; (with_reducible refine HC.mono ?_); rintro e w1 ⟨A, C, rfl, hr, hA, -, hb1⟩)
        | (go_at_call 26; (with_reducible refine (H1 _ _ _ hr hA).mono ?_); rintro e w2 ⟨A2, C2, rfl, ho2, hb2⟩))
      go_ret2
      exact ⟨A2, C2, rfl, ho2.base hb1.size, hb1.trans (hb2.mono hb1.size)⟩

theorem refGetFC (l : List Int) (n : Nat) (a : Option Addr) (c : Nat) (w : World) (hl : l.length = n) (ha : Reads w a (l.map (Value.int .u8))) (hb : IsBytes l) (hn : n ≤ c) (hm : c ≤ maxLen) (h12 : n ≤ 1000000000000) :
    Calls Tryd.prog 14 #[.slice a n c] w (GetIs (frameGot l) w) := by
  obtain ⟨i0, hi, hz0, hz1, hz2⟩ := info_parts info8
  have HG := refGetC l a c w ha hb (by omega)
  unfold GotIs at HG
  obtain ⟨x, k, e, h1, hx, h2⟩ := frameGot_cases l hb
  rw [h1, hl] at HG
  simp only [] at HG
  unfold maxLen at hm
  rcases h2 with ⟨he, h2⟩ | ⟨rfl, hk, hk1, hk2, h2 | h2 | h2⟩
  · rw [h2]
    go_enter Tryd.func14, Tryd.ntmps14
    go_wp2_with (go_at_call 27; (with_reducible refine HG.mono ?_); rintro e w' ⟨rfl, rfl⟩)
    go_ret3
    exact ⟨none, 0, rfl, owned_nil _ _ _, Below.refl _ _⟩
  · obtain ⟨c1, h2⟩ := h2
    rw [h2]
    go_enter Tryd.func14, Tryd.ntmps14
    go_wp2_with (go_at_call 27; (with_reducible refine HG.mono ?_); rintro e w' ⟨rfl, rfl⟩)
    go_ret3
    exact ⟨none, 0, rfl, owned_nil _ _ _, Below.refl _ _⟩
  · obtain ⟨c1, c2, h2⟩ := h2
    rw [h2]
    have c2' : n < k + x + 4 := by unfold frameLen at c2; omega
    have hkn : k ≤ n := by omega
    go_enter Tryd.func14, Tryd.ntmps14
    go_wp2_with (go_at_call 27; (with_reducible refine HG.mono ?_); rintro e w' ⟨rfl, rfl⟩)
    go_ret3
    exact ⟨none, 0, rfl, owned_nil _ _ _, Below.refl _ _⟩
  · obtain ⟨c1, c2, y, s, m, hy, hm4, hs, hyl, hml, hby, hbm, h2⟩ := h2
    have hF : frameLen x = k + x + 4 := by unfold frameLen; omega
    generalize frameLen x = F at c2 hF h2
    rw [hl] at c2 hk2
    have HN : ∀ w a c, Reads w a (m.map (Value.int .u8)) → Calls Tryd.prog 28 #[.slice a 4 c] w fun e w' => e = .returned (.int .u64 (leNum m)) ∧ w = w' := fun w a c ha => by
      rw [← hml]
      exact refNumberC m a c w ha hbm (by omega)
    have HC : ∀ w a c, Reads w a (y.map (Value.int .u8)) → Calls Tryd.prog 23 #[.slice a x c] w fun e w' => e = .returned (.int .u32 (s : Int)) ∧ w = w' := fun w a c ha => by
      rw [← hs]
      exact refSumC y x a c w hyl ha hby (by unfold maxLen; omega)
    have hnum := leNum_le m hbm (by omega)
    generalize leNum m = z at HN h2 hnum
    obtain ⟨B, off, rfl, -⟩ := ha.at 0 (by omega)
    have hs32 := cSum_lt y
    rw [hs] at hs32
    have hr1 := ha.part k x
    have hr2 := ha.part (k + x) 4
    rw [hy] at hr1
    rw [hm4] at hr2
    clear h1 hk hy hm4 hs
    go_enter Tryd.func14, Tryd.ntmps14
    go_wp2_with (first
      | (go_at_call 27; (with_reducible refine HG.mono ?_); rintro e w' ⟨rfl, rfl⟩)
      | fail)
    go_quiet ((first
      | (go_at_call 28; exact Calls.quiet_of_same ((HN _ _ _ (hr2.drewN _)).mono fun e w' h => ⟨h.1, h.2.symm⟩))
      | (go_at_call 23; exact Calls.quiet_of_same ((HC _ _ _ (hr1.drewN _)).mono fun e w' h => ⟨h.1, h.2.symm⟩))))
    have hb1 : Below w.heap.size w (w.drewN nq) := below_drewN (Below.refl _ _) nq
    have hr3 := hr1.drewN nq
    clear hr1 hr2 ha HN HC HG
    by_cases c3 : z = (s : Int)
    · have h3 : frameGot l = (y, F, 0) := by
        rcases h2 with h2 | h2
        · exact absurd c3 h2.1
        · exact h2.2
      have HL := Lib.hid hyl
      have e5 : k + x - k = x := by omega
      go_wp2_with (at_builtin; refine wpList_append_lit rfl (.tmp 42) (.tmp 46) 22 rfl 5 i0 (.int .u8 0) 1 Tryd.underlying22 hi hz0 hz1 hz2 rfl rfl hr3 rfl (by rw [List.length_map, HL.out, e5]) (fun h => by cases h) (bytes_one y .u8) (by unfold maxLen; omega) (by omega) ?_; intro a2 c2 w2 ho2 hb2; rw [e5] at ho2 ⊢)
      go_ret3
      rw [h3]
      have e4 : ((F : Nat) : Int) = (k : Int) + (x : Int) + 4 := by omega
      refine ⟨a2, c2, ?_, ?_, hb1.trans (hb2.mono hb1.size)⟩
      · show _ = Ending.returned (.tuple #[.slice a2 y.length c2, .int .i64 (F : Int), .int .i64 0])
        rw [hyl, e4]
        rfl
      · show Owned w.heap.size _ a2 y.length c2 (y.map (Value.int .u8)) w2
        rw [hyl]
        exact ho2.base hb1.size
    · have h3 : frameGot l = ([], 0, 5) := by
        rcases h2 with h2 | h2
        · exact h2.2
        · exact absurd h2.1 c3
      go_wp2
      go_ret3
      rw [h3]
      exact ⟨none, 0, rfl, owned_nil _ _ _, hb1⟩
end Go.Proofs.YtjjnehlghpdneaaDoor
