/- Contracts of layer 4's functions and of its reference: a frame is put, cut off, got. -/
import Derived.Test.YtjjnehlghpdneaaDoorRows
import Derived.Test.YtjjnehlghpdneaaDoorFramePlain
import Derived.Test.YtjjnehlghpdneaaDoorVarLaw
import Derived.Test.YtjjnehlghpdneaaDoorCrc
import Derived.Test.YtjjnehlghpdneaaDoorOwnAt
import Derived.Test.YtjjnehlghpdneaaDoorSlices
import Derived.Lib.LazyBuf
namespace Go.Proofs.YtjjnehlghpdneaaDoor
open Go.RowKit
set_option linter.unusedVariables false

theorem owned_nil (w : World) (base : Nat) (e : TypeId) : Owned base e none 0 0 [] w := by
  have h : w.ownsRow base e 1 (.slice none 0 0) 0 [] := ⟨by simp, .inl ⟨rfl, rfl⟩⟩
  obtain ⟨a, c, e1, h1⟩ := owns_open h
  cases e1
  exact ⟨h, h1⟩

theorem fSizeC (N : Nat) (w : World) (h : N ≤ 1048576) : Calls Tryd.prog 11 #[.int .i64 (N : Int)] w fun e w' => e = .returned (.int .i64 ((frameLen N : Nat) : Int)) ∧ w = w' := by
  have hten := short_ten N (by omega)
  have HS := sizeC N
  unfold frameLen
  generalize (short N).length = L at HS hten ⊢
  go_enter Tryd.func11, Tryd.ntmps11
  go_wp2_with (go_at_call 24; (with_reducible refine (HS _ (by omega)).mono ?_); rintro e w' ⟨rfl, rfl⟩)
  go_ret
  exact ⟨ret_int (by push_cast; omega), rfl⟩

theorem fSizeNo (n : Int) (w : World) (h0 : -9223372036854775808 ≤ n) (h1 : n ≤ 9223372036854775807) (h : n < 0 ∨ 1048576 < n) : Calls Tryd.prog 11 #[.int .i64 n] w fun e w' => e = .returned (.int .i64 0) ∧ w = w' := by
  by_cases c : n < 0
  · go_enter Tryd.func11, Tryd.ntmps11
    go_wp2
    go_ret
    exact ⟨rfl, rfl⟩
  · have c2 : 1048576 < n := by omega
    clear h
    go_enter Tryd.func11, Tryd.ntmps11
    go_wp2
    go_ret
    exact ⟨rfl, rfl⟩

theorem cloneC (l : List Int) (n : Nat) (a : Option Addr) (c : Nat) (w : World) (hl : l.length = n) (ha : Reads w a (l.map (Value.int .u8))) (hc : a = none → c = 0) (hm : n ≤ 1000000000000) :
    Calls Tryd.prog 26 #[.slice a n c] w (GivesOwned 5 (l.map (Value.int .u8)) n w) := by
  obtain ⟨i0, hi, hz0, hz1, hz2⟩ := info_parts info8
  have HL := Lib.hid hl
  have kn := fun (w : World) (a : Option Addr) (n c : Nat) => Go.run_eql_slice_nil (P := Tryd.prog) w 22 5 a n c Tryd.underlying22
  cases a with
  | none =>
    have hn : l = [] := by
      cases l with
      | nil => rfl
      | cons y ys => obtain ⟨b, off, e0, _⟩ := ha 0 (.int .u8 y) rfl; cases e0
    subst hn
    have hn0 : n = 0 := hl.symm
    subst hn0
    go_enter Tryd.func26, Tryd.ntmps26
    go_wp2
    go_ret
    exact ⟨none, 0, rfl, owned_nil _ _ _, Below.refl _ _⟩
  | some x =>
    clear hl
    go_enter Tryd.func26, Tryd.ntmps26
    go_wp2_with (at_builtin; refine wpList_append_lit rfl (.tmp 5) (.tmp 6) 22 rfl 5 i0 (.int .u8 0) 1 Tryd.underlying22 hi hz0 hz1 hz2 rfl rfl ha rfl (by rw [List.length_map, HL.out]) hc (bytes_one l .u8) (by unfold maxLen; omega) (by omega) ?_; intro a2 c2 w2 ho2 hb2)
    go_ret
    exact ⟨a2, c2, rfl, ho2, hb2⟩

theorem Reads.part {w : World} {b off : Nat} {l : List Int} {k : IntKind} (h : Reads w (some ⟨b, off, none⟩) (l.map (Value.int k))) (i j : Nat) : Reads w (some ⟨b, off + i, none⟩) (((l.drop i).take j).map (Value.int k)) := fun p v hv => by
  have hv2 : (l.map (Value.int k))[i + p]? = some v := by
    rw [List.getElem?_map] at hv ⊢
    by_cases c : p < j
    · rw [List.getElem?_take_of_lt c, List.getElem?_drop] at hv
      exact hv
    · rw [List.getElem?_take_eq_none (by omega)] at hv
      cases hv
  obtain ⟨b', off', e, hc⟩ := h (i + p) v hv2
  cases e
  exact ⟨b, off + i, rfl, by rw [Nat.add_assoc]; exact hc⟩
theorem Reads.part_if {w : World} {b off : Nat} {l : List Int} {k : IntKind} (h : Reads w (some ⟨b, off, none⟩) (l.map (Value.int k))) (c q j : Nat) (hc : c = q → j = 0) : Reads w (if c = q then some ⟨b, off, none⟩ else some ⟨b, off + q, none⟩) (((l.drop q).take j).map (Value.int k)) := by
  by_cases e : c = q
  · rw [if_pos e, hc e, List.take_zero]
    exact Reads.nil _ _
  · rw [if_neg e]
    exact h.part q j

/-- A body that lies in what was handed in, or nothing and why. -/
def CutIs (r : List Int × Nat × Int) (w : World) (en : Ending) (w' : World) : Prop :=
  ∃ (A : Option Addr) (C : Nat), en = .returned (.tuple #[.slice A r.1.length C, .int .i64 (r.2.1 : Int), .int .i64 r.2.2]) ∧ Reads w' A (r.1.map (Value.int .u8)) ∧ (A = none → C = 0) ∧ r.1.length ≤ C ∧ Below w.heap.size w w'

theorem got_fail : ∀ (l : List Int) (i : Nat) (n : Int), (got l i n).2.2 ≠ 0 → (got l i n).1 = 0 ∧ (got l i n).2.1 = 0
  | [], _, _, _ => ⟨rfl, rfl⟩
  | c :: r, i, n, h => by
    by_cases h1 : (i ≠ 0 ∧ c = 0) ∨ (i = 9 ∧ 1 < c)
    · rw [got_bad _ _ _ _ h1]
      exact ⟨rfl, rfl⟩
    · by_cases h2 : c < 128
      · rw [got_last _ _ _ _ h1 h2] at h
        exact absurd rfl h
      · rw [got_more _ _ _ _ h1 h2] at h ⊢
        exact got_fail r (i + 1) _ h

/-- What the walks of a frame that is cut off are told. -/
theorem frameGot_cases (l : List Int) (hl : IsBytes l) : ∃ (x k : Nat) (e : Int), got l 0 0 = ((x : Int), (k : Int), e) ∧ x ≤ 18446744073709551615 ∧
    ((e ≠ 0 ∧ frameGot l = ([], 0, e)) ∨ (e = 0 ∧ (short x).length = k ∧ 1 ≤ k ∧ k ≤ l.length ∧
      ((1048576 < x ∧ frameGot l = ([], 0, 3)) ∨ (x ≤ 1048576 ∧ l.length < frameLen x ∧ frameGot l = ([], 0, 2)) ∨
        (x ≤ 1048576 ∧ frameLen x ≤ l.length ∧ ∃ (y : List Int) (s : Nat) (m : List Int), (l.drop k).take x = y ∧ (l.drop (k + x)).take 4 = m ∧ cSum y = s ∧ y.length = x ∧ m.length = 4 ∧ IsBytes y ∧ IsBytes m ∧
          ((leNum m ≠ (s : Int) ∧ frameGot l = ([], 0, 5)) ∨ (leNum m = (s : Int) ∧ frameGot l = (y, frameLen x, 0))))))) := by
  have hr := got_range l 0 0 hl (by omega) (by omega) (by decide)
  generalize hg : got l 0 0 = r at hr
  obtain ⟨x, k, e⟩ := r
  obtain ⟨X, rfl⟩ := Int.eq_ofNat_of_zero_le hr.1
  have hX : X ≤ 18446744073709551615 := by have := hr.2; simp only [] at this; omega
  by_cases c : e = 0
  · subst c
    obtain ⟨M, L, e1, e2, h1, h2, h3⟩ := got_one l _ k hl hg
    have e1' : X = M := by omega
    subst e1'
    subst e2
    have hL : (short X).length = L := by rw [← h3, List.length_take]; omega
    refine ⟨X, L, 0, rfl, hX, .inr ⟨rfl, hL, h1, h2, ?_⟩⟩
    unfold frameGot
    rw [hg]
    simp only []
    rw [if_neg (by decide)]
    by_cases c1 : 1048576 < X
    · exact .inl ⟨c1, by rw [if_pos (by omega)]⟩
    · rw [if_neg (by omega)]
      by_cases c2 : l.length < frameLen X
      · exact .inr (.inl ⟨by omega, c2, by rw [if_pos (by unfold frameLen at c2; omega)]⟩)
      · have c2' : L + X + 4 ≤ l.length := by unfold frameLen at c2; omega
        refine .inr (.inr ⟨by omega, by omega, (l.drop L).take X, cSum ((l.drop L).take X), (l.drop (L + X)).take 4, rfl, rfl, rfl, by rw [List.length_take, List.length_drop]; omega, by rw [List.length_take, List.length_drop]; omega, (hl.drop L).take X, (hl.drop _).take 4, ?_⟩)
        rw [if_neg (by omega), show ((L : Int) + (X : Int)).toNat = L + X by omega, Int.toNat_natCast, Int.toNat_natCast, show ((L : Int) + (X : Int) + 4).toNat = frameLen X by unfold frameLen; omega]
        by_cases c3 : leNum ((l.drop (L + X)).take 4) = (cSum ((l.drop L).take X) : Int)
        · exact .inr ⟨c3, by rw [if_neg (by simpa using c3)]⟩
        · exact .inl ⟨c3, by rw [if_pos (by simpa using c3)]⟩
  · have hf := (got_fail l 0 0 (by rw [hg]; exact c)).2
    rw [hg] at hf
    simp only [] at hf
    subst hf
    exact ⟨X, 0, e, rfl, hX, .inl ⟨c, by unfold frameGot; rw [hg]; simp only []; rw [if_pos c]⟩⟩

theorem cutC (l : List Int) (n : Nat) (a : Option Addr) (c : Nat) (w : World) (hl : l.length = n) (ha : Reads w a (l.map (Value.int .u8))) (hb : IsBytes l) (hn : n ≤ c) (hm : c ≤ maxLen) (hT : CTab w) :
    Calls Tryd.prog 25 #[.slice a n c] w (CutIs (frameGot l) w) := by
  have HG := getC l a c w ha hb (by omega)
  unfold GotIs at HG
  obtain ⟨x, k, e, h1, hx, h2⟩ := frameGot_cases l hb
  rw [h1, hl] at HG
  simp only [] at HG
  unfold maxLen at hm
  rcases h2 with ⟨he, h2⟩ | ⟨rfl, hk, hk1, hk2, h2 | h2 | h2⟩
  · rw [h2]
    go_enter Tryd.func25, Tryd.ntmps25
    go_wp2_with (go_at_call 35; (with_reducible refine HG.mono ?_); rintro e w' ⟨rfl, rfl⟩)
    go_ret3
    exact ⟨none, 0, rfl, Reads.nil _ _, fun _ => rfl, Nat.le_refl _, Below.refl _ _⟩
  · obtain ⟨c1, h2⟩ := h2
    rw [h2]
    go_enter Tryd.func25, Tryd.ntmps25
    go_wp2_with (go_at_call 35; (with_reducible refine HG.mono ?_); rintro e w' ⟨rfl, rfl⟩)
    go_ret3
    exact ⟨none, 0, rfl, Reads.nil _ _, fun _ => rfl, Nat.le_refl _, Below.refl _ _⟩
  · obtain ⟨c1, c2, h2⟩ := h2
    rw [h2]
    have HS := fun w => fSizeC x w c1
    generalize frameLen x = F at c2 HS
    rw [hl] at c2
    go_enter Tryd.func25, Tryd.ntmps25
    go_wp2_with (first
      | (go_at_call 35; (with_reducible refine HG.mono ?_); rintro e w' ⟨rfl, rfl⟩)
      | (go_at_call 11; (with_reducible refine (HS _).mono ?_); rintro e w' ⟨rfl, rfl⟩))
    go_ret3
    exact ⟨none, 0, rfl, Reads.nil _ _, fun _ => rfl, Nat.le_refl _, Below.refl _ _⟩
  · obtain ⟨c1, c2, y, s, m, hy, hm4, hs, hyl, hml, hby, hbm, h2⟩ := h2
    have HS := fun w => fSizeC x w c1
    have hF : frameLen x = k + x + 4 := by unfold frameLen; omega
    generalize frameLen x = F at c2 HS hF h2
    rw [hl] at c2 hk2
    have HN := fun w a c ha => numberC m a c w ha hbm (by omega) (by omega)
    have HC := fun w a c ha hT => sumC y x a c w hyl ha hby (by unfold maxLen; omega) hT
    unfold SumIs at HC
    rw [hml] at HN
    rw [hs] at HC
    have hnum := leNum_le m hbm (by omega)
    generalize leNum m = z at HN h2 hnum
    obtain ⟨B, off, rfl, -⟩ := ha.at 0 (by omega)
    clear h1 hk
    go_enter Tryd.func25, Tryd.ntmps25
    go_wp2_with (first
      | (go_at_call 35; (with_reducible refine HG.mono ?_); rintro e w' ⟨rfl, rfl⟩)
      | (go_at_call 11; (with_reducible refine (HS _).mono ?_); rintro e w' ⟨rfl, rfl⟩)
      | fail)
    go_quiet (fail)
    have hr1 := (ha.part_if (k + x) k x (by omega)).drewN nq
    have hr2 := (ha.part (k + x) 4).drewN nq
    rw [hy] at hr1
    rw [hm4] at hr2
    have hA : (if k + x = k then some (⟨B, off, none⟩ : Addr) else some ⟨B, off + k, none⟩) = none → x = 0 := fun h => by split at h <;> cases h
    generalize (if k + x = k then some (⟨B, off, none⟩ : Addr) else some ⟨B, off + k, none⟩) = A at hr1 hA
    rw [show k + x - k = x by omega, show k + x + 4 - (k + x) = 4 by omega]
    have hb1 : Below w.heap.size w (w.drewN nq) := below_drewN (Below.refl _ _) nq
    have hs32 := cSum_lt y
    rw [hs] at hs32
    have HT := Lib.hid (hT.below hb1)
    clear hT ha hy hm4 hs
    by_cases c3 : z = (s : Int)
    · have h3 : frameGot l = (y, F, 0) := by
        rcases h2 with h2 | h2
        · exact absurd c3 h2.1
        · exact h2.2
      go_wp2_with (first
        | (go_at_call 36; (with_reducible refine (HN _ _ _ hr2).mono ?_); rintro e w' ⟨rfl, rfl⟩)
        | (go_at_call 19; (with_reducible refine (HC _ _ _ hr1 HT.out).mono ?_); rintro e w2 ⟨rfl, hb2⟩))
      go_ret3
      rw [h3]
      have e4 : ((F : Nat) : Int) = (k : Int) + (x : Int) + 4 := by omega
      refine ⟨A, x, ?_, hr1.below' hb2, hA, Nat.le_of_eq hyl, hb1.trans hb2⟩
      show _ = Ending.returned (.tuple #[.slice A y.length x, .int .i64 (F : Int), .int .i64 0])
      rw [hyl, e4]
      rfl
    · have h3 : frameGot l = ([], 0, 5) := by
        rcases h2 with h2 | h2
        · exact h2.2
        · exact absurd h2.1 c3
      go_wp2_with (first
        | (go_at_call 36; (with_reducible refine (HN _ _ _ hr2).mono ?_); rintro e w' ⟨rfl, rfl⟩)
        | (go_at_call 19; (with_reducible refine (HC _ _ _ hr1 HT.out).mono ?_); rintro e w2 ⟨rfl, hb2⟩))
      go_ret3
      rw [h3]
      exact ⟨none, 0, rfl, Reads.nil _ _, fun _ => rfl, Nat.le_refl _, hb1.trans hb2⟩
end Go.Proofs.YtjjnehlghpdneaaDoor
