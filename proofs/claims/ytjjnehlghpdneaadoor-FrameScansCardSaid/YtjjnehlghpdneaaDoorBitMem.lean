/- Contracts of layer 1's functions that make bytes. -/
import Derived.Test.YtjjnehlghpdneaaDoorBit
import Derived.Test.YtjjnehlghpdneaaDoorInfo
import Derived.Test.YtjjnehlghpdneaaDoorBytesPlain
namespace Go.Proofs.YtjjnehlghpdneaaDoor
open Go.RowKit
set_option linter.unusedVariables false

theorem hasBytesNo (n k : Int) (w : World) (h0 : 0 ≤ n) (h1 : n ≤ 18446744073709551615) (h2 : -9223372036854775808 ≤ k) (h3 : k ≤ 9223372036854775807)
    (h : k < 1 ∨ 8 < k ∨ roomI n (8 * k) = false) :
    Calls Tryd.prog 29 #[.int .u64 n, .int .i64 k] w fun e w' => e = .returned (.bool false) ∧ w = w' := by
  by_cases c1 : 1 ≤ k
  · by_cases c2 : k ≤ 8
    · have hr : roomI n (8 * k) = false := by rcases h with h | h | h <;> first | omega | exact h
      have e1 := (room_shift n (8 * k) h0 h1 (by omega)).trans hr
      have H := Lib.hid e1
      clear hr e1 h
      go_enter Tryd.func29, Tryd.ntmps29
      go_wp2_with (go_at_call 38; refine (hasRoomC _ _ _ h0 h1 (by omega) (by omega)).mono ?_; rw [H.out]; rintro e w' ⟨rfl, rfl⟩)
      go_ret
      exact ⟨rfl, rfl⟩
    · clear h
      go_enter Tryd.func29, Tryd.ntmps29
      go_wp2
      go_ret
      exact ⟨rfl, rfl⟩
  · clear h
    go_enter Tryd.func29, Tryd.ntmps29
    go_wp2
    go_ret
    exact ⟨rfl, rfl⟩

theorem hasBytesYes (n k : Int) (w : World) (h0 : 0 ≤ n) (h1 : n ≤ 18446744073709551615) (h2 : 1 ≤ k) (h3 : k ≤ 8) (hr : roomI n (8 * k) = true) :
    Calls Tryd.prog 29 #[.int .u64 n, .int .i64 k] w fun e w' => e = .returned (.bool true) ∧ w = w' := by
  have e1 := (room_shift n (8 * k) h0 h1 (by omega)).trans hr
  have H := Lib.hid e1
  clear hr e1
  go_enter Tryd.func29, Tryd.ntmps29
  go_wp2_with (go_at_call 38; refine (hasRoomC _ _ _ h0 h1 (by omega) (by omega)).mono ?_; rw [H.out]; rintro e w' ⟨rfl, rfl⟩)
  go_ret
  exact ⟨rfl, rfl⟩

theorem bytesNo (n k : Int) (w : World) (h0 : 0 ≤ n) (h1 : n ≤ 18446744073709551615) (h2 : -9223372036854775808 ≤ k) (h3 : k ≤ 9223372036854775807)
    (h : k < 1 ∨ 8 < k ∨ roomI n (8 * k) = false) :
    Calls Tryd.prog 18 #[.int .u64 n, .int .i64 k] w fun e w' => e = .returned (.tuple #[.slice none 0 0, .int .i64 4]) ∧ w = w' := by
  have H := Lib.hid h
  clear h
  go_enter Tryd.func18, Tryd.ntmps18
  go_wp2_with (go_at_call 29; refine (hasBytesNo _ _ _ h0 h1 h2 h3 H.out).mono ?_; rintro e w' ⟨rfl, rfl⟩)
  go_ret2
  exact ⟨rfl, rfl⟩

theorem row_cell {w : World} {base : Nat} {e : TypeId} {size n cap g : Nat} {xs : List Value} (h : w.ownsRow base e size (.slice (some ⟨g, 0, none⟩) n cap) n xs) (j : Nat) (hj : j < n * size) (hl : j < xs.length) :
    ∃ v, w.cell? ⟨g, j, none⟩ = some v := by
  rw [h.cellAt j hj]
  exact ⟨_, List.getElem?_eq_getElem hl⟩

/-- The same, with what is not yet written 0. -/
def lowDone (n : Int) (K k : Nat) : List Int := (List.range K).map fun i => if i < k then n / 2 ^ (8 * i) % 256 else 0

/-- Bytes in new memory, and an error's number. -/
def GivesBytes (l : List Int) (err : Int) (w : World) (e : Ending) (w' : World) : Prop :=
  ∃ g cap, e = .returned (.tuple #[.slice (some ⟨g, 0, none⟩) l.length cap, .int .i64 err]) ∧ w'.ownsRow w.heap.size 5 1 (.slice (some ⟨g, 0, none⟩) l.length cap) l.length (l.map (Value.int .u8)) ∧ Below w.heap.size w w'

theorem lowDone_zero (n : Int) (K : Nat) : (List.replicate K (Value.int .u8 0)) = (lowDone n K 0).map (Value.int .u8) := by
  unfold lowDone
  rw [List.map_map]
  apply List.ext_getElem
  · simp
  · intro i h1 h2; simp
theorem lowDone_all (n : Int) (K : Nat) : lowDone n K K = lowBytes n K := by
  unfold lowDone lowBytes
  apply List.map_congr_left
  intro i hi
  rw [if_pos (List.mem_range.mp hi)]
theorem lowDone_set (n : Int) (K k : Nat) : ((lowDone n K k).map (Value.int .u8)).set k (.int .u8 (n / 2 ^ (8 * k) % 256)) = (lowDone n K (k + 1)).map (Value.int .u8) := by
  unfold lowDone
  apply List.ext_getElem
  · simp
  · intro i h1 h2
    simp only [List.getElem_set, List.getElem_map, List.getElem_range]
    by_cases h : k = i
    · subst h; simp
    · by_cases h3 : i < k
      · have : i < k + 1 := by omega
        simp [h, h3, this]
      · have : ¬ i < k + 1 := by omega
        simp [h, h3, this]

theorem bytesYes (n : Int) (K : Nat) (w : World) (h0 : 0 ≤ n) (h1 : n ≤ 18446744073709551615) (h2 : 1 ≤ K) (h3 : K ≤ 8) (hr : roomI n (8 * (K : Int)) = true) :
    Calls Tryd.prog 18 #[.int .u64 n, .int .i64 (K : Int)] w (GivesBytes (lowBytes n K) 0 w) := by
  obtain ⟨i0, hi, hz0, hz1, hz2⟩ := info_parts info8
  have H := Lib.hid hr
  clear hr
  go_enter Tryd.func18, Tryd.ntmps18
  go_wp2_with (first
    | (go_at_call 29; refine (hasBytesYes _ _ _ h0 h1 (by omega) (by omega) H.out).mono ?_; rintro e w' ⟨rfl, rfl⟩)
    | (at_make; refine wpList_make_full _ rfl _ _ 22 rfl w.heap.size 5 i0 (.int .u8 0) 1 Tryd.underlying22 hi hz0 hz1 .i64 .i64 (K : Int) (K : Int) K rfl rfl rfl rfl (by rw [hz2]; omega) (by unfold maxLen; omega) (Nat.le_refl _) ?_; intro w1 hown1 hgrow1))
  have hb1 : Below w.heap.size w w1 := (Below.refl _ _).grown hgrow1 (Nat.le_refl _) (by intro k hk; cases hk)
  rw [show (Value.int IntKind.u8 0).cells = #[.int .u8 0] from rfl, toList_madeCells_one, Nat.mul_one, lowDone_zero n K] at hown1
  clear hgrow1
  go_loopw [15] (fun i wr => ∃ k : Nat, k ≤ K ∧ i = .int .i64 k ∧ wr.ownsRow w.heap.size 5 1 (.slice (some ⟨w.heap.size, 0, none⟩) K K) K ((lowDone n K k).map (Value.int .u8)) ∧ Below w.heap.size w wr) (fun i _ => K - (intOf i).toNat)
  case atStart => exact ⟨0, Nat.zero_le _, rfl, hown1, hb1⟩
  case round =>
    obtain ⟨k, hk, rfl, hown, hb⟩ := hrel
    clear hown1 hb1
    by_cases hlt : k < K
    · obtain ⟨v, hc⟩ := row_cell hown k (by omega) (by simp [lowDone]; omega)
      have hf := hown.frozenAt k
      go_wp2
      go_roundw
      case rel =>
        have hs := hown.stored k (.int .u8 (n / 2 ^ (8 * k) % 256))
        rw [lowDone_set] at hs
        exact ⟨k + 1, by omega, by go_num, hs.1, hb.setCell (Nat.le_refl _) _⟩
      case measure => simp [intOf]; omega
    · go_wp2
      go_ret2
      have : k = K := by omega
      subst this
      rw [lowDone_all] at hown
      have hl : (lowBytes n k).length = k := by simp [lowBytes]
      exact ⟨w.heap.size, k, by rw [hl]; rfl, by rw [hl]; exact hown, hb⟩

end Go.Proofs.YtjjnehlghpdneaaDoor
