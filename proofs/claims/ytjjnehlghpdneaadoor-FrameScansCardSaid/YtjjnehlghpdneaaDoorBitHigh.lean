/- Contracts of the functions that make rows of bytes by append, or turn them round. -/
import Derived.Test.YtjjnehlghpdneaaDoorBitRow
namespace Go.Proofs.YtjjnehlghpdneaaDoor
open Go.RowKit
set_option linter.unusedVariables false

/-- A row of bytes in new memory. -/
def GivesRow (l : List Int) (w : World) (e : Ending) (w' : World) : Prop :=
  ∃ v, e = .returned v ∧ w'.ownsRow w.heap.size 5 1 v l.length (l.map (Value.int .u8)) ∧ Below w.heap.size w w'

theorem rel_append {w wr w1 : World} {base : Nat} {e : TypeId} {v v' : Value} {n : Nat} {xs ys : List Value} {o : Obj}
    (hown : wr.ownsRow base e 1 v n xs) (hb : Below base w wr) (hB : base ≤ wr.heap.size)
    (hown' : w1.ownsRow base e 1 v' (n + 1) ys) (hgrow : (wr.alloc o).grownBy w1 v.ownBlock) :
    w1.ownsRow base e 1 v' (n + 1) ys ∧ Below base w w1 := by
  refine ⟨hown', (hb.alloc hB o).grown hgrow (by simp; omega) fun k hk => (hown.lt k hk).1⟩

theorem refBytesC (n : Int) (K : Nat) (w : World) (h0 : 0 ≤ n) (h1 : n ≤ 18446744073709551615) (h8 : K ≤ 8) :
    Calls Tryd.prog 22 #[.int .u64 n, .int .i64 K] w (GivesRow (lowBytes n K) w) := by
  obtain ⟨N, rfl⟩ := Int.eq_ofNat_of_zero_le h0
  obtain ⟨i0, hi, hz0, hz1, hz2⟩ := info_parts info8
  go_enter Tryd.func22, Tryd.ntmps22
  go_wp2
  go_loopw [0, 5, 6] (fun m v i wr => ∃ k : Nat, k ≤ K ∧ i = .int .i64 k ∧ m = .int .u64 ((N / 2 ^ (8 * k) : Nat) : Int) ∧ wr.ownsRow w.heap.size 5 1 v k ((lowBytes N k).map (Value.int .u8)) ∧ Below w.heap.size w wr) (fun _ _ i _ => K - (intOf i).toNat)
  case atStart => exact ⟨0, Nat.zero_le _, rfl, by simp, World.ownsRow_lit _ #[] 0 (Nat.le_refl _) (by unfold maxLen; omega) rfl, (Below.refl _ _).alloc (Nat.le_refl _) _⟩
  case round =>
    obtain ⟨k, hk, rfl, rfl, hown, hb⟩ := hrel
    by_cases hlt : k < K
    · have hsn := lowBytes_snoc N k
      have hdv : N / 2 ^ (8 * (k + 1)) = N / 2 ^ (8 * k) / 256 := by
        rw [Nat.div_div_eq_div_mul, Nat.mul_add, Nat.pow_add]
      have hle : N / 2 ^ (8 * k) ≤ N := Nat.div_le_self _ _
      have hcast : ((N : Int) / 2 ^ (8 * k)) = ((N / 2 ^ (8 * k) : Nat) : Int) := by push_cast; rfl
      rw [hcast] at hsn
      generalize N / 2 ^ (8 * k) = M at hsn hdv hle ⊢
      have HS := Lib.hid hsn
      have HD := Lib.hid hdv
      have hsz := hb.size
      clear hsn hdv hcast
      go_wp2_with (at_builtin; refine wpList_append_own _ rfl _ _ 22 rfl w.heap.size 5 i0 (.int .u8 0) 1 1 Tryd.underlying22 hi hz0 hz1 hz2 rfl (by decide) _ _ _ rfl (hown.alloc _) ⟨wr.heap.size, 0, none⟩ 1 1 [.int .u8 ((M : Int) % 256)] rfl rfl ?c1 ?c2 ?c3 ?c4 ?c5 ?_)
      case c1 => exact (cell_one_new _ _ _)
      case c2 => intro u hu; simp at hu; subst hu; rfl
      case c3 => unfold maxLen; omega
      case c4 => omega
      case c5 => simp; omega
      intro v' w1 hown' hgrow _
      have hR := rel_append hown hb (by omega) hown' hgrow
      clear hown' hgrow hown hb
      go_wp2
      go_roundw
      case rel => exact ⟨k + 1, by omega, by go_num, by rw [HD.out]; go_num, by rw [HS.out, List.map_append]; exact hR.1, hR.2⟩
      case measure => simp [intOf]; omega
    · go_wp2
      go_ret
      have : k = K := by omega
      subst this
      exact ⟨_, rfl, by rw [lowBytes_length]; exact hown, hb⟩

/-- A list, its first i and its last i turned round. -/
def turned (l : List Int) (i : Nat) : List Int :=
  (List.range l.length).map fun p => if p < i ∨ l.length - i ≤ p then l.getD (l.length - 1 - p) 0 else l.getD p 0
theorem turned_length (l : List Int) (i : Nat) : (turned l i).length = l.length := by simp [turned]
theorem turned_zero (l : List Int) : turned l 0 = l := by
  apply List.ext_getElem
  · simp [turned]
  · intro p h1 h2
    have : ¬ l.length ≤ p := by omega
    simp [turned, h2, this]
theorem turned_all (l : List Int) (i : Nat) (h : l.length ≤ 2 * i + 1) : turned l i = l.reverse := by
  apply List.ext_getElem
  · simp [turned]
  · intro p h1 h2
    have hp : p < l.length := by simpa using h2
    rw [List.getElem_reverse]
    simp only [turned, List.getElem_map, List.getElem_range]
    have e1 : l.length - 1 - p < l.length := by omega
    by_cases c : p < i ∨ l.length - i ≤ p
    · rw [if_pos c, getD_of_lt _ _ e1]
    · rw [if_neg c, getD_of_lt _ _ hp]
      have : l.length - 1 - p = p := by omega
      simp [this]
theorem turned_step (l : List Int) (i j : Nat) (hij : i + j + 1 = l.length) (h : i < j) :
    ((turned l i).set i (l.getD j 0)).set j (l.getD i 0) = turned l (i + 1) := by
  apply List.ext_getElem
  · simp [turned]
  · intro p h1 h2
    have hp : p < l.length := by simpa [turned] using h2
    simp only [List.getElem_set, turned, List.getElem_map, List.getElem_range]
    by_cases c1 : j = p
    · subst c1
      have e : l.length - 1 - j = i := by omega
      have c : j < i + 1 ∨ l.length - (i + 1) ≤ j := by omega
      rw [if_pos rfl, if_pos c, e]
    · by_cases c2 : i = p
      · subst c2
        have e : l.length - 1 - i = j := by omega
        simp [c1, e]
      · have ec : (p < i ∨ l.length - i ≤ p) = (p < i + 1 ∨ l.length - (i + 1) ≤ p) := by
          apply propext; omega
        simp only [c1, c2, if_false, ec]
theorem turned_mid (l : List Int) (i p : Nat) (h1 : i ≤ p) (h2 : p < l.length - i) : (turned l i)[p]? = some (l.getD p 0) := by
  have hp : p < (turned l i).length := by rw [turned_length]; omega
  rw [List.getElem?_eq_getElem hp]
  have c : ¬ (p < i ∨ l.length - i ≤ p) := by omega
  simp only [turned, List.getElem_map, List.getElem_range, if_neg c]

end Go.Proofs.YtjjnehlghpdneaaDoor
