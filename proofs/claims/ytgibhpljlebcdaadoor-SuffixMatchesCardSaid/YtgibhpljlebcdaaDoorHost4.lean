/- Contracts of layer 8: Canon, Address, Match, Labels, Up. -/
import Derived.Test.YtgibhpljlebcdaaDoorHost3
namespace Go.Proofs.YtgibhpljlebcdaaDoor
open Go.RowKit
set_option linter.unusedVariables false

theorem kind_cases (l : List UInt8) : (kindN l = 0 ∧ canonB l = false ∧ nameB l = false ∧ addrB l = false) ∨ (kindN l = 1 ∧ canonB l = true ∧ nameB l = true ∧ addrB l = false) ∨ (kindN l = 2 ∧ canonB l = true ∧ nameB l = false ∧ addrB l = true) := by
  have h0 := kind_zero l
  have h1 := kind_one l
  have h2 := kind_two l
  rw [← h1, ← h2]
  have h3 := kind_le l
  generalize kindN l = k at *
  rcases (show k = 0 ∨ k = 1 ∨ k = 2 by omega) with rfl | rfl | rfl
  · refine .inl ⟨rfl, ?_, rfl, rfl⟩
    cases c : canonB l with
    | false => rfl
    | true => rw [c] at h0; cases h0
  · refine .inr (.inl ⟨rfl, ?_, rfl, rfl⟩)
    cases c : canonB l with
    | true => rfl
    | false => rw [c] at h0; cases h0
  · refine .inr (.inr ⟨rfl, ?_, rfl, rfl⟩)
    cases c : canonB l with
    | true => rfl
    | false => rw [c] at h0; cases h0

theorem canon_len {l : List UInt8} (h : canonB l = true) : l.length ≤ 256 := by
  unfold canonB at h
  rw [Bool.and_eq_true, decide_eq_true_iff] at h
  exact h.1

/-- What Canon answers. -/
def CanonIs (l : List UInt8) (w : World) (e : Ending) (w' : World) : Prop :=
  e = .returned (if 256 < l.length then .tuple #[.string (str []), .int .i64 3] else if canonB (l.map low) = true then .tuple #[.string (str (l.map low)), .int .i64 0] else .tuple #[.string (str []), .int .i64 1]) ∧ Below w.heap.size w w'

/-- What Labels answers. -/
def LabelsIs (l : List UInt8) (w : World) (e : Ending) (w' : World) : Prop :=
  if nameB l = true then GivesStrs (splitL l 46) w e w' else e = .returned (.slice none 0 0) ∧ Below w.heap.size w w'

set_option maxRecDepth 100000 in
theorem labelsC (l : List UInt8) (n : Nat) (w : World) (hl : l.length = n) (hm : n ≤ maxLen) (hT : PTab Tryd.prog w) :
    Calls Tryd.prog 18 #[.string (str l)] w (LabelsIs l w) := by
  have hb := Below.refl w.heap.size w
  have HK := fun w (h : PTab Tryd.prog w) => kindOfC l n w hl hm h
  have hc := @canon_len l
  unfold LabelsIs
  rcases kind_cases l with ⟨k, -, c, -⟩ | ⟨k, d, c, -⟩ | ⟨k, -, c, -⟩
  · rw [k] at HK
    simp only [c, Bool.false_eq_true, if_false]
    clear hl k c hc
    go_enter Tryd.func18, Tryd.ntmps18
    go_wp2_with (go_at_call 30; (with_reducible refine (HK _ (hT.below hb)).mono ?_); rintro e w1 ⟨rfl, hx⟩; have hb := hb.trans (hx.mono hb.size); clear hx)
    go_ret
    exact ⟨rfl, hb⟩
  · rw [k] at HK
    simp only [c, if_true]
    have HS := fun w => splitDotC l n w hl (by have := hc d; omega)
    clear hl k c d hc
    unfold GivesStrs at *
    generalize splitL l 46 = P at *
    obtain ⟨N, hN⟩ : ∃ N, P.length = N := ⟨_, rfl⟩
    rw [hN] at HS ⊢
    clear hN
    go_enter Tryd.func18, Tryd.ntmps18
    go_wp2_with (first
      | (go_at_call 30; (with_reducible refine (HK _ (hT.below hb)).mono ?_); rintro e w1 ⟨rfl, hx⟩; have hb := hb.trans (hx.mono hb.size); clear hx)
      | (go_at_call 33; (with_reducible refine (HS _).mono ?_); rintro e w1 ⟨a1, c1, rfl, ho1, hx⟩; have ho1 := ho1.base hb.size; have hb := hb.trans (hx.mono hb.size); clear hx))
    go_ret
    exact ⟨a1, c1, rfl, ho1, hb⟩
  · rw [k] at HK
    simp only [c, Bool.false_eq_true, if_false]
    clear hl k c hc
    go_enter Tryd.func18, Tryd.ntmps18
    go_wp2_with (go_at_call 30; (with_reducible refine (HK _ (hT.below hb)).mono ?_); rintro e w1 ⟨rfl, hx⟩; have hb := hb.trans (hx.mono hb.size); clear hx)
    go_ret
    exact ⟨rfl, hb⟩

/-- What Up answers. -/
def upL (l : List UInt8) : List UInt8 × Bool := if nameB l = true then ((cutL l 46).2.1, (cutL l 46).2.2) else ([], false)

theorem suffixDotC (a b : List UInt8) (w : World) (hm : a.length ≤ 9223372036854775807) :
    Calls Tryd.prog 31 #[.string (str a), .string (str ([46] ++ b))] w fun e w' => e = .returned (.bool (belowB a b)) ∧ w = w' := by
  refine (Tryd.strings_HasSuffix (str a) (str ([46] ++ b)) w (by rw [str_size]; exact hm)).mono ?_
  rintro e w' ⟨rfl, rfl⟩
  rw [str_data, str_data, below_suffix]
  exact ⟨rfl, rfl⟩

set_option maxRecDepth 100000 in
theorem matchC (a b : List UInt8) (n m : Nat) (w : World) (hl : a.length = n) (hm : n ≤ maxLen) (hl2 : b.length = m) (hm2 : m ≤ maxLen) (hT : PTab Tryd.prog w) :
    Calls Tryd.prog 15 #[.string (str a), .string (str b)] w fun e w' => e = .returned (.bool (matchB a b)) ∧ Below w.heap.size w w' := by
  have hb := Below.refl w.heap.size w
  have HK := fun w (h : PTab Tryd.prog w) => kindOfC a n w hl hm h
  have HK2 := fun w (h : PTab Tryd.prog w) => kindOfC b m w hl2 hm2 h
  have hk := str_toList
  have hd : ({ data := #[46] } : ByteArray) = str [46] := rfl
  have hcb := @canon_len b
  unfold matchB
  rcases kind_cases a with ⟨k, c, d, -⟩ | ⟨k, c, d, -⟩ | ⟨k, c, d, -⟩
  · rw [k] at HK
    rw [c]
    clear k c d hl hl2 HK2 hcb
    go_enter Tryd.func15, Tryd.ntmps15
    go_wp2_with (go_at_call 30; (with_reducible refine (HK _ (hT.below hb)).mono ?_); rintro e w1 ⟨rfl, hx⟩; have hb := hb.trans (hx.mono hb.size); clear hx)
    go_ret
    exact ⟨rfl, hb⟩
  · rw [k] at HK
    rw [c, d, Bool.true_and]
    rcases kind_cases b with ⟨k2, c2, -, -⟩ | h2
    · rw [k2] at HK2
      rw [c2]
      clear k c d hl hl2 hcb k2 c2
      go_enter Tryd.func15, Tryd.ntmps15
      go_wp2_with (go_at_call 30; first
        | ((with_reducible refine (HK _ (hT.below hb)).mono ?_); rintro e w1 ⟨rfl, hx⟩; have hb := hb.trans (hx.mono hb.size); clear hx)
        | ((with_reducible refine (HK2 _ (hT.below hb)).mono ?_); rintro e w1 ⟨rfl, hx⟩; have hb := hb.trans (hx.mono hb.size); clear hx))
      go_ret
      exact ⟨rfl, hb⟩
    · obtain ⟨K, hK, hK0, c2⟩ : ∃ K : Int, (kindN b : Int) = K ∧ (K == 0) = false ∧ canonB b = true := by
        rcases h2 with ⟨k2, c2, -, -⟩ | ⟨k2, c2, -, -⟩
        · exact ⟨1, by rw [k2]; rfl, rfl, c2⟩
        · exact ⟨2, by rw [k2]; rfl, rfl, c2⟩
      rw [hK] at HK2
      have := hcb c2
      have ha := fun (w : World) => run_add_str (P := Tryd.prog) w [46] b (by simp; omega)
      have HF := fun w => suffixDotC a b w (by rw [hl]; unfold maxLen at hm; omega)
      rw [c2, Bool.true_and, Bool.true_and]
      have hk2 : ∀ l, (str l).toList = l := hk
      generalize [46] ++ b = y at *
      generalize belowB a b = t at *
      rw [← hd] at ha
      clear hd k c d hl hl2 hcb c2 h2 hK this
      cases hq : (a == b)
      · cases t <;> (
          go_enter Tryd.func15, Tryd.ntmps15
          go_wp2_with (first
            | (go_at_call 30; first
              | ((with_reducible refine (HK _ (hT.below hb)).mono ?_); rintro e w1 ⟨rfl, hx⟩; have hb := hb.trans (hx.mono hb.size); clear hx)
              | ((with_reducible refine (HK2 _ (hT.below hb)).mono ?_); rintro e w1 ⟨rfl, hx⟩; have hb := hb.trans (hx.mono hb.size); clear hx))
            | (go_at_call 31; (with_reducible refine (HF _).mono ?_); rintro e w1 ⟨rfl, rfl⟩))
          go_ret
          exact ⟨rfl, hb⟩)
      · go_enter Tryd.func15, Tryd.ntmps15
        go_wp2_with (first
          | (go_at_call 30; first
            | ((with_reducible refine (HK _ (hT.below hb)).mono ?_); rintro e w1 ⟨rfl, hx⟩; have hb := hb.trans (hx.mono hb.size); clear hx)
            | ((with_reducible refine (HK2 _ (hT.below hb)).mono ?_); rintro e w1 ⟨rfl, hx⟩; have hb := hb.trans (hx.mono hb.size); clear hx)))
        go_ret
        exact ⟨rfl, hb⟩
  · rw [k] at HK
    rw [c, d, Bool.true_and, Bool.false_and, Bool.or_false]
    obtain ⟨K, hK, hK0⟩ : ∃ K : Int, (kindN b : Int) = K ∧ (K == 0) = !canonB b := ⟨_, rfl, by
      rcases kind_cases b with ⟨k2, c2, -, -⟩ | ⟨k2, c2, -, -⟩ | ⟨k2, c2, -, -⟩ <;> rw [k2, c2] <;> rfl⟩
    rw [hK] at HK2
    clear hd k c d hl hl2 hcb hK
    generalize canonB b = z at *
    generalize hq : (a == b) = q at *
    cases z <;> cases q <;> (
      first | rw [Bool.not_false] at hK0 | rw [Bool.not_true] at hK0
      go_enter Tryd.func15, Tryd.ntmps15
      go_wp2_with (go_at_call 30; first
        | ((with_reducible refine (HK _ (hT.below hb)).mono ?_); rintro e w1 ⟨rfl, hx⟩; have hb := hb.trans (hx.mono hb.size); clear hx)
        | ((with_reducible refine (HK2 _ (hT.below hb)).mono ?_); rintro e w1 ⟨rfl, hx⟩; have hb := hb.trans (hx.mono hb.size); clear hx))
      go_ret
      exact ⟨rfl, hb⟩)
end Go.Proofs.YtgibhpljlebcdaaDoor
