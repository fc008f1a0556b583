/- Layer 9's law on rules turned round, walked. -/
import Derived.Test.YtgibhpljlebcdaaDoorSuffixLaw
import Derived.Test.YtgibhpljlebcdaaDoorOpen
import Derived.Test.YtgibhpljlebcdaaDoorOwnAt
namespace Go.Proofs.YtgibhpljlebcdaaDoor
open Go.RowKit
set_option linter.unusedVariables false

theorem turned_next {R : List (List UInt8)} {i : Nat} (h : i < R.length) : (R.drop (i + 1)).reverse ++ [R.getD i []] = (R.drop i).reverse := by
  rw [List.drop_eq_getElem_cons h, List.reverse_cons]
  simp [List.getD, h]

theorem turned_mem (R : List (List UInt8)) (k : Nat) (hk : k < R.length) (x : List UInt8) : x ∈ R ↔ x ∈ R.reverse ++ [R.getD k []] := by
  rw [List.mem_append, List.mem_reverse, List.mem_singleton]
  constructor
  · exact .inl
  · rintro (h | rfl)
    · exact h
    · exact getD_mem' hk

set_option maxHeartbeats 2000000 in
set_option maxRecDepth 100000 in
theorem suffixTurned_walk (a : Option Addr) (len cap : Nat) (R : List (List UInt8)) (t : ByteArray) (m : Int) (w : World) (hR : IsStrs w a len cap R) (ht : t.size ≤ maxLen) (hw : (Lit.int .u8 m).wf = true) (hT : PTab Tryd.prog w) :
    Calls Tryd.prog 5 #[.slice a len cap, .string t, .int .u8 m] w fun e w' => e = .returned (.bool true) ∧ Below w.heap.size w w' := by
  obtain ⟨s, rfl⟩ : ∃ s, t = str s := ⟨_, str_of t⟩
  obtain ⟨n, hn⟩ : ∃ n, s.length = n := ⟨_, rfl⟩
  have s1 : (str s).size = n := by rw [str_size, hn]
  rw [s1] at ht
  obtain ⟨M, rfl⟩ : ∃ M : Nat, m = (M : Int) := ⟨m.toNat, by have := (wfU8 hw).1; omega⟩
  have hM := (wfU8 hw).2
  have HA := fun w (h : PTab Tryd.prog w) => awake09C w h
  have HL := lightC a len cap R w hR
  have hb := Below.refl w.heap.size w
  cases hlt : lightB R with
  | false =>
    rw [hlt] at HL
    clear hn
    go_enter Tryd.func5, Tryd.ntmps5
    go_wp2_with (first
      | (go_at_call 6; (with_reducible refine HL.mono ?_); rintro e ww ⟨rfl, rfl⟩)
      | (go_at_call 7; (with_reducible refine (HA _ (hT.below hb)).mono ?_); rintro e ww ⟨rfl, hx⟩; have hb := hb.trans (hx.mono hb.size); clear hx))
    go_ret
    exact ⟨rfl, hb⟩
  | true =>
  rw [hlt] at HL
  obtain ⟨-, hS⟩ := light_is hlt
  have hS : ∀ x ∈ R, x.length ≤ 1000 := fun x hx => by have := hS x hx; omega
  clear hlt
  by_cases h1 : 300 < n
  · have b1 : (300 : Int) < (n : Int) := by omega
    clear hn
    go_enter Tryd.func5, Tryd.ntmps5
    go_wp2_with (first
      | (go_at_call 6; (with_reducible refine HL.mono ?_); rintro e ww ⟨rfl, rfl⟩)
      | (go_at_call 7; (with_reducible refine (HA _ (hT.below hb)).mono ?_); rintro e ww ⟨rfl, hx⟩; have hb := hb.trans (hx.mono hb.size); clear hx))
    go_ret
    exact ⟨rfl, hb⟩
  have b1 : ¬ (300 : Int) < (n : Int) := by omega
  rcases Nat.eq_zero_or_pos len with h2 | h2
  · subst h2
    clear hn
    go_enter Tryd.func5, Tryd.ntmps5
    go_wp2_with (first
      | (go_at_call 6; (with_reducible refine HL.mono ?_); rintro e ww ⟨rfl, rfl⟩)
      | (go_at_call 7; (with_reducible refine (HA _ (hT.below hb)).mono ?_); rintro e ww ⟨rfl, hx⟩; have hb := hb.trans (hx.mono hb.size); clear hx))
    go_ret
    exact ⟨rfl, hb⟩
  have b2 : ((len : Int) == 0) = false := by rw [beq_eq_false_iff_ne]; omega
  by_cases h3 : 60 < len
  · have b3 : (60 : Int) < (len : Int) := by omega
    clear hn
    go_enter Tryd.func5, Tryd.ntmps5
    go_wp2_with (first
      | (go_at_call 6; (with_reducible refine HL.mono ?_); rintro e ww ⟨rfl, rfl⟩)
      | (go_at_call 7; (with_reducible refine (HA _ (hT.below hb)).mono ?_); rintro e ww ⟨rfl, hx⟩; have hb := hb.trans (hx.mono hb.size); clear hx))
    go_ret
    exact ⟨rfl, hb⟩
  have b3 : ¬ (60 : Int) < (len : Int) := by omega
  have HO := fun w (h : IsStrs w a len cap R) (hp : PTab Tryd.prog w) => sufOfC a len cap R s n w h hS hn (by omega) hp
  have HQ := fun (a2 : Option Addr) (n2 c2 : Nat) (Q : List (List UInt8)) w (h : IsStrs w a2 n2 c2 Q) (hs : ∀ x ∈ Q, x.length ≤ 1000) (hp : PTab Tryd.prog w) => sufOfC a2 n2 c2 Q s n w h hs hn (by omega) hp
  have hk := str_toList
  obtain ⟨i0, hi, hz0, hz1, hz2⟩ := info_parts infoStr
  have hown0 := owned_lit w 9
  have hbel0 := below_alloc w (.cells #[] 9)
  have hlenR := hR.1
  have r1 := hR.reads
  have HR := Lib.hid hR
  have HLR := Lib.hid hlenR
  have hne : (len : Int) ≠ 0 := by omega
  clear hn hlenR hR
  go_enter Tryd.func5, Tryd.ntmps5
  go_wp2_with (go_at_call 6; (with_reducible refine HL.mono ?_); rintro e ww ⟨rfl, rfl⟩)
  go_loopw [7, 8] (fun v i wr => ∃ (j N : Nat) (A : Option Addr) (C : Nat), j ≤ len ∧ N = len - j ∧ v = .slice A N C ∧ i = .int .i64 ((j : Int) - 1) ∧ Owned w.heap.size 9 A N C (strs (R.drop j).reverse) wr ∧ Below w.heap.size w wr) (fun _ i _ => (intOf i + 1).toNat)
  case atStart =>
    refine ⟨len, 0, _, _, Nat.le_refl _, by omega, rfl, rfl, ?_, hbel0⟩
    rw [List.drop_eq_nil_of_le (by rw [HLR.out]; exact Nat.le_refl _)]
    exact hown0
  case round =>
    clear hown0 hbel0
    obtain ⟨j, N, A, C, hj, hNj, rfl, rfl, ho, hb2⟩ := hrel
    have HNj := Lib.hid hNj
    have hN60 : N ≤ 60 := by omega
    clear hNj
    rcases Nat.eq_zero_or_pos j with rfl | hj0
    · have hv : ((0 : Nat) : Int) - 1 = -1 := rfl
      rw [hv]
      obtain ⟨K, hK⟩ : ∃ K, M % len = K := ⟨_, rfl⟩
      have hKl : K < len := by rw [← hK]; exact Nat.mod_lt _ h2
      have v1 : (M : Int) % (len : Int) = (K : Int) := by rw [← hK]; simp
      have v2 : (M : Int).tmod (len : Int) = (K : Int) := by rw [Int.tmod_eq_emod_of_nonneg (by omega), v1]
      have v3 : (K : Int) < (len : Int) := by omega
      have v4 : (0 : Int) ≤ (K : Int) := by omega
      obtain ⟨g, off, rfl, hc⟩ := str_at (r1.below' hb2) K (by rw [HLR.out]; exact hKl)
      have hmem := fun x => turned_mem R K (by rw [HLR.out]; exact hKl) x
      have hQl : (R.reverse ++ [R.getD K []]).length = len + 1 := by rw [List.length_append, List.length_reverse, HLR.out]; rfl
      have hsm := turned_same hmem (by rw [HLR.out]; omega) (by rw [hQl]; omega) s
      have hS2 : ∀ x ∈ R.reverse ++ [R.getD K []], x.length ≤ 1000 := fun x hx => hS x ((hmem x).2 hx)
      rw [List.drop_zero] at ho
      have hbs := hb2.size
      have hb := hb2
      have HQ2 := fun a2 n2 c2 w h hp => HQ a2 n2 c2 (R.reverse ++ [R.getD K []]) w h hS2 hp
      rw [← hsm] at HQ2
      have HQl := Lib.hid hQl
      have HS2 := Lib.hid hS2
      generalize ofR R s = q at *
      obtain ⟨q1, q2⟩ := q
      simp only [] at HO HQ2
      have HN : Hid (strs R.reverse ++ [.string (str (R.getD K []))] = strs (R.reverse ++ [R.getD K []])) := strs_snoc _ _
      generalize R.getD K [] = x at *
      have HO2 := Lib.hid ho
      have HB := Lib.hid hb2
      clear ho hb2 HQ hmem hsm hK hS hQl hS2
      have hO := HO2.out
      go_wp2_with (at_builtin; refine wpList_append_one rfl (.tmp 47) (.tmp 56) 22 rfl 9 i0 (.string ⟨#[]⟩) 16 Tryd.underlying22 hi hz0 hz1 hz2 rfl hO.1 rfl rfl rfl (by unfold maxLen; omega) (by omega) hbs ?_; intro v5 w2 ho2 hb3; obtain ⟨a2, c2, rfl, ho3⟩ := Owned.of ho2)
      rw [HN.out] at ho3
      have hI := ho3.isStrs (fun x hx => by have := HS2.out x hx; unfold maxLen; omega)
      have hb := HB.out.trans hb3
      have hI2 := HR.out.below hb
      have hbx := Below.refl w2.heap.size w2
      go_wp2_with (first
        | (go_at_call 8; (with_reducible refine (HO _ (hI2.below hbx) (hT.below hb)).mono ?_); rintro e ww ⟨rfl, hx⟩; have hb := hb.trans (hx.mono hb.size); have hbx := hbx.trans (hx.mono hbx.size); clear hx)
        | (go_at_call 8; (with_reducible refine (HQ2 _ _ _ _ (hI.below hbx) (hT.below hb)).mono ?_); rintro e ww ⟨rfl, hx⟩; have hb := hb.trans (hx.mono hb.size); have hbx := hbx.trans (hx.mono hbx.size); clear hx)
        | (go_at_call 7; (with_reducible refine (HA _ (hT.below hb)).mono ?_); rintro e ww ⟨rfl, hx⟩; have hb := hb.trans (hx.mono hb.size); clear hx))
      go_ret
      exact ⟨rfl, hb⟩
    · obtain ⟨i, rfl⟩ : ∃ i, j = i + 1 := ⟨j - 1, by omega⟩
      have hv : ((i + 1 : Nat) : Int) - 1 = (i : Int) := by omega
      rw [hv]
      have hi0 : (0 : Int) ≤ (i : Int) := by omega
      have hil : (i : Int) < (len : Int) := by omega
      obtain ⟨g, off, rfl, hc⟩ := str_at (r1.below' hb2) i (by rw [HLR.out]; omega)
      have HN := Lib.hid (turned_next (R := R) (i := i) (by rw [HLR.out]; omega))
      generalize R.getD i [] = x at *
      have HO2 := Lib.hid ho
      have hbs := hb2.size
      have HB := Lib.hid hb2
      clear ho hb2 hb HO HQ HA
      have hO := HO2.out
      go_wp2_with (at_builtin; refine wpList_append_one rfl (.tmp 40) (.tmp 45) 22 rfl 9 i0 (.string ⟨#[]⟩) 16 Tryd.underlying22 hi hz0 hz1 hz2 rfl hO.1 rfl rfl rfl (by unfold maxLen; omega) (by omega) hbs ?_; intro v2 w2 ho2 hb3; obtain ⟨a2, c2, rfl, ho3⟩ := Owned.of ho2)
      rw [strs_snoc, HN.out] at ho3
      go_roundw
      case rel => exact ⟨i, N + 1, a2, c2, by omega, (by have := HNj.out; omega), rfl, rfl, ho3, HB.out.trans hb3⟩
      case measure => first | (simp [intOf]; done) | (simp [intOf]; omega)
end Go.Proofs.YtgibhpljlebcdaaDoor
