/- Contracts of layer 9: does a rule fit a name; the most labels of those that do. -/
import Derived.Test.YtgibhpljlebcdaaDoorSuffixRuleOf
namespace Go.Proofs.YtgibhpljlebcdaaDoor
open Go.RowKit
set_option linter.unusedVariables false

def ruleV (q : RuleK) : Value := .agg #[.int .i64 q.kind, .string (str q.name), .int .i64 q.labels]

theorem cutNameC (l d : List UInt8) (w : World) (hm : l.length ≤ 9223372036854775807) : Calls Tryd.prog 53 #[.string (str l), .string (str d)] w fun e w' => e = .returned (.tuple #[.string (str (Lib.trimSuffix l d)), .bool (Lib.hasSuffix l d)]) ∧ w = w' := by
  refine (Tryd.strings_CutSuffix (str l) (str d) w (by rw [str_size]; exact hm)).mono ?_
  rintro e w' ⟨rfl, rfl⟩
  rw [str_data, str_data]
  exact ⟨rfl, rfl⟩

theorem endDotC (l : List UInt8) (w : World) (hm : l.length ≤ 9223372036854775807) : Calls Tryd.prog 31 #[.string (str l), .string ⟨#[46]⟩] w fun e w' => e = .returned (.bool (Lib.hasSuffix l [46])) ∧ w = w' := by
  refine (Tryd.strings_HasSuffix (str l) ⟨#[46]⟩ w (by rw [str_size]; exact hm)).mono ?_
  rintro e w' ⟨rfl, rfl⟩
  rw [str_data]
  exact ⟨rfl, rfl⟩

theorem trim_len (s d : List UInt8) : (Lib.trimSuffix s d).length ≤ s.length := by
  unfold Lib.trimSuffix
  split
  · rw [List.length_take]; omega
  · exact Nat.le_refl _

set_option maxRecDepth 100000 in
theorem fitsC (q : RuleK) (s : List UInt8) (n : Nat) (w : World) (hs : s.length = n) (hm : n ≤ 1000) :
    Calls Tryd.prog 38 #[ruleV q, .string (str s)] w fun e w' => e = .returned (.bool (fitsK q s)) ∧ Below w.heap.size w w' := by
  have hb := Below.refl w.heap.size w
  unfold ruleV fitsK
  obtain ⟨k, d, l⟩ := q
  dsimp only
  have hle := trim_len s d
  have HC := fun w => cutNameC s d w (by omega)
  have HE := fun w => endDotC (Lib.trimSuffix s d) w (by omega)
  have o0 := ObjAt.new w #[.int .i64 k, .string (str d), .int .i64 l] 52
  have hb2 := hb.alloc (Nat.le_refl _) (.cells #[.int .i64 k, .string (str d), .int .i64 l] 52)
  generalize Lib.trimSuffix s d = f at *
  generalize Lib.hasSuffix s d = e at *
  generalize Lib.hasSuffix f [46] = t at *
  have hk := str_toList
  clear hle hs hm
  cases e with
  | false =>
    rw [Bool.false_and]
    go_enter Tryd.func38, Tryd.ntmps38
    go_wp2_with (first
      | (go_at_call 53; (with_reducible refine (HC _).mono ?_); rintro e w1 ⟨rfl, rfl⟩)
      | (go_at_call 31; (with_reducible refine (HE _).mono ?_); rintro e w1 ⟨rfl, rfl⟩))
    go_ret
    exact ⟨rfl, hb2⟩
  | true =>
    rw [Bool.true_and]
    cases t with
    | true =>
      rw [Bool.true_or]
      go_enter Tryd.func38, Tryd.ntmps38
      go_wp2_with (first
        | (go_at_call 53; (with_reducible refine (HC _).mono ?_); rintro e w1 ⟨rfl, rfl⟩)
        | (go_at_call 31; (with_reducible refine (HE _).mono ?_); rintro e w1 ⟨rfl, rfl⟩))
      go_ret
      exact ⟨rfl, hb2⟩
    | false =>
      rw [Bool.false_or]
      by_cases hf : f = []
      · subst hf
        have e0 : (([] : List UInt8) == []) = true := rfl
        rw [e0, Bool.true_and]
        have z : str [] = ⟨#[]⟩ := rfl
        rw [z] at HC HE
        clear z
        by_cases h1 : k = 1
        · subst h1
          have e1 : (!((1 : Int) == 1)) = false := rfl
          rw [e1]
          go_enter Tryd.func38, Tryd.ntmps38
          go_wp2_with (first
            | (go_at_call 53; (with_reducible refine (HC _).mono ?_); rintro e w1 ⟨rfl, rfl⟩)
            | (go_at_call 31; (with_reducible refine (HE _).mono ?_); rintro e w1 ⟨rfl, rfl⟩))
          go_ret
          exact ⟨rfl, hb2⟩
        · have e1 : (k == 1) = false := beq_eq_false_iff_ne.2 h1
          rw [e1, Bool.not_false]
          have e2 : (k != 1) = true := bne_iff_ne.2 h1
          go_enter Tryd.func38, Tryd.ntmps38
          go_wp2_with (first
            | (go_at_call 53; (with_reducible refine (HC _).mono ?_); rintro e w1 ⟨rfl, rfl⟩)
            | (go_at_call 31; (with_reducible refine (HE _).mono ?_); rintro e w1 ⟨rfl, rfl⟩))
          go_ret
          exact ⟨rfl, hb2⟩
      · have e0 : (f == []) = false := beq_eq_false_iff_ne.2 hf
        rw [e0, Bool.false_and]
        go_enter Tryd.func38, Tryd.ntmps38
        go_wp2_with (first
          | (go_at_call 53; (with_reducible refine (HC _).mono ?_); rintro e w1 ⟨rfl, rfl⟩)
          | (go_at_call 31; (with_reducible refine (HE _).mono ?_); rintro e w1 ⟨rfl, rfl⟩))
        go_ret
        exact ⟨rfl, hb2⟩

/-- A row of rules, parted. -/
def IsRules (w : World) (g : Nat) (Q : List RuleK) : Prop := ∀ i q, Q[i]? = some q → w.cell? ⟨g, i * 3, none⟩ = some (.int .i64 q.kind) ∧ w.cell? ⟨g, i * 3 + 1, none⟩ = some (.string (str q.name)) ∧ w.cell? ⟨g, i * 3 + 2, none⟩ = some (.int .i64 q.labels)

theorem IsRules.below {w w' : World} {g K : Nat} {Q : List RuleK} (h : IsRules w g Q) (hb : Below K w w') (hg : g < K) : IsRules w' g Q := fun i q hq =>
  ⟨(hb.cell hg).trans (h i q hq).1, (hb.cell hg).trans (h i q hq).2.1, (hb.cell hg).trans (h i q hq).2.2⟩

set_option maxHeartbeats 1000000 in
set_option maxRecDepth 100000 in
theorem mostC (g n cap : Nat) (Q : List RuleK) (b : Bool) (s : List UInt8) (p q m : Nat) (w : World) (hQ : IsRules w g Q) (hn : Q.length = n) (hg : g < w.heap.size) (hn2 : n ≤ 256) (hnc : n ≤ cap)
    (hp : w.cell? ⟨p, 0, none⟩ = some (.slice (some ⟨g, 0, none⟩) n cap)) (hq : w.cell? ⟨q, 0, none⟩ = some (.string (str s))) (hp2 : p < w.heap.size) (hq2 : q < w.heap.size) (hs : s.length = m) (hm : m ≤ 1000) :
    Calls Tryd.prog 37 #[.bool b, .pointer (some ⟨p, 0, none⟩), .pointer (some ⟨q, 0, none⟩)] w fun e w' => e = .returned (.int .i64 (mostK Q b s)) ∧ Below w.heap.size w w' := by
  have HQ := Lib.hid hn
  have h0 : Hid (mostK (Q.take 0) b s = 0) := rfl
  go_enter Tryd.func37, Tryd.ntmps37
  go_wp2
  go_loopw [5, 10] (fun v i wr => ∃ k : Nat, k ≤ n ∧ v = .int .i64 (mostK (Q.take k) b s) ∧ i = .int .i64 (k : Int) ∧ Below w.heap.size w wr) (fun _ i _ => n - (intOf i).toNat)
  case atStart => exact ⟨0, Nat.zero_le _, rfl, rfl, Below.refl _ _⟩
  case round =>
    obtain ⟨k, hk, rfl, rfl, hb⟩ := hrel
    by_cases hlt : k < n
    · have hlt' : (k : Int) < (n : Int) := by omega
      have hQk : k < Q.length := by rw [HQ.out]; exact hlt
      have hmt := most_take (b := b) (s := s) hQk
      have hq0 : Q[k]? = some Q[k] := List.getElem?_eq_getElem hQk
      obtain ⟨a0, a1, a2⟩ := hQ k Q[k] hq0
      have e0 := (hb.cell (p := ⟨g, k * 3, none⟩) hg).trans a0
      have e1 := (hb.cell (p := ⟨g, k * 3 + 1, none⟩) hg).trans a1
      have e2 := (hb.cell (p := ⟨g, k * 3 + 2, none⟩) hg).trans a2
      have ep := (hb.cell (p := ⟨p, 0, none⟩) hp2).trans hp
      have eq := (hb.cell (p := ⟨q, 0, none⟩) hq2).trans hq
      have HF := fun w => fitsC Q[k] s m w hs hm
      unfold condK at hmt
      generalize fitsK Q[k] s = f at *
      unfold ruleV at HF
      generalize Q[k] = r at *
      obtain ⟨K, d, L⟩ := r
      dsimp only at *
      generalize mostK (Q.take k) b s = M at *
      have H2 := Lib.hid hmt
      clear hmt a0 a1 a2 hq0 hn h0
      have hb1 := below_alloc wr (.cells #[.int .i64 K, .string (str d), .int .i64 L] 52)
      have eq' := (hb1.cell (p := ⟨q, 0, none⟩) (Nat.lt_of_lt_of_le hq2 hb.size)).trans eq
      have hb1' := hb.trans (hb1.mono hb.size)
      have ox := ObjAt.new wr #[.int .i64 K, .string (str d), .int .i64 L] 52
      clear hb1
      obtain ⟨t, ht⟩ : ∃ t, ((K == 2) == b) = t := ⟨_, rfl⟩
      cases t with
      | false =>
        have H3 : Hid (mostK (Q.take (k + 1)) b s = M) := by
          unfold Hid
          rw [H2.out, ht]
          rfl
        clear H2 ox
        go_wp2
        go_roundw
        case rel => exact ⟨k + 1, by omega, by rw [H3.out], by go_num, hb1'⟩
        case measure => simp [intOf]; omega
      | true =>
        cases f with
        | false =>
          have H3 : Hid (mostK (Q.take (k + 1)) b s = M) := by
            unfold Hid
            rw [H2.out, ht]
            rfl
          clear H2
          go_wp2_with (go_at_call 38; (with_reducible refine (HF _).mono ?_); rintro e w2 ⟨rfl, hx⟩; have hb2 := hb1'.trans (hx.mono hb1'.size); clear hx)
          go_roundw
          case rel => exact ⟨k + 1, by omega, by rw [H3.out], by go_num, hb2⟩
          case measure => simp [intOf]; omega
        | true =>
          have H3 : Hid (mostK (Q.take (k + 1)) b s = max M L) := by
            unfold Hid
            rw [H2.out, ht]
            rfl
          clear H2
          go_wp2_with (go_at_call 38; (with_reducible refine (HF _).mono ?_); rintro e w2 ⟨rfl, hx⟩; have oy := ox.below hx ox.lt; have y2 := oy.cell 2 rfl; have hb2 := hb1'.trans (hx.mono hb1'.size); clear hx)
          go_roundw
          case rel => exact ⟨k + 1, by omega, by rw [H3.out], by go_num, hb2⟩
          case measure => simp [intOf]; omega
    · obtain rfl : k = n := by omega
      have e : Hid (mostK (Q.take k) b s = mostK Q b s) := by
        unfold Hid
        rw [List.take_of_length_le (by rw [HQ.out]; exact Nat.le_refl _)]
      clear hn
      go_wp2
      go_ret
      exact ⟨by first | rfl | (rw [e.out]; rfl), hb⟩

set_option maxRecDepth 100000 in
theorem publicC (g n cap : Nat) (Q : List RuleK) (s : List UInt8) (m : Nat) (w : World) (hQ : IsRules w g Q) (hn : Q.length = n) (hg : g < w.heap.size) (hn2 : n ≤ 256) (hnc : n ≤ cap) (hs : s.length = m) (hm : m ≤ 1000) :
    Calls Tryd.prog 20 #[.slice (some ⟨g, 0, none⟩) n cap, .string (str s)] w fun e w' => e = .returned (.int .i64 (pubK Q s)) ∧ Below w.heap.size w w' := by
  have hb := Below.refl w.heap.size w
  have o0 := ObjAt.new w #[.slice (some ⟨g, 0, none⟩) n cap] 36
  have hb1 := hb.alloc (Nat.le_refl _) (.cells #[.slice (some ⟨g, 0, none⟩) n cap] 36)
  have hs1 : (w.alloc (.cells #[.slice (some ⟨g, 0, none⟩) n cap] 36)).heap.size = w.heap.size + 1 := by simp
  have hb2 := hb1.alloc (by omega) (.cells #[.string (str s)] 9)
  have o1 := ObjAt.new (w.alloc (.cells #[.slice (some ⟨g, 0, none⟩) n cap] 36)) #[.string (str s)] 9
  have o2 := o0.below ((Below.refl _ _).alloc (Nat.le_refl _) (.cells #[.string (str s)] 9)) o0.lt
  rw [hs1] at o1
  have HA : ∀ v, Below w.heap.size w v → ObjAt v w.heap.size [.slice (some ⟨g, 0, none⟩) n cap] → ObjAt v (w.heap.size + 1) [.string (str s)] → ∀ b, Calls Tryd.prog 37 #[.bool b, .pointer (some ⟨w.heap.size, 0, none⟩), .pointer (some ⟨w.heap.size + 1, 0, none⟩)] v fun e w' => e = .returned (.int .i64 (mostK Q b s)) ∧ Below v.heap.size v w' :=
    fun v hv p q b => mostC g n cap Q b s w.heap.size (w.heap.size + 1) m v (hQ.below hv hg) hn (Nat.lt_of_lt_of_le hg hv.size) hn2 hnc (p.cell 0 rfl) (q.cell 0 rfl) p.lt q.lt hs hm
  have hA0 := (most_is Q true s).1
  have hB0 := (most_is Q false s).1
  unfold pubK
  have HT := fun v h p q => HA v h p q true
  have HN := fun v h p q => HA v h p q false
  clear HA hs1 hb1 o0
  generalize mostK Q true s = A at *
  generalize mostK Q false s = B at *
  clear hQ hn hs hm hn2 hnc hg
  by_cases h0 : 0 < A
  · rw [if_pos h0]
    go_enter Tryd.func20, Tryd.ntmps20
    go_wp2_with (go_at_call 37; (with_reducible refine (HT _ hb2 o2 o1).mono ?_); rintro e w2 ⟨rfl, hx⟩; have hb3 := hb2.trans (hx.mono hb2.size); have o3 := o2.below hx o2.lt; have o4 := o1.below hx o1.lt; clear hx)
    go_ret
    exact ⟨rfl, hb3⟩
  · rw [if_neg h0]
    go_enter Tryd.func20, Tryd.ntmps20
    go_wp2_with (first
      | (go_at_call 37; (with_reducible refine (HT _ hb2 o2 o1).mono ?_); rintro e w2 ⟨rfl, hx⟩; have hb3 := hb2.trans (hx.mono hb2.size); have o3 := o2.below hx o2.lt; have o4 := o1.below hx o1.lt; clear hx)
      | (go_at_call 37; (with_reducible refine (HN _ hb3 o3 o4).mono ?_); rintro e w3 ⟨rfl, hx⟩; have hb4 := hb3.trans (hx.mono hb3.size); clear hx))
    go_ret
    exact ⟨rfl, hb4⟩
end Go.Proofs.YtgibhpljlebcdaaDoor
