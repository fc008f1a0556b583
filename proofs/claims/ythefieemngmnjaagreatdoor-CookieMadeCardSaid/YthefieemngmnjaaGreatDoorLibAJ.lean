/- Contracts and plain words that the laws' proofs stand on, put together. -/
import Derived.Test.YthefieemngmnjaaGreatDoorSuffixRuleOf
import Derived.Laws.MakeOwn
import Derived.Test.YthefieemngmnjaaGreatDoorLibAI
/- Contracts of layer 9: does a rule fit a name; the most labels of those that do. -/
namespace Go.Proofs.YthefieemngmnjaaGreatDoor
open Go.RowKit
set_option linter.unusedVariables false

def ruleV (q : RuleK) : Value := .agg #[.int .i64 q.kind, .string (str q.name), .int .i64 q.labels]

theorem cutNameC (l d : List UInt8) (w : World) (hm : l.length ≤ 9223372036854775807) : Calls Tryz.prog 131 #[.string (str l), .string (str d)] w fun e w' => e = .returned (.tuple #[.string (str (Lib.trimSuffix l d)), .bool (Lib.hasSuffix l d)]) ∧ w = w' := by
  refine (Tryz.strings_CutSuffix (str l) (str d) w (by rw [str_size]; exact hm)).mono ?_
  rintro e w' ⟨rfl, rfl⟩
  rw [str_data, str_data]
  exact ⟨rfl, rfl⟩

theorem endDotC (l : List UInt8) (w : World) (hm : l.length ≤ 9223372036854775807) : Calls Tryz.prog 72 #[.string (str l), .string ⟨#[46]⟩] w fun e w' => e = .returned (.bool (Lib.hasSuffix l [46])) ∧ w = w' := by
  refine (Tryz.strings_HasSuffix (str l) ⟨#[46]⟩ w (by rw [str_size]; exact hm)).mono ?_
  rintro e w' ⟨rfl, rfl⟩
  rw [str_data]
  exact ⟨rfl, rfl⟩

theorem trim_len (s d : List UInt8) : (Lib.trimSuffix s d).length ≤ s.length := by
  unfold Lib.trimSuffix
  split
  · rw [List.length_take]; omega
  · exact Nat.le_refl _

set_option maxRecDepth 100000 in
theorem fitsC (q : RuleK) (s : List UInt8) (n : Nat) (w : World) (hs : s.length = n) (hm : n ≤ 1000) :
    Calls Tryz.prog 147 #[ruleV q, .string (str s)] w fun e w' => e = .returned (.bool (fitsK q s)) ∧ Below w.heap.size w w' := by
  have hb := Below.refl w.heap.size w
  unfold ruleV fitsK
  obtain ⟨k, d, l⟩ := q
  dsimp only
  have hle := trim_len s d
  have HC := fun w => cutNameC s d w (by omega)
  have HE := fun w => endDotC (Lib.trimSuffix s d) w (by omega)
  have o0 := ObjAt.new w #[.int .i64 k, .string (str d), .int .i64 l] 102
  have hb2 := hb.alloc (Nat.le_refl _) (.cells #[.int .i64 k, .string (str d), .int .i64 l] 102)
  generalize Lib.trimSuffix s d = f at *
  generalize Lib.hasSuffix s d = e at *
  generalize Lib.hasSuffix f [46] = t at *
  have hk := str_toList
  clear hle hs hm
  cases e with
  | false =>
    rw [Bool.false_and]
    go_enter Tryz.func147, Tryz.ntmps147
    go_wp2_with (first
      | (go_at_call 131; (with_reducible refine (HC _).mono ?_); rintro e w1 ⟨rfl, rfl⟩)
      | (go_at_call 72; (with_reducible refine (HE _).mono ?_); rintro e w1 ⟨rfl, rfl⟩))
    go_ret
    exact ⟨rfl, hb2⟩
  | true =>
    rw [Bool.true_and]
    cases t with
    | true =>
      rw [Bool.true_or]
      go_enter Tryz.func147, Tryz.ntmps147
      go_wp2_with (first
        | (go_at_call 131; (with_reducible refine (HC _).mono ?_); rintro e w1 ⟨rfl, rfl⟩)
        | (go_at_call 72; (with_reducible refine (HE _).mono ?_); rintro e w1 ⟨rfl, rfl⟩))
      go_ret
      exact ⟨rfl, hb2⟩
    | false =>
      rw [Bool.false_or]
      by_cases hf : f = []
      · subst hf
        have e0 : (([] : List UInt8) == []) = true := rfl
        rw [e0, Bool.true_and]
        have z : str [] = ⟨#[]⟩ := rfl
        rw [z] at HC HE
        clear z
        by_cases h1 : k = 1
        · subst h1
          have e1 : (!((1 : Int) == 1)) = false := rfl
          rw [e1]
          go_enter Tryz.func147, Tryz.ntmps147
          go_wp2_with (first
            | (go_at_call 131; (with_reducible refine (HC _).mono ?_); rintro e w1 ⟨rfl, rfl⟩)
            | (go_at_call 72; (with_reducible refine (HE _).mono ?_); rintro e w1 ⟨rfl, rfl⟩))
          go_ret
          exact ⟨rfl, hb2⟩
        · have e1 : (k == 1) = false := beq_eq_false_iff_ne.2 h1
          rw [e1, Bool.not_false]
          have e2 : (k != 1) = true := bne_iff_ne.2 h1
          go_enter Tryz.func147, Tryz.ntmps147
          go_wp2_with (first
            | (go_at_call 131; (with_reducible refine (HC _).mono ?_); rintro e w1 ⟨rfl, rfl⟩)
            | (go_at_call 72; (with_reducible refine (HE _).mono ?_); rintro e w1 ⟨rfl, rfl⟩))
          go_ret
          exact ⟨rfl, hb2⟩
      · have e0 : (f == []) = false := beq_eq_false_iff_ne.2 hf
        rw [e0, Bool.false_and]
        go_enter Tryz.func147, Tryz.ntmps147
        go_wp2_with (first
          | (go_at_call 131; (with_reducible refine (HC _).mono ?_); rintro e w1 ⟨rfl, rfl⟩)
          | (go_at_call 72; (with_reducible refine (HE _).mono ?_); rintro e w1 ⟨rfl, rfl⟩))
        go_ret
        exact ⟨rfl, hb2⟩

/-- A row of rules, parted. -/
def IsRules (w : World) (g : Nat) (Q : List RuleK) : Prop := ∀ i q, Q[i]? = some q → w.cell? ⟨g, i * 3, none⟩ = some (.int .i64 q.kind) ∧ w.cell? ⟨g, i * 3 + 1, none⟩ = some (.string (str q.name)) ∧ w.cell? ⟨g, i * 3 + 2, none⟩ = some (.int .i64 q.labels)

theorem IsRules.below {w w' : World} {g K : Nat} {Q : List RuleK} (h : IsRules w g Q) (hb : Below K w w') (hg : g < K) : IsRules w' g Q := fun i q hq =>
  ⟨(hb.cell hg).trans (h i q hq).1, (hb.cell hg).trans (h i q hq).2.1, (hb.cell hg).trans (h i q hq).2.2⟩

set_option maxHeartbeats 1000000 in
set_option maxRecDepth 100000 in
theorem mostC (g n cap : Nat) (Q : List RuleK) (b : Bool) (s : List UInt8) (p q m : Nat) (w : World) (hQ : IsRules w g Q) (hn : Q.length = n) (hg : g < w.heap.size) (hn2 : n ≤ 256) (hnc : n ≤ cap)
    (hp : w.cell? ⟨p, 0, none⟩ = some (.slice (some ⟨g, 0, none⟩) n cap)) (hq : w.cell? ⟨q, 0, none⟩ = some (.string (str s))) (hp2 : p < w.heap.size) (hq2 : q < w.heap.size) (hs : s.length = m) (hm : m ≤ 1000) :
    Calls Tryz.prog 146 #[.bool b, .pointer (some ⟨p, 0, none⟩), .pointer (some ⟨q, 0, none⟩)] w fun e w' => e = .returned (.int .i64 (mostK Q b s)) ∧ Below w.heap.size w w' := by
  have HQ := Lib.hid hn
  have h0 : Hid (mostK (Q.take 0) b s = 0) := rfl
  go_enter Tryz.func146, Tryz.ntmps146
  go_wp2
  go_loopw [5, 10] (fun v i wr => ∃ k : Nat, k ≤ n ∧ v = .int .i64 (mostK (Q.take k) b s) ∧ i = .int .i64 (k : Int) ∧ Below w.heap.size w wr) (fun _ i _ => n - (intOf i).toNat)
  case atStart => exact ⟨0, Nat.zero_le _, rfl, rfl, Below.refl _ _⟩
  case round =>
    obtain ⟨k, hk, rfl, rfl, hb⟩ := hrel
    by_cases hlt : k < n
    · have hlt' : (k : Int) < (n : Int) := by omega
      have hQk : k < Q.length := by rw [HQ.out]; exact hlt
      have hmt := most_take (b := b) (s := s) hQk
      have hq0 : Q[k]? = some Q[k] := List.getElem?_eq_getElem hQk
      obtain ⟨a0, a1, a2⟩ := hQ k Q[k] hq0
      have e0 := (hb.cell (p := ⟨g, k * 3, none⟩) hg).trans a0
      have e1 := (hb.cell (p := ⟨g, k * 3 + 1, none⟩) hg).trans a1
      have e2 := (hb.cell (p := ⟨g, k * 3 + 2, none⟩) hg).trans a2
      have ep := (hb.cell (p := ⟨p, 0, none⟩) hp2).trans hp
      have eq := (hb.cell (p := ⟨q, 0, none⟩) hq2).trans hq
      have HF := fun w => fitsC Q[k] s m w hs hm
      unfold condK at hmt
      generalize fitsK Q[k] s = f at *
      unfold ruleV at HF
      generalize Q[k] = r at *
      obtain ⟨K, d, L⟩ := r
      dsimp only at *
      generalize mostK (Q.take k) b s = M at *
      have H2 := Lib.hid hmt
      clear hmt a0 a1 a2 hq0 hn h0
      have hb1 := below_alloc wr (.cells #[.int .i64 K, .string (str d), .int .i64 L] 102)
      have eq' := (hb1.cell (p := ⟨q, 0, none⟩) (Nat.lt_of_lt_of_le hq2 hb.size)).trans eq
      have hb1' := hb.trans (hb1.mono hb.size)
      have ox := ObjAt.new wr #[.int .i64 K, .string (str d), .int .i64 L] 102
      clear hb1
      obtain ⟨t, ht⟩ : ∃ t, ((K == 2) == b) = t := ⟨_, rfl⟩
      cases t with
      | false =>
        have H3 : Hid (mostK (Q.take (k + 1)) b s = M) := by
          unfold Hid
          rw [H2.out, ht]
          rfl
        clear H2 ox
        go_wp2
        go_roundw
        case rel => exact ⟨k + 1, by omega, by rw [H3.out], by go_num, hb1'⟩
        case measure => simp [intOf]; omega
      | true =>
        cases f with
        | false =>
          have H3 : Hid (mostK (Q.take (k + 1)) b s = M) := by
            unfold Hid
            rw [H2.out, ht]
            rfl
          clear H2
          go_wp2_with (go_at_call 147; (with_reducible refine (HF _).mono ?_); rintro e w2 ⟨rfl, hx⟩; have hb2 := hb1'.trans (hx.mono hb1'.size); clear hx)
          go_roundw
          case rel => exact ⟨k + 1, by omega, by rw [H3.out], by go_num, hb2⟩
          case measure => simp [intOf]; omega
        | true =>
          have H3 : Hid (mostK (Q.take (k + 1)) b s = max M L) := by
            unfold Hid
            rw [H2.out, ht]
            rfl
          clear H2
          go_wp2_with (go_at_call 147; (with_reducible refine (HF _).mono ?_); rintro e w2 ⟨rfl, hx⟩; have oy := ox.below hx ox.lt; have y2 := oy.cell 2 rfl; have hb2 := hb1'.trans (hx.mono hb1'.size); clear hx)
          go_roundw
          case rel => exact ⟨k + 1, by omega, by rw [H3.out], by go_num, hb2⟩
          case measure => simp [intOf]; omega
    · obtain rfl : k = n := by omega
      have e : Hid (mostK (Q.take k) b s = mostK Q b s) := by
        unfold Hid
        rw [List.take_of_length_le (by rw [HQ.out]; exact Nat.le_refl _)]
      clear hn
      go_wp2
      go_ret
      exact ⟨by first | rfl | (rw [e.out]; rfl), hb⟩

set_option maxRecDepth 100000 in
theorem publicC (g n cap : Nat) (Q : List RuleK) (s : List UInt8) (m : Nat) (w : World) (hQ : IsRules w g Q) (hn : Q.length = n) (hg : g < w.heap.size) (hn2 : n ≤ 256) (hnc : n ≤ cap) (hs : s.length = m) (hm : m ≤ 1000) :
    Calls Tryz.prog 124 #[.slice (some ⟨g, 0, none⟩) n cap, .string (str s)] w fun e w' => e = .returned (.int .i64 (pubK Q s)) ∧ Below w.heap.size w w' := by
  have hb := Below.refl w.heap.size w
  have o0 := ObjAt.new w #[.slice (some ⟨g, 0, none⟩) n cap] 74
  have hb1 := hb.alloc (Nat.le_refl _) (.cells #[.slice (some ⟨g, 0, none⟩) n cap] 74)
  have hs1 : (w.alloc (.cells #[.slice (some ⟨g, 0, none⟩) n cap] 74)).heap.size = w.heap.size + 1 := by simp
  have hb2 := hb1.alloc (by omega) (.cells #[.string (str s)] 9)
  have o1 := ObjAt.new (w.alloc (.cells #[.slice (some ⟨g, 0, none⟩) n cap] 74)) #[.string (str s)] 9
  have o2 := o0.below ((Below.refl _ _).alloc (Nat.le_refl _) (.cells #[.string (str s)] 9)) o0.lt
  rw [hs1] at o1
  have HA : ∀ v, Below w.heap.size w v → ObjAt v w.heap.size [.slice (some ⟨g, 0, none⟩) n cap] → ObjAt v (w.heap.size + 1) [.string (str s)] → ∀ b, Calls Tryz.prog 146 #[.bool b, .pointer (some ⟨w.heap.size, 0, none⟩), .pointer (some ⟨w.heap.size + 1, 0, none⟩)] v fun e w' => e = .returned (.int .i64 (mostK Q b s)) ∧ Below v.heap.size v w' :=
    fun v hv p q b => mostC g n cap Q b s w.heap.size (w.heap.size + 1) m v (hQ.below hv hg) hn (Nat.lt_of_lt_of_le hg hv.size) hn2 hnc (p.cell 0 rfl) (q.cell 0 rfl) p.lt q.lt hs hm
  have hA0 := (most_is Q true s).1
  have hB0 := (most_is Q false s).1
  unfold pubK
  have HT := fun v h p q => HA v h p q true
  have HN := fun v h p q => HA v h p q false
  clear HA hs1 hb1 o0
  generalize mostK Q true s = A at *
  generalize mostK Q false s = B at *
  clear hQ hn hs hm hn2 hnc hg
  by_cases h0 : 0 < A
  · rw [if_pos h0]
    go_enter Tryz.func124, Tryz.ntmps124
    go_wp2_with (go_at_call 146; (with_reducible refine (HT _ hb2 o2 o1).mono ?_); rintro e w2 ⟨rfl, hx⟩; have hb3 := hb2.trans (hx.mono hb2.size); have o3 := o2.below hx o2.lt; have o4 := o1.below hx o1.lt; clear hx)
    go_ret
    exact ⟨rfl, hb3⟩
  · rw [if_neg h0]
    go_enter Tryz.func124, Tryz.ntmps124
    go_wp2_with (first
      | (go_at_call 146; (with_reducible refine (HT _ hb2 o2 o1).mono ?_); rintro e w2 ⟨rfl, hx⟩; have hb3 := hb2.trans (hx.mono hb2.size); have o3 := o2.below hx o2.lt; have o4 := o1.below hx o1.lt; clear hx)
      | (go_at_call 146; (with_reducible refine (HN _ hb3 o3 o4).mono ?_); rintro e w3 ⟨rfl, hx⟩; have hb4 := hb3.trans (hx.mono hb3.size); clear hx))
    go_ret
    exact ⟨rfl, hb4⟩
end Go.Proofs.YthefieemngmnjaaGreatDoor

/- Contracts of layer 9: a list of rules, parted. -/
namespace Go.Proofs.YthefieemngmnjaaGreatDoor
open Go.RowKit
set_option linter.unusedVariables false

theorem infoRule : (Tryz.prog.info? 102).map (fun i => (i.zero, i.size, i.bytes)) = some (some (.agg #[.int .i64 0, .string ⟨#[]⟩, .int .i64 0]), 3, 32) := by kernel_rfl

/-- So many cells as three cells an element, none of them told. -/
theorem made_rows {P : Program} (t e : TypeId) (z : Value) (size bytes n : Nat) (ht : P.underlying t = some (.slice e)) (hi : (P.info? e).map (fun i => (i.zero, i.size, i.bytes)) = some (some z, size, bytes)) (hb : bytes * n ≤ 281474976710656) (h63 : n ≤ 9223372036854775807) (w : World) :
    (Instr.makeSlice t (.int .i64 (n : Int)) (.int .i64 (n : Int))).run P w = .ok (.slice (some ⟨w.heap.size, 0, none⟩) n n) (w.alloc (.cells (madeCells z.cells (n * size)) e)) := by
  obtain ⟨i, h1, h2⟩ := Option.map_eq_some_iff.1 hi
  simp only [Prod.mk.injEq] at h2
  obtain ⟨h3, h4, h5⟩ := h2
  have hb' : (i.bytes : Int) * (n : Int) ≤ 281474976710656 := by
    rw [h5, ← Int.natCast_mul]
    omega
  have hr := run_make (P := P) w t e i z ht h1 h3 .i64 .i64 n n (by omega) (by omega) hb' (by omega)
  simp only [Int.toNat_natCast] at hr
  rw [h4] at hr
  exact hr

/-- The first k rules stand in a row of cells. -/
def Filled (R : List (List UInt8)) (k : Nat) (vs : List Value) : Prop := ∀ j, j < k → vs[j * 3]? = some (.int .i64 (ruleK (R.getD j [])).kind) ∧ vs[j * 3 + 1]? = some (.string (str (ruleK (R.getD j [])).name)) ∧ vs[j * 3 + 2]? = some (.int .i64 (ruleK (R.getD j [])).labels)

theorem Filled.zero (R : List (List UInt8)) (vs : List Value) : Filled R 0 vs := fun j hj => absurd hj (Nat.not_lt_zero _)

theorem Filled.next {R : List (List UInt8)} {k : Nat} {vs : List Value} (h : Filled R k vs) (hl : k * 3 + 2 < vs.length) :
    Filled R (k + 1) (((vs.set (k * 3) (.int .i64 (ruleK (R.getD k [])).kind)).set (k * 3 + 1) (.string (str (ruleK (R.getD k [])).name))).set (k * 3 + 2) (.int .i64 (ruleK (R.getD k [])).labels)) := by
  intro j hj
  by_cases e : j = k
  · subst e
    refine ⟨?_, ?_, ?_⟩
    · rw [List.getElem?_set_ne (by omega), List.getElem?_set_ne (by omega), List.getElem?_set_self (by omega)]
    · rw [List.getElem?_set_ne (by omega), List.getElem?_set_self (by rw [List.length_set]; omega)]
    · rw [List.getElem?_set_self (by rw [List.length_set, List.length_set]; omega)]
  · obtain ⟨a, b, c⟩ := h j (by omega)
    refine ⟨?_, ?_, ?_⟩
    · rw [List.getElem?_set_ne (by omega), List.getElem?_set_ne (by omega), List.getElem?_set_ne (by omega)]; exact a
    · rw [List.getElem?_set_ne (by omega), List.getElem?_set_ne (by omega), List.getElem?_set_ne (by omega)]; exact b
    · rw [List.getElem?_set_ne (by omega), List.getElem?_set_ne (by omega), List.getElem?_set_ne (by omega)]; exact c

theorem Filled.rules {R : List (List UInt8)} {vs : List Value} {w : World} {g : Nat} (h : Filled R R.length vs) (ho : ObjAt w g vs) : IsRules w g (R.map ruleK) := by
  intro i q hq
  rw [List.getElem?_map] at hq
  obtain ⟨x, hx, rfl⟩ := Option.map_eq_some_iff.1 hq
  obtain ⟨hi, e⟩ := List.getElem?_eq_some_iff.1 hx
  obtain ⟨a, b, c⟩ := h i hi
  have e2 : R.getD i [] = x := by simp [List.getD, hx]
  rw [e2] at a b c
  exact ⟨ho.cell _ a, ho.cell _ b, ho.cell _ c⟩

/-- Three cells that are stored one behind the other. -/
theorem stored3 {w : World} {b : Nat} {vs : List Value} (i : Nat) (v0 v1 v2 : Value) {y0 y1 y2 : Value} (h : ObjAt w b vs) (h0 : vs[i]? = some y0) (h1 : vs[i + 1]? = some y1) (h2 : vs[i + 2]? = some y2) :
    w.cell? ⟨b, i, none⟩ = some y0 ∧ w.frozen? ⟨b, i, none⟩ = false ∧ (w.setCell ⟨b, i, none⟩ v0).cell? ⟨b, i + 1, none⟩ = some y1 ∧ (w.setCell ⟨b, i, none⟩ v0).frozen? ⟨b, i + 1, none⟩ = false ∧
    ((w.setCell ⟨b, i, none⟩ v0).setCell ⟨b, i + 1, none⟩ v1).cell? ⟨b, i + 2, none⟩ = some y2 ∧ ((w.setCell ⟨b, i, none⟩ v0).setCell ⟨b, i + 1, none⟩ v1).frozen? ⟨b, i + 2, none⟩ = false ∧
    ObjAt (((w.setCell ⟨b, i, none⟩ v0).setCell ⟨b, i + 1, none⟩ v1).setCell ⟨b, i + 2, none⟩ v2) b (((vs.set i v0).set (i + 1) v1).set (i + 2) v2) := by
  have o1 := h.set i v0
  have o2 := o1.set (i + 1) v1
  exact ⟨h.cell i h0, h.free i, o1.cell (i + 1) (by rw [List.getElem?_set_ne (by omega)]; exact h1), o1.free _,
    o2.cell (i + 2) (by rw [List.getElem?_set_ne (by omega), List.getElem?_set_ne (by omega)]; exact h2), o2.free _, o2.set (i + 2) v2⟩

def PartedIs (R : List (List UInt8)) (len : Nat) (w : World) (e : Ending) (w' : World) : Prop :=
  Below w.heap.size w w' ∧ ((checkN R ≠ 0 ∧ e = .returned (.tuple #[.slice none 0 0, .int .i64 (checkN R)])) ∨
    (checkN R = 0 ∧ ∃ g, e = .returned (.tuple #[.slice (some ⟨g, 0, none⟩) len len, .int .i64 0]) ∧ IsRules w' g (R.map ruleK) ∧ g < w'.heap.size))

set_option maxHeartbeats 1000000 in
set_option maxRecDepth 100000 in
theorem partedC (a : Option Addr) (len cap : Nat) (R : List (List UInt8)) (w : World) (hR : IsStrs w a len cap R) (hS : ∀ x ∈ R, x.length ≤ 1000) (hT : PTab Tryz.prog w) :
    Calls Tryz.prog 41 #[.slice a len cap] w (PartedIs R len w) := by
  have hlen := hR.1
  have hb := Below.refl w.heap.size w
  by_cases h1 : 256 < len
  · have e : checkN R = 3 := by unfold checkN; rw [hlen, if_pos h1]
    have h1' : (256 : Int) < (len : Int) := by omega
    unfold PartedIs
    rw [e]
    clear hR hlen
    go_enter Tryz.func41, Tryz.ntmps41
    go_wp2
    go_ret2
    exact ⟨hb, .inl ⟨by decide, rfl⟩⟩
  · have h1' : ¬ (256 : Int) < (len : Int) := by omega
    have hmk := made_rows (P := Tryz.prog) 74 102 (.agg #[.int .i64 0, .string ⟨#[]⟩, .int .i64 0]) 3 32 len Tryz.underlying74 infoRule (by omega) (by omega) w
    have o0 := ObjAt.new w (madeCells (Value.agg #[.int .i64 0, .string ⟨#[]⟩, .int .i64 0]).cells (len * 3)) 102
    have hb1 := hb.alloc (Nat.le_refl _) (.cells (madeCells (Value.agg #[.int .i64 0, .string ⟨#[]⟩, .int .i64 0]).cells (len * 3)) 102)
    have hvl : (madeCells (Value.agg #[.int .i64 0, .string ⟨#[]⟩, .int .i64 0]).cells (len * 3)).toList.length = len * 3 := by rw [Array.length_toList, size_madeCells]
    generalize (madeCells (Value.agg #[.int .i64 0, .string ⟨#[]⟩, .int .i64 0]).cells (len * 3)).toList = vs0 at *
    generalize hW : w.alloc (.cells (madeCells (Value.agg #[.int .i64 0, .string ⟨#[]⟩, .int .i64 0]).cells (len * 3)) 102) = W at *
    have HR := Lib.hid hR
    have HY : Hid (R.length = len) := hlen
    have hgW := o0.lt
    clear hR hlen
    go_enter Tryz.func41, Tryz.ntmps41
    go_wp2
    go_loopw [17] (fun i wr => ∃ (k : Nat) (vs : List Value), k ≤ len ∧ i = .int .i64 (k : Int) ∧ vs.length = len * 3 ∧ ObjAt wr w.heap.size vs ∧ Filled R k vs ∧ Below w.heap.size w wr ∧ Hid (∀ j, j < k → ruleB (R.getD j []) = true)) (fun i _ => len - (intOf i).toNat)
    case atStart => exact ⟨0, vs0, Nat.zero_le _, rfl, hvl, o0, Filled.zero _ _, hb1, fun j hj => absurd hj (Nat.not_lt_zero _)⟩
    case round =>
      obtain ⟨k, vs, hk, rfl, hvs, o1, hF, hb2, hall⟩ := hrel
      by_cases hlt : k < len
      · have hlt' : (k : Int) < (len : Int) := by omega
        have hkR : k < R.length := by rw [HY.out]; exact hlt
        obtain ⟨B, off, rfl, c0⟩ := str_at (HR.out.below hb2).reads k hkR
        have hx1 : (R.getD k []).length ≤ 1000 := hS _ (by simp only [List.getD, List.getElem?_eq_getElem hkR, Option.getD_some]; exact List.getElem_mem _)
        have HC := fun v h => ruleOfC (R.getD k []) (R.getD k []).length v rfl hx1 h
        unfold RuleIs at HC
        have hok : Hid (ruleB (R.getD k []) = true → Hid (∀ j, j < k + 1 → ruleB (R.getD j []) = true)) := fun h j hj => by
          by_cases e : j = k
          · rw [e]; exact h
          · exact hall.out j (by omega)
        have hnx := hF.next (by omega)
        have hT2 := hT.below hb2
        have hno := fun h => all_no' (p := ruleB) hkR h
        generalize R.getD k [] = x at *
        obtain ⟨t, ht⟩ : ∃ t, ruleB x = t := ⟨_, rfl⟩
        rw [ht] at HC hok hno
        generalize ruleK x = q at *
        obtain ⟨K, d, L⟩ := q
        dsimp only at *
        cases t with
        | false =>
          have e : checkN R = 1 := by
            unfold checkN
            rw [HY.out, if_neg h1, if_neg (by rw [hno rfl]; decide)]
          clear hnx hno HY HR hall
          go_wp2_with (go_at_call 76; (with_reducible refine (HC _ hT2).mono ?_); rintro e w2 ⟨rfl, hx⟩; have hb3 := hb2.trans (hx.mono hb2.size); clear hx)
          go_ret2
          exact ⟨hb3.alloc hb3.size _, .inl ⟨by rw [e]; decide, by rw [e]; rfl⟩⟩
        | true =>
          clear hno
          obtain ⟨y0, hy0⟩ : ∃ y, vs[k * 3]? = some y := ⟨_, List.getElem?_eq_getElem (by omega)⟩
          obtain ⟨y1, hy1⟩ : ∃ y, vs[k * 3 + 1]? = some y := ⟨_, List.getElem?_eq_getElem (by omega)⟩
          obtain ⟨y2, hy2⟩ : ∃ y, vs[k * 3 + 2]? = some y := ⟨_, List.getElem?_eq_getElem (by omega)⟩
          have hvl2 : Hid ((((vs.set (k * 3) (.int .i64 K)).set (k * 3 + 1) (.string (str d))).set (k * 3 + 2) (.int .i64 L)).length = len * 3) := by unfold Hid; simp [hvs]
          have HV := fun (v : World) (o2 : ObjAt v w.heap.size vs) => stored3 (k * 3) (.int .i64 K) (.string (str d)) (.int .i64 L) o2 hy0 hy1 hy2
          clear hy0 hy1 hy2
          go_wp2_with (go_at_call 76; (with_reducible refine (HC _ hT2).mono ?_); rintro e w2 ⟨rfl, hx⟩; have hb3 := hb2.trans (hx.mono hb2.size); have o2 := o1.below hx o1.lt; clear hx; have hb4 := hb3.alloc hb3.size (.cells #[.int .i64 K, .string (str d), .int .i64 L] 102); have o2 := o2.below (below_alloc w2 (.cells #[.int .i64 K, .string (str d), .int .i64 L] 102)) o2.lt; have ox := ObjAt.new w2 #[.int .i64 K, .string (str d), .int .i64 L] 102; generalize hv : w2.alloc (.cells #[.int .i64 K, .string (str d), .int .i64 L] 102) = v at *; have x0 := ox.cell 0 rfl; have x1 := ox.cell 1 rfl; have x2 := ox.cell 2 rfl; obtain ⟨p0, q0, p1, q1, p2, q2, o5⟩ := HV v o2)
          go_roundw
          case rel => exact ⟨k + 1, _, by omega, by go_num, hvl2.out, o5, hnx, ((hb4.setCell (p := ⟨w.heap.size, k * 3, none⟩) (Nat.le_refl _) _).setCell (p := ⟨w.heap.size, k * 3 + 1, none⟩) (Nat.le_refl _) _).setCell (p := ⟨w.heap.size, k * 3 + 2, none⟩) (Nat.le_refl _) _, hok.out trivial⟩
          case measure => simp [intOf]; omega
      · obtain rfl : k = len := by omega
        have e : checkN R = 0 := by
          unfold checkN
          rw [HY.out, if_neg h1, if_pos (all_yes' (by rw [HY.out]; exact hall.out))]
        have hI := Filled.rules (R := R) (by rw [HY.out]; exact hF) o1
        go_wp2
        go_ret2
        exact ⟨hb2, .inr ⟨e, _, rfl, hI, o1.lt⟩⟩
end Go.Proofs.YthefieemngmnjaaGreatDoor

/- Contracts of layer 9: Check, Of, Public, Own. -/
namespace Go.Proofs.YthefieemngmnjaaGreatDoor
open Go.RowKit
set_option linter.unusedVariables false

set_option maxRecDepth 100000 in
theorem sufCheckC (a : Option Addr) (len cap : Nat) (R : List (List UInt8)) (w : World) (hR : IsStrs w a len cap R) (hS : ∀ x ∈ R, x.length ≤ 1000) (hT : PTab Tryz.prog w) :
    Calls Tryz.prog 18 #[.slice a len cap] w fun e w' => e = .returned (.int .i64 (checkN R)) ∧ Below w.heap.size w w' := by
  have HP := partedC a len cap R w hR hS hT
  unfold PartedIs at HP
  clear hR hS hT
  go_enter Tryz.func18, Tryz.ntmps18
  go_wp2_with (go_at_call 41; (with_reducible refine HP.mono ?_); rintro e w1 ⟨hb, ⟨h0, rfl⟩ | ⟨h0, g, rfl, hI, hg⟩⟩)
  · go_ret
    exact ⟨rfl, hb⟩
  · go_wp2
    go_ret
    exact ⟨by rw [h0]; rfl, hb⟩

/-- The last labels, joined. -/
theorem joinDotC (bk o c m : Nat) (P : List (List UInt8)) (w : World) (hr : Reads w (some ⟨bk, o, none⟩) (strs P)) (hm : P.length = m) (h1 : 1 ≤ m) (hc : m ≤ c) (hl : (joinL 46 P).length ≤ 1000) (hbk : bk < w.heap.size) (hP : m ≤ 100000) :
    Calls Tryz.prog 123 #[.slice (some ⟨bk, o, none⟩) m c, .string ⟨#[46]⟩] w fun e w' => e = .returned (.string (str (joinL 46 P))) ∧ Below w.heap.size w w' := by
  have hmap : (P.map str).map (·.data.toList) = P := by
    rw [List.map_map]
    have : ((fun x : ByteArray => x.data.toList) ∘ str) = id := funext fun l => str_data l
    rw [this, List.map_id]
  have h := Tryz.strings_Join bk o c (P.map str) ⟨#[46]⟩ w (fun j x hj => by
      rw [List.getElem?_map] at hj
      obtain ⟨y, hy, rfl⟩ := Option.map_eq_some_iff.1 hj
      obtain ⟨b', off', e1, e2⟩ := hr j (.string (str y)) (by unfold strs; rw [List.getElem?_map, hy]; rfl)
      cases e1
      exact e2) hbk (by rw [List.length_map]; omega) (by rw [List.length_map]; omega) (by rw [hmap]; show (Lib.join P [46]).length ≤ _; rw [lib_join]; omega)
  rw [hmap, List.length_map, hm] at h
  refine h.mono ?_
  rintro e w' ⟨rfl, hb⟩
  refine ⟨?_, hb⟩
  show Ending.returned (.string ⟨(Lib.join P [46]).toArray⟩) = _
  rw [lib_join]
  rfl

theorem partedNo (a : Option Addr) (len cap : Nat) (R : List (List UInt8)) (E : Int) (w : World) (hR : IsStrs w a len cap R) (hS : ∀ x ∈ R, x.length ≤ 1000) (hT : PTab Tryz.prog w) (he : checkN R = E) (h0 : E ≠ 0) :
    Calls Tryz.prog 41 #[.slice a len cap] w fun e w' => e = .returned (.tuple #[.slice none 0 0, .int .i64 E]) ∧ Below w.heap.size w w' := by
  subst he
  refine (partedC a len cap R w hR hS hT).mono ?_
  rintro e w' ⟨hb, ⟨-, rfl⟩ | ⟨c, -⟩⟩
  · exact ⟨rfl, hb⟩
  · exact absurd c h0

theorem partedYes (a : Option Addr) (len cap : Nat) (R : List (List UInt8)) (w : World) (hR : IsStrs w a len cap R) (hS : ∀ x ∈ R, x.length ≤ 1000) (hT : PTab Tryz.prog w) (he : checkN R = 0) :
    Calls Tryz.prog 41 #[.slice a len cap] w fun e w' => (∃ g, e = .returned (.tuple #[.slice (some ⟨g, 0, none⟩) len len, .int .i64 0]) ∧ IsRules w' g (R.map ruleK) ∧ g < w'.heap.size) ∧ Below w.heap.size w w' := by
  refine (partedC a len cap R w hR hS hT).mono ?_
  rintro e w' ⟨hb, ⟨c, -⟩ | ⟨-, h⟩⟩
  · exact absurd he c
  · exact ⟨h, hb⟩

theorem labelsNo (s : List UInt8) (n : Nat) (w : World) (hn : s.length = n) (hm : n ≤ 100000) (hT : PTab Tryz.prog w) (hs : nameB s = false) :
    Calls Tryz.prog 113 #[.string (str s)] w fun e w' => e = .returned (.slice none 0 0) ∧ Below w.heap.size w w' := by
  refine (labelsC s n w hn (by unfold maxLen; omega) hT).mono ?_
  intro e w' h
  unfold LabelsIs at h
  rw [if_neg (by rw [hs]; decide)] at h
  exact h

theorem labelsYes (s : List UInt8) (n K : Nat) (w : World) (hn : s.length = n) (hm : n ≤ 1000) (hT : PTab Tryz.prog w) (hs : nameB s = true) (hK : (splitL s 46).length = K) :
    Calls Tryz.prog 113 #[.string (str s)] w fun e w' => (∃ g c, e = .returned (.slice (some ⟨g, 0, none⟩) K c) ∧ Owned w.heap.size 9 (some ⟨g, 0, none⟩) K c (strs (splitL s 46)) w') ∧ Below w.heap.size w w' := by
  refine (labelsC s n w hn (by unfold maxLen; omega) hT).mono ?_
  intro e w' h
  unfold LabelsIs GivesStrs at h
  rw [if_pos hs] at h
  obtain ⟨a, c, rfl, ho, hb⟩ := h
  rw [hK] at ho ⊢
  have := splitL_pos s 46
  obtain ⟨g, rfl, -, -⟩ := ho.head (by omega)
  exact ⟨⟨g, c, rfl, ho⟩, hb⟩

theorem owned_lt {base : Nat} {e : TypeId} {g n c : Nat} {xs : List Value} {w : World} (h : Owned base e (some ⟨g, 0, none⟩) n c xs w) (hn : 1 ≤ n) : g < w.heap.size := by
  obtain ⟨g', hg, -, hlt⟩ := h.head hn
  cases hg
  exact hlt

theorem last_joined {s : List UInt8} {n K : Nat} (hK : (splitL s 46).length = K) (h1 : 1 ≤ n) : lastN s n = joinL 46 ((splitL s 46).drop (K - n)) := by
  unfold lastN
  rw [if_neg (by omega), hK]
  rfl

set_option maxHeartbeats 1000000 in
set_option maxRecDepth 100000 in
theorem sufOfC (a : Option Addr) (len cap : Nat) (R : List (List UInt8)) (s : List UInt8) (n : Nat) (w : World) (hR : IsStrs w a len cap R) (hS : ∀ x ∈ R, x.length ≤ 1000) (hn : s.length = n) (hm : n ≤ 100000) (hT : PTab Tryz.prog w) :
    Calls Tryz.prog 98 #[.slice a len cap, .string (str s)] w fun e w' => e = .returned (.tuple #[.string (str (ofR R s).1), .int .i64 (ofR R s).2]) ∧ Below w.heap.size w w' := by
  have hlen := hR.1
  rcases check_cases R with ⟨-, e⟩ | ⟨-, -, e⟩ | ⟨hle, hall, e⟩
  · have HP := partedNo a len cap R 3 w hR hS hT e (by decide)
    unfold ofR
    rw [e]
    clear hR hlen e
    go_enter Tryz.func98, Tryz.ntmps98
    go_wp2_with (go_at_call 41; (with_reducible refine HP.mono ?_); rintro e w1 ⟨rfl, hb⟩)
    go_ret2
    exact ⟨rfl, hb⟩
  · have HP := partedNo a len cap R 1 w hR hS hT e (by decide)
    unfold ofR
    rw [e]
    clear hR hlen e
    go_enter Tryz.func98, Tryz.ntmps98
    go_wp2_with (go_at_call 41; (with_reducible refine HP.mono ?_); rintro e w1 ⟨rfl, hb⟩)
    go_ret2
    exact ⟨rfl, hb⟩
  · have HP := partedYes a len cap R w hR hS hT e
    unfold ofR
    rw [if_neg (by rw [e]; decide)]
    by_cases hs : nameB s = true
    · rw [if_pos hs]
      have hm : n ≤ 1000 := by
        have h9 := hs
        unfold nameB at h9
        simp only [Bool.and_eq_true, decide_eq_true_eq] at h9
        omega
      obtain ⟨K, hK⟩ : ∃ K, (splitL s 46).length = K := ⟨_, rfl⟩
      obtain ⟨j, hpub, hj1, hjK, hof⟩ := of_pub hall hs
      rw [hK] at hjK
      have HL := fun v (h : PTab Tryz.prog v) => labelsYes s n K v hn hm h hs hK
      have HU := fun g v h hg => publicC g len len (R.map ruleK) s n v h (by rw [List.length_map, hlen]) hg (by omega) (Nat.le_refl _) hn hm
      have hlj := last_joined hK hj1
      have hll := last_le s j
      have hKn := splitL_le s 46
      rw [hK] at hKn
      have HJ := fun (g c : Nat) (v : World) (h : Reads v (some ⟨g, K - j, none⟩) (strs ((splitL s 46).drop (K - j)))) (hc : K ≤ c) (hg : g < v.heap.size) => joinDotC g (K - j) (c - (K - j)) (K - (K - j)) ((splitL s 46).drop (K - j)) v h (by rw [List.length_drop, hK]) (by omega) (by omega) (by rw [← hlj]; omega) hg (by omega)
      rw [← hlj, ← hof] at HJ
      rw [hpub] at HU
      have hcut : Hid (∀ v g, Reads v (some ⟨g, 0, none⟩) (strs (splitL s 46)) → Reads v (some ⟨g, K - j, none⟩) (strs ((splitL s 46).drop (K - j)))) := fun v g h => by
        have e1 : strs ((splitL s 46).take (K - j)) ++ strs ((splitL s 46).drop (K - j)) = strs (splitL s 46) := by
          unfold strs
          rw [← List.map_append, List.take_append_drop]
        have e2 : (strs ((splitL s 46).take (K - j))).length = K - j := by
          unfold strs
          rw [List.length_map, List.length_take, hK]
          omega
        rw [← e1] at h
        have := h.cut
        rw [e2, Nat.zero_add] at this
        exact this
      generalize ofL R s = o at *
      clear hlj hll hof hpub hall e hR hlen hle
      go_enter Tryz.func98, Tryz.ntmps98
      go_wp2_with (first
        | (go_at_call 41; (with_reducible refine HP.mono ?_); rintro e w1 ⟨⟨g, rfl, hI, hg⟩, hb⟩; have hT1 := hT.below hb)
        | (go_at_call 113; (with_reducible refine (HL _ hT1).mono ?_); rintro e w2 ⟨⟨g2, c, rfl, ho⟩, hx⟩; have hI2 := hI.below hx hg; have hg2 := Nat.lt_of_lt_of_le hg hx.size; have hb2 := hb.trans (hx.mono hb.size); clear hx)
        | (go_at_call 124; (with_reducible refine (HU _ _ hI2 hg2).mono ?_); rintro e w3 ⟨rfl, hx⟩; have hc := ho.2.2.2.1; have hne : ¬ c = K - j := (by omega); have hr := hcut.out _ _ (ho.below hx (Nat.le_refl _)).reads; have hb3 := hb2.trans (hx.mono hb2.size); have hg5 := Nat.lt_of_lt_of_le (owned_lt ho (Nat.le_trans hj1 hjK)) hx.size; clear hx)
        | (go_at_call 123; (with_reducible refine (HJ _ _ _ hr hc hg5).mono ?_); rintro e w4 ⟨rfl, hx⟩; have hb4 := hb3.trans (hx.mono hb3.size); clear hx))
      go_ret2
      exact ⟨rfl, hb4⟩
    · have HL := fun v (h : PTab Tryz.prog v) => labelsNo s n v hn hm h (Bool.eq_false_iff.2 hs)
      rw [if_neg hs]
      clear hR hlen e
      go_enter Tryz.func98, Tryz.ntmps98
      go_wp2_with (first
        | (go_at_call 41; (with_reducible refine HP.mono ?_); rintro e w1 ⟨⟨g, rfl, hI, hg⟩, hb⟩; have hT1 := hT.below hb)
        | (go_at_call 113; (with_reducible refine (HL _ hT1).mono ?_); rintro e w2 ⟨rfl, hx⟩; have hb2 := hb.trans (hx.mono hb.size); clear hx))
      go_ret2
      exact ⟨rfl, hb2⟩

set_option maxRecDepth 100000 in
theorem sufPublicC (a : Option Addr) (len cap : Nat) (R : List (List UInt8)) (s : List UInt8) (n : Nat) (w : World) (hR : IsStrs w a len cap R) (hS : ∀ x ∈ R, x.length ≤ 1000) (hn : s.length = n) (hm : n ≤ 100000) (hT : PTab Tryz.prog w) :
    Calls Tryz.prog 52 #[.slice a len cap, .string (str s)] w fun e w' => e = .returned (.bool (publicR R s)) ∧ Below w.heap.size w w' := by
  have HO := sufOfC a len cap R s n w hR hS hn hm hT
  have hk := str_toList
  unfold publicR
  generalize (ofR R s).1 = o at *
  generalize (ofR R s).2 = v at *
  clear hR hS hn hm hT
  by_cases hv : v = 0
  · rw [decide_eq_true hv, Bool.true_and]
    subst hv
    cases c : o == s with
    | true =>
      go_enter Tryz.func52, Tryz.ntmps52
      go_wp2_with (go_at_call 98; (with_reducible refine HO.mono ?_); rintro e w1 ⟨rfl, hb⟩)
      go_ret
      exact ⟨rfl, hb⟩
    | false =>
      go_enter Tryz.func52, Tryz.ntmps52
      go_wp2_with (go_at_call 98; (with_reducible refine HO.mono ?_); rintro e w1 ⟨rfl, hb⟩)
      go_ret
      exact ⟨rfl, hb⟩
  · rw [decide_eq_false hv, Bool.false_and]
    have hv2 : (v == 0) = false := beq_eq_false_iff_ne.2 hv
    go_enter Tryz.func52, Tryz.ntmps52
    go_wp2_with (go_at_call 98; (with_reducible refine HO.mono ?_); rintro e w1 ⟨rfl, hb⟩)
    go_ret
    exact ⟨rfl, hb⟩

end Go.Proofs.YthefieemngmnjaaGreatDoor
