/- Contracts of layer 9: a list of rules, parted. -/
import Derived.Test.YtgibhpljlebcdaaDoorSuffixFits
import Derived.Laws.MakeOwn
namespace Go.Proofs.YtgibhpljlebcdaaDoor
open Go.RowKit
set_option linter.unusedVariables false

theorem infoRule : (Tryd.prog.info? 52).map (fun i => (i.zero, i.size, i.bytes)) = some (some (.agg #[.int .i64 0, .string ⟨#[]⟩, .int .i64 0]), 3, 32) := by kernel_rfl

/-- So many cells as three cells an element, none of them told. -/
theorem made_rows {P : Program} (t e : TypeId) (z : Value) (size bytes n : Nat) (ht : P.underlying t = some (.slice e)) (hi : (P.info? e).map (fun i => (i.zero, i.size, i.bytes)) = some (some z, size, bytes)) (hb : bytes * n ≤ 281474976710656) (h63 : n ≤ 9223372036854775807) (w : World) :
    (Instr.makeSlice t (.int .i64 (n : Int)) (.int .i64 (n : Int))).run P w = .ok (.slice (some ⟨w.heap.size, 0, none⟩) n n) (w.alloc (.cells (madeCells z.cells (n * size)) e)) := by
  obtain ⟨i, h1, h2⟩ := Option.map_eq_some_iff.1 hi
  simp only [Prod.mk.injEq] at h2
  obtain ⟨h3, h4, h5⟩ := h2
  have hb' : (i.bytes : Int) * (n : Int) ≤ 281474976710656 := by
    rw [h5, ← Int.natCast_mul]
    omega
  have hr := run_make (P := P) w t e i z ht h1 h3 .i64 .i64 n n (by omega) (by omega) hb' (by omega)
  simp only [Int.toNat_natCast] at hr
  rw [h4] at hr
  exact hr

/-- The first k rules stand in a row of cells. -/
def Filled (R : List (List UInt8)) (k : Nat) (vs : List Value) : Prop := ∀ j, j < k → vs[j * 3]? = some (.int .i64 (ruleK (R.getD j [])).kind) ∧ vs[j * 3 + 1]? = some (.string (str (ruleK (R.getD j [])).name)) ∧ vs[j * 3 + 2]? = some (.int .i64 (ruleK (R.getD j [])).labels)

theorem Filled.zero (R : List (List UInt8)) (vs : List Value) : Filled R 0 vs := fun j hj => absurd hj (Nat.not_lt_zero _)

theorem Filled.next {R : List (List UInt8)} {k : Nat} {vs : List Value} (h : Filled R k vs) (hl : k * 3 + 2 < vs.length) :
    Filled R (k + 1) (((vs.set (k * 3) (.int .i64 (ruleK (R.getD k [])).kind)).set (k * 3 + 1) (.string (str (ruleK (R.getD k [])).name))).set (k * 3 + 2) (.int .i64 (ruleK (R.getD k [])).labels)) := by
  intro j hj
  by_cases e : j = k
  · subst e
    refine ⟨?_, ?_, ?_⟩
    · rw [List.getElem?_set_ne (by omega), List.getElem?_set_ne (by omega), List.getElem?_set_self (by omega)]
    · rw [List.getElem?_set_ne (by omega), List.getElem?_set_self (by rw [List.length_set]; omega)]
    · rw [List.getElem?_set_self (by rw [List.length_set, List.length_set]; omega)]
  · obtain ⟨a, b, c⟩ := h j (by omega)
    refine ⟨?_, ?_, ?_⟩
    · rw [List.getElem?_set_ne (by omega), List.getElem?_set_ne (by omega), List.getElem?_set_ne (by omega)]; exact a
    · rw [List.getElem?_set_ne (by omega), List.getElem?_set_ne (by omega), List.getElem?_set_ne (by omega)]; exact b
    · rw [List.getElem?_set_ne (by omega), List.getElem?_set_ne (by omega), List.getElem?_set_ne (by omega)]; exact c

theorem Filled.rules {R : List (List UInt8)} {vs : List Value} {w : World} {g : Nat} (h : Filled R R.length vs) (ho : ObjAt w g vs) : IsRules w g (R.map ruleK) := by
  intro i q hq
  rw [List.getElem?_map] at hq
  obtain ⟨x, hx, rfl⟩ := Option.map_eq_some_iff.1 hq
  obtain ⟨hi, e⟩ := List.getElem?_eq_some_iff.1 hx
  obtain ⟨a, b, c⟩ := h i hi
  have e2 : R.getD i [] = x := by simp [List.getD, hx]
  rw [e2] at a b c
  exact ⟨ho.cell _ a, ho.cell _ b, ho.cell _ c⟩

/-- Three cells that are stored one behind the other. -/
theorem stored3 {w : World} {b : Nat} {vs : List Value} (i : Nat) (v0 v1 v2 : Value) {y0 y1 y2 : Value} (h : ObjAt w b vs) (h0 : vs[i]? = some y0) (h1 : vs[i + 1]? = some y1) (h2 : vs[i + 2]? = some y2) :
    w.cell? ⟨b, i, none⟩ = some y0 ∧ w.frozen? ⟨b, i, none⟩ = false ∧ (w.setCell ⟨b, i, none⟩ v0).cell? ⟨b, i + 1, none⟩ = some y1 ∧ (w.setCell ⟨b, i, none⟩ v0).frozen? ⟨b, i + 1, none⟩ = false ∧
    ((w.setCell ⟨b, i, none⟩ v0).setCell ⟨b, i + 1, none⟩ v1).cell? ⟨b, i + 2, none⟩ = some y2 ∧ ((w.setCell ⟨b, i, none⟩ v0).setCell ⟨b, i + 1, none⟩ v1).frozen? ⟨b, i + 2, none⟩ = false ∧
    ObjAt (((w.setCell ⟨b, i, none⟩ v0).setCell ⟨b, i + 1, none⟩ v1).setCell ⟨b, i + 2, none⟩ v2) b (((vs.set i v0).set (i + 1) v1).set (i + 2) v2) := by
  have o1 := h.set i v0
  have o2 := o1.set (i + 1) v1
  exact ⟨h.cell i h0, h.free i, o1.cell (i + 1) (by rw [List.getElem?_set_ne (by omega)]; exact h1), o1.free _,
    o2.cell (i + 2) (by rw [List.getElem?_set_ne (by omega), List.getElem?_set_ne (by omega)]; exact h2), o2.free _, o2.set (i + 2) v2⟩

def PartedIs (R : List (List UInt8)) (len : Nat) (w : World) (e : Ending) (w' : World) : Prop :=
  Below w.heap.size w w' ∧ ((checkN R ≠ 0 ∧ e = .returned (.tuple #[.slice none 0 0, .int .i64 (checkN R)])) ∨
    (checkN R = 0 ∧ ∃ g, e = .returned (.tuple #[.slice (some ⟨g, 0, none⟩) len len, .int .i64 0]) ∧ IsRules w' g (R.map ruleK) ∧ g < w'.heap.size))

set_option maxHeartbeats 1000000 in
set_option maxRecDepth 100000 in
theorem partedC (a : Option Addr) (len cap : Nat) (R : List (List UInt8)) (w : World) (hR : IsStrs w a len cap R) (hS : ∀ x ∈ R, x.length ≤ 1000) (hT : PTab Tryd.prog w) :
    Calls Tryd.prog 17 #[.slice a len cap] w (PartedIs R len w) := by
  have hlen := hR.1
  have hb := Below.refl w.heap.size w
  by_cases h1 : 256 < len
  · have e : checkN R = 3 := by unfold checkN; rw [hlen, if_pos h1]
    have h1' : (256 : Int) < (len : Int) := by omega
    unfold PartedIs
    rw [e]
    clear hR hlen
    go_enter Tryd.func17, Tryd.ntmps17
    go_wp2
    go_ret2
    exact ⟨hb, .inl ⟨by decide, rfl⟩⟩
  · have h1' : ¬ (256 : Int) < (len : Int) := by omega
    have hmk := made_rows (P := Tryd.prog) 36 52 (.agg #[.int .i64 0, .string ⟨#[]⟩, .int .i64 0]) 3 32 len Tryd.underlying36 infoRule (by omega) (by omega) w
    have o0 := ObjAt.new w (madeCells (Value.agg #[.int .i64 0, .string ⟨#[]⟩, .int .i64 0]).cells (len * 3)) 52
    have hb1 := hb.alloc (Nat.le_refl _) (.cells (madeCells (Value.agg #[.int .i64 0, .string ⟨#[]⟩, .int .i64 0]).cells (len * 3)) 52)
    have hvl : (madeCells (Value.agg #[.int .i64 0, .string ⟨#[]⟩, .int .i64 0]).cells (len * 3)).toList.length = len * 3 := by rw [Array.length_toList, size_madeCells]
    generalize (madeCells (Value.agg #[.int .i64 0, .string ⟨#[]⟩, .int .i64 0]).cells (len * 3)).toList = vs0 at *
    generalize hW : w.alloc (.cells (madeCells (Value.agg #[.int .i64 0, .string ⟨#[]⟩, .int .i64 0]).cells (len * 3)) 52) = W at *
    have HR := Lib.hid hR
    have HY : Hid (R.length = len) := hlen
    have hgW := o0.lt
    clear hR hlen
    go_enter Tryd.func17, Tryd.ntmps17
    go_wp2
    go_loopw [17] (fun i wr => ∃ (k : Nat) (vs : List Value), k ≤ len ∧ i = .int .i64 (k : Int) ∧ vs.length = len * 3 ∧ ObjAt wr w.heap.size vs ∧ Filled R k vs ∧ Below w.heap.size w wr ∧ Hid (∀ j, j < k → ruleB (R.getD j []) = true)) (fun i _ => len - (intOf i).toNat)
    case atStart => exact ⟨0, vs0, Nat.zero_le _, rfl, hvl, o0, Filled.zero _ _, hb1, fun j hj => absurd hj (Nat.not_lt_zero _)⟩
    case round =>
      obtain ⟨k, vs, hk, rfl, hvs, o1, hF, hb2, hall⟩ := hrel
      by_cases hlt : k < len
      · have hlt' : (k : Int) < (len : Int) := by omega
        have hkR : k < R.length := by rw [HY.out]; exact hlt
        obtain ⟨B, off, rfl, c0⟩ := str_at (HR.out.below hb2).reads k hkR
        have hx1 : (R.getD k []).length ≤ 1000 := hS _ (by simp only [List.getD, List.getElem?_eq_getElem hkR, Option.getD_some]; exact List.getElem_mem _)
        have HC := fun v h => ruleOfC (R.getD k []) (R.getD k []).length v rfl hx1 h
        unfold RuleIs at HC
        have hok : Hid (ruleB (R.getD k []) = true → Hid (∀ j, j < k + 1 → ruleB (R.getD j []) = true)) := fun h j hj => by
          by_cases e : j = k
          · rw [e]; exact h
          · exact hall.out j (by omega)
        have hnx := hF.next (by omega)
        have hT2 := hT.below hb2
        have hno := fun h => all_no' (p := ruleB) hkR h
        generalize R.getD k [] = x at *
        obtain ⟨t, ht⟩ : ∃ t, ruleB x = t := ⟨_, rfl⟩
        rw [ht] at HC hok hno
        generalize ruleK x = q at *
        obtain ⟨K, d, L⟩ := q
        dsimp only at *
        cases t with
        | false =>
          have e : checkN R = 1 := by
            unfold checkN
            rw [HY.out, if_neg h1, if_neg (by rw [hno rfl]; decide)]
          clear hnx hno HY HR hall
          go_wp2_with (go_at_call 32; (with_reducible refine (HC _ hT2).mono ?_); rintro e w2 ⟨rfl, hx⟩; have hb3 := hb2.trans (hx.mono hb2.size); clear hx)
          go_ret2
          exact ⟨hb3.alloc hb3.size _, .inl ⟨by rw [e]; decide, by rw [e]; rfl⟩⟩
        | true =>
          clear hno
          obtain ⟨y0, hy0⟩ : ∃ y, vs[k * 3]? = some y := ⟨_, List.getElem?_eq_getElem (by omega)⟩
          obtain ⟨y1, hy1⟩ : ∃ y, vs[k * 3 + 1]? = some y := ⟨_, List.getElem?_eq_getElem (by omega)⟩
          obtain ⟨y2, hy2⟩ : ∃ y, vs[k * 3 + 2]? = some y := ⟨_, List.getElem?_eq_getElem (by omega)⟩
          have hvl2 : Hid ((((vs.set (k * 3) (.int .i64 K)).set (k * 3 + 1) (.string (str d))).set (k * 3 + 2) (.int .i64 L)).length = len * 3) := by unfold Hid; simp [hvs]
          have HV := fun (v : World) (o2 : ObjAt v w.heap.size vs) => stored3 (k * 3) (.int .i64 K) (.string (str d)) (.int .i64 L) o2 hy0 hy1 hy2
          clear hy0 hy1 hy2
          go_wp2_with (go_at_call 32; (with_reducible refine (HC _ hT2).mono ?_); rintro e w2 ⟨rfl, hx⟩; have hb3 := hb2.trans (hx.mono hb2.size); have o2 := o1.below hx o1.lt; clear hx; have hb4 := hb3.alloc hb3.size (.cells #[.int .i64 K, .string (str d), .int .i64 L] 52); have o2 := o2.below (below_alloc w2 (.cells #[.int .i64 K, .string (str d), .int .i64 L] 52)) o2.lt; have ox := ObjAt.new w2 #[.int .i64 K, .string (str d), .int .i64 L] 52; generalize hv : w2.alloc (.cells #[.int .i64 K, .string (str d), .int .i64 L] 52) = v at *; have x0 := ox.cell 0 rfl; have x1 := ox.cell 1 rfl; have x2 := ox.cell 2 rfl; obtain ⟨p0, q0, p1, q1, p2, q2, o5⟩ := HV v o2)
          go_roundw
          case rel => exact ⟨k + 1, _, by omega, by go_num, hvl2.out, o5, hnx, ((hb4.setCell (p := ⟨w.heap.size, k * 3, none⟩) (Nat.le_refl _) _).setCell (p := ⟨w.heap.size, k * 3 + 1, none⟩) (Nat.le_refl _) _).setCell (p := ⟨w.heap.size, k * 3 + 2, none⟩) (Nat.le_refl _) _, hok.out trivial⟩
          case measure => simp [intOf]; omega
      · obtain rfl : k = len := by omega
        have e : checkN R = 0 := by
          unfold checkN
          rw [HY.out, if_neg h1, if_pos (all_yes' (by rw [HY.out]; exact hall.out))]
        have hI := Filled.rules (R := R) (by rw [HY.out]; exact hF) o1
        go_wp2
        go_ret2
        exact ⟨hb2, .inr ⟨e, _, rfl, hI, o1.lt⟩⟩
end Go.Proofs.YtgibhpljlebcdaaDoor
