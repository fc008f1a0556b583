/- Contracts of the reference's reader: numbers, right or wrong. -/
import Derived.Test.YtfdiomghoheljaaReadPlain
import Derived.Test.YtfdiomghoheljaaVarLaw
import Derived.Test.YtfdiomghoheljaaKeeps
namespace Go.Proofs.Ytfdiomghoheljaa
open Go.RowKit
set_option linter.unusedVariables false

/-- The bytes of a reader that is handed on as a value. -/
structure RvAt (w : World) (a : Option Addr) (n c : Nat) (l : List Int) : Prop where
  rd : Reads w a (l.map (Value.int .u8))
  len : l.length = n
  le : n ≤ c
  cap : c ≤ maxLen
  nil : a = none → c = 0
theorem RvAt.below {w w' : World} {a : Option Addr} {n c : Nat} {l : List Int} (h : RvAt w a n c l) (hb : Below w.heap.size w w') : RvAt w' a n c l := ⟨h.rd.below' hb, h.len, h.le, h.cap, h.nil⟩

/-- The reader that is handed back lies where the first one lay: in the world w0 of old. -/
def RvGives (r : RdN) (v : Int) (w0 w : World) (e : Ending) (w' : World) : Prop :=
  ∃ a n c, e = .returned (.tuple #[.agg #[.slice a n c, .int .i64 r.2], .int .u64 v]) ∧ RvAt w0 a n c r.1 ∧ Below w.heap.size w w'

set_option maxRecDepth 100000 in
theorem refFailC (a : Option Addr) (n c : Nat) (e0 e : Int) (w : World) :
    Calls Try.prog 53 #[.agg #[.slice a n c, .int .i64 e0], .int .i64 e] w fun en w' => en = .returned (.agg #[.slice a n c, .int .i64 e]) ∧ Below w.heap.size w w' := by
  have h1 := below_alloc w (.cells #[.slice a n c, .int .i64 e0] 60)
  have h2 := below_alloc (w.alloc (.cells #[.slice a n c, .int .i64 e0] 60)) (.cells #[.slice none 0 0, .int .i64 0] 60)
  have o1 := ObjAt.new w #[.slice a n c, .int .i64 e0] 60
  have o2 := ObjAt.new (w.alloc (.cells #[.slice a n c, .int .i64 e0] 60)) #[.slice none 0 0, .int .i64 0] 60
  have o1 := o1.below h2 o1.lt
  rw [World.size_alloc] at o2
  have hb := h1.trans (h2.mono h1.size)
  generalize hv : (w.alloc (.cells #[.slice a n c, .int .i64 e0] 60)).alloc (.cells #[.slice none 0 0, .int .i64 0] 60) = v at *
  have u0 := o1.cell 0 rfl; have u1 := o1.cell 1 rfl
  have r0 := o2.cell 0 rfl; have r1 := o2.cell 1 rfl
  have g0 := o2.free 0; have g1 := o2.free 1
  clear h1 h2
  go_enter Try.func53, Try.ntmps53
  go_wp2
  have o9 := (o2.set 0 (.slice a n c)).set 1 (.int .i64 e)
  have m0 := o9.cell 0 rfl
  have m1 := o9.cell 1 rfl
  exact bodyPost_ret (v := .agg #[.slice a n c, .int .i64 e]) (by simp [results, Try.results53, go_sem, m0, m1]) rfl ⟨rfl, (hb.setCell (p := ⟨w.heap.size + 1, 0, none⟩) (by simp) _).setCell (p := ⟨w.heap.size + 1, 1, none⟩) (by simp) _⟩

set_option maxHeartbeats 2000000 in
set_option maxRecDepth 100000 in
theorem refReadNumC (l : List Int) (e0 : Int) (a : Option Addr) (n c : Nat) (most : Int) (w0 w : World) (h : RvAt w0 a n c l) (h00 : Below w0.heap.size w0 w) (hb : IsBytes l) (hm : 0 ≤ most ∧ most ≤ 18446744073709551615) (h9 : n ≤ 1000000) :
    Calls Try.prog 44 #[.agg #[.slice a n c, .int .i64 e0], .int .u64 most] w (RvGives (numR (l, e0) most).1 (numR (l, e0) most).2 w0 w) := by
  have h1 := below_alloc w (.cells #[.slice a n c, .int .i64 e0] 60)
  have h2 := below_alloc (w.alloc (.cells #[.slice a n c, .int .i64 e0] 60)) (.cells #[.slice none 0 0, .int .i64 0] 60)
  have o1 := ObjAt.new w #[.slice a n c, .int .i64 e0] 60
  have o2 := ObjAt.new (w.alloc (.cells #[.slice a n c, .int .i64 e0] 60)) #[.slice none 0 0, .int .i64 0] 60
  have o1 := o1.below h2 o1.lt
  rw [World.size_alloc] at o2
  have hbw := h1.trans (h2.mono h1.size)
  have hr0 := Lib.hid h
  have hlen := h.len
  have hle := h.le
  have hcap := h.cap
  unfold maxLen at hcap
  have hG := fun v ha => refGetC l a c v ha hb (by rw [hlen]; unfold maxLen; omega)
  rw [hlen] at hG
  unfold GotIs at hG
  clear h h1 h2
  unfold RvGives
  by_cases q0 : e0 = 0
  · subst q0
    have hFail := fun e v => refFailC a n c 0 e v
    by_cases q1 : (got l 0 0).2.2 = 0
    · by_cases q2 : most < (got l 0 0).1
      · have E : Hid (numR (l, 0) most = ((l, 3), 0)) := by unfold Hid numR; rw [if_neg (by simp), if_neg (by simp [q1]), if_pos q2]
        rw [q1] at hG
        generalize (got l 0 0).1 = V at *
        generalize (got l 0 0).2.1 = K at *
        clear q1
        generalize hv : (w.alloc (.cells #[.slice a n c, .int .i64 0] 60)).alloc (.cells #[.slice none 0 0, .int .i64 0] 60) = v at *
        have u0 := o1.cell 0 rfl; have u1 := o1.cell 1 rfl
        have r0 := o2.cell 0 rfl; have r1 := o2.cell 1 rfl
        have g0 := o2.free 0; have g1 := o2.free 1
        have hrv := ((hr0.out.below h00).below hbw).rd
        go_enter Try.func44, Try.ntmps44
        go_wp2_with (first
          | (go_at_call 52; (with_reducible refine (hG _ hrv).mono ?_); rintro e w1 ⟨rfl, rfl⟩)
          | (go_at_call 53; (with_reducible refine (hFail _ _).mono ?_); rintro e w2 ⟨rfl, hx⟩; have o2 := o2.below hx o2.lt; have hbw := hbw.trans (hx.mono hbw.size); have r0 := o2.cell 0 rfl; have r1 := o2.cell 1 rfl; have g0 := o2.free 0; have g1 := o2.free 1; clear hx))
        have o9 := (o2.set 0 (.slice a n c)).set 1 (.int .i64 3)
        have m0 := o9.cell 0 rfl
        have m1 := o9.cell 1 rfl
        have hbf := (hbw.setCell (p := ⟨w.heap.size + 1, 0, none⟩) (by simp) (.slice a n c)).setCell (p := ⟨w.heap.size + 1, 1, none⟩) (by simp) (.int .i64 3)
        exact bodyPost_ret (v := .tuple #[.agg #[.slice a n c, .int .i64 3], .int .u64 0]) (by simp [results, Try.results44, go_sem, m0, m1]) rfl ⟨a, n, c, by rw [E.out], by rw [E.out]; exact hr0.out, hbf⟩
      · obtain ⟨V, K, e1, e2, l1, l2, e3⟩ := numR_good (r := (l, 0)) hb rfl q1 q2
        have E := Lib.hid e3
        simp only at e1 e2 l2
        rw [q1, e1, e2] at hG
        rw [e1] at q2
        clear e1 e2 e3 q1 hFail
        generalize hv : (w.alloc (.cells #[.slice a n c, .int .i64 0] 60)).alloc (.cells #[.slice none 0 0, .int .i64 0] 60) = v at *
        have u0 := o1.cell 0 rfl; have u1 := o1.cell 1 rfl
        have r0 := o2.cell 0 rfl; have r1 := o2.cell 1 rfl
        have g0 := o2.free 0; have g1 := o2.free 1
        have hrv := ((hr0.out.below h00).below hbw).rd
        obtain ⟨B, off, rfl⟩ : ∃ B off, a = some ⟨B, off, none⟩ := by
          obtain ⟨B, off, e, -⟩ := hrv.at 0 (by omega)
          exact ⟨B, off, e⟩
        have hcutx := hr0.out.rd
        rw [← List.take_append_drop K l, List.map_append] at hcutx
        have hcut := hcutx.cut_if (c := c) K (by rw [List.length_map, List.length_take]; omega) (fun e => by
          have : (l.drop K).length = 0 := by rw [List.length_drop]; omega
          rw [List.length_eq_zero_iff.mp this]; rfl)
        have hKn : (K : Int) ≤ (n : Int) := by omega
        have hdl : (l.drop K).length = n - K := by rw [List.length_drop, hlen]
        clear hcutx
        by_cases hcK : c = K
        · rw [if_pos hcK] at hcut
          subst hcK
          have HC := Lib.hid hcut
          clear hcut
          go_enter Try.func44, Try.ntmps44
          go_wp2_with (go_at_call 52; (with_reducible refine (hG _ hrv).mono ?_); rintro e w1 ⟨rfl, rfl⟩)
          have o9 := (o2.set 0 (.slice (some ⟨B, off, none⟩) 0 0)).set 1 (.int .i64 0)
          have m0 := o9.cell 0 rfl
          have m1 := o9.cell 1 rfl
          have hbf := (hbw.setCell (p := ⟨w.heap.size + 1, 0, none⟩) (by simp) (.slice (some ⟨B, off, none⟩) 0 0)).setCell (p := ⟨w.heap.size + 1, 1, none⟩) (by simp) (.int .i64 0)
          exact bodyPost_ret (v := .tuple #[.agg #[.slice (some ⟨B, off, none⟩) 0 0, .int .i64 0], .int .u64 (V : Int)]) (by simp [results, Try.results44, go_sem, m0, m1]) rfl ⟨(some ⟨B, off, none⟩), 0, 0, by rw [E.out], by rw [E.out]; exact ⟨HC.out, by show (l.drop c).length = 0; omega, by omega, by unfold maxLen; omega, fun h => by cases h⟩, hbf⟩
        · rw [if_neg hcK] at hcut
          have HC := Lib.hid hcut
          clear hcut
          go_enter Try.func44, Try.ntmps44
          go_wp2_with (go_at_call 52; (with_reducible refine (hG _ hrv).mono ?_); rintro e w1 ⟨rfl, rfl⟩)
          have o9 := (o2.set 0 (.slice (some ⟨B, off + K, none⟩) (n - K) (c - K))).set 1 (.int .i64 0)
          have m0 := o9.cell 0 rfl
          have m1 := o9.cell 1 rfl
          have hbf := (hbw.setCell (p := ⟨w.heap.size + 1, 0, none⟩) (by simp) (.slice (some ⟨B, off + K, none⟩) (n - K) (c - K))).setCell (p := ⟨w.heap.size + 1, 1, none⟩) (by simp) (.int .i64 0)
          exact bodyPost_ret (v := .tuple #[.agg #[.slice (some ⟨B, off + K, none⟩) (n - K) (c - K), .int .i64 0], .int .u64 (V : Int)]) (by simp [results, Try.results44, go_sem, m0, m1]) rfl ⟨(some ⟨B, off + K, none⟩), (n - K), (c - K), by rw [E.out], by rw [E.out]; exact ⟨HC.out, by show (l.drop K).length = n - K; omega, by omega, by unfold maxLen; omega, fun h => by cases h⟩, hbf⟩
    · have E : Hid (numR (l, 0) most = ((l, (got l 0 0).2.2), 0)) := by unfold Hid numR; rw [if_neg (by simp), if_pos q1]
      generalize (got l 0 0).1 = V at *
      generalize (got l 0 0).2.1 = K at *
      generalize (got l 0 0).2.2 = R at *
      have q1b : (R == 0) = false := by simp [q1]
      have q1' : (R != 0) = true := by simp [q1]
      generalize hv : (w.alloc (.cells #[.slice a n c, .int .i64 0] 60)).alloc (.cells #[.slice none 0 0, .int .i64 0] 60) = v at *
      have u0 := o1.cell 0 rfl; have u1 := o1.cell 1 rfl
      have r0 := o2.cell 0 rfl; have r1 := o2.cell 1 rfl
      have g0 := o2.free 0; have g1 := o2.free 1
      have hrv := ((hr0.out.below h00).below hbw).rd
      go_enter Try.func44, Try.ntmps44
      go_wp2_with (first
        | (go_at_call 52; (with_reducible refine (hG _ hrv).mono ?_); rintro e w1 ⟨rfl, rfl⟩)
        | (go_at_call 53; (with_reducible refine (hFail _ _).mono ?_); rintro e w2 ⟨rfl, hx⟩; have o2 := o2.below hx o2.lt; have hbw := hbw.trans (hx.mono hbw.size); have r0 := o2.cell 0 rfl; have r1 := o2.cell 1 rfl; have g0 := o2.free 0; have g1 := o2.free 1; clear hx))
      have o9 := (o2.set 0 (.slice a n c)).set 1 (.int .i64 R)
      have m0 := o9.cell 0 rfl
      have m1 := o9.cell 1 rfl
      have hbf := (hbw.setCell (p := ⟨w.heap.size + 1, 0, none⟩) (by simp) (.slice a n c)).setCell (p := ⟨w.heap.size + 1, 1, none⟩) (by simp) (.int .i64 R)
      exact bodyPost_ret (v := .tuple #[.agg #[.slice a n c, .int .i64 R], .int .u64 0]) (by simp [results, Try.results44, go_sem, m0, m1]) rfl ⟨a, n, c, by rw [E.out], by rw [E.out]; exact hr0.out, hbf⟩
  · have E : Hid (numR (l, e0) most = ((l, e0), 0)) := by unfold Hid numR; rw [if_pos q0]
    have q0b : (e0 == 0) = false := by simp [q0]
    have q0' : (e0 != 0) = true := by simp [q0]
    generalize hv : (w.alloc (.cells #[.slice a n c, .int .i64 e0] 60)).alloc (.cells #[.slice none 0 0, .int .i64 0] 60) = v at *
    have u0 := o1.cell 0 rfl; have u1 := o1.cell 1 rfl
    have r0 := o2.cell 0 rfl; have r1 := o2.cell 1 rfl
    have g0 := o2.free 0; have g1 := o2.free 1
    have hrv := ((hr0.out.below h00).below hbw).rd
    go_enter Try.func44, Try.ntmps44
    go_wp2
    have o9 := (o2.set 0 (.slice a n c)).set 1 (.int .i64 e0)
    have m0 := o9.cell 0 rfl
    have m1 := o9.cell 1 rfl
    have hbf := (hbw.setCell (p := ⟨w.heap.size + 1, 0, none⟩) (by simp) (.slice a n c)).setCell (p := ⟨w.heap.size + 1, 1, none⟩) (by simp) (.int .i64 e0)
    exact bodyPost_ret (v := .tuple #[.agg #[.slice a n c, .int .i64 e0], .int .u64 0]) (by simp [results, Try.results44, go_sem, m0, m1]) rfl ⟨a, n, c, by rw [E.out], by rw [E.out]; exact hr0.out, hbf⟩
end Go.Proofs.Ytfdiomghoheljaa
