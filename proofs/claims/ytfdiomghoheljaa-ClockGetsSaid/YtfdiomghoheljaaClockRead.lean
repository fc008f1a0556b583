/- Layer 19: the reference's reading of a stamp from any bytes. -/
import Derived.Test.YtfdiomghoheljaaReadRef
import Derived.Test.YtfdiomghoheljaaClockRef
namespace Go.Proofs.Ytfdiomghoheljaa
open Go.RowKit
set_option linter.unusedVariables false

def StampGives (r : RdN) (s : StampN) (w0 w : World) (e : Ending) (w' : World) : Prop :=
  ∃ a n c, e = .returned (.tuple #[.agg #[.slice a n c, .int .i64 r.2], .agg #[.int .i64 s.wall, .int .i64 s.count, .int .i64 s.dev]]) ∧ RvAt w0 a n c r.1 ∧ Below w.heap.size w w'

set_option maxHeartbeats 2000000 in
set_option maxRecDepth 100000 in
theorem refTGetC (l : List Int) (e0 : Int) (a : Option Addr) (n c : Nat) (w0 w : World) (h : RvAt w0 a n c l) (h00 : Below w0.heap.size w0 w) (hb : IsBytes l) (h9 : n ≤ 1000000) :
    Calls Try.prog 28 #[.agg #[.slice a n c, .int .i64 e0]] w (StampGives (stampR (l, e0)).1 (stampR (l, e0)).2 w0 w) := by
  have hx1 := numR_bytes (r := (l, e0)) (most := 4398046511104) hb
  have hl1 := numR_len (l, e0) 4398046511104
  have hr1 := numR_range (r := (l, e0)) (most := 4398046511104) hb (by decide)
  have H1 := fun a n c w h h2 h9 => refReadNumC l e0 a n c 4398046511104 w0 w h h2 hb (by decide) h9
  unfold stampR
  generalize numR (l, e0) 4398046511104 = R1 at *
  obtain ⟨⟨l1, e1⟩, n1⟩ := R1
  simp only at hx1 hl1 hr1 H1 ⊢
  have hx2 := numR_bytes (r := (l1, e1)) (most := 65535) hx1
  have hl2 := numR_len (l1, e1) 65535
  have hr2 := numR_range (r := (l1, e1)) (most := 65535) hx1 (by decide)
  have H2 := fun a n c w h h2 h9 => refReadNumC l1 e1 a n c 65535 w0 w h h2 hx1 (by decide) h9
  generalize numR (l1, e1) 65535 = R2 at *
  obtain ⟨⟨l2, e2⟩, n2⟩ := R2
  simp only at hx2 hl2 hr2 H2 ⊢
  have hl3 := numR_len (l2, e2) 63
  have hr3 := numR_range (r := (l2, e2)) (most := 63) hx2 (by decide)
  have H3 := fun a n c w h h2 h9 => refReadNumC l2 e2 a n c 63 w0 w h h2 hx2 (by decide) h9
  generalize numR (l2, e2) 63 = R3 at *
  obtain ⟨⟨l3, e3⟩, n3⟩ := R3
  simp only at hl3 hr3 H3 ⊢
  unfold RvGives at H1 H2 H3
  simp only at H1 H2 H3
  have hlen := h.len
  have b1 := below_alloc w (.cells #[.slice a n c, .int .i64 e0] 60)
  have o1 := ObjAt.new w #[.slice a n c, .int .i64 e0] 60
  generalize hv1 : w.alloc (.cells #[.slice a n c, .int .i64 e0] 60) = v1 at *
  have b2 := below_alloc v1 (.cells #[.slice none 0 0, .int .i64 0] 60)
  have o2 := ObjAt.new v1 #[.slice none 0 0, .int .i64 0] 60
  generalize hv2 : v1.alloc (.cells #[.slice none 0 0, .int .i64 0] 60) = v2 at *
  have b3 := below_alloc v2 (.cells #[.int .i64 0, .int .i64 0, .int .i64 0] 29)
  have o3 := ObjAt.new v2 #[.int .i64 0, .int .i64 0, .int .i64 0] 29
  generalize hv3 : v2.alloc (.cells #[.int .i64 0, .int .i64 0, .int .i64 0] 29) = v3 at *
  have o1 := o1.below (b2.trans (b3.mono b2.size)) o1.lt
  have o2 := o2.below b3 o2.lt
  have hb3 := (b1.trans (b2.mono b1.size)).trans (b3.mono (b1.trans (b2.mono b1.size)).size)
  have s1 : v1.heap.size = w.heap.size + 1 := by rw [← hv1]; simp
  have s2 : v2.heap.size = w.heap.size + 2 := by rw [← hv2, World.size_alloc, s1]
  rw [s1] at o2
  rw [s2] at o3
  clear b1 b2 b3
  have g1 := o2.free 0; have g2 := o2.free 1; have g3 := o3.free 0; have g4 := o3.free 1; have g5 := o3.free 2
  have u0 := o1.cell 0 rfl; have u1 := o1.cell 1 rfl
  have hr0 := Lib.hid h
  have h03 := h00.trans (hb3.mono h00.size)
  clear h
  by_cases q3 : e3 = 0
  · obtain rfl : e3 = 0 := q3
    rw [if_neg (by simp)]
    have w1' : IntKind.i64.wrap n1 = n1 := by rw [IntKind.wrap_i64]; omega
    have w2' : IntKind.i64.wrap n2 = n2 := by rw [IntKind.wrap_i64]; omega
    have w3' : IntKind.i64.wrap n3 = n3 := by rw [IntKind.wrap_i64]; omega
    go_enter Try.func28, Try.ntmps28
    go_wp2_with (first
        | (go_at_call 44; (with_reducible refine (H1 _ _ _ _ hr0.out h03 (by omega)).mono ?_); rintro e w1 ⟨a1, m1, c1, rfl, hy1, hx1⟩; have p1 := below_alloc w1 (.cells #[.slice a1 m1 c1, .int .i64 e1] 60); have hz1 := Lib.hid hy1; have hn1 := hy1.len; have hb9 := hx1.trans (p1.mono hx1.size))
        | (go_at_call 44; (with_reducible refine (H2 _ _ _ _ hz1.out (h03.trans (hb9.mono h03.size)) (by omega)).mono ?_); rintro e w2 ⟨a2, m2, c2, rfl, hy2, hx2⟩; have p2 := below_alloc w2 (.cells #[.slice a2 m2 c2, .int .i64 e2] 60); have hz2 := Lib.hid hy2; have hn2 := hy2.len; have hb9 := hb9.trans (hx2.mono hb9.size); have hb9 := hb9.trans (p2.mono hb9.size))
        | (go_at_call 44; (with_reducible refine (H3 _ _ _ _ hz2.out (h03.trans (hb9.mono h03.size)) (by omega)).mono ?_); rintro e w3 ⟨a3, m3, c3, rfl, hy3, hx3⟩; have p3 := below_alloc w3 (.cells #[.slice a3 m3 c3, .int .i64 0] 60); have hz3 := Lib.hid hy3; have hn3 := hy3.len; have hb9 := hb9.trans (hx3.mono hb9.size); have hb9 := hb9.trans (p3.mono hb9.size); have o2 := o2.below hb9 o2.lt; have o3 := o3.below hb9 o3.lt; have r0 := o2.cell 0 rfl; have r1 := o2.cell 1 rfl; have r2 := o3.cell 0 rfl; have r3 := o3.cell 1 rfl; have r4 := o3.cell 2 rfl; have g1 := o2.free 0; have g2 := o2.free 1; have g3 := o3.free 0; have g4 := o3.free 1; have g5 := o3.free 2))
    have hbq := hb3.trans (hb9.mono hb3.size)
    have o8 := (o2.set 0 (.slice a3 m3 c3)).set 1 (.int .i64 0)
    have hs0 := (hbq.setCell (p := ⟨w.heap.size + 1, 0, none⟩) (by simp) (.slice a3 m3 c3)).setCell (p := ⟨w.heap.size + 1, 1, none⟩) (by simp) (.int .i64 0)
    have o3 := (o3.other (p := ⟨w.heap.size + 1, 0, none⟩) (by simp) (.slice a3 m3 c3)).other (p := ⟨w.heap.size + 1, 1, none⟩) (by simp) (.int .i64 0)
    have o9 := ((o3.set 0 (.int .i64 n1)).set 1 (.int .i64 n2)).set 2 (.int .i64 n3)
    have m0 := o9.cell 0 rfl
    have m1' := o9.cell 1 rfl
    have m2' := o9.cell 2 rfl
    have hs := ((hs0.setCell (p := ⟨w.heap.size + 2, 0, none⟩) (by simp) (.int .i64 n1)).setCell (p := ⟨w.heap.size + 2, 1, none⟩) (by simp) (.int .i64 n2)).setCell (p := ⟨w.heap.size + 2, 2, none⟩) (by simp) (.int .i64 n3)
    have o8 := ((o8.other (p := ⟨w.heap.size + 2, 0, none⟩) (by simp) (.int .i64 n1)).other (p := ⟨w.heap.size + 2, 1, none⟩) (by simp) (.int .i64 n2)).other (p := ⟨w.heap.size + 2, 2, none⟩) (by simp) (.int .i64 n3)
    have k0 := o8.cell 0 rfl
    have k1 := o8.cell 1 rfl
    exact bodyPost_ret (v := .tuple #[.agg #[.slice a3 m3 c3, .int .i64 0], .agg #[.int .i64 n1, .int .i64 n2, .int .i64 n3]]) (by simp [results, Try.results28, go_sem, k0, k1, m0, m1', m2']) rfl ⟨a3, m3, c3, rfl, hy3, hs⟩
  · have q3b : (e3 != 0) = true := by simp [q3]
    rw [if_pos q3]
    go_enter Try.func28, Try.ntmps28
    go_wp2_with (first
        | (go_at_call 44; (with_reducible refine (H1 _ _ _ _ hr0.out h03 (by omega)).mono ?_); rintro e w1 ⟨a1, m1, c1, rfl, hy1, hx1⟩; have p1 := below_alloc w1 (.cells #[.slice a1 m1 c1, .int .i64 e1] 60); have hz1 := Lib.hid hy1; have hn1 := hy1.len; have hb9 := hx1.trans (p1.mono hx1.size))
        | (go_at_call 44; (with_reducible refine (H2 _ _ _ _ hz1.out (h03.trans (hb9.mono h03.size)) (by omega)).mono ?_); rintro e w2 ⟨a2, m2, c2, rfl, hy2, hx2⟩; have p2 := below_alloc w2 (.cells #[.slice a2 m2 c2, .int .i64 e2] 60); have hz2 := Lib.hid hy2; have hn2 := hy2.len; have hb9 := hb9.trans (hx2.mono hb9.size); have hb9 := hb9.trans (p2.mono hb9.size))
        | (go_at_call 44; (with_reducible refine (H3 _ _ _ _ hz2.out (h03.trans (hb9.mono h03.size)) (by omega)).mono ?_); rintro e w3 ⟨a3, m3, c3, rfl, hy3, hx3⟩; have p3 := below_alloc w3 (.cells #[.slice a3 m3 c3, .int .i64 e3] 60); have hz3 := Lib.hid hy3; have hn3 := hy3.len; have hb9 := hb9.trans (hx3.mono hb9.size); have hb9 := hb9.trans (p3.mono hb9.size); have o2 := o2.below hb9 o2.lt; have o3 := o3.below hb9 o3.lt; have r0 := o2.cell 0 rfl; have r1 := o2.cell 1 rfl; have r2 := o3.cell 0 rfl; have r3 := o3.cell 1 rfl; have r4 := o3.cell 2 rfl; have g1 := o2.free 0; have g2 := o2.free 1; have g3 := o3.free 0; have g4 := o3.free 1; have g5 := o3.free 2))
    have hbq := hb3.trans (hb9.mono hb3.size)
    have o8 := (o2.set 0 (.slice a3 m3 c3)).set 1 (.int .i64 e3)
    have hs0 := (hbq.setCell (p := ⟨w.heap.size + 1, 0, none⟩) (by simp) (.slice a3 m3 c3)).setCell (p := ⟨w.heap.size + 1, 1, none⟩) (by simp) (.int .i64 e3)
    have o3 := (o3.other (p := ⟨w.heap.size + 1, 0, none⟩) (by simp) (.slice a3 m3 c3)).other (p := ⟨w.heap.size + 1, 1, none⟩) (by simp) (.int .i64 e3)
    have o9 := ((o3.set 0 (.int .i64 0)).set 1 (.int .i64 0)).set 2 (.int .i64 0)
    have m0 := o9.cell 0 rfl
    have m1' := o9.cell 1 rfl
    have m2' := o9.cell 2 rfl
    have hs := ((hs0.setCell (p := ⟨w.heap.size + 2, 0, none⟩) (by simp) (.int .i64 0)).setCell (p := ⟨w.heap.size + 2, 1, none⟩) (by simp) (.int .i64 0)).setCell (p := ⟨w.heap.size + 2, 2, none⟩) (by simp) (.int .i64 0)
    have o8 := ((o8.other (p := ⟨w.heap.size + 2, 0, none⟩) (by simp) (.int .i64 0)).other (p := ⟨w.heap.size + 2, 1, none⟩) (by simp) (.int .i64 0)).other (p := ⟨w.heap.size + 2, 2, none⟩) (by simp) (.int .i64 0)
    have k0 := o8.cell 0 rfl
    have k1 := o8.cell 1 rfl
    exact bodyPost_ret (v := .tuple #[.agg #[.slice a3 m3 c3, .int .i64 e3], .agg #[.int .i64 0, .int .i64 0, .int .i64 0]]) (by simp [results, Try.results28, go_sem, k0, k1, m0, m1', m2']) rfl ⟨a3, m3, c3, rfl, hy3, hs⟩
end Go.Proofs.Ytfdiomghoheljaa
