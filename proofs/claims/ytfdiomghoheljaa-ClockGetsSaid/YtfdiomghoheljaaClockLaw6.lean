/- Layer 19's laws, walked: what any bytes begin with; a nil clock. -/
import Derived.Test.YtfdiomghoheljaaClockLaw
import Derived.Test.YtfdiomghoheljaaClockRead
import Derived.Test.YtfdiomghoheljaaKeeps
import Derived.Deep.RegionHeld3
namespace Go.Proofs.Ytfdiomghoheljaa
open Go.RowKit
set_option linter.unusedVariables false

/-- The stamp that was handed in, what was got, twice, and the two readers. -/
structure StG (w : World) (s t : StampN) (p q1 q2 q3 : Nat) (r : RdN) (a : Option Addr) (n c : Nat) (v : World) : Prop where
  o1 : ObjAt v w.heap.size [.int .i64 s.wall, .int .i64 s.count, .int .i64 s.dev]
  o2 : ObjAt v q1 [.int .i64 t.wall, .int .i64 t.count, .int .i64 t.dev]
  o3 : ObjAt v q2 [.slice a n c, .int .i64 r.2]
  o4 : ObjAt v q3 [.int .i64 t.wall, .int .i64 t.count, .int .i64 t.dev]
  rd : RdX p r v
  hb : Below w.heap.size w v
theorem StG.below {w v v' : World} {s t : StampN} {p q1 q2 q3 : Nat} {r : RdN} {a : Option Addr} {n c : Nat} (h : StG w s t p q1 q2 q3 r a n c v) (hx : Below v.heap.size v v') : StG w s t p q1 q2 q3 r a n c v' :=
  ⟨h.o1.below hx h.o1.lt, h.o2.below hx h.o2.lt, h.o3.below hx h.o3.lt, h.o4.below hx h.o4.lt, h.rd.below hx, h.hb.trans (hx.mono h.hb.size)⟩

set_option maxHeartbeats 8000000 in
set_option maxRecDepth 100000 in
theorem clockGets_walk (a0 : Option Addr) (n0 c0 : Nat) (z0 : List Int) (s : StampN) (w : World) (w0 : IsRow .u8 w a0 n0 c0 z0) (hblk : ∀ x, a0 = some x → x.block < w.heap.size) (hs : FitT s) :
    Calls Try.prog 7 #[.slice a0 n0 c0, valT s] w fun e w' => e = .returned (.bool true) ∧ Below w.heap.size w w' := by
  obtain ⟨ha, hn, h1, h2, hlt⟩ := isRow_reads w0
  have hl := isRow_bytes w0
  have hnil := isRow_nil w0
  generalize z0.take n0 = l at ha hn hl hlt
  have o1 := ObjAt.new w #[.int .i64 s.wall, .int .i64 s.count, .int .i64 s.dev] 29
  have b1 := below_alloc w (.cells #[.int .i64 s.wall, .int .i64 s.count, .int .i64 s.dev] 29)
  by_cases hbig : 500 < n0
  · have hbig' : (500 : Int) < (n0 : Int) := by omega
    unfold valT
    generalize hv1 : w.alloc (.cells #[.int .i64 s.wall, .int .i64 s.count, .int .i64 s.dev] 29) = v1 at *
    go_enter Try.func7, Try.ntmps7
    go_wp2_with (go_at_call 8; (with_reducible refine (awake19C _).mono ?_); rintro e w1 ⟨rfl, hx⟩)
    go_ret
    exact ⟨rfl, b1.trans (hx.mono b1.size)⟩
  · have hbig' : ¬ (500 : Int) < (n0 : Int) := by omega
    have hrv : RvAt w a0 n0 c0 l := ⟨ha, hn, h1, h2, hnil⟩
    have HRD := fun v (h : Reads v a0 (l.map (Value.int .u8))) (hq : w.heap.size ≤ v.heap.size) => readX l a0 n0 c0 v h hn h1 h2 hnil (fun x hx => Nat.lt_of_lt_of_le (hblk x hx) hq)
    have HGA := fun p v h => kGetAny p l 0 v h hl (by omega)
    have HGR := fun v h => refTGetC l 0 a0 n0 c0 w v hrv h hl (by omega)
    have HNT := fun v => kNilTick 1 v
    have HNH := fun v => kNilHear s v hs
    have HNR := fun v => kNilRestore s v hs
    have HNN := fun v => kNilNext v
    have HNP := fun v => kNilPeek v
    have HNL := fun v => kNilLast v
    generalize stampR (l, 0) = RS at *
    obtain ⟨⟨l5, e5⟩, ⟨tA, tB, tC⟩⟩ := RS
    have hE := eqStamp tA tB tC
    have hE0 := eqStamp 0 0 0
    obtain ⟨sA, sB, sC⟩ := s
    unfold RdxGives at HGA
    unfold StampGives at HGR
    unfold valT at *
    dsimp only at *
    generalize hv1 : w.alloc (.cells #[.int .i64 sA, .int .i64 sB, .int .i64 sC] 29) = v1 at *
    have s1 : v1.heap.size = w.heap.size + 1 := by rw [← hv1]; simp
    have hrd0 := Lib.hid (ha.below' b1)
    have hN := Lib.hid hn
    have hB1 := b1
    clear w0 hs hn h1 h2 hlt hnil ha
    go_enter Try.func7, Try.ntmps7
    go_wp2_with (first
      | (go_at_call 19; (with_reducible refine (HRD _ hrd0.out (by omega)).mono ?_); rintro e w2 ⟨rfl, hr2, hx2⟩; rw [s1] at hr2)
      | (go_at_call 24; (with_reducible refine (HGA _ _ hr2).mono ?_); rintro e w3 ⟨rfl, hr3, k3⟩; have o3 := (o1.below hx2 o1.lt).keeps (Keeps.ofKept k3) (fun h => h.elim (fun e => by omega) (at_none _)); have hb3 : Below w.heap.size w w3 := (hB1.trans (hx2.mono hB1.size)).trans ((Keeps.ofKept k3).below (B := w.heap.size) (by have := hx2.size; omega) (fun i _ h => h.elim (fun e => by omega) (fun h => absurd h (at_none _)))); have p3 := below_alloc w3 (.cells #[.int .i64 tA, .int .i64 tB, .int .i64 tC] 29); have hb4 := hb3.trans (p3.mono hb3.size); have o4 := o3.below p3 o3.lt; have ot4 := ObjAt.new w3 #[.int .i64 tA, .int .i64 tB, .int .i64 tC] 29; have hr4 := hr3.below p3)
      | (go_at_call 28; (with_reducible refine (HGR _ hb4).mono ?_); rintro e w5 ⟨a5, n5, c5, rfl, hv5, hx5⟩))
    have p5 := below_alloc w5 (.cells #[.slice a5 n5 c5, .int .i64 e5] 60)
    have p6 := below_alloc (w5.alloc (.cells #[.slice a5 n5 c5, .int .i64 e5] 60)) (.cells #[.int .i64 tA, .int .i64 tB, .int .i64 tC] 29)
    have ox := ObjAt.new w5 #[.slice a5 n5 c5, .int .i64 e5] 60
    have oy := ObjAt.new (w5.alloc (.cells #[.slice a5 n5 c5, .int .i64 e5] 60)) #[.int .i64 tA, .int .i64 tB, .int .i64 tC] 29
    rw [World.size_alloc] at oy
    have ox := ox.below p6 ox.lt
    have p7 := (hx5.trans (p5.mono hx5.size)).trans (p6.mono (hx5.trans (p5.mono hx5.size)).size)
    have hS6 : StG w ⟨sA, sB, sC⟩ ⟨tA, tB, tC⟩ (w.heap.size + 1) w3.heap.size w5.heap.size (w5.heap.size + 1) (l5, e5) a5 n5 c5 ((w5.alloc (.cells #[.slice a5 n5 c5, .int .i64 e5] 60)).alloc (.cells #[.int .i64 tA, .int .i64 tB, .int .i64 tC] 29)) :=
      ⟨o4.below p7 o4.lt, ot4.below p7 ot4.lt, ox, oy, hr4.below p7, hb4.trans (p7.mono hb4.size)⟩
    generalize hv6 : (w5.alloc (.cells #[.slice a5 n5 c5, .int .i64 e5] 60)).alloc (.cells #[.int .i64 tA, .int .i64 tB, .int .i64 tC] 29) = v6 at *
    have HERR := fun p v h => xErrC p (l5, e5) v h
    have HLEFT := fun p v h => xLeftC p (l5, e5) n5 v h hv5.len
    have hee : (e5 != e5) = false := by simp
    have hnn : ((n5 : Int) != (n5 : Int)) = false := by simp
    have u0 := hS6.o2.cell 0 rfl; have u1 := hS6.o2.cell 1 rfl; have u2 := hS6.o2.cell 2 rfl
    have u3 := hS6.o3.cell 0 rfl; have u4 := hS6.o3.cell 1 rfl
    have u5 := hS6.o4.cell 0 rfl; have u6 := hS6.o4.cell 1 rfl; have u7 := hS6.o4.cell 2 rfl
    by_cases q5 : e5 = 0
    all_goals
      first
        | (have q5b : (e5 == 0) = true := by simp [q5])
        | (have q5b : (e5 == 0) = false := by simp [q5])
      go_quiet ((first
        | (go_at_call 29; exact Calls.quiet_of_same ((HERR _ _ (hS6.rd.drewN _)).mono fun e w' h => ⟨h.1, h.2.symm⟩))
        | (go_at_call 30; exact Calls.quiet_of_same ((HLEFT _ _ (hS6.rd.drewN _)).mono fun e w' h => ⟨h.1, h.2.symm⟩))))
      have hS7 := hS6.below (⟨rfl, rfl, rfl, Nat.le_refl _, fun _ _ => rfl⟩ : Below v6.heap.size v6 (v6.drewN nq))
      generalize hv7 : v6.drewN nq = v7 at *
      clear u0 u1 u2 u3 u4 u5 u6 u7 hS6 HERR HLEFT HGA HGR HRD hv6 hv7
      go_wp2_with (first
        | (go_at_call 14; (with_reducible refine (HNN _).mono ?_); rintro e w8 ⟨rfl, hx⟩; have hS8 := hS7.below hx; have y8 := below_alloc w8 (.cells #[.int .i64 0, .int .i64 0, .int .i64 0] 29); have onA := ObjAt.new w8 #[.int .i64 0, .int .i64 0, .int .i64 0] 29; have hS8 := hS8.below y8; clear hx y8)
        | (go_at_call 31; (with_reducible refine (HNP _).mono ?_); rintro e w9 ⟨rfl, hx⟩; have hS9 := hS8.below hx; have onA := onA.below hx onA.lt; have y9 := below_alloc w9 (.cells #[.int .i64 0, .int .i64 0, .int .i64 0] 29); have onB := ObjAt.new w9 #[.int .i64 0, .int .i64 0, .int .i64 0] 29; have hSe := hS9.below y9; have onA := onA.below y9 onA.lt; have f0 := onA.cell 0 rfl; have f1 := onA.cell 1 rfl; have f2 := onA.cell 2 rfl; have f3 := onB.cell 0 rfl; have f4 := onB.cell 1 rfl; have f5 := onB.cell 2 rfl; clear hx y9)
        | (go_at_call 13; (with_reducible refine (HNT _).mono ?_); rintro e w10 ⟨rfl, hx⟩; have hSe := hSe.below hx; have u0 := hSe.o1.cell 0 rfl; have u1 := hSe.o1.cell 1 rfl; have u2 := hSe.o1.cell 2 rfl; clear hx)
        | (go_at_call 16; (with_reducible refine (HNH _).mono ?_); rintro e w11 ⟨rfl, hx⟩; have hSe := hSe.below hx; have u0 := hSe.o1.cell 0 rfl; have u1 := hSe.o1.cell 1 rfl; have u2 := hSe.o1.cell 2 rfl; clear hx)
        | (go_at_call 17; (with_reducible refine (HNR _).mono ?_); rintro e w12 ⟨rfl, hx⟩; have hSe := hSe.below hx; have u0 := hSe.o1.cell 0 rfl; have u1 := hSe.o1.cell 1 rfl; have u2 := hSe.o1.cell 2 rfl; clear hx)
        | (go_at_call 11; (with_reducible refine (kNilWall _).mono ?_); rintro e w13 ⟨rfl, hx⟩; have hSe := hSe.below hx; have u0 := hSe.o1.cell 0 rfl; have u1 := hSe.o1.cell 1 rfl; have u2 := hSe.o1.cell 2 rfl; clear hx)
        | (go_at_call 12; (with_reducible refine (HNL _).mono ?_); rintro e w14 ⟨rfl, hx⟩; have hSe := hSe.below hx; have u0 := hSe.o1.cell 0 rfl; have u1 := hSe.o1.cell 1 rfl; have u2 := hSe.o1.cell 2 rfl; clear hx)
        | (go_at_call 8; (with_reducible refine (awake19C _).mono ?_); rintro e w15 ⟨rfl, hx⟩; have hSe := hSe.below hx; clear hx))
      go_ret
      exact ⟨rfl, hSe.hb⟩
end Go.Proofs.Ytfdiomghoheljaa
