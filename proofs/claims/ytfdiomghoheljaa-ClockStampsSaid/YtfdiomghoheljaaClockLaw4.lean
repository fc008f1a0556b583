/- Layer 19's laws, walked: stamps, packed and got. -/
import Derived.Test.YtfdiomghoheljaaClockLaw
import Derived.Test.YtfdiomghoheljaaClockRef3
import Derived.Test.YtfdiomghoheljaaPackLaw
import Derived.Deep.RegionHeld3
namespace Go.Proofs.Ytfdiomghoheljaa
open Go.RowKit
set_option linter.unusedVariables false

/-- Two stamps, a writer, and what was told of it. -/
structure StP2 (w : World) (s t : StampN) (q : Nat) (a : Option Addr) (B : List Int) (v : World) : Prop where
  o1 : ObjAt v w.heap.size [.int .i64 s.wall, .int .i64 s.count, .int .i64 s.dev]
  o2 : ObjAt v (w.heap.size + 1) [.int .i64 t.wall, .int .i64 t.count, .int .i64 t.dev]
  wr : Wr 5 q q a B v
  hb : Below w.heap.size w v
theorem StP2.below {w v v' : World} {s t : StampN} {q : Nat} {a : Option Addr} {B : List Int} (h : StP2 w s t q a B v) (hx : Below v.heap.size v v') : StP2 w s t q a B v' :=
  ⟨h.o1.below hx h.o1.lt, h.o2.below hx h.o2.lt, h.wr.below hx, h.hb.trans (hx.mono h.hb.size)⟩

theorem bytesT_bytes (s : StampN) : IsBytes (bytesT s) := by
  unfold bytesT
  intro x hx
  rw [List.mem_append, List.mem_append] at hx
  rcases hx with h | h | h
  · exact short_bytes _ x h
  · exact short_bytes _ x h
  · exact short_bytes _ x h

set_option maxHeartbeats 8000000 in
set_option maxRecDepth 100000 in
theorem clockStamps_walk (s t : StampN) (w : World) (hs : FitT s) (ht : FitT t) :
    Calls Try.prog 6 #[valT s, valT t] w fun e w' => e = .returned (.bool true) ∧ Below w.heap.size w w' := by
  obtain ⟨o1, o2, o3, hb⟩ := objs3 w #[.int .i64 s.wall, .int .i64 s.count, .int .i64 s.dev] #[.int .i64 t.wall, .int .i64 t.count, .int .i64 t.dev] #[.slice none 0 0] 29 29 49
  have hw := wr_new ((w.alloc (.cells #[.int .i64 s.wall, .int .i64 s.count, .int .i64 s.dev] 29)).alloc (.cells #[.int .i64 t.wall, .int .i64 t.count, .int .i64 t.dev] 29)) 5 49
  rw [World.size_alloc, World.size_alloc] at hw
  have hS0 : StP2 w s t (w.heap.size + 1 + 1) none [] (((w.alloc (.cells #[.int .i64 s.wall, .int .i64 s.count, .int .i64 s.dev] 29)).alloc (.cells #[.int .i64 t.wall, .int .i64 t.count, .int .i64 t.dev] 29)).alloc (.cells #[.slice none 0 0] 49)) := ⟨o1, o2, hw, hb⟩
  have hq0 : w.heap.size + 1 + 1 ≤ (((w.alloc (.cells #[.int .i64 s.wall, .int .i64 s.count, .int .i64 s.dev] 29)).alloc (.cells #[.int .i64 t.wall, .int .i64 t.count, .int .i64 t.dev] 29)).alloc (.cells #[.slice none 0 0] 49)).heap.size := by simp
  clear o1 o2 o3 hb hw
  have HR := fun v => kRightC s v hs
  have HR2 := fun v => refTRightC s v
  have HL := fun v => kLessC s t v hs ht
  have HL2 := fun v => refTLessC s t v
  generalize lessT s t = lt at *
  have g2 : (lt != lt) = false := by cases lt <;> rfl
  have u0 := hS0.o1.cell 0 rfl; have u1 := hS0.o1.cell 1 rfl; have u2 := hS0.o1.cell 2 rfl
  by_cases hr : rightT s = true
  · rw [hr] at HR HR2
    have HP := fun v h hbb => kPutYes (w.heap.size + 1 + 1) (w.heap.size + 1 + 1) none [] s v h (by simp) hbb hr
    have hBl := bytesT_len hr
    have hBb := bytesT_bytes s
    have HG := fun p l v h hl hb => kGetYes p s [] l v h hl hb hr
    have HPR := fun n v h => refTPutC s n v hr h
    rw [List.nil_append] at HP
    unfold PutGives at HP
    unfold RdGives at HG
    unfold GivesOwned at HPR
    obtain ⟨a, b, d⟩ := s
    obtain ⟨f, g, h⟩ := t
    generalize bytesT ⟨a, b, d⟩ = B at *
    obtain ⟨NB, hNB⟩ : ∃ N, B.length = N := ⟨_, rfl⟩
    rw [hNB] at hBl
    have HPR := fun v => HPR NB v hNB
    have HBY := fun base p a v hw => wBytesC base p a B NB v hw hNB (by omega)
    have HSAME := fun a b c d v ha hb => sameO B NB hNB a b c d v ha hb (by unfold maxLen; omega)
    have HREAD := fun a c v ha hc hm h0 hlt => readC B a NB c v ha hNB hc hm h0 hlt
    have HEND := fun rp v (h : Rd rp [] v) => rEndC rp v h
    have hE := eqStamp a b d
    unfold GivesOwned at HBY
    unfold valT at *
    dsimp only at *
    have HNB := Lib.hid hNB
    clear hNB hs ht hr
    go_enter Try.func6, Try.ntmps6
    go_wp2_with (first
      | (go_at_call 18; (with_reducible refine (HP _ hS0.wr hq0).mono ?_); rintro e w1 ⟨rfl, a1, hw1, k1, n1⟩; have K1 := Keeps.ofKept k1; have hS1 : StP2 w ⟨a, b, d⟩ ⟨f, g, h⟩ (w.heap.size + 1 + 1) a1 B w1 := ⟨hS0.o1.keeps K1 (fun h => h.elim (fun e => by omega) (at_none _)), hS0.o2.keeps K1 (fun h => h.elim (fun e => by omega) (at_none _)), hw1, hS0.hb.trans (K1.below (B := w.heap.size) hS0.hb.size (fun i _ h => h.elim (fun e => by omega) (fun h => absurd h (at_none _))))⟩; clear u0 u1 u2 K1 k1 n1 hw1 HP)
      | (go_at_call 20; (with_reducible refine (HBY _ _ _ _ hS1.wr).mono ?_); rintro e w2 ⟨a2, c2, rfl, ho2, hx2⟩; have hS2 := hS1.below hx2)
      | (go_at_call 19; (with_reducible refine (HREAD _ _ _ ho2.reads ho2.le ho2.capm ho2.nil0 (fun x hx => (ho2.lt' x hx).2)).mono ?_); rintro e w3 ⟨rfl, hrd3, hx3⟩; have hS3 := hS2.below hx3))
    have hSd := hS3.below ((Below.refl w3.heap.size w3).drew)
    have hrd := hrd3.below ((Below.refl w3.heap.size w3).drew)
    go_region_held3 (fun w' => w'.cell? ⟨w.heap.size, 0, none⟩ = some (.int .i64 a) ∧ w'.cell? ⟨w.heap.size, 1, none⟩ = some (.int .i64 b) ∧ w'.cell? ⟨w.heap.size, 2, none⟩ = some (.int .i64 d) ∧ w'.cell? ⟨w.heap.size + 1, 0, none⟩ = some (.int .i64 f) ∧ w'.cell? ⟨w.heap.size + 1, 1, none⟩ = some (.int .i64 g) ∧ w'.cell? ⟨w.heap.size + 1, 2, none⟩ = some (.int .i64 h))
      (first | exact ⟨hSd.o1.cell 0 rfl, hSd.o1.cell 1 rfl, hSd.o1.cell 2 rfl, hSd.o2.cell 0 rfl, hSd.o2.cell 1 rfl, hSd.o2.cell 2 rfl⟩)
      (first
        | (go_at_call 21; (with_reducible refine (HR _).mono ?_); rintro e w4 ⟨rfl, hx⟩; have hSd := hSd.below hx; have hrd := hrd.below hx; clear hx)
        | (go_at_call 22; (with_reducible refine (HR2 _).mono ?_); rintro e w4 ⟨rfl, hx⟩; have hSd := hSd.below hx; have hrd := hrd.below hx; clear hx)
        | (go_at_call 23; (with_reducible refine (HL _).mono ?_); rintro e w4 ⟨rfl, hx⟩; have hSd := hSd.below hx; have hrd := hrd.below hx; clear hx)
        | (go_at_call 15; (with_reducible refine (HL2 _).mono ?_); rintro e w4 ⟨rfl, hx⟩; have hSd := hSd.below hx; have hrd := hrd.below hx; clear hx))
    all_goals (
      have u0 := hSd.o1.cell 0 rfl; have u1 := hSd.o1.cell 1 rfl; have u2 := hSd.o1.cell 2 rfl
      go_wp2_with (first
        | (go_at_call 22; (with_reducible refine (HR2 _).mono ?_); rintro e w5 ⟨rfl, hx⟩; have hS5 := hSd.below hx; have hrd5 := hrd.below hx; clear hx)
        | (go_at_call 24; (with_reducible refine (HG _ _ _ hrd5 (by rw [List.append_nil]) hBb).mono ?_); rintro e w6 ⟨rfl, hrd6, k6⟩; have K6 := Keeps.ofKept k6; have hS6 : StP2 w ⟨a, b, d⟩ ⟨f, g, h⟩ (w.heap.size + 1 + 1) a1 B w6 := ⟨hS5.o1.keeps K6 (fun h => h.elim (fun e => by have := hS2.o1.lt; omega) (at_none _)), hS5.o2.keeps K6 (fun h => h.elim (fun e => by have := hS2.o2.lt; omega) (at_none _)), hS5.wr.kept k6 (by have := hS2.wr.lt; omega) (Apart.none _) (fun x hx => ⟨by have := (hS2.wr.row x hx).2.1; omega, Apart.none _⟩), hS5.hb.trans (K6.below (B := w.heap.size) hS5.hb.size (fun i _ h => h.elim (fun e => by have := hS2.hb.size; omega) (fun h => absurd h (at_none _))))⟩; have y6 := below_alloc w6 (.cells #[.int .i64 a, .int .i64 b, .int .i64 d] 29); have ox := ObjAt.new w6 #[.int .i64 a, .int .i64 b, .int .i64 d] 29; have hS6 := hS6.below y6; have hrd6 := hrd6.below y6; generalize hv6 : w6.alloc (.cells #[.int .i64 a, .int .i64 b, .int .i64 d] 29) = v6 at *; clear K6 k6 y6))
      have hSe := hS6.below ((Below.refl v6.heap.size v6).drew)
      have hre := hrd6.below ((Below.refl v6.heap.size v6).drew)
      have oxe := ox.drew
      go_region_held3 (fun w' => w'.cell? ⟨w.heap.size, 0, none⟩ = some (.int .i64 a) ∧ w'.cell? ⟨w.heap.size, 1, none⟩ = some (.int .i64 b) ∧ w'.cell? ⟨w.heap.size, 2, none⟩ = some (.int .i64 d) ∧ w'.cell? ⟨w6.heap.size, 0, none⟩ = some (.int .i64 a) ∧ w'.cell? ⟨w6.heap.size, 1, none⟩ = some (.int .i64 b) ∧ w'.cell? ⟨w6.heap.size, 2, none⟩ = some (.int .i64 d))
        (first | exact ⟨hSe.o1.cell 0 rfl, hSe.o1.cell 1 rfl, hSe.o1.cell 2 rfl, oxe.cell 0 rfl, oxe.cell 1 rfl, oxe.cell 2 rfl⟩)
        (first
          | (go_at_call 20; (with_reducible refine (HBY _ _ _ _ hSe.wr).mono ?_); rintro e w8 ⟨a8, c8, rfl, ho8, hx⟩; have hSe := hSe.below hx; have hre := hre.below hx; have oxe := oxe.below hx oxe.lt; have hr8 := ho8.reads; try have hr9 := hr9.below' hx; clear hx ho8)
          | (go_at_call 26; (with_reducible refine (HPR _).mono ?_); rintro e w9 ⟨a9, c9, rfl, ho9, hx⟩; have hSe := hSe.below hx; have hre := hre.below hx; have oxe := oxe.below hx oxe.lt; have hr9 := ho9.reads; try have hr8 := hr8.below' hx; clear hx ho9)
          | (go_at_call 25; (with_reducible refine (HSAME _ _ _ _ _ hr8 hr9).mono ?_); rintro e w10 ⟨rfl, q10, rfl⟩; have hSe := hSe.below (draws_belowN _ q10); have hre := hre.drewN q10; have oxe := oxe.drewN q10)
          | (go_at_call 27; (with_reducible refine (HEND _ _ hre).mono ?_); rintro e w11 ⟨rfl, rfl⟩; skip)
          | (go_at_call 8; (with_reducible refine (awake19C _).mono ?_); rintro e w12 ⟨rfl, hx⟩; have hSe := hSe.below hx; have oxe := oxe.below hx oxe.lt; clear hx))
      all_goals (
        go_wp2
        go_ret
        exact ⟨rfl, hSe.hb⟩))
  · have hr' : rightT s = false := by simpa using hr
    rw [hr'] at HR HR2
    have HP := fun q v h => kPutNo q q none [] s v h hs hr
    have HBY := fun base p v hw => wBytesC base p none [] 0 v hw rfl (by decide)
    have HREAD := fun a c v ha hc hm h0 hlt => readC [] a 0 c v ha rfl hc hm h0 hlt
    obtain ⟨a, b, d⟩ := s
    obtain ⟨f, g, h⟩ := t
    unfold GivesOwned at HBY
    unfold valT at *
    dsimp only at *
    clear hs ht hr hr'
    go_enter Try.func6, Try.ntmps6
    go_wp2_with (first
      | (go_at_call 18; (with_reducible refine (HP _ _ hS0.wr).mono ?_); rintro e w1 ⟨rfl, hx1⟩; have hS1 := hS0.below hx1; clear u0 u1 u2 HP)
      | (go_at_call 20; (with_reducible refine (HBY _ _ _ hS1.wr).mono ?_); rintro e w2 ⟨a2, c2, rfl, ho2, hx2⟩; have hS2 := hS1.below hx2)
      | (go_at_call 19; (with_reducible refine (HREAD _ _ _ ho2.reads ho2.le ho2.capm ho2.nil0 (fun x hx => (ho2.lt' x hx).2)).mono ?_); rintro e w3 ⟨rfl, hrd3, hx3⟩; have hS3 := hS2.below hx3))
    have hSd := hS3.below ((Below.refl w3.heap.size w3).drew)
    have hrd := hrd3.below ((Below.refl w3.heap.size w3).drew)
    go_region_held3 (fun w' => w'.cell? ⟨w.heap.size, 0, none⟩ = some (.int .i64 a) ∧ w'.cell? ⟨w.heap.size, 1, none⟩ = some (.int .i64 b) ∧ w'.cell? ⟨w.heap.size, 2, none⟩ = some (.int .i64 d) ∧ w'.cell? ⟨w.heap.size + 1, 0, none⟩ = some (.int .i64 f) ∧ w'.cell? ⟨w.heap.size + 1, 1, none⟩ = some (.int .i64 g) ∧ w'.cell? ⟨w.heap.size + 1, 2, none⟩ = some (.int .i64 h))
      (first | exact ⟨hSd.o1.cell 0 rfl, hSd.o1.cell 1 rfl, hSd.o1.cell 2 rfl, hSd.o2.cell 0 rfl, hSd.o2.cell 1 rfl, hSd.o2.cell 2 rfl⟩)
      (first
        | (go_at_call 21; (with_reducible refine (HR _).mono ?_); rintro e w4 ⟨rfl, hx⟩; have hSd := hSd.below hx; have hrd := hrd.below hx; clear hx)
        | (go_at_call 22; (with_reducible refine (HR2 _).mono ?_); rintro e w4 ⟨rfl, hx⟩; have hSd := hSd.below hx; have hrd := hrd.below hx; clear hx)
        | (go_at_call 23; (with_reducible refine (HL _).mono ?_); rintro e w4 ⟨rfl, hx⟩; have hSd := hSd.below hx; have hrd := hrd.below hx; clear hx)
        | (go_at_call 15; (with_reducible refine (HL2 _).mono ?_); rintro e w4 ⟨rfl, hx⟩; have hSd := hSd.below hx; have hrd := hrd.below hx; clear hx))
    all_goals (
      have u0 := hSd.o1.cell 0 rfl; have u1 := hSd.o1.cell 1 rfl; have u2 := hSd.o1.cell 2 rfl
      go_wp2_with (first
        | (go_at_call 22; (with_reducible refine (HR2 _).mono ?_); rintro e w5 ⟨rfl, hx⟩; have hS5 := hSd.below hx; clear hx)
        | (go_at_call 20; (with_reducible refine (HBY _ _ _ hS5.wr).mono ?_); rintro e w6 ⟨a6, c6, rfl, ho6, hx⟩; have hS6 := hS5.below hx; clear hx)
        | (go_at_call 8; (with_reducible refine (awake19C _).mono ?_); rintro e w7 ⟨rfl, hx⟩; have hb7 := hS6.hb.trans (hx.mono hS6.hb.size)))
      go_ret
      exact ⟨rfl, hb7⟩)
end Go.Proofs.Ytfdiomghoheljaa
