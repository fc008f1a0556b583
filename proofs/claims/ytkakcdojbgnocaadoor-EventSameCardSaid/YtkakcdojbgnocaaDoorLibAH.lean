/- Contracts and plain words that the laws' proofs stand on, put together. -/
import Derived.Test.YtkakcdojbgnocaaDoorLibAA
import Derived.Test.YtkakcdojbgnocaaDoorLibAD
import Derived.Test.YtkakcdojbgnocaaDoorLibAF
import Derived.Test.YtkakcdojbgnocaaDoorChecked
import Derived.WalkKit
import Derived.BigQuiet
import Derived.Deep.RegionHeld3
import Derived.Deep.RegionLaw
import Derived.Test.YtkakcdojbgnocaaDoorLibAE
/- Names of events in plain words: which may be, which are ahead. No program in it. -/
namespace Go.Proofs.YtkakcdojbgnocaaDoor
set_option linter.unusedVariables false

/-- A dot: a device, its life, and the event's number. -/
structure DotN where
  dev : Int
  inc : Int
  seq : Int

theorem DotN.ext' {a b : DotN} (h1 : a.dev = b.dev) (h2 : a.inc = b.inc) (h3 : a.seq = b.seq) : a = b := by
  cases a; cases b
  simp only at h1 h2 h3
  subst h1 h2 h3
  rfl

def actorD (d i : Int) : Bool := decide (0 ≤ d) && (decide (d ≤ 63) && (decide (1 ≤ i) && decide (i ≤ 1048576)))
def rightD (x : DotN) : Bool := actorD x.dev x.inc && (decide (1 ≤ x.seq) && decide (x.seq ≤ 4294967296))
/-- Is an actor ahead of another one? -/
def aheadA (d i e j : Int) : Bool := if d ≠ e then decide (d < e) else decide (i < j)
def lessD (x y : DotN) : Bool := if x.dev = y.dev ∧ x.inc = y.inc then decide (x.seq < y.seq) else aheadA x.dev x.inc y.dev y.inc
def sameD (x y : DotN) : Bool := x.dev == y.dev && (x.inc == y.inc && x.seq == y.seq)
theorem sameD_iff {x y : DotN} : sameD x y = true ↔ x = y := by
  unfold sameD
  simp only [Bool.and_eq_true, beq_iff_eq]
  constructor
  · rintro ⟨h1, h2, h3⟩
    exact DotN.ext' h1 h2 h3
  · rintro rfl
    exact ⟨rfl, rfl, rfl⟩
def sameDs : List DotN → List DotN → Bool
  | [], [] => true
  | x :: l, y :: m => sameD x y && sameDs l m
  | _, _ => false
theorem sameDs_iff : ∀ {l m : List DotN}, sameDs l m = true ↔ l = m
  | [], [] => by simp [sameDs]
  | [], _ :: _ => by simp [sameDs]
  | _ :: _, [] => by simp [sameDs]
  | x :: l, y :: m => by rw [sameDs, Bool.and_eq_true, sameD_iff, sameDs_iff, List.cons.injEq]

end Go.Proofs.YtkakcdojbgnocaaDoor

/- Names of events in plain words: packed, the next one, their text. No program in it. -/
namespace Go.Proofs.YtkakcdojbgnocaaDoor
open Go.RowKit
set_option linter.unusedVariables false

def bytesD (x : DotN) : List Int := short x.dev.toNat ++ (short x.inc.toNat ++ short x.seq.toNat)
/-- What is packed of a dot: nothing, if it may not be. -/
def putD (x : DotN) : List Int := if rightD x = true then bytesD x else []
/-- The dot behind one, and whether there is one. -/
def nextD (x : DotN) : DotN × Int := if rightD x = true ∧ x.seq < 4294967296 then (⟨x.dev, x.inc, x.seq + 1⟩, 0) else (⟨0, 0, 0⟩, 4)
def cmpA (d i e j : Int) : Int := if aheadA d i e j = true then -1 else if aheadA e j d i = true then 1 else 0
def textD (x : DotN) : List UInt8 := (((Lib.itoa x.dev ++ [46]) ++ Lib.itoa x.inc) ++ [46]) ++ Lib.itoa x.seq
def is64 (n : Int) : Prop := -9223372036854775808 ≤ n ∧ n ≤ 9223372036854775807
structure FitD (x : DotN) : Prop where
  dev : is64 x.dev
  inc : is64 x.inc
  seq : is64 x.seq

theorem right_range {x : DotN} (h : rightD x = true) : 0 ≤ x.dev ∧ x.dev ≤ 63 ∧ 1 ≤ x.inc ∧ x.inc ≤ 1048576 ∧ 1 ≤ x.seq ∧ x.seq ≤ 4294967296 := by
  unfold rightD actorD at h
  simp only [Bool.and_eq_true, decide_eq_true_iff] at h
  obtain ⟨⟨a, b, c, d⟩, e, f⟩ := h
  exact ⟨a, b, c, d, e, f⟩

theorem putD_len (x : DotN) : (putD x).length ≤ 30 := by
  unfold putD
  split
  · rename_i h
    obtain ⟨d0, d1, e0, e1, s0, s1⟩ := right_range h
    unfold bytesD
    rw [List.length_append, List.length_append]
    have h1 := short_ten x.dev.toNat (by omega)
    have h2 := short_ten x.inc.toNat (by omega)
    have h3 := short_ten x.seq.toNat (by omega)
    omega
  · exact Nat.zero_le _

end Go.Proofs.YtkakcdojbgnocaaDoor

/- Contracts of the reference of layer 16: names of events. -/
namespace Go.Proofs.YtkakcdojbgnocaaDoor
open Go.RowKit
set_option linter.unusedVariables false

def encD (x : DotN) : List Value := [.int .i64 x.dev, .int .i64 x.inc, .int .i64 x.seq]
theorem encD_len (x : DotN) : (encD x).length = 3 := rfl
theorem encD_one (x : DotN) : ∀ u ∈ encD x, u.oneCell' = true := by
  intro u hu
  simp only [encD, List.mem_cons, List.not_mem_nil, or_false] at hu
  rcases hu with rfl | rfl | rfl <;> rfl
theorem dot_at {w : World} {a : Option Addr} {n c : Nat} {L : List DotN} (h : RowOf encD 3 w a n c L) (k : Nat) (hk : k < n) :
    ∃ x g off, L[k]? = some x ∧ a = some ⟨g, off, none⟩ ∧ w.cell? ⟨g, off + k * 3, none⟩ = some (.int .i64 x.dev) ∧ w.cell? ⟨g, off + k * 3 + 1, none⟩ = some (.int .i64 x.inc) ∧ w.cell? ⟨g, off + k * 3 + 2, none⟩ = some (.int .i64 x.seq) := by
  obtain ⟨x, g, off, h1, h2, h3⟩ := h.at k hk
  exact ⟨x, g, off, h1, h2, h3 0 _ rfl, h3 1 _ rfl, h3 2 _ rfl⟩
theorem drawn_below {B : Nat} {a w : World} (h : Below B a w) (k : Nat) : Below B a (w.drewN k) := ⟨h.os, h.tape, h.output, h.size, h.block⟩

theorem two_objs (w : World) (A B : Array Value) (a b : TypeId) :
    ObjAt ((w.alloc (.cells A a)).alloc (.cells B b)) w.heap.size A.toList ∧ ObjAt ((w.alloc (.cells A a)).alloc (.cells B b)) (w.heap.size + 1) B.toList ∧ Below w.heap.size w ((w.alloc (.cells A a)).alloc (.cells B b)) := by
  have s1 : (w.alloc (.cells A a)).heap.size = w.heap.size + 1 := by simp
  have o1 := ObjAt.new w A a
  have o2 := ObjAt.new (w.alloc (.cells A a)) B b
  have b1 := below_alloc w (.cells A a)
  have b2 := below_alloc (w.alloc (.cells A a)) (.cells B b)
  have o1' := o1.below b2 o1.lt
  rw [s1] at o2
  exact ⟨o1', o2, b1.trans (b2.mono b1.size)⟩

theorem eqDot (x y : DotN) (w : World) : Sem.run Tryd.prog (Op.equalIn 10000 25 (.agg #[.int .i64 x.dev, .int .i64 x.inc, .int .i64 x.seq]) (.agg #[.int .i64 y.dev, .int .i64 y.inc, .int .i64 y.seq])) w = Result.ok (sameD x y) w := by
  unfold sameD
  cases h1 : x.dev == y.dev <;> cases h2 : x.inc == y.inc <;> cases h3 : x.seq == y.seq <;> simp [go_sem, h1, h2, h3]
theorem eqActor (d i e j : Int) (w : World) : Sem.run Tryd.prog (Op.equalIn 10000 23 (.agg #[.int .i64 d, .int .i64 i]) (.agg #[.int .i64 e, .int .i64 j])) w = Result.ok (d == e && i == j) w := by
  cases h1 : d == e <;> cases h2 : i == j <;> simp [go_sem, h1, h2]

end Go.Proofs.YtkakcdojbgnocaaDoor

/- Contracts of the reference of layer 16: the same dots; dots in order. -/
namespace Go.Proofs.YtkakcdojbgnocaaDoor
open Go.RowKit
set_option linter.unusedVariables false

theorem infoDot : (Tryd.prog.info? 25).map (fun i => (i.zero, i.size, i.bytes)) = some (some (.agg #[.int .i64 0, .int .i64 0, .int .i64 0]), 3, 24) := by kernel_rfl

set_option maxHeartbeats 2000000 in
set_option maxRecDepth 100000 in
theorem refSameDC (a b : Option Addr) (n m c1 c2 : Nat) (L M : List DotN) (w : World) (hL : RowOf encD 3 w a n c1 L) (hM : RowOf encD 3 w b m c2 M) :
    Calls Tryd.prog 12 #[.slice a n c1, .slice b m c2] w fun e w' => e = .returned (.bool (sameDs L M)) ∧ ∃ k, w' = w.drewN k := by
  have hn := hL.leq
  have hm := hM.leq
  by_cases hnm : n = m
  · subst hnm
    have hcm := hL.capm
    have hcl := hL.cle
    unfold maxLen at hcm
    have HL := Lib.hid hL
    have HM := Lib.hid hM
    have Hn := Lib.hid hn
    have Hm := Lib.hid hm
    clear hL hM hn hm
    go_enter Tryd.func12, Tryd.ntmps12
    go_wp2
    go_loopw [5] (fun i wr => ∃ k q : Nat, k ≤ n ∧ i = .int .i64 (k : Int) ∧ Hid (L.take k = M.take k) ∧ wr = w.drewN q) (fun i _ => n - (intOf i).toNat)
    case atStart => exact ⟨0, 0, Nat.zero_le _, rfl, rfl, rfl⟩
    case round =>
      obtain ⟨k, q, hk, rfl, hs, rfl⟩ := hrel
      by_cases hlt : k < n
      · have hlt' : (k : Int) < (n : Int) := by omega
        obtain ⟨x, g1, o1, hx, rfl, c0, c1, c2⟩ := dot_at HL.out k hlt
        obtain ⟨y, g2, o2, hy, rfl, d0, d1, d2⟩ := dot_at HM.out k hlt
        have hT : Hid (x = y → L.take (k + 1) = M.take (k + 1)) := fun e => by rw [take_snocI hx, take_snocI hy, hs.out, e]
        have hN : Hid (x ≠ y → sameDs L M = false) := fun e => by
          rw [Bool.eq_false_iff]
          intro c
          rw [sameDs_iff] at c
          subst c
          rw [hx] at hy
          exact e (by cases hy; rfl)
        have hE := eqDot x y
        clear hx hy
        by_cases hxy : x = y
        · have h3 := Lib.hid (hT.out hxy)
          rw [sameD_iff.2 hxy] at hE
          clear hT hN hs hxy
          go_wp2_with fail
          go_quiet (fail)
          go_wp2
          go_roundw
          case rel => exact ⟨k + 1, _, by omega, by go_num, h3, by first | rfl | simp⟩
          case measure => simp [intOf]; omega
        · have h2 := Lib.hid (hN.out hxy)
          rw [Bool.eq_false_iff.2 (fun c => hxy (sameD_iff.1 c))] at hE
          clear hT hN hs hxy
          go_wp2_with fail
          go_quiet (fail)
          go_wp2
          go_ret
          exact ⟨by rw [h2.out]; rfl, _, World.drewN_drewN _ _ _⟩
      · obtain rfl : k = n := by omega
        have e : Hid (sameDs L M = true) := by
          have h1 := hs.out
          rw [List.take_of_length_le (by rw [Hn.out]; exact Nat.le_refl _), List.take_of_length_le (by rw [Hm.out]; exact Nat.le_refl _)] at h1
          unfold Hid
          rw [sameDs_iff]
          exact h1
        go_wp2
        go_ret
        exact ⟨by rw [e.out]; rfl, q, rfl⟩
  · have h1 : sameDs L M = false := by
      rw [Bool.eq_false_iff]
      intro c
      rw [sameDs_iff] at c
      subst c
      exact hnm (hn.symm.trans hm)
    have h2 : ¬ (n : Int) = (m : Int) := by omega
    have h3 : ((n : Int) == (m : Int)) = false := beq_eq_false_iff_ne.2 h2
    rw [h1]
    clear hL hM hn hm
    go_enter Tryd.func12, Tryd.ntmps12
    go_wp2
    go_ret
    exact ⟨rfl, 0, rfl⟩

theorem below_drawn2 {B : Nat} {a w : World} (h : Below B a w) (k : Nat) : Below B a (w.drewN k) := ⟨h.os, h.tape, h.output, h.size, h.block⟩
theorem find_front {O : List DotN} {x : DotN} {K : Nat} (h : ∀ (j : Nat) (y : DotN), j < K → O[j]? = some y → lessD y x = true) (hK : K ≤ O.length) (hs : K = O.length ∨ ∃ y, O[K]? = some y ∧ lessD y x = false) : (O.findIdx fun y => !lessD y x) = K := by
  rcases hs with rfl | ⟨y, hy, hl⟩
  · rw [List.findIdx_eq_length]
    intro z hz
    obtain ⟨i, hi, rfl⟩ := List.mem_iff_getElem.1 hz
    rw [h i _ hi (List.getElem?_eq_getElem hi)]
    rfl
  · obtain ⟨h1, rfl⟩ := List.getElem?_eq_some_iff.1 hy
    refine (List.findIdx_eq h1).2 ⟨by rw [hl]; rfl, fun j hj => ?_⟩
    rw [h j _ hj (List.getElem?_eq_getElem (by omega))]
    rfl

end Go.Proofs.YtkakcdojbgnocaaDoor

/- Contracts of the reference of layer 16: a dot, packed. -/
namespace Go.Proofs.YtkakcdojbgnocaaDoor
open Go.RowKit
set_option linter.unusedVariables false

end Go.Proofs.YtkakcdojbgnocaaDoor

/- The program's own contracts of layer 16 that want no table: which dots may be; a dot packed, and read. -/
namespace Go.Proofs.YtkakcdojbgnocaaDoor
open Go.RowKit
set_option linter.unusedVariables false

set_option maxRecDepth 100000 in
theorem dotActorC0 (d i : Int) (w : World) :
    Calls Tryd.prog 28 #[.agg #[.int .i64 d, .int .i64 i]] w fun e w' => e = .returned (.bool (actorD d i)) ∧ Below w.heap.size w w' := by
  have o1 := ObjAt.new w #[.int .i64 d, .int .i64 i] 23
  have hb := below_alloc w (.cells #[.int .i64 d, .int .i64 i] 23)
  have u0 := o1.cell 0 rfl; have u1 := o1.cell 1 rfl
  clear o1
  unfold actorD
  by_cases q0 : 0 ≤ d
  · have d0 : decide (0 ≤ d) = true := decide_eq_true q0
    by_cases q1 : d ≤ 63
    · have d1 : decide (d ≤ 63) = true := decide_eq_true q1
      by_cases q2 : 1 ≤ i
      · have d2 : decide (1 ≤ i) = true := decide_eq_true q2
        by_cases q3 : i ≤ 1048576
        · have d3 : decide (i ≤ 1048576) = true := decide_eq_true q3
          go_enter Tryd.func28, Tryd.ntmps28
          go_wp2
          go_ret
          exact ⟨by simp [*], hb⟩
        · have d3 : decide (i ≤ 1048576) = false := decide_eq_false q3
          go_enter Tryd.func28, Tryd.ntmps28
          go_wp2
          go_ret
          exact ⟨by simp [*], hb⟩
      · have d2 : decide (1 ≤ i) = false := decide_eq_false q2
        go_enter Tryd.func28, Tryd.ntmps28
        go_wp2
        go_ret
        exact ⟨by simp [*], hb⟩
    · have d1 : decide (d ≤ 63) = false := decide_eq_false q1
      go_enter Tryd.func28, Tryd.ntmps28
      go_wp2
      go_ret
      exact ⟨by simp [*], hb⟩
  · have d0 : decide (0 ≤ d) = false := decide_eq_false q0
    go_enter Tryd.func28, Tryd.ntmps28
    go_wp2
    go_ret
    exact ⟨by simp [*], hb⟩

set_option maxRecDepth 100000 in
theorem dotRightC0 (x : DotN) (w : World) :
    Calls Tryd.prog 18 #[.agg #[.int .i64 x.dev, .int .i64 x.inc, .int .i64 x.seq]] w fun e w' => e = .returned (.bool (rightD x)) ∧ Below w.heap.size w w' := by
  have o1 := ObjAt.new w #[.int .i64 x.dev, .int .i64 x.inc, .int .i64 x.seq] 25
  have hb := below_alloc w (.cells #[.int .i64 x.dev, .int .i64 x.inc, .int .i64 x.seq] 25)
  have u0 := o1.cell 0 rfl; have u1 := o1.cell 1 rfl
  have HA := fun v => dotActorC0 x.dev x.inc v
  unfold rightD
  generalize actorD x.dev x.inc = A at *
  cases A with
  | false =>
    go_enter Tryd.func18, Tryd.ntmps18
    go_wp2_with (go_at_call 28; (with_reducible refine (HA _).mono ?_); rintro e w1 ⟨rfl, hx⟩; have hb := hb.trans (hx.mono hb.size))
    go_ret
    exact ⟨rfl, hb⟩
  | true =>
    by_cases q0 : 1 ≤ x.seq
    · have d0 : decide (1 ≤ x.seq) = true := decide_eq_true q0
      by_cases q1 : x.seq ≤ 4294967296
      · have d1 : decide (x.seq ≤ 4294967296) = true := decide_eq_true q1
        go_enter Tryd.func18, Tryd.ntmps18
        go_wp2_with (first
          | (go_at_call 28; (with_reducible refine (HA _).mono ?_); rintro e w1 ⟨rfl, hx⟩; have o2 := o1.below hx o1.lt; have v2 := o2.cell 2 rfl; have hb := hb.trans (hx.mono hb.size); clear hx))
        go_ret
        exact ⟨by simp [*], hb⟩
      · have d1 : decide (x.seq ≤ 4294967296) = false := decide_eq_false q1
        go_enter Tryd.func18, Tryd.ntmps18
        go_wp2_with (first
          | (go_at_call 28; (with_reducible refine (HA _).mono ?_); rintro e w1 ⟨rfl, hx⟩; have o2 := o1.below hx o1.lt; have v2 := o2.cell 2 rfl; have hb := hb.trans (hx.mono hb.size); clear hx))
        go_ret
        exact ⟨by simp [*], hb⟩
    · have d0 : decide (1 ≤ x.seq) = false := decide_eq_false q0
      go_enter Tryd.func18, Tryd.ntmps18
      go_wp2_with (first
        | (go_at_call 28; (with_reducible refine (HA _).mono ?_); rintro e w1 ⟨rfl, hx⟩; have o2 := o1.below hx o1.lt; have v2 := o2.cell 2 rfl; have hb := hb.trans (hx.mono hb.size); clear hx))
      go_ret
      exact ⟨by simp [*], hb⟩

set_option maxRecDepth 100000 in
theorem dotPutC0 (base p : Nat) (a : Option Addr) (l : List Int) (x : DotN) (w : World) (hw : Wr 5 base p a l w) (hlen : l.length ≤ 1000000000) (hbase : base ≤ w.heap.size) (hx : FitD x) :
    Calls Tryd.prog 22 #[.pointer (some ⟨p, 0, none⟩), .agg #[.int .i64 x.dev, .int .i64 x.inc, .int .i64 x.seq]] w (PutGives base p a (l ++ putD x) w) := by
  have hrr := fun h => right_range (x := x) h
  obtain ⟨dev, inc, seq⟩ := x
  have o1 := ObjAt.new w #[.int .i64 dev, .int .i64 inc, .int .i64 seq] 25
  have b1 := below_alloc w (.cells #[.int .i64 dev, .int .i64 inc, .int .i64 seq] 25)
  have hlt1 := o1.lt
  have u0 := o1.cell 0 rfl; have u1 := o1.cell 1 rfl; have u2 := o1.cell 2 rfl
  have HR := fun v => dotRightC0 ⟨dev, inc, seq⟩ v
  unfold putD
  cases hr : rightD ⟨dev, inc, seq⟩ with
  | false =>
    rw [hr] at HR
    rw [if_neg Bool.false_ne_true, List.append_nil]
    clear hrr hr
    go_enter Tryd.func22, Tryd.ntmps22
    go_wp2_with (go_at_call 18; (with_reducible refine (HR _).mono ?_); rintro e w1 ⟨rfl, hx⟩; have hb := b1.trans (hx.mono b1.size))
    go_end0
    exact ⟨rfl, a, hw.below hb, Kept.of hb, Near.refl _ _⟩
  | true =>
    obtain ⟨d0, d1, e0, e1, s0, s1⟩ := hrr hr
    dsimp only at d0 d1 e0 e1 s0 s1
    rw [hr] at HR
    rw [if_pos rfl]
    clear hrr hr
    obtain ⟨D, rfl⟩ := Int.eq_ofNat_of_zero_le d0
    obtain ⟨I, rfl⟩ := Int.eq_ofNat_of_zero_le (show 0 ≤ inc by omega)
    obtain ⟨S, rfl⟩ := Int.eq_ofNat_of_zero_le (show 0 ≤ seq by omega)
    unfold bytesD
    dsimp only
    rw [Int.toNat_natCast, Int.toNat_natCast, Int.toNat_natCast, ← List.append_assoc, ← List.append_assoc]
    have t1 := short_ten D (by omega)
    have t2 := short_ten I (by omega)
    have q1 : IntKind.u64.wrap (D : Int) = (D : Int) := by rw [IntKind.wrap_u64]; omega
    have q2 : IntKind.u64.wrap (I : Int) = (I : Int) := by rw [IntKind.wrap_u64]; omega
    have q3 : IntKind.u64.wrap (S : Int) = (S : Int) := by rw [IntKind.wrap_u64]; omega
    have H1 := fun w hw hb => wNumC base p D a l w hw (by omega) hb (by omega)
    have H2 := fun a w hw hb => wNumC base p I a (l ++ short D) w hw (by rw [List.length_append]; omega) hb (by omega)
    have H3 := fun a w hw hb => wNumC base p S a (l ++ short D ++ short I) w hw (by rw [List.length_append, List.length_append]; omega) hb (by omega)
    generalize l ++ short D = l1 at *
    generalize l1 ++ short I = l2 at *
    generalize l2 ++ short S = l3 at *
    clear d0 d1 e0 e1 s0 s1 t1 t2 hlen
    have hpw := hw.lt.2
    have har := fun k h => (hw.at' k h).2.1
    have hw1 := hw.below b1
    go_enter Tryd.func22, Tryd.ntmps22
    go_wp2_with (go_at_call 18; (with_reducible refine (HR _).mono ?_); rintro e w2 ⟨rfl, hx2⟩; have o2 := o1.below hx2 hlt1; have hw2 := hw1.below hx2; have b2 := b1.trans (hx2.mono b1.size); have s2 := Nat.lt_of_lt_of_le hlt1 hx2.size; clear hx2)
    have bd : Below w2.heap.size w2 w2.drew := (Below.refl _ w2).drew
    have od := o2.below bd s2
    have hwd := hw2.below bd
    have b2d := b2.trans (bd.mono b2.size)
    have sd : w.heap.size < w2.drew.heap.size := Nat.lt_of_lt_of_le s2 bd.size
    go_region_held3 (fun w' => w'.cell? ⟨w.heap.size, 0, none⟩ = some (.int .i64 (D : Int)) ∧ w'.cell? ⟨w.heap.size, 1, none⟩ = some (.int .i64 (I : Int)) ∧ w'.cell? ⟨w.heap.size, 2, none⟩ = some (.int .i64 (S : Int)))
      (first | exact ⟨o5.cell 0 rfl, o5.cell 1 rfl, o5.cell 2 rfl⟩ | exact ⟨o4.cell 0 rfl, o4.cell 1 rfl, o4.cell 2 rfl⟩ | exact ⟨o3.cell 0 rfl, o3.cell 1 rfl, o3.cell 2 rfl⟩ | exact ⟨od.cell 0 rfl, od.cell 1 rfl, od.cell 2 rfl⟩)
      (first
        | (go_at_call 25; (with_reducible refine (H1 _ hwd (Nat.le_trans hbase b2d.size)).mono ?_); rintro e w3 ⟨rfl, a3, hw3, k3, n3⟩; have o3 := od.keeps (Keeps.ofKept k3) (fun h => h.elim (fun e => by omega) (fun h => by have := har _ h; omega)); have K3 := (Kept.of b2d (p := p) (a := a)).trans (Near.refl _ _) k3; have N3 := n3.early b2d.size; have ap3 : ¬ At a3 w.heap.size := (apart_iff.1 (n3 _ sd (apart_iff.2 (fun h => by have := har _ h; omega)))); have sd3 := Nat.lt_of_lt_of_le sd k3.size; have hb3 := Nat.le_trans hbase K3.size)
        | (go_at_call 25; (with_reducible refine (H2 _ _ hw3 hb3).mono ?_); rintro e w4 ⟨rfl, a4, hw4, k4, n4⟩; have o4 := o3.keeps (Keeps.ofKept k4) (fun h => h.elim (fun e => by omega) ap3); have K4 := K3.trans N3 k4; have N4 := N3.trans n4 K3.size; have ap4 : ¬ At a4 w.heap.size := (apart_iff.1 (n4 _ sd3 (apart_iff.2 ap3))); have hb4 := Nat.le_trans hbase K4.size)
        | (go_at_call 25; (with_reducible refine (H3 _ _ hw4 hb4).mono ?_); rintro e w5 ⟨rfl, a5, hw5, k5, n5⟩; have o5 := o4.keeps (Keeps.ofKept k5) (fun h => h.elim (fun e => by omega) ap4); have K5 := K4.trans N4 k5; have N5 := N4.trans n5 K4.size))
    all_goals (
      go_wp2
      go_end0
      exact ⟨rfl, a5, hw5, K5, N5⟩)

end Go.Proofs.YtkakcdojbgnocaaDoor

/- Dots in order, each once, in plain words: what any list that is in order and has the same dots is. No program in it. -/
namespace Go.Proofs.YtkakcdojbgnocaaDoor
open Go.RowKit
set_option linter.unusedVariables false

theorem lessD_iff {x y : DotN} : lessD x y = true ↔ x.dev < y.dev ∨ (x.dev = y.dev ∧ (x.inc < y.inc ∨ (x.inc = y.inc ∧ x.seq < y.seq))) := by
  unfold lessD aheadA
  by_cases h1 : x.dev = y.dev
  · by_cases h2 : x.inc = y.inc
    · rw [if_pos ⟨h1, h2⟩, decide_eq_true_iff]
      omega
    · rw [if_neg (fun c => h2 c.2), if_neg (fun c => c h1), decide_eq_true_iff]
      omega
  · rw [if_neg (fun c => h1 c.1), if_pos h1, decide_eq_true_iff]
    omega
theorem lessD_no {x y : DotN} : lessD x y = false ↔ ¬ (x.dev < y.dev ∨ (x.dev = y.dev ∧ (x.inc < y.inc ∨ (x.inc = y.inc ∧ x.seq < y.seq)))) := by
  rw [← lessD_iff, Bool.not_eq_true]
theorem lessD_trans {x y z : DotN} (h1 : lessD x y = true) (h2 : lessD y z = true) : lessD x z = true := by
  rw [lessD_iff] at *
  omega
theorem lessD_ntrans {x y z : DotN} (h1 : lessD x y = false) (h2 : lessD y z = false) : lessD x z = false := by
  rw [lessD_no] at *
  omega
theorem lessD_asymm {x y : DotN} (h : lessD x y = true) : lessD y x = false := by
  rw [lessD_iff] at h
  rw [lessD_no]
  omega
theorem lessD_eq {x y : DotN} (h1 : lessD x y = false) (h2 : lessD y x = false) : x = y := by
  rw [lessD_no] at *
  exact DotN.ext' (by omega) (by omega) (by omega)

end Go.Proofs.YtkakcdojbgnocaaDoor

/- The order of dots as a comparison (dot.compareDots, dot.Compare by cmp.Compare). -/
namespace Go.Proofs.YtkakcdojbgnocaaDoor
open Go.RowKit Go.Sort
set_option linter.unusedVariables false

def cmpAG (d i e j : Int) : Int := if d = e then cmpN i j else cmpN d e
theorem cmpAG_is (d i e j : Int) : cmpAG d i e j = cmpA d i e j := by
  unfold cmpAG cmpA aheadA cmpN
  by_cases h : d = e
  · subst h
    simp
  · have h2 : e ≠ d := fun c => h c.symm
    rw [if_neg h, if_pos h, if_pos h2]
    simp

set_option maxRecDepth 100000 in
theorem dotCompareG (d i e j : Int) (w : World) :
    Calls Tryd.prog 42 #[.agg #[.int .i64 d, .int .i64 i], .agg #[.int .i64 e, .int .i64 j]] w fun en w' => en = .returned (.int .i64 (cmpAG d i e j)) ∧ Grows w w' := by
  obtain ⟨o1, o2, hb⟩ := two_objs w #[.int .i64 d, .int .i64 i] #[.int .i64 e, .int .i64 j] 23 23
  have u0 := o1.cell 0 rfl; have u1 := o1.cell 1 rfl
  have v0 := o2.cell 0 rfl; have v1 := o2.cell 1 rfl
  have hg : Grows w ((w.alloc (.cells #[.int .i64 d, .int .i64 i] 23)).alloc (.cells #[.int .i64 e, .int .i64 j] 23)) := (Grows.alloc w _).trans (Grows.alloc _ _)
  clear o1 o2 hb
  have H1 := fun w => cmpIntC d e w
  have H2 := fun w => cmpIntC i j w
  unfold cmpAG
  generalize cmpN d e = C1 at *
  generalize cmpN i j = C2 at *
  by_cases h : d = e
  · have e1 : (d != e) = false := by rw [h]; simp
    have e2 : (d == e) = true := beq_iff_eq.2 h
    rw [if_pos h]
    clear h
    go_enter Tryd.func42, Tryd.ntmps42
    go_wp2_with (go_at_call 43; (with_reducible refine (H2 _).mono ?_); rintro e w1 ⟨rfl, rfl⟩)
    go_ret
    exact ⟨rfl, hg⟩
  · have e1 : (d != e) = true := by simp [h]
    have e2 : (d == e) = false := beq_eq_false_iff_ne.2 h
    rw [if_neg h]
    clear h
    go_enter Tryd.func42, Tryd.ntmps42
    go_wp2_with (go_at_call 43; (with_reducible refine (H1 _).mono ?_); rintro e w1 ⟨rfl, rfl⟩)
    go_ret
    exact ⟨rfl, hg⟩

def ordD (x y : DotN) : Int := if x.dev = y.dev ∧ x.inc = y.inc then cmpN x.seq y.seq else cmpAG x.dev x.inc y.dev y.inc

set_option maxRecDepth 100000 in
theorem dotOrderG (x y : DotN) (w : World) :
    Calls Tryd.prog 37 #[.agg #[.int .i64 x.dev, .int .i64 x.inc, .int .i64 x.seq], .agg #[.int .i64 y.dev, .int .i64 y.inc, .int .i64 y.seq]] w fun en w' => en = .returned (.int .i64 (ordD x y)) ∧ Grows w w' := by
  obtain ⟨o1, o2, hb⟩ := two_objs w #[.int .i64 x.dev, .int .i64 x.inc, .int .i64 x.seq] #[.int .i64 y.dev, .int .i64 y.inc, .int .i64 y.seq] 25 25
  have u0 := o1.cell 0 rfl; have u1 := o1.cell 1 rfl; have u2 := o1.cell 2 rfl
  have v0 := o2.cell 0 rfl; have v1 := o2.cell 1 rfl; have v2 := o2.cell 2 rfl
  have hg : Grows w ((w.alloc (.cells #[.int .i64 x.dev, .int .i64 x.inc, .int .i64 x.seq] 25)).alloc (.cells #[.int .i64 y.dev, .int .i64 y.inc, .int .i64 y.seq] 25)) := (Grows.alloc w _).trans (Grows.alloc _ _)
  clear o1 o2 hb
  have H1 := fun w => dotCompareG x.dev x.inc y.dev y.inc w
  have H2 := fun w => cmpIntC x.seq y.seq w
  have hE := fun v => eqActor x.dev x.inc y.dev y.inc v
  unfold ordD
  generalize cmpAG x.dev x.inc y.dev y.inc = C1 at *
  generalize cmpN x.seq y.seq = C2 at *
  by_cases h : x.dev = y.dev ∧ x.inc = y.inc
  · rw [if_pos h]
    have e1 : (x.dev == y.dev && x.inc == y.inc) = true := by rw [h.1, h.2]; simp
    simp only [e1] at hE
    clear h e1 H1
    go_enter Tryd.func37, Tryd.ntmps37
    go_wp2_with (go_at_call 43; (with_reducible refine (H2 _).mono ?_); rintro e w1 ⟨rfl, rfl⟩)
    go_ret
    exact ⟨rfl, hg⟩
  · rw [if_neg h]
    have e1 : (x.dev == y.dev && x.inc == y.inc) = false := by rw [Bool.eq_false_iff]; intro c; rw [Bool.and_eq_true, beq_iff_eq, beq_iff_eq] at c; exact h c
    simp only [e1] at hE
    clear h e1 H2
    go_enter Tryd.func37, Tryd.ntmps37
    go_wp2_with (go_at_call 42; (with_reducible refine (H1 _).mono ?_); rintro e w1 ⟨rfl, hx⟩; have hg := hg.trans hx)
    go_ret
    exact ⟨rfl, hg⟩

theorem ord_neg (x y : DotN) : decide (ordD x y < 0) = lessD x y := by
  unfold ordD cmpAG cmpN
  rw [Bool.eq_iff_iff, decide_eq_true_iff, lessD_iff]
  repeat' split
  all_goals first | omega | (constructor <;> intros <;> first | omega | contradiction)
end Go.Proofs.YtkakcdojbgnocaaDoor

/- How dots as arguments are opened. -/
namespace Go.Proofs.YtkakcdojbgnocaaDoor
open Go.ChangeShapes Go.WideShapes Go.ChangeAt Go.RowKit
set_option linter.unusedVariables false

instance : Inhabited DotN := ⟨⟨0, 0, 0⟩⟩

theorem wf_is64 {n : Int} (h : (Lit.int .i64 n).wf = true) : is64 n := by
  have h2 : IntKind.i64.min ≤ n ∧ n ≤ IntKind.i64.max := by simpa [Lit.wf] using h
  exact h2

theorem leaves_dot {l : List Value} (q0 : leavesOk [.num .i64, .num .i64, .num .i64] l) : ∃ x : DotN, l = encD x ∧ FitD x := by
  obtain ⟨v0, l0, e0, ⟨a, rfl, z0⟩, q1⟩ := leaves_cons q0
  obtain ⟨v1, l1, e1, ⟨b, rfl, z1⟩, q2⟩ := leaves_cons q1
  obtain ⟨v2, l2, e2, ⟨c, rfl, z2⟩, q3⟩ := leaves_cons q2
  have e3 := leaves_nil q3
  subst e3 e2 e1 e0
  exact ⟨⟨a, b, c⟩, rfl, wf_is64 z0, wf_is64 z1, wf_is64 z2⟩

end Go.Proofs.YtkakcdojbgnocaaDoor
