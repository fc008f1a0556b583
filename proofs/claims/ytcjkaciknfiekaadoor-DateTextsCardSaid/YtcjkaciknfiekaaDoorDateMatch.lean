/- Contracts of layer 7: is a token a time, a day, a month, a year, and where it is put. -/
import Derived.Test.YtcjkaciknfiekaaDoorDateLead
import Derived.Test.YtcjkaciknfiekaaDoorKept
namespace Go.Proofs.YtcjkaciknfiekaaDoor
open Go.RowKit
set_option linter.unusedVariables false

/-- The numbers of a date lie in block B. -/
structure PAt (B : Nat) (y m d h mi se : Int) (w : World) : Prop where
  c0 : w.cell? ⟨B, 0, none⟩ = some (.int .i64 y)
  c1 : w.cell? ⟨B, 1, none⟩ = some (.int .i64 m)
  c2 : w.cell? ⟨B, 2, none⟩ = some (.int .i64 d)
  c3 : w.cell? ⟨B, 3, none⟩ = some (.int .i64 h)
  c4 : w.cell? ⟨B, 4, none⟩ = some (.int .i64 mi)
  c5 : w.cell? ⟨B, 5, none⟩ = some (.int .i64 se)
  f : ∀ i, i < 6 → w.frozen? ⟨B, i, none⟩ = false

theorem PAt.lt {B : Nat} {y m d h mi se : Int} {w : World} (p : PAt B y m d h mi se w) : B < w.heap.size := cell_lt (x := ⟨B, 0, none⟩) p.c0
theorem PAt.same {B : Nat} {y m d h mi se : Int} {w w' : World} (p : PAt B y m d h mi se w) (hb : w'.heap[B]? = w.heap[B]?) : PAt B y m d h mi se w' := by
  have hc : ∀ i, w'.cell? ⟨B, i, none⟩ = w.cell? ⟨B, i, none⟩ := fun i => World.cell?_of_block hb
  have hf : ∀ i, w'.frozen? ⟨B, i, none⟩ = w.frozen? ⟨B, i, none⟩ := fun i => World.frozen?_of_block hb
  exact ⟨by rw [hc]; exact p.c0, by rw [hc]; exact p.c1, by rw [hc]; exact p.c2, by rw [hc]; exact p.c3, by rw [hc]; exact p.c4, by rw [hc]; exact p.c5, fun i hi => by rw [hf]; exact p.f i hi⟩
theorem PAt.below {B : Nat} {y m d h mi se : Int} {w w' : World} (p : PAt B y m d h mi se w) (hb : Below w.heap.size w w') : PAt B y m d h mi se w' := p.same (hb.block B p.lt)
theorem PAt.kept {B C : Nat} {y m d h mi se : Int} {w w' : World} (p : PAt B y m d h mi se w) (hk : Kept C none w w') (hBC : B ≠ C) : PAt B y m d h mi se w' := p.same (hk.block B p.lt hBC (Apart.none B))

def MatchIs (b : Bool) (B : Nat) (y m d h mi se : Int) (w : World) (e : Ending) (w' : World) : Prop :=
  e = .returned (.bool b) ∧ PAt B y m d h mi se w' ∧ Kept B none w w'

theorem below_drew (w : World) (q : Nat) : Below w.heap.size w (w.drewN q) := below_drewN (Below.refl _ _) q
theorem kept_set {B : Nat} {w w' : World} (h : Below w.heap.size w w') (i : Nat) (v : Value) : Kept B none w (w'.setCell ⟨B, i, none⟩ v) := (Kept.of h).setCell i v

theorem PAt.set0 {B : Nat} {y m d h mi se : Int} {w : World} (p : PAt B y m d h mi se w) (v : Int) : PAt B v m d h mi se (w.setCell ⟨B, 0, none⟩ (.int .i64 v)) :=
  ⟨World.cell?_setCell_same w _ _ p.c0, (World.cell?_setCell_other w _ _ _ (show (⟨B, 0, none⟩ : Addr) ≠ ⟨B, 1, none⟩ by simp)).trans p.c1, (World.cell?_setCell_other w _ _ _ (show (⟨B, 0, none⟩ : Addr) ≠ ⟨B, 2, none⟩ by simp)).trans p.c2, (World.cell?_setCell_other w _ _ _ (show (⟨B, 0, none⟩ : Addr) ≠ ⟨B, 3, none⟩ by simp)).trans p.c3, (World.cell?_setCell_other w _ _ _ (show (⟨B, 0, none⟩ : Addr) ≠ ⟨B, 4, none⟩ by simp)).trans p.c4, (World.cell?_setCell_other w _ _ _ (show (⟨B, 0, none⟩ : Addr) ≠ ⟨B, 5, none⟩ by simp)).trans p.c5, fun i hi => by rw [World.frozen?_setCell]; exact p.f i hi⟩
theorem PAt.set1 {B : Nat} {y m d h mi se : Int} {w : World} (p : PAt B y m d h mi se w) (v : Int) : PAt B y v d h mi se (w.setCell ⟨B, 1, none⟩ (.int .i64 v)) :=
  ⟨(World.cell?_setCell_other w _ _ _ (show (⟨B, 1, none⟩ : Addr) ≠ ⟨B, 0, none⟩ by simp)).trans p.c0, World.cell?_setCell_same w _ _ p.c1, (World.cell?_setCell_other w _ _ _ (show (⟨B, 1, none⟩ : Addr) ≠ ⟨B, 2, none⟩ by simp)).trans p.c2, (World.cell?_setCell_other w _ _ _ (show (⟨B, 1, none⟩ : Addr) ≠ ⟨B, 3, none⟩ by simp)).trans p.c3, (World.cell?_setCell_other w _ _ _ (show (⟨B, 1, none⟩ : Addr) ≠ ⟨B, 4, none⟩ by simp)).trans p.c4, (World.cell?_setCell_other w _ _ _ (show (⟨B, 1, none⟩ : Addr) ≠ ⟨B, 5, none⟩ by simp)).trans p.c5, fun i hi => by rw [World.frozen?_setCell]; exact p.f i hi⟩
theorem PAt.set2 {B : Nat} {y m d h mi se : Int} {w : World} (p : PAt B y m d h mi se w) (v : Int) : PAt B y m v h mi se (w.setCell ⟨B, 2, none⟩ (.int .i64 v)) :=
  ⟨(World.cell?_setCell_other w _ _ _ (show (⟨B, 2, none⟩ : Addr) ≠ ⟨B, 0, none⟩ by simp)).trans p.c0, (World.cell?_setCell_other w _ _ _ (show (⟨B, 2, none⟩ : Addr) ≠ ⟨B, 1, none⟩ by simp)).trans p.c1, World.cell?_setCell_same w _ _ p.c2, (World.cell?_setCell_other w _ _ _ (show (⟨B, 2, none⟩ : Addr) ≠ ⟨B, 3, none⟩ by simp)).trans p.c3, (World.cell?_setCell_other w _ _ _ (show (⟨B, 2, none⟩ : Addr) ≠ ⟨B, 4, none⟩ by simp)).trans p.c4, (World.cell?_setCell_other w _ _ _ (show (⟨B, 2, none⟩ : Addr) ≠ ⟨B, 5, none⟩ by simp)).trans p.c5, fun i hi => by rw [World.frozen?_setCell]; exact p.f i hi⟩
theorem PAt.set3 {B : Nat} {y m d h mi se : Int} {w : World} (p : PAt B y m d h mi se w) (v : Int) : PAt B y m d v mi se (w.setCell ⟨B, 3, none⟩ (.int .i64 v)) :=
  ⟨(World.cell?_setCell_other w _ _ _ (show (⟨B, 3, none⟩ : Addr) ≠ ⟨B, 0, none⟩ by simp)).trans p.c0, (World.cell?_setCell_other w _ _ _ (show (⟨B, 3, none⟩ : Addr) ≠ ⟨B, 1, none⟩ by simp)).trans p.c1, (World.cell?_setCell_other w _ _ _ (show (⟨B, 3, none⟩ : Addr) ≠ ⟨B, 2, none⟩ by simp)).trans p.c2, World.cell?_setCell_same w _ _ p.c3, (World.cell?_setCell_other w _ _ _ (show (⟨B, 3, none⟩ : Addr) ≠ ⟨B, 4, none⟩ by simp)).trans p.c4, (World.cell?_setCell_other w _ _ _ (show (⟨B, 3, none⟩ : Addr) ≠ ⟨B, 5, none⟩ by simp)).trans p.c5, fun i hi => by rw [World.frozen?_setCell]; exact p.f i hi⟩
theorem PAt.set4 {B : Nat} {y m d h mi se : Int} {w : World} (p : PAt B y m d h mi se w) (v : Int) : PAt B y m d h v se (w.setCell ⟨B, 4, none⟩ (.int .i64 v)) :=
  ⟨(World.cell?_setCell_other w _ _ _ (show (⟨B, 4, none⟩ : Addr) ≠ ⟨B, 0, none⟩ by simp)).trans p.c0, (World.cell?_setCell_other w _ _ _ (show (⟨B, 4, none⟩ : Addr) ≠ ⟨B, 1, none⟩ by simp)).trans p.c1, (World.cell?_setCell_other w _ _ _ (show (⟨B, 4, none⟩ : Addr) ≠ ⟨B, 2, none⟩ by simp)).trans p.c2, (World.cell?_setCell_other w _ _ _ (show (⟨B, 4, none⟩ : Addr) ≠ ⟨B, 3, none⟩ by simp)).trans p.c3, World.cell?_setCell_same w _ _ p.c4, (World.cell?_setCell_other w _ _ _ (show (⟨B, 4, none⟩ : Addr) ≠ ⟨B, 5, none⟩ by simp)).trans p.c5, fun i hi => by rw [World.frozen?_setCell]; exact p.f i hi⟩
theorem PAt.set5 {B : Nat} {y m d h mi se : Int} {w : World} (p : PAt B y m d h mi se w) (v : Int) : PAt B y m d h mi v (w.setCell ⟨B, 5, none⟩ (.int .i64 v)) :=
  ⟨(World.cell?_setCell_other w _ _ _ (show (⟨B, 5, none⟩ : Addr) ≠ ⟨B, 0, none⟩ by simp)).trans p.c0, (World.cell?_setCell_other w _ _ _ (show (⟨B, 5, none⟩ : Addr) ≠ ⟨B, 1, none⟩ by simp)).trans p.c1, (World.cell?_setCell_other w _ _ _ (show (⟨B, 5, none⟩ : Addr) ≠ ⟨B, 2, none⟩ by simp)).trans p.c2, (World.cell?_setCell_other w _ _ _ (show (⟨B, 5, none⟩ : Addr) ≠ ⟨B, 3, none⟩ by simp)).trans p.c3, (World.cell?_setCell_other w _ _ _ (show (⟨B, 5, none⟩ : Addr) ≠ ⟨B, 4, none⟩ by simp)).trans p.c4, World.cell?_setCell_same w _ _ p.c5, fun i hi => by rw [World.frozen?_setCell]; exact p.f i hi⟩

theorem isDayC (l : List UInt8) (n B : Nat) (y m d h mi se : Int) (w : World) (hl : l.length = n) (hm : n ≤ maxLen) (hp : PAt B y m d h mi se w) :
    Calls Tryd.prog 32 #[.pointer (some ⟨B, 0, none⟩), .string (str l)] w (MatchIs (dig 1 2 l) B y m (if dig 1 2 l = true then (valL l : Int) else d) h mi se w) := by
  have HL := leadingC l n 1 2 1 2 w hl hm (by omega) (by omega) rfl rfl
  unfold leadOf LeadIs at HL
  have hv := valL_le l
  cases c : dig 1 2 l with
  | true =>
    rw [c] at HL
    simp only [if_true] at HL ⊢
    generalize valL l = v at *
    generalize l.drop (lead l) = r at *
    have c2 := hp.c2
    have f2 := hp.f 2 (by omega)
    have HP := Lib.hid hp
    clear c hp
    go_enter Tryd.func32, Tryd.ntmps32
    go_wp2_with (go_at_call 41; (with_reducible refine HL.mono ?_); rintro e w2 ⟨rfl, q, rfl⟩)
    go_ret
    exact ⟨rfl, (HP.out.below (below_drew w q)).set2 v, kept_set (below_drew w q) _ _⟩
  | false =>
    rw [c] at HL
    simp only [Bool.false_eq_true, if_false] at HL ⊢
    have HP := Lib.hid hp
    clear c hp
    go_enter Tryd.func32, Tryd.ntmps32
    go_wp2_with (go_at_call 41; (with_reducible refine HL.mono ?_); rintro e w2 ⟨rfl, q, rfl⟩)
    go_ret
    exact ⟨rfl, HP.out.below (below_drew w q), Kept.of (below_drew w q)⟩

theorem isYearC (l : List UInt8) (n B : Nat) (y m d h mi se : Int) (w : World) (hl : l.length = n) (hm : n ≤ maxLen) (hp : PAt B y m d h mi se w) :
    Calls Tryd.prog 34 #[.pointer (some ⟨B, 0, none⟩), .string (str l)] w (MatchIs (dig 2 4 l) B (if dig 2 4 l = true then (yearUp (valL l) : Int) else y) m d h mi se w) := by
  have HL := leadingC l n 2 4 2 4 w hl hm (by omega) (by omega) rfl rfl
  unfold leadOf LeadIs at HL
  have hv := valL_le l
  cases c : dig 2 4 l with
  | true =>
    rw [c] at HL
    simp only [if_true] at HL ⊢
    have HU : Hid (yearUp (valL l) = if valL l < 70 then valL l + 2000 else if valL l < 100 then valL l + 1900 else valL l) := rfl
    generalize yearUp (valL l) = u at *
    generalize valL l = v at *
    generalize l.drop (lead l) = r at *
    have c0 := hp.c0
    have f0 := hp.f 0 (by omega)
    have HP := Lib.hid hp
    clear c hp
    rcases (show v < 70 ∨ (70 ≤ v ∧ v < 100) ∨ 100 ≤ v by omega) with h1 | h1 | h1
    · have e : Hid (u = v + 2000) := by unfold Hid; rw [HU.out, if_pos h1]
      clear HU
      go_enter Tryd.func34, Tryd.ntmps34
      go_wp2_with (go_at_call 41; (with_reducible refine HL.mono ?_); rintro e w2 ⟨rfl, q, rfl⟩)
      go_ret
      rw [e.out]
      exact ⟨rfl, (HP.out.below (below_drew w q)).set0 _, kept_set (below_drew w q) _ _⟩
    · obtain ⟨h2, h3⟩ := h1
      have e : Hid (u = v + 1900) := by unfold Hid; rw [HU.out, if_neg (by omega), if_pos h3]
      clear HU
      go_enter Tryd.func34, Tryd.ntmps34
      go_wp2_with (go_at_call 41; (with_reducible refine HL.mono ?_); rintro e w2 ⟨rfl, q, rfl⟩)
      go_ret
      rw [e.out]
      exact ⟨rfl, (HP.out.below (below_drew w q)).set0 _, kept_set (below_drew w q) _ _⟩
    · have e : Hid (u = v) := by unfold Hid; rw [HU.out, if_neg (by omega), if_neg (by omega)]
      clear HU
      go_enter Tryd.func34, Tryd.ntmps34
      go_wp2_with (go_at_call 41; (with_reducible refine HL.mono ?_); rintro e w2 ⟨rfl, q, rfl⟩)
      go_ret
      rw [e.out]
      exact ⟨rfl, (HP.out.below (below_drew w q)).set0 _, kept_set (below_drew w q) _ _⟩
  | false =>
    rw [c] at HL
    simp only [Bool.false_eq_true, if_false] at HL ⊢
    have HP := Lib.hid hp
    clear c hp
    go_enter Tryd.func34, Tryd.ntmps34
    go_wp2_with (go_at_call 41; (with_reducible refine HL.mono ?_); rintro e w2 ⟨rfl, q, rfl⟩)
    go_ret
    exact ⟨rfl, HP.out.below (below_drew w q), Kept.of (below_drew w q)⟩

/-- The three parts of a time, as they are read. -/
theorem time_parts (l : List UInt8) : (∀ v1 s1 b1 v2 s2 b2 v3 s3 b3, leadOf 1 2 l = (v1, s1, b1) → leadOf 1 2 (colon s1) = (v2, s2, b2) → leadOf 1 2 (colon s2) = (v3, s3, b3) →
    isTimeB l = (b1 && (b2 && b3)) ∧ (isTimeB l = true → v1 = valL l ∧ v2 = valL (timeB l) ∧ v3 = valL (timeB (timeB l)))) := by
  intro v1 s1 b1 v2 s2 b2 v3 s3 b3 h1 h2 h3
  have z : colon [] = [] := rfl
  unfold isTimeB
  cases c1 : dig 1 2 l with
  | false =>
    unfold leadOf at h1
    rw [c1] at h1
    cases h1
    simp
  | true =>
    unfold leadOf at h1
    rw [c1] at h1
    simp only [if_true] at h1
    cases h1
    change leadOf 1 2 (timeB l) = _ at h2
    cases c2 : dig 1 2 (timeB l) with
    | false =>
      unfold leadOf at h2
      rw [c2] at h2
      cases h2
      simp
    | true =>
      unfold leadOf at h2
      rw [c2] at h2
      simp only [if_true] at h2
      cases h2
      change leadOf 1 2 (timeB (timeB l)) = _ at h3
      unfold leadOf at h3
      cases c3 : dig 1 2 (timeB (timeB l)) with
      | false =>
        rw [c3] at h3
        cases h3
        simp
      | true =>
        rw [c3] at h3
        simp only [if_true] at h3
        cases h3
        simp

theorem isTimeC (l : List UInt8) (n B : Nat) (y m d h mi se : Int) (w : World) (hl : l.length = n) (hm : n ≤ maxLen) (hp : PAt B y m d h mi se w) :
    Calls Tryd.prog 31 #[.pointer (some ⟨B, 0, none⟩), .string (str l)] w (MatchIs (isTimeB l) B y m d (if isTimeB l = true then (valL l : Int) else h) (if isTimeB l = true then (valL (timeB l) : Int) else mi) (if isTimeB l = true then (valL (timeB (timeB l)) : Int) else se) w) := by
  have T := time_parts l
  have L1 := leadOf_le 1 2 l
  obtain ⟨v1, s1, b1, e1⟩ : ∃ v1 s1 b1, leadOf 1 2 l = (v1, s1, b1) := ⟨_, _, _, rfl⟩
  obtain ⟨v2, s2, b2, e2⟩ : ∃ v2 s2 b2, leadOf 1 2 (colon s1) = (v2, s2, b2) := ⟨_, _, _, rfl⟩
  obtain ⟨v3, s3, b3, e3⟩ : ∃ v3 s3 b3, leadOf 1 2 (colon s2) = (v3, s3, b3) := ⟨_, _, _, rfl⟩
  obtain ⟨t1, t2⟩ := T _ _ _ _ _ _ _ _ _ e1 e2 e3
  have L2 := leadOf_le 1 2 (colon s1)
  have L3 := colon_le s1
  have L4 := colon_le s2
  rw [e1] at L1
  rw [e2] at L2
  simp only [] at L1 L2
  have H1 := fun w => leadingC l n 1 2 1 2 w hl hm (by omega) (by omega) rfl rfl
  have H2 := fun w => leadingC (colon s1) _ 1 2 1 2 w rfl (by omega) (by omega) (by omega) rfl rfl
  have H3 := fun w => leadingC (colon s2) _ 1 2 1 2 w rfl (by omega) (by omega) (by omega) rfl rfl
  have K1 := fun w => behindColonC s1 w
  have K2 := fun w => behindColonC s2 w
  rw [e1] at H1
  rw [e2] at H2
  rw [e3] at H3
  unfold LeadIs at H1 H2 H3
  simp only [] at H1 H2 H3
  have c3 := hp.c3
  have c4 := hp.c4
  have c5 := hp.c5
  have f3 := hp.f 3 (by omega)
  have f4 := hp.f 4 (by omega)
  have f5 := hp.f 5 (by omega)
  have HP := Lib.hid hp
  have T1 := Lib.hid t1
  have T2 := Lib.hid t2
  generalize isTimeB l = g at *
  generalize valL l = w1 at *
  generalize valL (timeB l) = w2 at *
  generalize valL (timeB (timeB l)) = w3 at *
  generalize colon s1 = z1 at *
  generalize colon s2 = z2 at *
  clear T t1 t2 e1 e2 e3 L1 L2 L3 L4 hp
  have hb : g = (b1 && (b2 && b3)) := T1.out
  clear T1
  cases b1 <;> cases b2 <;> cases b3
  all_goals
    simp at hb
    subst hb
    simp only [Bool.false_eq_true, if_false, if_true]
    go_enter Tryd.func31, Tryd.ntmps31
    go_wp2_with (first
      | (go_at_call 41; first | ((with_reducible refine (H1 _).mono ?_); rintro e ww ⟨rfl, q1, rfl⟩) | ((with_reducible refine (H2 _).mono ?_); rintro e ww ⟨rfl, q2, rfl⟩) | ((with_reducible refine (H3 _).mono ?_); rintro e ww ⟨rfl, q3, rfl⟩))
      | (go_at_call 42; first | ((with_reducible refine (K1 _).mono ?_); rintro e ww ⟨rfl, rfl⟩) | ((with_reducible refine (K2 _).mono ?_); rintro e ww ⟨rfl, rfl⟩)))
    go_ret
    first
    | exact ⟨rfl, HP.out.below (below_drew w _), Kept.of (below_drew w _)⟩
    | (obtain ⟨rfl, rfl, rfl⟩ := T2.out (by trivial)
       exact ⟨rfl, (((HP.out.below (below_drew w _)).set3 _).set4 _).set5 _, ((kept_set (below_drew w _) _ _).setCell _ _).setCell _ _⟩)
end Go.Proofs.YtcjkaciknfiekaaDoor
