/- Contracts and plain words that the laws' proofs stand on, put together. -/
import Derived.Test.YthefieemngmnjaaGreatDoorDateDelim
import Derived.Test.YthefieemngmnjaaGreatDoorLibAC
import Derived.BigQuiet
import Derived.Test.YthefieemngmnjaaGreatDoorLibAA
import Derived.KernelRfl
import Derived.Laws.EntriesVeiled
/- Contracts of layer 7: tokens. -/
namespace Go.Proofs.YthefieemngmnjaaGreatDoor
open Go.RowKit
set_option linter.unusedVariables false

theorem fi_lt {l : List UInt8} {p : UInt8 → Bool} {k : Nat} (h : k < l.findIdx p) : p (l.getD k 0) = false := by
  have hk : k < l.length := Nat.lt_of_lt_of_le h List.findIdx_le_length
  have := List.not_of_lt_findIdx h
  simpa [List.getD, hk] using this
theorem fi_at {l : List UInt8} {p : UInt8 → Bool} (h : l.findIdx p < l.length) : p (l.getD (l.findIdx p) 0) = true := by
  have := List.findIdx_getElem (w := h)
  simpa [List.getD, h] using this
theorem getD_dropD (l : List UInt8) (F j : Nat) : (l.drop F).getD j 0 = l.getD (F + j) 0 := by
  simp [List.getD]

theorem nextC (l : List UInt8) (n : Nat) (w : World) (hl : l.length = n) (hm : n ≤ maxLen) :
    Calls Tryz.prog 139 #[.string (str l)] w fun e w' => e = .returned (.tuple #[.string (str (wordD l)), .string (str (restD l))]) ∧ ∃ q, w' = w.drewN q := by
  have hsz : (str l).size = n := by rw [str_size, hl]
  obtain ⟨A, hA⟩ : ∃ A, l.findIdx (fun x => !delim x) = A := ⟨_, rfl⟩
  obtain ⟨F, hF⟩ : ∃ F, (l.drop A).findIdx delim = F := ⟨_, rfl⟩
  have hAn : A ≤ n := by rw [← hA, ← hl]; exact List.findIdx_le_length
  have hFn : A + F ≤ n := by
    have : F ≤ (l.drop A).length := by rw [← hF]; exact List.findIdx_le_length
    rw [List.length_drop] at this
    omega
  have hx1 : (str l).extract A (A + F) = str (wordD l) := by
    rw [str_extract]
    unfold wordD skipD
    rw [hA, hF, Nat.add_sub_cancel_left]
  have hx2 : (str l).extract (A + F) n = str (restD l) := by
    rw [str_extract]
    unfold restD skipD
    rw [hA, hF, List.drop_drop, List.take_of_length_le (by rw [List.length_drop]; omega)]
  have h1 : Hid (∀ k, k < A → delim (l.getD k 0) = true) := by
    intro k hk
    have := fi_lt (l := l) (p := fun x => !delim x) (k := k) (by rw [hA]; exact hk)
    simpa using this
  have h2 : Hid (A < n → delim (l.getD A 0) = false) := by
    intro h
    have := fi_at (l := l) (p := fun x => !delim x) (by rw [hA, hl]; exact h)
    rw [hA] at this
    simpa using this
  have h3 : Hid (∀ k, k < F → delim (l.getD (A + k) 0) = false) := by
    intro k hk
    have := fi_lt (l := l.drop A) (p := delim) (k := k) (by rw [hF]; exact hk)
    rw [getD_dropD] at this
    exact this
  have h4 : Hid (A + F < n → delim (l.getD (A + F) 0) = true) := by
    intro h
    have := fi_at (l := l.drop A) (p := delim) (by rw [hF, List.length_drop]; omega)
    rw [hF, getD_dropD] at this
    exact this
  have HL := Lib.hid hl
  clear hA hF hl
  generalize wordD l = W at *
  generalize restD l = R at *
  unfold maxLen at hm
  go_enter Tryz.func139, Tryz.ntmps139
  go_wp2
  go_loopw [4] (fun i wr => ∃ k : Nat, k ≤ A ∧ i = .int .i64 (k : Int) ∧ w = wr) (fun i _ => A - (intOf i).toNat)
  case atStart => exact ⟨0, Nat.zero_le _, rfl, rfl⟩
  case round =>
    obtain ⟨k, hk, rfl, rfl⟩ := hrel
    rcases (show k < A ∨ (k = A ∧ A < n) ∨ (k = A ∧ A = n) by omega) with hlt | hlt | hlt
    · have hi := run_index_str (P := Tryz.prog) w 9 l .i64 k Tryz.underlying9 (by rw [HL.out]; omega)
      have hkn : (k : Int) < (n : Int) := by omega
      have HD := delimC (l.getD k 0) w
      rw [h1.out k hlt] at HD
      generalize (l.getD k 0).toNat = x at *
      clear hx1 hx2
      go_wp2_with (go_at_call 156; (with_reducible refine HD.mono ?_); rintro e w2 ⟨rfl, rfl⟩)
      go_roundw
      case rel => exact ⟨k + 1, by omega, by go_num, by first | rfl | trivial⟩
      case measure => simp [intOf]; omega
    · obtain ⟨rfl, hkl⟩ := hlt
      have hi := run_index_str (P := Tryz.prog) w 9 l .i64 k Tryz.underlying9 (by rw [HL.out]; omega)
      have hkn : (k : Int) < (n : Int) := by omega
      have HD := delimC (l.getD k 0) w
      rw [h2.out hkl] at HD
      generalize (l.getD k 0).toNat = x at *
      go_wp2_with (go_at_call 156; (with_reducible refine HD.mono ?_); rintro e w2 ⟨rfl, rfl⟩)
      go_loopw [5] (fun i wr => ∃ j : Nat, j ≤ F ∧ i = .int .i64 ((k + j : Nat) : Int) ∧ w = wr) (fun i _ => k + F - (intOf i).toNat)
      case atStart => exact ⟨0, Nat.zero_le _, rfl, rfl⟩
      case round =>
        obtain ⟨j, hj, rfl, rfl⟩ := hrel
        clear hi HD
        rcases (show j < F ∨ (j = F ∧ k + F < n) ∨ (j = F ∧ k + F = n) by omega) with hlt | hlt | hlt
        · have hi := run_index_str (P := Tryz.prog) w 9 l .i64 (k + j) Tryz.underlying9 (by rw [HL.out]; omega)
          have HD := delimC (l.getD (k + j) 0) w
          rw [h3.out j hlt] at HD
          generalize (l.getD (k + j) 0).toNat = x at *
          have hkf : k + j < k + F := by omega
          obtain ⟨J, hJ⟩ : ∃ J, k + j = J := ⟨_, rfl⟩
          rw [hJ] at hi hkf ⊢
          have hkn : (J : Int) < (n : Int) := by omega
          have HJ := Lib.hid hJ
          clear hx1 hx2 hJ
          go_wp2_with (go_at_call 156; (with_reducible refine HD.mono ?_); rintro e w2 ⟨rfl, rfl⟩)
          go_roundw
          case rel => exact ⟨j + 1, by omega, by have := HJ.out; subst this; congr 1 <;> (push_cast; omega), by first | rfl | trivial⟩
          case measure => simp [intOf]; omega
        · obtain ⟨rfl, hkl⟩ := hlt
          have hi := run_index_str (P := Tryz.prog) w 9 l .i64 (k + j) Tryz.underlying9 (by rw [HL.out]; omega)
          have HD := delimC (l.getD (k + j) 0) w
          rw [h4.out hkl] at HD
          generalize (l.getD (k + j) 0).toNat = x at *
          have hkf : k ≤ k + j := by omega
          clear h1 h2 h3 h4
          generalize k + j = J at *
          have hkn : (J : Int) < (n : Int) := by omega
          have hkn2 : (k : Int) ≤ (J : Int) := by omega
          go_wp2_with (go_at_call 156; (with_reducible refine HD.mono ?_); rintro e w2 ⟨rfl, rfl⟩)
          go_quiet (fail)
          go_wp2
          go_ret2
          exact ⟨rfl, _, rfl⟩
        · obtain ⟨rfl, hkl⟩ := hlt
          have hkf : k ≤ k + j := by omega
          clear h1 h2 h3 h4
          generalize k + j = J at *
          obtain rfl : J = n := hkl
          have hkn2 : (k : Int) ≤ (J : Int) := by omega
          have hR : str R = ByteArray.empty := by rw [← hx2]; simp
          go_wp2
          go_quiet (fail)
          go_wp2
          go_ret2
          exact ⟨by rw [hR]; rfl, _, rfl⟩
    · obtain ⟨rfl, rfl⟩ := hlt
      obtain rfl : F = 0 := by omega
      rw [Nat.add_zero] at hx1 hx2
      clear h1 h2 h3 h4
      go_wp2
      go_loopw [5] (fun i wr => i = .int .i64 (k : Int) ∧ w = wr) (fun i _ => 0)
      case atStart => exact ⟨rfl, rfl⟩
      case round =>
        obtain ⟨rfl, rfl⟩ := hrel
        have hR : str R = ByteArray.empty := by rw [← hx2]; simp
        have hW : str W = ByteArray.empty := by rw [← hx1]; simp
        go_wp2
        go_quiet (fail)
        go_wp2
        go_ret2
        exact ⟨by rw [hR, hW]; rfl, _, rfl⟩
end Go.Proofs.YthefieemngmnjaaGreatDoor

/- Contracts of layer 7: the digits that a token begins with, and what is behind them. -/
namespace Go.Proofs.YthefieemngmnjaaGreatDoor
open Go.RowKit
set_option linter.unusedVariables false

theorem leadC (l : List UInt8) (n : Nat) (w : World) (hl : l.length = n) (hm : n ≤ maxLen) :
    Calls Tryz.prog 121 #[.string (str l)] w fun e w' => e = .returned (.int .i64 (lead l : Int)) ∧ w = w' := digitsC l n w hl hm

def LeadIs (v : Int) (l : List UInt8) (b : Bool) (w : World) (e : Ending) (w' : World) : Prop :=
  e = .returned (.tuple #[.int .i64 v, .string (str l), .bool b]) ∧ ∃ q, w' = w.drewN q

theorem leadingYes (l : List UInt8) (n : Nat) (a b : Int) (w : World) (hl : l.length = n) (hm : n ≤ maxLen) (ha : 1 ≤ a) (hb : b ≤ 9) (h1 : a ≤ (lead l : Int)) (h2 : (lead l : Int) ≤ b) :
    Calls Tryz.prog 153 #[.string (str l), .int .i64 a, .int .i64 b] w (LeadIs (valL l) (l.drop (lead l)) true w) := by
  have hsz : (str l).size = n := by rw [str_size, hl]
  have hle := lead_le l
  rw [hl] at hle
  have HD := leadC l n w hl hm
  have HN := numberC (l.take (lead l)) (lead l) w (by simp; omega) (by omega)
  rw [num_lead l (by omega)] at HN
  have hx1 : (str l).extract 0 (lead l) = str (l.take (lead l)) := by rw [str_extract]; simp
  have hx2 : (str l).extract (lead l) n = str (l.drop (lead l)) := by rw [str_extract, List.take_of_length_le (by rw [List.length_drop, hl]; omega)]
  unfold LeadIs
  have hv := valL_le l
  generalize valL l = v at *
  generalize lead l = d at *
  generalize l.take d = t at *
  generalize l.drop d = r at *
  clear hl
  unfold maxLen at hm
  have hdn : (d : Int) ≤ (n : Int) := by omega
  go_enter Tryz.func153, Tryz.ntmps153
  go_wp2_with (first
    | (go_at_call 121; (with_reducible refine HD.mono ?_); rintro e w2 ⟨rfl, rfl⟩)
    | (go_at_call 89; (with_reducible refine HN.mono ?_); rintro e w2 ⟨rfl, rfl⟩))
  go_quiet (fail)
  go_wp2
  go_ret3
  exact ⟨rfl, _, rfl⟩

theorem leadingNo (l : List UInt8) (n : Nat) (a b : Int) (w : World) (hl : l.length = n) (hm : n ≤ maxLen) (h : (lead l : Int) < a ∨ b < (lead l : Int)) :
    Calls Tryz.prog 153 #[.string (str l), .int .i64 a, .int .i64 b] w (LeadIs 0 [] false w) := by
  have HD := leadC l n w hl hm
  unfold LeadIs
  generalize lead l = d at *
  by_cases h1 : (d : Int) < a
  · clear h
    go_enter Tryz.func153, Tryz.ntmps153
    go_wp2_with (go_at_call 121; (with_reducible refine HD.mono ?_); rintro e w2 ⟨rfl, rfl⟩)
    go_ret3
    exact ⟨rfl, 0, rfl⟩
  · have h2 : b < (d : Int) := by omega
    clear h
    go_enter Tryz.func153, Tryz.ntmps153
    go_wp2_with (go_at_call 121; (with_reducible refine HD.mono ?_); rintro e w2 ⟨rfl, rfl⟩)
    go_ret3
    exact ⟨rfl, 0, rfl⟩

/-- Both. -/
def leadOf (a b : Nat) (l : List UInt8) : Nat × List UInt8 × Bool := if dig a b l = true then (valL l, l.drop (lead l), true) else (0, [], false)
theorem leadingC (l : List UInt8) (n : Nat) (a b : Nat) (a' b' : Int) (w : World) (hl : l.length = n) (hm : n ≤ maxLen) (ha : 1 ≤ a) (hb : b ≤ 9) (ha' : a' = (a : Int)) (hb' : b' = (b : Int)) :
    Calls Tryz.prog 153 #[.string (str l), .int .i64 a', .int .i64 b'] w (LeadIs ((leadOf a b l).1 : Int) (leadOf a b l).2.1 (leadOf a b l).2.2 w) := by
  subst ha' hb'
  unfold leadOf
  cases c : dig a b l with
  | true =>
    simp only [dig, Bool.and_eq_true, decide_eq_true_iff] at c
    exact leadingYes l n a b w hl hm (by omega) (by omega) (by omega) (by omega)
  | false =>
    simp only [dig, Bool.and_eq_false_iff, decide_eq_false_iff_not] at c
    exact leadingNo l n a b w hl hm (by omega)
theorem leadOf_le (a b : Nat) (l : List UInt8) : (leadOf a b l).2.1.length ≤ l.length := by
  unfold leadOf
  split
  · simp
  · simp

theorem behindColonC (l : List UInt8) (w : World) :
    Calls Tryz.prog 154 #[.string (str l)] w fun e w' => e = .returned (.string (str (colon l))) ∧ w = w' := by
  have HC := Tryz.strings_CutPrefix (str l) ⟨#[58]⟩ w
  rw [str_data] at HC
  have hd : ({ data := #[58] } : ByteArray).data.toList = [58] := rfl
  rw [hd] at HC
  unfold colon
  cases c : Lib.hasPrefix l [58] with
  | true =>
    rw [c] at HC
    simp only [if_true]
    generalize Lib.trimPrefix l [58] = t at *
    clear c hd
    go_enter Tryz.func154, Tryz.ntmps154
    go_wp2_with (go_at_call 71; (with_reducible refine HC.mono ?_); rintro e w2 ⟨rfl, rfl⟩)
    go_ret
    exact ⟨rfl, rfl⟩
  | false =>
    rw [c] at HC
    generalize Lib.trimPrefix l [58] = t at *
    clear c hd
    go_enter Tryz.func154, Tryz.ntmps154
    go_wp2_with (go_at_call 71; (with_reducible refine HC.mono ?_); rintro e w2 ⟨rfl, rfl⟩)
    go_ret
    exact ⟨rfl, rfl⟩
end Go.Proofs.YthefieemngmnjaaGreatDoor

/- Contracts of layer 7: is a token a time, a day, a month, a year, and where it is put. -/
namespace Go.Proofs.YthefieemngmnjaaGreatDoor
open Go.RowKit
set_option linter.unusedVariables false

/-- The numbers of a date lie in block B. -/
structure PAt (B : Nat) (y m d h mi se : Int) (w : World) : Prop where
  c0 : w.cell? ⟨B, 0, none⟩ = some (.int .i64 y)
  c1 : w.cell? ⟨B, 1, none⟩ = some (.int .i64 m)
  c2 : w.cell? ⟨B, 2, none⟩ = some (.int .i64 d)
  c3 : w.cell? ⟨B, 3, none⟩ = some (.int .i64 h)
  c4 : w.cell? ⟨B, 4, none⟩ = some (.int .i64 mi)
  c5 : w.cell? ⟨B, 5, none⟩ = some (.int .i64 se)
  f : ∀ i, i < 6 → w.frozen? ⟨B, i, none⟩ = false

theorem PAt.lt {B : Nat} {y m d h mi se : Int} {w : World} (p : PAt B y m d h mi se w) : B < w.heap.size := cell_lt (x := ⟨B, 0, none⟩) p.c0
theorem PAt.same {B : Nat} {y m d h mi se : Int} {w w' : World} (p : PAt B y m d h mi se w) (hb : w'.heap[B]? = w.heap[B]?) : PAt B y m d h mi se w' := by
  have hc : ∀ i, w'.cell? ⟨B, i, none⟩ = w.cell? ⟨B, i, none⟩ := fun i => World.cell?_of_block hb
  have hf : ∀ i, w'.frozen? ⟨B, i, none⟩ = w.frozen? ⟨B, i, none⟩ := fun i => World.frozen?_of_block hb
  exact ⟨by rw [hc]; exact p.c0, by rw [hc]; exact p.c1, by rw [hc]; exact p.c2, by rw [hc]; exact p.c3, by rw [hc]; exact p.c4, by rw [hc]; exact p.c5, fun i hi => by rw [hf]; exact p.f i hi⟩
theorem PAt.below {B : Nat} {y m d h mi se : Int} {w w' : World} (p : PAt B y m d h mi se w) (hb : Below w.heap.size w w') : PAt B y m d h mi se w' := p.same (hb.block B p.lt)
theorem PAt.kept {B C : Nat} {y m d h mi se : Int} {w w' : World} (p : PAt B y m d h mi se w) (hk : Kept C none w w') (hBC : B ≠ C) : PAt B y m d h mi se w' := p.same (hk.block B p.lt hBC (Apart.none B))

def MatchIs (b : Bool) (B : Nat) (y m d h mi se : Int) (w : World) (e : Ending) (w' : World) : Prop :=
  e = .returned (.bool b) ∧ PAt B y m d h mi se w' ∧ Kept B none w w'

theorem below_drew (w : World) (q : Nat) : Below w.heap.size w (w.drewN q) := below_drewN (Below.refl _ _) q
theorem kept_set {B : Nat} {w w' : World} (h : Below w.heap.size w w') (i : Nat) (v : Value) : Kept B none w (w'.setCell ⟨B, i, none⟩ v) := (Kept.of h).setCell i v

theorem PAt.set0 {B : Nat} {y m d h mi se : Int} {w : World} (p : PAt B y m d h mi se w) (v : Int) : PAt B v m d h mi se (w.setCell ⟨B, 0, none⟩ (.int .i64 v)) :=
  ⟨World.cell?_setCell_same w _ _ p.c0, (World.cell?_setCell_other w _ _ _ (show (⟨B, 0, none⟩ : Addr) ≠ ⟨B, 1, none⟩ by simp)).trans p.c1, (World.cell?_setCell_other w _ _ _ (show (⟨B, 0, none⟩ : Addr) ≠ ⟨B, 2, none⟩ by simp)).trans p.c2, (World.cell?_setCell_other w _ _ _ (show (⟨B, 0, none⟩ : Addr) ≠ ⟨B, 3, none⟩ by simp)).trans p.c3, (World.cell?_setCell_other w _ _ _ (show (⟨B, 0, none⟩ : Addr) ≠ ⟨B, 4, none⟩ by simp)).trans p.c4, (World.cell?_setCell_other w _ _ _ (show (⟨B, 0, none⟩ : Addr) ≠ ⟨B, 5, none⟩ by simp)).trans p.c5, fun i hi => by rw [World.frozen?_setCell]; exact p.f i hi⟩
theorem PAt.set1 {B : Nat} {y m d h mi se : Int} {w : World} (p : PAt B y m d h mi se w) (v : Int) : PAt B y v d h mi se (w.setCell ⟨B, 1, none⟩ (.int .i64 v)) :=
  ⟨(World.cell?_setCell_other w _ _ _ (show (⟨B, 1, none⟩ : Addr) ≠ ⟨B, 0, none⟩ by simp)).trans p.c0, World.cell?_setCell_same w _ _ p.c1, (World.cell?_setCell_other w _ _ _ (show (⟨B, 1, none⟩ : Addr) ≠ ⟨B, 2, none⟩ by simp)).trans p.c2, (World.cell?_setCell_other w _ _ _ (show (⟨B, 1, none⟩ : Addr) ≠ ⟨B, 3, none⟩ by simp)).trans p.c3, (World.cell?_setCell_other w _ _ _ (show (⟨B, 1, none⟩ : Addr) ≠ ⟨B, 4, none⟩ by simp)).trans p.c4, (World.cell?_setCell_other w _ _ _ (show (⟨B, 1, none⟩ : Addr) ≠ ⟨B, 5, none⟩ by simp)).trans p.c5, fun i hi => by rw [World.frozen?_setCell]; exact p.f i hi⟩
theorem PAt.set2 {B : Nat} {y m d h mi se : Int} {w : World} (p : PAt B y m d h mi se w) (v : Int) : PAt B y m v h mi se (w.setCell ⟨B, 2, none⟩ (.int .i64 v)) :=
  ⟨(World.cell?_setCell_other w _ _ _ (show (⟨B, 2, none⟩ : Addr) ≠ ⟨B, 0, none⟩ by simp)).trans p.c0, (World.cell?_setCell_other w _ _ _ (show (⟨B, 2, none⟩ : Addr) ≠ ⟨B, 1, none⟩ by simp)).trans p.c1, World.cell?_setCell_same w _ _ p.c2, (World.cell?_setCell_other w _ _ _ (show (⟨B, 2, none⟩ : Addr) ≠ ⟨B, 3, none⟩ by simp)).trans p.c3, (World.cell?_setCell_other w _ _ _ (show (⟨B, 2, none⟩ : Addr) ≠ ⟨B, 4, none⟩ by simp)).trans p.c4, (World.cell?_setCell_other w _ _ _ (show (⟨B, 2, none⟩ : Addr) ≠ ⟨B, 5, none⟩ by simp)).trans p.c5, fun i hi => by rw [World.frozen?_setCell]; exact p.f i hi⟩
theorem PAt.set3 {B : Nat} {y m d h mi se : Int} {w : World} (p : PAt B y m d h mi se w) (v : Int) : PAt B y m d v mi se (w.setCell ⟨B, 3, none⟩ (.int .i64 v)) :=
  ⟨(World.cell?_setCell_other w _ _ _ (show (⟨B, 3, none⟩ : Addr) ≠ ⟨B, 0, none⟩ by simp)).trans p.c0, (World.cell?_setCell_other w _ _ _ (show (⟨B, 3, none⟩ : Addr) ≠ ⟨B, 1, none⟩ by simp)).trans p.c1, (World.cell?_setCell_other w _ _ _ (show (⟨B, 3, none⟩ : Addr) ≠ ⟨B, 2, none⟩ by simp)).trans p.c2, World.cell?_setCell_same w _ _ p.c3, (World.cell?_setCell_other w _ _ _ (show (⟨B, 3, none⟩ : Addr) ≠ ⟨B, 4, none⟩ by simp)).trans p.c4, (World.cell?_setCell_other w _ _ _ (show (⟨B, 3, none⟩ : Addr) ≠ ⟨B, 5, none⟩ by simp)).trans p.c5, fun i hi => by rw [World.frozen?_setCell]; exact p.f i hi⟩
theorem PAt.set4 {B : Nat} {y m d h mi se : Int} {w : World} (p : PAt B y m d h mi se w) (v : Int) : PAt B y m d h v se (w.setCell ⟨B, 4, none⟩ (.int .i64 v)) :=
  ⟨(World.cell?_setCell_other w _ _ _ (show (⟨B, 4, none⟩ : Addr) ≠ ⟨B, 0, none⟩ by simp)).trans p.c0, (World.cell?_setCell_other w _ _ _ (show (⟨B, 4, none⟩ : Addr) ≠ ⟨B, 1, none⟩ by simp)).trans p.c1, (World.cell?_setCell_other w _ _ _ (show (⟨B, 4, none⟩ : Addr) ≠ ⟨B, 2, none⟩ by simp)).trans p.c2, (World.cell?_setCell_other w _ _ _ (show (⟨B, 4, none⟩ : Addr) ≠ ⟨B, 3, none⟩ by simp)).trans p.c3, World.cell?_setCell_same w _ _ p.c4, (World.cell?_setCell_other w _ _ _ (show (⟨B, 4, none⟩ : Addr) ≠ ⟨B, 5, none⟩ by simp)).trans p.c5, fun i hi => by rw [World.frozen?_setCell]; exact p.f i hi⟩
theorem PAt.set5 {B : Nat} {y m d h mi se : Int} {w : World} (p : PAt B y m d h mi se w) (v : Int) : PAt B y m d h mi v (w.setCell ⟨B, 5, none⟩ (.int .i64 v)) :=
  ⟨(World.cell?_setCell_other w _ _ _ (show (⟨B, 5, none⟩ : Addr) ≠ ⟨B, 0, none⟩ by simp)).trans p.c0, (World.cell?_setCell_other w _ _ _ (show (⟨B, 5, none⟩ : Addr) ≠ ⟨B, 1, none⟩ by simp)).trans p.c1, (World.cell?_setCell_other w _ _ _ (show (⟨B, 5, none⟩ : Addr) ≠ ⟨B, 2, none⟩ by simp)).trans p.c2, (World.cell?_setCell_other w _ _ _ (show (⟨B, 5, none⟩ : Addr) ≠ ⟨B, 3, none⟩ by simp)).trans p.c3, (World.cell?_setCell_other w _ _ _ (show (⟨B, 5, none⟩ : Addr) ≠ ⟨B, 4, none⟩ by simp)).trans p.c4, World.cell?_setCell_same w _ _ p.c5, fun i hi => by rw [World.frozen?_setCell]; exact p.f i hi⟩

theorem isDayC (l : List UInt8) (n B : Nat) (y m d h mi se : Int) (w : World) (hl : l.length = n) (hm : n ≤ maxLen) (hp : PAt B y m d h mi se w) :
    Calls Tryz.prog 136 #[.pointer (some ⟨B, 0, none⟩), .string (str l)] w (MatchIs (dig 1 2 l) B y m (if dig 1 2 l = true then (valL l : Int) else d) h mi se w) := by
  have HL := leadingC l n 1 2 1 2 w hl hm (by omega) (by omega) rfl rfl
  unfold leadOf LeadIs at HL
  have hv := valL_le l
  cases c : dig 1 2 l with
  | true =>
    rw [c] at HL
    simp only [if_true] at HL ⊢
    generalize valL l = v at *
    generalize l.drop (lead l) = r at *
    have c2 := hp.c2
    have f2 := hp.f 2 (by omega)
    have HP := Lib.hid hp
    clear c hp
    go_enter Tryz.func136, Tryz.ntmps136
    go_wp2_with (go_at_call 153; (with_reducible refine HL.mono ?_); rintro e w2 ⟨rfl, q, rfl⟩)
    go_ret
    exact ⟨rfl, (HP.out.below (below_drew w q)).set2 v, kept_set (below_drew w q) _ _⟩
  | false =>
    rw [c] at HL
    simp only [Bool.false_eq_true, if_false] at HL ⊢
    have HP := Lib.hid hp
    clear c hp
    go_enter Tryz.func136, Tryz.ntmps136
    go_wp2_with (go_at_call 153; (with_reducible refine HL.mono ?_); rintro e w2 ⟨rfl, q, rfl⟩)
    go_ret
    exact ⟨rfl, HP.out.below (below_drew w q), Kept.of (below_drew w q)⟩

theorem isYearC (l : List UInt8) (n B : Nat) (y m d h mi se : Int) (w : World) (hl : l.length = n) (hm : n ≤ maxLen) (hp : PAt B y m d h mi se w) :
    Calls Tryz.prog 138 #[.pointer (some ⟨B, 0, none⟩), .string (str l)] w (MatchIs (dig 2 4 l) B (if dig 2 4 l = true then (yearUp (valL l) : Int) else y) m d h mi se w) := by
  have HL := leadingC l n 2 4 2 4 w hl hm (by omega) (by omega) rfl rfl
  unfold leadOf LeadIs at HL
  have hv := valL_le l
  cases c : dig 2 4 l with
  | true =>
    rw [c] at HL
    simp only [if_true] at HL ⊢
    have HU : Hid (yearUp (valL l) = if valL l < 70 then valL l + 2000 else if valL l < 100 then valL l + 1900 else valL l) := rfl
    generalize yearUp (valL l) = u at *
    generalize valL l = v at *
    generalize l.drop (lead l) = r at *
    have c0 := hp.c0
    have f0 := hp.f 0 (by omega)
    have HP := Lib.hid hp
    clear c hp
    rcases (show v < 70 ∨ (70 ≤ v ∧ v < 100) ∨ 100 ≤ v by omega) with h1 | h1 | h1
    · have e : Hid (u = v + 2000) := by unfold Hid; rw [HU.out, if_pos h1]
      clear HU
      go_enter Tryz.func138, Tryz.ntmps138
      go_wp2_with (go_at_call 153; (with_reducible refine HL.mono ?_); rintro e w2 ⟨rfl, q, rfl⟩)
      go_ret
      rw [e.out]
      exact ⟨rfl, (HP.out.below (below_drew w q)).set0 _, kept_set (below_drew w q) _ _⟩
    · obtain ⟨h2, h3⟩ := h1
      have e : Hid (u = v + 1900) := by unfold Hid; rw [HU.out, if_neg (by omega), if_pos h3]
      clear HU
      go_enter Tryz.func138, Tryz.ntmps138
      go_wp2_with (go_at_call 153; (with_reducible refine HL.mono ?_); rintro e w2 ⟨rfl, q, rfl⟩)
      go_ret
      rw [e.out]
      exact ⟨rfl, (HP.out.below (below_drew w q)).set0 _, kept_set (below_drew w q) _ _⟩
    · have e : Hid (u = v) := by unfold Hid; rw [HU.out, if_neg (by omega), if_neg (by omega)]
      clear HU
      go_enter Tryz.func138, Tryz.ntmps138
      go_wp2_with (go_at_call 153; (with_reducible refine HL.mono ?_); rintro e w2 ⟨rfl, q, rfl⟩)
      go_ret
      rw [e.out]
      exact ⟨rfl, (HP.out.below (below_drew w q)).set0 _, kept_set (below_drew w q) _ _⟩
  | false =>
    rw [c] at HL
    simp only [Bool.false_eq_true, if_false] at HL ⊢
    have HP := Lib.hid hp
    clear c hp
    go_enter Tryz.func138, Tryz.ntmps138
    go_wp2_with (go_at_call 153; (with_reducible refine HL.mono ?_); rintro e w2 ⟨rfl, q, rfl⟩)
    go_ret
    exact ⟨rfl, HP.out.below (below_drew w q), Kept.of (below_drew w q)⟩

/-- The three parts of a time, as they are read. -/
theorem time_parts (l : List UInt8) : (∀ v1 s1 b1 v2 s2 b2 v3 s3 b3, leadOf 1 2 l = (v1, s1, b1) → leadOf 1 2 (colon s1) = (v2, s2, b2) → leadOf 1 2 (colon s2) = (v3, s3, b3) →
    isTimeB l = (b1 && (b2 && b3)) ∧ (isTimeB l = true → v1 = valL l ∧ v2 = valL (timeB l) ∧ v3 = valL (timeB (timeB l)))) := by
  intro v1 s1 b1 v2 s2 b2 v3 s3 b3 h1 h2 h3
  have z : colon [] = [] := rfl
  unfold isTimeB
  cases c1 : dig 1 2 l with
  | false =>
    unfold leadOf at h1
    rw [c1] at h1
    cases h1
    simp
  | true =>
    unfold leadOf at h1
    rw [c1] at h1
    simp only [if_true] at h1
    cases h1
    change leadOf 1 2 (timeB l) = _ at h2
    cases c2 : dig 1 2 (timeB l) with
    | false =>
      unfold leadOf at h2
      rw [c2] at h2
      cases h2
      simp
    | true =>
      unfold leadOf at h2
      rw [c2] at h2
      simp only [if_true] at h2
      cases h2
      change leadOf 1 2 (timeB (timeB l)) = _ at h3
      unfold leadOf at h3
      cases c3 : dig 1 2 (timeB (timeB l)) with
      | false =>
        rw [c3] at h3
        cases h3
        simp
      | true =>
        rw [c3] at h3
        simp only [if_true] at h3
        cases h3
        simp

theorem isTimeC (l : List UInt8) (n B : Nat) (y m d h mi se : Int) (w : World) (hl : l.length = n) (hm : n ≤ maxLen) (hp : PAt B y m d h mi se w) :
    Calls Tryz.prog 135 #[.pointer (some ⟨B, 0, none⟩), .string (str l)] w (MatchIs (isTimeB l) B y m d (if isTimeB l = true then (valL l : Int) else h) (if isTimeB l = true then (valL (timeB l) : Int) else mi) (if isTimeB l = true then (valL (timeB (timeB l)) : Int) else se) w) := by
  have T := time_parts l
  have L1 := leadOf_le 1 2 l
  obtain ⟨v1, s1, b1, e1⟩ : ∃ v1 s1 b1, leadOf 1 2 l = (v1, s1, b1) := ⟨_, _, _, rfl⟩
  obtain ⟨v2, s2, b2, e2⟩ : ∃ v2 s2 b2, leadOf 1 2 (colon s1) = (v2, s2, b2) := ⟨_, _, _, rfl⟩
  obtain ⟨v3, s3, b3, e3⟩ : ∃ v3 s3 b3, leadOf 1 2 (colon s2) = (v3, s3, b3) := ⟨_, _, _, rfl⟩
  obtain ⟨t1, t2⟩ := T _ _ _ _ _ _ _ _ _ e1 e2 e3
  have L2 := leadOf_le 1 2 (colon s1)
  have L3 := colon_le s1
  have L4 := colon_le s2
  rw [e1] at L1
  rw [e2] at L2
  simp only [] at L1 L2
  have H1 := fun w => leadingC l n 1 2 1 2 w hl hm (by omega) (by omega) rfl rfl
  have H2 := fun w => leadingC (colon s1) _ 1 2 1 2 w rfl (by omega) (by omega) (by omega) rfl rfl
  have H3 := fun w => leadingC (colon s2) _ 1 2 1 2 w rfl (by omega) (by omega) (by omega) rfl rfl
  have K1 := fun w => behindColonC s1 w
  have K2 := fun w => behindColonC s2 w
  rw [e1] at H1
  rw [e2] at H2
  rw [e3] at H3
  unfold LeadIs at H1 H2 H3
  simp only [] at H1 H2 H3
  have c3 := hp.c3
  have c4 := hp.c4
  have c5 := hp.c5
  have f3 := hp.f 3 (by omega)
  have f4 := hp.f 4 (by omega)
  have f5 := hp.f 5 (by omega)
  have HP := Lib.hid hp
  have T1 := Lib.hid t1
  have T2 := Lib.hid t2
  generalize isTimeB l = g at *
  generalize valL l = w1 at *
  generalize valL (timeB l) = w2 at *
  generalize valL (timeB (timeB l)) = w3 at *
  generalize colon s1 = z1 at *
  generalize colon s2 = z2 at *
  clear T t1 t2 e1 e2 e3 L1 L2 L3 L4 hp
  have hb : g = (b1 && (b2 && b3)) := T1.out
  clear T1
  cases b1 <;> cases b2 <;> cases b3
  all_goals
    simp at hb
    subst hb
    simp only [Bool.false_eq_true, if_false, if_true]
    go_enter Tryz.func135, Tryz.ntmps135
    go_wp2_with (first
      | (go_at_call 153; first | ((with_reducible refine (H1 _).mono ?_); rintro e ww ⟨rfl, q1, rfl⟩) | ((with_reducible refine (H2 _).mono ?_); rintro e ww ⟨rfl, q2, rfl⟩) | ((with_reducible refine (H3 _).mono ?_); rintro e ww ⟨rfl, q3, rfl⟩))
      | (go_at_call 154; first | ((with_reducible refine (K1 _).mono ?_); rintro e ww ⟨rfl, rfl⟩) | ((with_reducible refine (K2 _).mono ?_); rintro e ww ⟨rfl, rfl⟩)))
    go_ret
    first
    | exact ⟨rfl, HP.out.below (below_drew w _), Kept.of (below_drew w _)⟩
    | (obtain ⟨rfl, rfl, rfl⟩ := T2.out (by trivial)
       exact ⟨rfl, (((HP.out.below (below_drew w _)).set3 _).set4 _).set5 _, ((kept_set (below_drew w _) _ _).setCell _ _).setCell _ _⟩)
end Go.Proofs.YthefieemngmnjaaGreatDoor

/- Contracts of layer 7: is a token a month, and where it is put. -/
namespace Go.Proofs.YthefieemngmnjaaGreatDoor
open Go.RowKit
set_option linter.unusedVariables false

theorem mon_low : ∀ k, k < 12 → (monTop.getD k []).map low = monTab.getD k [] := by decide +kernel

theorem monK_no (l : List UInt8) (k : Nat) (h : k < monK l) (hk : k < 12) : ((l.take 3).map low == (monTop.getD k []).map low) = false := by
  rw [mon_low k hk]
  have h2 : k < monTab.length := hk
  have := List.not_of_lt_findIdx h
  have e : monTab.getD k [] = monTab[k] := by simp [List.getD, h2]
  rw [e, beq_eq_false_iff_ne]
  intro c
  simp [c] at this
theorem monK_yes (l : List UInt8) (h : monK l < 12) : ((l.take 3).map low == (monTop.getD (monK l) []).map low) = true := by
  rw [mon_low _ h]
  have h2 : monK l < monTab.length := h
  have := List.findIdx_getElem (w := h2)
  have e : monTab.getD (monK l) [] = monTab[monK l] := by simp [List.getD, h2]
  rw [e, beq_iff_eq]
  exact (beq_iff_eq.1 this).symm

/-- A name out of the list of months. -/
theorem index12 (S : Nat → ByteArray) (k : Nat) (hk : k < 12) (w : World) : (Instr.index 154 (.agg #[Value.string (S 0), Value.string (S 1), Value.string (S 2), Value.string (S 3), Value.string (S 4), Value.string (S 5), Value.string (S 6), Value.string (S 7), Value.string (S 8), Value.string (S 9), Value.string (S 10), Value.string (S 11)]) (.int .i64 (k : Int))).run Tryz.prog w = .ok (.string (S k)) w := by
  rcases (show k = 0 ∨ k = 1 ∨ k = 2 ∨ k = 3 ∨ k = 4 ∨ k = 5 ∨ k = 6 ∨ k = 7 ∨ k = 8 ∨ k = 9 ∨ k = 10 ∨ k = 11 by omega) with rfl | rfl | rfl | rfl | rfl | rfl | rfl | rfl | rfl | rfl | rfl | rfl
  all_goals kernel_rfl

theorem isMonthC (l : List UInt8) (n B : Nat) (y m d h mi se : Int) (w : World) (hl : l.length = n) (hm : n ≤ maxLen) (hp : PAt B y m d h mi se w) (hT : DTab w) :
    Calls Tryz.prog 137 #[.pointer (some ⟨B, 0, none⟩), .string (str l)] w (MatchIs (decide (0 < monL l)) B y (if 0 < monL l then (monL l : Int) else m) d h mi se w) := by
  have hsz : (str l).size = n := by rw [str_size, hl]
  by_cases h3 : n < 3
  · have e : monL l = 0 := by unfold monL; rw [if_pos (by omega)]
    rw [e]
    have HP := Lib.hid hp
    have h3' : (n : Int) < 3 := by omega
    clear hp e
    simp only [Nat.lt_irrefl, decide_false, if_false]
    go_enter Tryz.func137, Tryz.ntmps137
    go_wp2
    go_ret
    exact ⟨rfl, HP.out, Kept.refl _ _ _⟩
  · obtain ⟨S, hS⟩ : ∃ S : Nat → ByteArray, ∀ k, S k = str (monTop.getD k []) := ⟨fun k => str (monTop.getD k []), fun _ => rfl⟩
    have g : ∀ k, k < 12 → w.cell? ⟨1, k, none⟩ = some (.string (S k)) := fun k hk => by rw [hS]; exact hT.mon k hk
    have g0 := g 0 (by omega)
    have g1 := g 1 (by omega)
    have g2 := g 2 (by omega)
    have g3 := g 3 (by omega)
    have g4 := g 4 (by omega)
    have g5 := g 5 (by omega)
    have g6 := g 6 (by omega)
    have g7 := g 7 (by omega)
    have g8 := g 8 (by omega)
    have g9 := g 9 (by omega)
    have g10 := g 10 (by omega)
    have g11 := g 11 (by omega)
    have h3' : ¬ (n : Int) < 3 := by omega
    have hx : (str l).extract 0 3 = str (l.take 3) := by rw [str_extract]; simp
    have HS := Lib.hid (fun (k : Nat) (hk : k < 12) (w : World) => sameC (l.take 3) (monTop.getD k []) 3 (monTop.getD k []).length w (by simp; omega) (by omega) rfl (by have : ∀ k, k < 12 → (monTop.getD k []).length ≤ maxLen := by decide
                                                                                                                                                                         exact this k hk))
    have hK1 := Lib.hid (monK_no l)
    have hK2 := Lib.hid (monK_yes l)
    have hK3 : Hid (monL l = if monK l < 12 then monK l + 1 else 0) := by unfold Hid monL; rw [if_neg (by omega)]
    have hS' := Lib.hid hS
    have HP := Lib.hid hp
    have c1 := hp.c1
    have f1 := hp.f 1 (by omega)
    have hlt := hp.lt
    obtain ⟨L, hL⟩ : ∃ L, monL l = L := ⟨_, rfl⟩
    rw [hL] at hK3 ⊢
    obtain ⟨G, hG⟩ : ∃ G, MatchIs (decide (0 < L)) B y (if 0 < L then (L : Int) else m) d h mi se w = G := ⟨_, rfl⟩
    rw [hG]
    have hG' := Lib.hid hG
    generalize monK l = K at *
    generalize l.take 3 = t at *
    clear hG hL hS hp g
    go_enter Tryz.func137, Tryz.ntmps137
    go_wp2
    generalize hV : (#[Value.string (S 0), Value.string (S 1), Value.string (S 2), Value.string (S 3), Value.string (S 4), Value.string (S 5), Value.string (S 6), Value.string (S 7), Value.string (S 8), Value.string (S 9), Value.string (S 10), Value.string (S 11)] : Array Value) = V
    have hVk := Lib.hid (fun k hk w => index12 S k hk w)
    rw [hV] at hVk
    clear hV
    go_loopw [11] (fun i wr => ∃ k : Nat, k ≤ 12 ∧ k ≤ K ∧ i = .int .i64 (k : Int) ∧ Below w.heap.size w wr) (fun i _ => 12 - (intOf i).toNat)
    case atStart => exact ⟨0, Nat.zero_le _, Nat.zero_le _, rfl, Below.refl _ _⟩
    case round =>
      obtain ⟨k, hk, hkK, rfl, hb⟩ := hrel
      rcases (show (k < 12 ∧ k < K) ∨ (k < 12 ∧ k = K) ∨ k = 12 by omega) with ⟨hk1, hk2⟩ | ⟨hk1, rfl⟩ | rfl
      · have hv := fun w => hVk.out k hk1 w
        have HK := HS.out k hk1
        rw [hK1.out k hk2 hk1, ← hS'.out k] at HK
        go_wp2_with (go_at_call 155; (with_reducible refine (HK _).mono ?_); rintro e w2 ⟨rfl, hx2⟩)
        go_roundw
        case rel => exact ⟨k + 1, by omega, by omega, by go_num, hb.trans (hx2.mono hb.size)⟩
        case measure => simp [intOf]; omega
      · have hv := fun w => hVk.out k hk1 w
        have HK := HS.out k hk1
        rw [hK2.out hk1, ← hS'.out k] at HK
        have HB := Lib.hid hb
        have hbs := hb.size
        go_wp2_with (go_at_call 155; (with_reducible refine (HK _).mono ?_); rintro e w2 ⟨rfl, hx2⟩; have d1 := ((hb.trans (hx2.mono hb.size)).cell (p := ⟨B, 1, none⟩) hlt).trans c1; have d2 := ((hb.trans (hx2.mono hb.size)).frozen (p := ⟨B, 1, none⟩) hlt).trans f1)
        have e : L = k + 1 := by rw [hK3.out, if_pos hk1]
        rw [← hG'.out, e, if_pos (by omega), decide_eq_true (by omega)]
        exact ⟨rfl, (HP.out.below (hb.trans (hx2.mono hb.size))).set1 _, kept_set (hb.trans (hx2.mono hb.size)) _ _⟩
      · go_wp2
        have e : L = 0 := by rw [hK3.out, if_neg (by omega)]
        rw [← hG'.out, e]
        exact ⟨rfl, HP.out.below hb, Kept.of hb⟩
end Go.Proofs.YthefieemngmnjaaGreatDoor

/- Contracts of layer 7: the memory in which what the tokens tell is put. -/
namespace Go.Proofs.YthefieemngmnjaaGreatDoor
open Go.RowKit
set_option linter.unusedVariables false

def St.vy (s : St) : Int := match s.year with | some y => (yearUp y : Int) | Option.none => 0
def St.vm (s : St) : Int := match s.month with | some m => (m : Int) | Option.none => 0
def St.vd (s : St) : Int := match s.day with | some d => (d : Int) | Option.none => 0
def St.vh (s : St) : Int := match s.time with | some (h, _, _) => (h : Int) | Option.none => 0
def St.vi (s : St) : Int := match s.time with | some (_, i, _) => (i : Int) | Option.none => 0
def St.vs (s : St) : Int := match s.time with | some (_, _, x) => (x : Int) | Option.none => 0

/-- Which of the four were met lies in block M. -/
structure MAt (M : Nat) (a b c d : Bool) (w : World) : Prop where
  c0 : w.cell? ⟨M, 0, none⟩ = some (.bool a)
  c1 : w.cell? ⟨M, 1, none⟩ = some (.bool b)
  c2 : w.cell? ⟨M, 2, none⟩ = some (.bool c)
  c3 : w.cell? ⟨M, 3, none⟩ = some (.bool d)
  f : ∀ i, i < 4 → w.frozen? ⟨M, i, none⟩ = false
theorem MAt.lt {M : Nat} {a b c d : Bool} {w : World} (p : MAt M a b c d w) : M < w.heap.size := cell_lt (x := ⟨M, 0, none⟩) p.c0
theorem MAt.same {M : Nat} {a b c d : Bool} {w w' : World} (p : MAt M a b c d w) (hb : w'.heap[M]? = w.heap[M]?) : MAt M a b c d w' := by
  have hc : ∀ i, w'.cell? ⟨M, i, none⟩ = w.cell? ⟨M, i, none⟩ := fun i => World.cell?_of_block hb
  have hf : ∀ i, w'.frozen? ⟨M, i, none⟩ = w.frozen? ⟨M, i, none⟩ := fun i => World.frozen?_of_block hb
  exact ⟨by rw [hc]; exact p.c0, by rw [hc]; exact p.c1, by rw [hc]; exact p.c2, by rw [hc]; exact p.c3, fun i hi => by rw [hf]; exact p.f i hi⟩
theorem MAt.set0 {M : Nat} {a b c d : Bool} {w : World} (p : MAt M a b c d w) : MAt M true b c d (w.setCell ⟨M, 0, none⟩ (.bool true)) :=
  ⟨World.cell?_setCell_same w _ _ p.c0, (World.cell?_setCell_other w _ _ _ (show (⟨M, 0, none⟩ : Addr) ≠ ⟨M, 1, none⟩ by simp)).trans p.c1, (World.cell?_setCell_other w _ _ _ (show (⟨M, 0, none⟩ : Addr) ≠ ⟨M, 2, none⟩ by simp)).trans p.c2, (World.cell?_setCell_other w _ _ _ (show (⟨M, 0, none⟩ : Addr) ≠ ⟨M, 3, none⟩ by simp)).trans p.c3, fun i hi => by rw [World.frozen?_setCell]; exact p.f i hi⟩
theorem MAt.set1 {M : Nat} {a b c d : Bool} {w : World} (p : MAt M a b c d w) : MAt M a true c d (w.setCell ⟨M, 1, none⟩ (.bool true)) :=
  ⟨(World.cell?_setCell_other w _ _ _ (show (⟨M, 1, none⟩ : Addr) ≠ ⟨M, 0, none⟩ by simp)).trans p.c0, World.cell?_setCell_same w _ _ p.c1, (World.cell?_setCell_other w _ _ _ (show (⟨M, 1, none⟩ : Addr) ≠ ⟨M, 2, none⟩ by simp)).trans p.c2, (World.cell?_setCell_other w _ _ _ (show (⟨M, 1, none⟩ : Addr) ≠ ⟨M, 3, none⟩ by simp)).trans p.c3, fun i hi => by rw [World.frozen?_setCell]; exact p.f i hi⟩
theorem MAt.set2 {M : Nat} {a b c d : Bool} {w : World} (p : MAt M a b c d w) : MAt M a b true d (w.setCell ⟨M, 2, none⟩ (.bool true)) :=
  ⟨(World.cell?_setCell_other w _ _ _ (show (⟨M, 2, none⟩ : Addr) ≠ ⟨M, 0, none⟩ by simp)).trans p.c0, (World.cell?_setCell_other w _ _ _ (show (⟨M, 2, none⟩ : Addr) ≠ ⟨M, 1, none⟩ by simp)).trans p.c1, World.cell?_setCell_same w _ _ p.c2, (World.cell?_setCell_other w _ _ _ (show (⟨M, 2, none⟩ : Addr) ≠ ⟨M, 3, none⟩ by simp)).trans p.c3, fun i hi => by rw [World.frozen?_setCell]; exact p.f i hi⟩
theorem MAt.set3 {M : Nat} {a b c d : Bool} {w : World} (p : MAt M a b c d w) : MAt M a b c true (w.setCell ⟨M, 3, none⟩ (.bool true)) :=
  ⟨(World.cell?_setCell_other w _ _ _ (show (⟨M, 3, none⟩ : Addr) ≠ ⟨M, 0, none⟩ by simp)).trans p.c0, (World.cell?_setCell_other w _ _ _ (show (⟨M, 3, none⟩ : Addr) ≠ ⟨M, 1, none⟩ by simp)).trans p.c1, (World.cell?_setCell_other w _ _ _ (show (⟨M, 3, none⟩ : Addr) ≠ ⟨M, 2, none⟩ by simp)).trans p.c2, World.cell?_setCell_same w _ _ p.c3, fun i hi => by rw [World.frozen?_setCell]; exact p.f i hi⟩

/-- The list of matchers lies in block F. -/
structure FAt (F : Nat) (w : World) : Prop where
  c0 : w.cell? ⟨F, 0, none⟩ = some (.func (.func 135) #[] #[])
  c1 : w.cell? ⟨F, 1, none⟩ = some (.func (.func 136) #[] #[])
  c2 : w.cell? ⟨F, 2, none⟩ = some (.func (.func 137) #[] #[])
  c3 : w.cell? ⟨F, 3, none⟩ = some (.func (.func 138) #[] #[])
theorem FAt.lt {F : Nat} {w : World} (p : FAt F w) : F < w.heap.size := cell_lt (x := ⟨F, 0, none⟩) p.c0
theorem FAt.same {F : Nat} {w w' : World} (p : FAt F w) (hb : w'.heap[F]? = w.heap[F]?) : FAt F w' := by
  have hc : ∀ i, w'.cell? ⟨F, i, none⟩ = w.cell? ⟨F, i, none⟩ := fun i => World.cell?_of_block hb
  exact ⟨by rw [hc]; exact p.c0, by rw [hc]; exact p.c1, by rw [hc]; exact p.c2, by rw [hc]; exact p.c3⟩

/-- The state s, as it lies in memory behind what the world w0 had. -/
structure ReadAt (b : Nat) (s : St) (w0 w : World) : Prop where
  p : PAt (b + 1) s.vy s.vm s.vd s.vh s.vi s.vs w
  m : MAt (b + 1 + 1 + 1) s.time.isSome s.day.isSome s.month.isSome s.year.isSome w
  f : FAt (b + 1 + 1) w
  r : PAt b 0 0 0 0 0 0 w
  below : Below b w0 w
theorem ReadAt.of {b : Nat} {s : St} {w0 w w' : World} (h : ReadAt b s w0 w) (hb : Below w.heap.size w w') : ReadAt b s w0 w' :=
  ⟨h.p.below hb, h.m.same (hb.block _ h.m.lt), h.f.same (hb.block _ h.f.lt), h.r.below hb, h.below.trans (hb.mono (Nat.le_of_lt h.r.lt))⟩
/-- A matcher that says no. -/
theorem ReadAt.no {b : Nat} {s : St} {w0 w w' : World} (h : ReadAt b s w0 w) (hp : PAt (b + 1) s.vy s.vm s.vd s.vh s.vi s.vs w') (hk : Kept (b + 1) none w w') : ReadAt b s w0 w' :=
  ⟨hp, h.m.same (hk.block _ h.m.lt (by omega) (Apart.none _)), h.f.same (hk.block _ h.f.lt (by omega) (Apart.none _)), h.r.same (hk.block _ h.r.lt (by omega) (Apart.none _)), h.below.trans (hk.below (by omega) (fun x hx => by cases hx) (Nat.le_of_lt h.r.lt))⟩
/-- A matcher that says yes: the state that lies there then. -/
theorem ReadAt.yes {b : Nat} {s s2 : St} {w0 w w' : World} (h : ReadAt b s w0 w) (hp : PAt (b + 1) s2.vy s2.vm s2.vd s2.vh s2.vi s2.vs w') (hk : Kept (b + 1) none w w') (k : Nat)
    (hm : MAt (b + 1 + 1 + 1) s.time.isSome s.day.isSome s.month.isSome s.year.isSome w' → MAt (b + 1 + 1 + 1) s2.time.isSome s2.day.isSome s2.month.isSome s2.year.isSome (w'.setCell ⟨b + 1 + 1 + 1, k, none⟩ (.bool true))) :
    ReadAt b s2 w0 (w'.setCell ⟨b + 1 + 1 + 1, k, none⟩ (.bool true)) := by
  have hs : ∀ c, c ≠ b + 1 + 1 + 1 → (w'.setCell ⟨b + 1 + 1 + 1, k, none⟩ (.bool true)).heap[c]? = w'.heap[c]? := fun c hc => Below.heap_setCell w' ⟨b + 1 + 1 + 1, k, none⟩ (.bool true) c hc
  have hm0 := h.m.same (hk.block _ h.m.lt (by omega) (Apart.none _))
  refine ⟨hp.same (hs _ (by omega)), hm hm0, (h.f.same (hk.block _ h.f.lt (by omega) (Apart.none _))).same (hs _ (by omega)), (h.r.same (hk.block _ h.r.lt (by omega) (Apart.none _))).same (hs _ (by omega)), ?_⟩
  exact (h.below.trans (hk.below (by omega) (fun x hx => by cases hx) (Nat.le_of_lt h.r.lt))).setCell (by show b ≤ b + 1 + 1 + 1; omega) _

def takesD (s : St) (t : List UInt8) (k : Nat) : Bool :=
  if k = 0 then s.time.isNone && isTimeB t else if k = 1 then s.day.isNone && dig 1 2 t else if k = 2 then s.month.isNone && decide (0 < monL t) else s.year.isNone && dig 2 4 t

theorem step_no (s : St) (t : List UInt8) (h : ∀ k, k < 4 → takesD s t k = false) : stepD s t = s := by
  have h0 := h 0 (by omega)
  have h1 := h 1 (by omega)
  have h2 := h 2 (by omega)
  have h3 := h 3 (by omega)
  change (s.time.isNone && isTimeB t) = false at h0
  change (s.day.isNone && dig 1 2 t) = false at h1
  change (s.month.isNone && decide (0 < monL t)) = false at h2
  change (s.year.isNone && dig 2 4 t) = false at h3
  unfold stepD
  rw [h0, h1, h2, h3]
  rfl
theorem step_0 (s : St) (t : List UInt8) (h : s.time.isSome = false) (ht : isTimeB t = true) : stepD s t = { s with time := some (valL t, valL (timeB t), valL (timeB (timeB t))) } := by
  have e : s.time.isNone = true := by cases c : s.time with
    | none => rfl
    | some x => rw [c] at h; cases h
  unfold stepD
  rw [e, ht]
  rfl
theorem step_1 (s : St) (t : List UInt8) (h0 : takesD s t 0 = false) (h : s.day.isSome = false) (ht : dig 1 2 t = true) : stepD s t = { s with day := some (valL t) } := by
  have e : s.day.isNone = true := by cases c : s.day with
    | none => rfl
    | some x => rw [c] at h; cases h
  change (s.time.isNone && isTimeB t) = false at h0
  unfold stepD
  rw [h0, e, ht]
  rfl
theorem step_2 (s : St) (t : List UInt8) (h0 : takesD s t 0 = false) (h1 : takesD s t 1 = false) (h : s.month.isSome = false) (ht : decide (0 < monL t) = true) : stepD s t = { s with month := some (monL t) } := by
  have e : s.month.isNone = true := by cases c : s.month with
    | none => rfl
    | some x => rw [c] at h; cases h
  change (s.time.isNone && isTimeB t) = false at h0
  change (s.day.isNone && dig 1 2 t) = false at h1
  unfold stepD
  rw [h0, h1, e, ht]
  rfl
theorem step_3 (s : St) (t : List UInt8) (h0 : takesD s t 0 = false) (h1 : takesD s t 1 = false) (h2 : takesD s t 2 = false) (h : s.year.isSome = false) (ht : dig 2 4 t = true) : stepD s t = { s with year := some (valL t) } := by
  have e : s.year.isNone = true := by cases c : s.year with
    | none => rfl
    | some x => rw [c] at h; cases h
  change (s.time.isNone && isTimeB t) = false at h0
  change (s.day.isNone && dig 1 2 t) = false at h1
  change (s.month.isNone && decide (0 < monL t)) = false at h2
  unfold stepD
  rw [h0, h1, h2, e, ht]
  rfl
theorem takes_met (s : St) (t : List UInt8) : (s.time.isSome = true → takesD s t 0 = false) ∧ (s.day.isSome = true → takesD s t 1 = false) ∧ (s.month.isSome = true → takesD s t 2 = false) ∧ (s.year.isSome = true → takesD s t 3 = false) := by
  obtain ⟨a, b, c, d⟩ := s
  refine ⟨?_, ?_, ?_, ?_⟩
  · cases a <;> simp [takesD]
  · cases b <;> simp [takesD]
  · cases c <;> simp [takesD]
  · cases d <;> simp [takesD]
theorem takes_no (s : St) (t : List UInt8) : (isTimeB t = false → takesD s t 0 = false) ∧ (dig 1 2 t = false → takesD s t 1 = false) ∧ (decide (0 < monL t) = false → takesD s t 2 = false) ∧ (dig 2 4 t = false → takesD s t 3 = false) := by
  refine ⟨?_, ?_, ?_, ?_⟩
  · intro h; simp [takesD, h]
  · intro h; simp [takesD, h]
  · intro h; simp [takesD] at h ⊢; simp [h]
  · intro h; simp [takesD, h]
theorem upto_succ {P : Nat → Bool} {k : Nat} (h : ∀ j, j < k → P j = false) (hk : P k = false) : ∀ j, j < k + 1 → P j = false := fun j hj => by
  rcases Nat.lt_succ_iff_lt_or_eq.1 hj with h1 | rfl
  · exact h j h1
  · exact hk

theorem rows_of {w : World} {b : Nat} {c : Array Value} {e : TypeId} (h : w.heap[b]? = some (.cells c e (0, 0))) (i : Nat) (hi : i < c.size) : w.cell? ⟨b, i, none⟩ = some c[i] ∧ w.frozen? ⟨b, i, none⟩ = false := by
  refine ⟨?_, ?_⟩
  · rw [cell_of_row _ _ _ _ _ _ h]; simp [hi]
  · simp [World.frozen?, h]
theorem heap_new (w : World) (o : Obj) : (w.alloc o).heap[w.heap.size]? = some o := by
  show (w.heap.push o)[w.heap.size]? = some o
  simp
theorem size_new (w : World) (o : Obj) : (w.alloc o).heap.size = w.heap.size + 1 := by
  show (w.heap.push o).size = _
  simp
theorem four_new (w : World) (A B C D : Obj) (q : Nat) : (((((w.alloc A).alloc B).alloc C).alloc D).drewN q).heap[w.heap.size]? = some A ∧ (((((w.alloc A).alloc B).alloc C).alloc D).drewN q).heap[w.heap.size + 1]? = some B ∧
    (((((w.alloc A).alloc B).alloc C).alloc D).drewN q).heap[w.heap.size + 1 + 1]? = some C ∧ (((((w.alloc A).alloc B).alloc C).alloc D).drewN q).heap[w.heap.size + 1 + 1 + 1]? = some D ∧ Below w.heap.size w (((((w.alloc A).alloc B).alloc C).alloc D).drewN q) := by
  have hd : ∀ (v : World) (k : Nat), (v.drewN q).heap[k]? = v.heap[k]? := fun v k => rfl
  have s1 := size_new w A
  have s2 := size_new (w.alloc A) B
  have s3 := size_new ((w.alloc A).alloc B) C
  have s4 := size_new (((w.alloc A).alloc B).alloc C) D
  have b1 := Below.heap_alloc w A
  have b2 := Below.heap_alloc (w.alloc A) B
  have b3 := Below.heap_alloc ((w.alloc A).alloc B) C
  have b4 := Below.heap_alloc (((w.alloc A).alloc B).alloc C) D
  have h1 := heap_new w A
  have h2 := heap_new (w.alloc A) B
  have h3 := heap_new ((w.alloc A).alloc B) C
  have h4 := heap_new (((w.alloc A).alloc B).alloc C) D
  refine ⟨?_, ?_, ?_, ?_, below_drewN ((((below_alloc w A).alloc (by omega) B).alloc (by omega) C).alloc (by omega) D) q⟩
  · rw [hd, b4 _ (by omega), b3 _ (by omega), b2 _ (by omega), h1]
  · rw [hd, b4 _ (by omega), b3 _ (by omega), ← s1, h2]
  · rw [hd, b4 _ (by omega), ← s1, ← s2, h3]
  · rw [hd, ← s1, ← s2, ← s3, h4]
theorem readAt_new (w : World) (e1 e2 e3 e4 : TypeId) (q : Nat) : ReadAt w.heap.size St.none w
    (((((w.alloc (.cells #[.int .i64 0, .int .i64 0, .int .i64 0, .int .i64 0, .int .i64 0, .int .i64 0] e1)).alloc (.cells #[.int .i64 0, .int .i64 0, .int .i64 0, .int .i64 0, .int .i64 0, .int .i64 0] e2)).alloc
      (.cells #[.func (.func 135) #[] #[], .func (.func 136) #[] #[], .func (.func 137) #[] #[], .func (.func 138) #[] #[]] e3)).alloc
      (.cells #[.bool false, .bool false, .bool false, .bool false] e4)).drewN q) := by
  obtain ⟨r0, r1, r2, r3, hb⟩ := four_new w (.cells #[.int .i64 0, .int .i64 0, .int .i64 0, .int .i64 0, .int .i64 0, .int .i64 0] e1) (.cells #[.int .i64 0, .int .i64 0, .int .i64 0, .int .i64 0, .int .i64 0, .int .i64 0] e2)
    (.cells #[.func (.func 135) #[] #[], .func (.func 136) #[] #[], .func (.func 137) #[] #[], .func (.func 138) #[] #[]] e3) (.cells #[.bool false, .bool false, .bool false, .bool false] e4) q
  generalize World.drewN _ q = v at *
  refine ⟨⟨?_, ?_, ?_, ?_, ?_, ?_, fun i hi => (rows_of r1 i hi).2⟩, ⟨?_, ?_, ?_, ?_, fun i hi => (rows_of r3 i hi).2⟩, ⟨?_, ?_, ?_, ?_⟩, ⟨?_, ?_, ?_, ?_, ?_, ?_, fun i hi => (rows_of r0 i hi).2⟩, hb⟩
  · exact (rows_of r1 0 (by decide)).1
  · exact (rows_of r1 1 (by decide)).1
  · exact (rows_of r1 2 (by decide)).1
  · exact (rows_of r1 3 (by decide)).1
  · exact (rows_of r1 4 (by decide)).1
  · exact (rows_of r1 5 (by decide)).1
  · exact (rows_of r3 0 (by decide)).1
  · exact (rows_of r3 1 (by decide)).1
  · exact (rows_of r3 2 (by decide)).1
  · exact (rows_of r3 3 (by decide)).1
  · exact (rows_of r2 0 (by decide)).1
  · exact (rows_of r2 1 (by decide)).1
  · exact (rows_of r2 2 (by decide)).1
  · exact (rows_of r2 3 (by decide)).1
  · exact (rows_of r0 0 (by decide)).1
  · exact (rows_of r0 1 (by decide)).1
  · exact (rows_of r0 2 (by decide)).1
  · exact (rows_of r0 3 (by decide)).1
  · exact (rows_of r0 4 (by decide)).1
  · exact (rows_of r0 5 (by decide)).1
end Go.Proofs.YthefieemngmnjaaGreatDoor

/- Contracts of the reference of layer 7: tokens, digits, times, months. -/
namespace Go.Proofs.YthefieemngmnjaaGreatDoor
open Go.RowKit
set_option linter.unusedVariables false

theorem tok_len (l : List UInt8) : ∀ T, (tok T l).length ≤ T.length + l.length := by
  induction l with
  | nil =>
    intro T
    unfold tok
    cases T with
    | nil => simp
    | cons x xs => simp
  | cons x r ih =>
    intro T
    unfold tok
    split
    · split
      · have := ih []
        simp at this ⊢
        omega
      · rename_i h
        have := ih []
        have h2 : 1 ≤ T.length := by
          cases T with
          | nil => simp at h
          | cons y ys => simp
        simp at this ⊢
        omega
    · have := ih (T ++ [x])
      simp at this ⊢
      omega

theorem refTokensC (l : List UInt8) (n : Nat) (w : World) (hl : l.length = n) (hm : n ≤ 1000000000000) :
    Calls Tryz.prog 100 #[.string (str l)] w (GivesStrs (tok [] l) w) := by
  have hsz : (str l).size = n := by rw [str_size, hl]
  have hx := str_extract l
  obtain ⟨i0, hi, hz0, hz1, hz2⟩ := info_parts infoStr
  have hown0 := owned_lit w 9
  have hbel0 := below_alloc w (.cells #[] 9)
  have HL := Lib.hid hl
  obtain ⟨G, hG⟩ : ∃ G, GivesStrs (tok [] l) w = G := ⟨_, rfl⟩
  rw [hG]
  have hG' := Lib.hid hG
  have hk := str_toList
  clear hl hG
  go_enter Tryz.func100, Tryz.ntmps100
  go_wp2
  go_loopw [3, 4, 5] (fun v s i wr => ∃ (k N : Nat) (a : Option Addr) (C : Nat) (P : List (List UInt8)) (T : List UInt8), k ≤ n ∧ N ≤ k ∧ T.length ≤ k ∧ v = .slice a N C ∧ s = .string (str T) ∧ i = .int .i64 (k : Int) ∧ Hid (tok [] l = P ++ tok T (l.drop k)) ∧ Owned w.heap.size 9 a N C (strs P) wr ∧ Below w.heap.size w wr) (fun _ _ i _ => n - (intOf i).toNat)
  case atStart => exact ⟨0, 0, _, _, [], [], Nat.zero_le _, Nat.le_refl _, Nat.le_refl _, rfl, rfl, rfl, by unfold Hid; simp, hown0, hbel0⟩
  case round =>
    clear hown0 hbel0
    obtain ⟨k, N, a, C, P, T, hk1, hN, hTl, rfl, rfl, rfl, H, ho, hb⟩ := hrel
    have HO := Lib.hid ho
    have hbs := hb.size
    have HB := Lib.hid hb
    clear ho hb
    by_cases hlt : k < n
    · have hlt' : (k : Int) < (n : Int) := by omega
      have hkl : k < l.length := by rw [HL.out]; exact hlt
      have hix := run_index_str (P := Tryz.prog) wr 9 l .i64 k Tryz.underlying9 hkl
      have HD := fun w => refDelimC (l.getD k 0) w
      have hd : l.drop k = l.getD k 0 :: l.drop (k + 1) := by
        rw [List.drop_eq_getElem_cons hkl]
        simp [List.getD, hkl]
      have hxk := hx k (k + 1)
      rw [cut_one hkl] at hxk
      have H1 := H.out
      rw [hd] at H1
      have ha := fun (w : World) => run_add_str (P := Tryz.prog) w T [l.getD k 0] (by simp; omega)
      cases c : delim (l.getD k 0) with
      | false =>
        rw [c] at HD
        have H2 : Hid (tok [] l = P ++ tok (T ++ [l.getD k 0]) (l.drop (k + 1))) := by
          unfold Hid
          rw [H1, tok, if_neg (by rw [c]; simp)]
        clear H1 hd c H hx
        generalize l.getD k 0 = x at *
        generalize x.toNat = xn at *
        go_wp2_with (go_at_call 127; (with_reducible refine (HD _).mono ?_); rintro e w2 ⟨rfl, rfl⟩)
        go_roundw
        case rel => exact ⟨k + 1, N, a, C, P, T ++ [x], by omega, by omega, by simp; omega, rfl, rfl, by go_num, H2, HO.out, HB.out⟩
        case measure => simp [intOf]; omega
      | true =>
        rw [c] at HD
        clear ha hxk hx
        by_cases hT : T = []
        · subst hT
          have H2 : Hid (tok [] l = P ++ tok [] (l.drop (k + 1))) := by
            unfold Hid
            rw [H1, tok, if_pos c]
            rfl
          clear H1 hd c H
          generalize l.getD k 0 = x at *
          generalize x.toNat = xn at *
          go_wp2_with (go_at_call 127; (with_reducible refine (HD _).mono ?_); rintro e w2 ⟨rfl, rfl⟩)
          go_roundw
          case rel => exact ⟨k + 1, N, a, C, P, [], by omega, by omega, by simp, rfl, rfl, by go_num, H2, HO.out, HB.out⟩
          case measure => simp [intOf]; omega
        · have hbn : (T == []) = false := by
            cases T with
            | nil => exact absurd rfl hT
            | cons y ys => rfl
          have hem : T.isEmpty = false := by
            cases T with
            | nil => exact absurd rfl hT
            | cons y ys => rfl
          have H2 : Hid (tok [] l = (P ++ [T]) ++ tok [] (l.drop (k + 1))) := by
            unfold Hid
            rw [H1, tok, if_pos c, if_neg (by rw [hem]; simp)]
            simp
          clear H1 hd c H hem hT
          generalize l.getD k 0 = x at *
          generalize x.toNat = xn at *
          have hO := HO.out
          go_wp2_with (first
            | (go_at_call 127; (with_reducible refine (HD _).mono ?_); rintro e w2 ⟨rfl, rfl⟩)
            | (at_builtin; refine wpList_append_one rfl (.tmp 27) (.tmp 29) 22 rfl 9 i0 (.string ⟨#[]⟩) 16 Tryz.underlying22 hi hz0 hz1 hz2 rfl hO.1 rfl rfl rfl (by unfold maxLen; omega) (by omega) hbs ?_; intro v2 w2 ho2 hb2; obtain ⟨a2, c2, rfl, ho3⟩ := Owned.of ho2))
          rw [strs_snoc] at ho3
          go_roundw
          case rel => exact ⟨k + 1, N + 1, a2, c2, P ++ [T], [], by omega, by omega, by simp, rfl, rfl, by go_num, H2, ho3, HB.out.trans hb2⟩
          case measure => simp [intOf]; omega
    · obtain rfl : k = n := by omega
      have hO := HO.out
      have H1 := H.out
      rw [List.drop_eq_nil_of_le (by rw [HL.out]; omega)] at H1
      clear hx H
      by_cases hT : T = []
      · subst hT
        have H2 : Hid (tok [] l = P) := by unfold Hid; rw [H1]; simp [tok]
        clear H1
        go_wp2
        rw [← hG'.out, H2.out]
        have e : N = P.length := by rw [← strs_length, ← hO.len]
        subst e
        exact ⟨a, C, rfl, hO, HB.out⟩
      · have hbn : (T == []) = false := by
          cases T with
          | nil => exact absurd rfl hT
          | cons y ys => rfl
        have H2 : Hid (tok [] l = P ++ [T]) := by
          unfold Hid
          rw [H1]
          cases T with
          | nil => exact absurd rfl hT
          | cons y ys => simp [tok]
        clear H1 hT
        go_wp2_with (at_builtin; refine wpList_append_one rfl (.tmp 33) (.tmp 35) 22 rfl 9 i0 (.string ⟨#[]⟩) 16 Tryz.underlying22 hi hz0 hz1 hz2 rfl hO.1 rfl rfl rfl (by unfold maxLen; omega) (by omega) hbs ?_; intro v2 w2 ho2 hb2; obtain ⟨a2, c2, rfl, ho3⟩ := Owned.of ho2)
        rw [strs_snoc] at ho3
        rw [← hG'.out, H2.out]
        have e : N + 1 = (P ++ [T]).length := by rw [← strs_length, ← ho3.len]
        exact ⟨a2, c2, by rw [← e]; rfl, by rw [← e]; exact ho3, HB.out.trans hb2⟩
end Go.Proofs.YthefieemngmnjaaGreatDoor

/- Contracts of the reference of layer 7: digits, times, months. -/
namespace Go.Proofs.YthefieemngmnjaaGreatDoor
open Go.RowKit
set_option linter.unusedVariables false

theorem refDigC (l : List UInt8) (n : Nat) (a b : Nat) (a' b' : Int) (w : World) (hl : l.length = n) (hm : n ≤ maxLen) (ha : a ≤ 9) (hb : b ≤ 9) (ha' : a' = (a : Int)) (hb' : b' = (b : Int)) :
    Calls Tryz.prog 102 #[.string (str l), .int .i64 a', .int .i64 b'] w fun e w' => e = .returned (.bool (dig a b l)) ∧ w = w' := by
  subst ha' hb'
  have HD := refDigitsC l n w hl hm
  have he : Hid (dig a b l = (decide (a ≤ lead l) && decide (lead l ≤ b))) := rfl
  generalize dig a b l = g at *
  generalize lead l = d at *
  have hi : Hid (g = (decide ((a : Int) ≤ (d : Int)) && decide ((d : Int) ≤ (b : Int)))) := by
    unfold Hid
    rw [he.out, Bool.eq_iff_iff]
    simp
  clear he
  by_cases h1 : (a : Int) ≤ (d : Int)
  · have h1' : ¬ (d : Int) < (a : Int) := by omega
    by_cases h2 : (d : Int) ≤ (b : Int)
    · have e : Hid (g = true) := by unfold Hid; rw [hi.out, decide_eq_true h1, decide_eq_true h2]; rfl
      go_enter Tryz.func102, Tryz.ntmps102
      go_wp2_with (go_at_call 107; (with_reducible refine HD.mono ?_); rintro e w2 ⟨rfl, rfl⟩)
      go_ret
      exact ⟨by rw [e.out]; rfl, rfl⟩
    · have e : Hid (g = false) := by unfold Hid; rw [hi.out, decide_eq_true h1, decide_eq_false h2]; rfl
      go_enter Tryz.func102, Tryz.ntmps102
      go_wp2_with (go_at_call 107; (with_reducible refine HD.mono ?_); rintro e w2 ⟨rfl, rfl⟩)
      go_ret
      exact ⟨by rw [e.out]; show Ending.returned (.bool (decide (d ≤ b))) = _; rw [decide_eq_false (by omega)], rfl⟩
  · have e : Hid (g = false) := by unfold Hid; rw [hi.out, decide_eq_false h1]; rfl
    go_enter Tryz.func102, Tryz.ntmps102
    go_wp2_with (go_at_call 107; (with_reducible refine HD.mono ?_); rintro e w2 ⟨rfl, rfl⟩)
    go_ret
    exact ⟨by rw [e.out]; rfl, rfl⟩

theorem num_lead' (l : List UInt8) : (numL (l.take (lead l))).1 = (valL l : Int) := by
  rcases Nat.eq_zero_or_pos (lead l) with h | h
  · unfold valL
    rw [h]
    rfl
  · rw [num_lead l h]

theorem refValueC (l : List UInt8) (n : Nat) (w : World) (hl : l.length = n) (hm : n ≤ maxLen) :
    Calls Tryz.prog 103 #[.string (str l)] w fun e w' => e = .returned (.int .i64 (valL l : Int)) ∧ w = w' := by
  have hsz : (str l).size = n := by rw [str_size, hl]
  have HD := refDigitsC l n w hl hm
  have hle := lead_le l
  have HN := refNumberC (l.take (lead l)) (lead l) w (by simp; omega) (by omega)
  rw [num_lead' l] at HN
  have hx1 : (str l).extract 0 (lead l) = str (l.take (lead l)) := by rw [str_extract]; simp
  generalize (numL (l.take (lead l))).2 = g at *
  generalize l.take (lead l) = t at *
  have hdn : ((lead l : Nat) : Int) ≤ (n : Int) := by omega
  generalize lead l = d at *
  generalize valL l = v at *
  clear hl
  go_enter Tryz.func103, Tryz.ntmps103
  go_wp2_with (first
    | (go_at_call 107; (with_reducible refine HD.mono ?_); rintro e w2 ⟨rfl, rfl⟩)
    | (go_at_call 63; (with_reducible refine HN.mono ?_); rintro e w2 ⟨rfl, rfl⟩))
  go_ret
  exact ⟨rfl, rfl⟩

/-- The names of the months, one behind the other. -/
theorem names12 (k : Nat) (hk : k < 12) : (⟨#[106, 97, 110, 102, 101, 98, 109, 97, 114, 97, 112, 114, 109, 97, 121, 106, 117, 110, 106, 117, 108, 97, 117, 103, 115, 101, 112, 111, 99, 116, 110, 111, 118, 100, 101, 99]⟩ : ByteArray).extract (3 * (k + 1) - 3) (3 * (k + 1)) = str (monTab.getD k []) := by
  have e : (⟨#[106, 97, 110, 102, 101, 98, 109, 97, 114, 97, 112, 114, 109, 97, 121, 106, 117, 110, 106, 117, 108, 97, 117, 103, 115, 101, 112, 111, 99, 116, 110, 111, 118, 100, 101, 99]⟩ : ByteArray) = str [106, 97, 110, 102, 101, 98, 109, 97, 114, 97, 112, 114, 109, 97, 121, 106, 117, 110, 106, 117, 108, 97, 117, 103, 115, 101, 112, 111, 99, 116, 110, 111, 118, 100, 101, 99] := rfl
  rw [e, str_extract]
  congr 1
  have : ∀ k, k < 12 → (([106, 97, 110, 102, 101, 98, 109, 97, 114, 97, 112, 114, 109, 97, 121, 106, 117, 110, 106, 117, 108, 97, 117, 103, 115, 101, 112, 111, 99, 116, 110, 111, 118, 100, 101, 99] : List UInt8).drop (3 * (k + 1) - 3)).take (3 * (k + 1) - (3 * (k + 1) - 3)) = monTab.getD k [] := by decide +kernel
  exact this k hk

theorem monTab_no (l : List UInt8) (k : Nat) (h : k < monK l) (hk : k < 12) : (monTab.getD k [] == (l.take 3).map low) = false := by
  have h2 : k < monTab.length := hk
  have := List.not_of_lt_findIdx h
  have e : monTab.getD k [] = monTab[k] := by simp [List.getD, h2]
  rw [e, beq_eq_false_iff_ne]
  intro c
  simp [c] at this
theorem monTab_yes (l : List UInt8) (h : monK l < 12) : (monTab.getD (monK l) [] == (l.take 3).map low) = true := by
  have h2 : monK l < monTab.length := h
  have := List.findIdx_getElem (w := h2)
  have e : monTab.getD (monK l) [] = monTab[monK l] := by simp [List.getD, h2]
  rw [e]
  exact this

theorem refMonthC (l : List UInt8) (n : Nat) (w : World) (hl : l.length = n) (hm : n ≤ maxLen) :
    Calls Tryz.prog 104 #[.string (str l)] w fun e w' => e = .returned (.int .i64 (monL l : Int)) ∧ Below w.heap.size w w' := by
  have hsz : (str l).size = n := by rw [str_size, hl]
  by_cases h3 : n < 3
  · have e : monL l = 0 := by unfold monL; rw [if_pos (by omega)]
    rw [e]
    have h3' : (n : Int) < 3 := by omega
    clear e
    go_enter Tryz.func104, Tryz.ntmps104
    go_wp2
    go_ret
    exact ⟨rfl, Below.refl _ _⟩
  · have h3' : ¬ (n : Int) < 3 := by omega
    have hx : (str l).extract 0 3 = str (l.take 3) := by rw [str_extract]; simp
    have HL := fun w => refLowerC (l.take 3) 3 w (by simp; omega) (by omega)
    unfold GivesStr at HL
    have hK1 := Lib.hid (monTab_no l)
    have hK2 := Lib.hid (monTab_yes l)
    have hK3 : Hid (monL l = if monK l < 12 then monK l + 1 else 0) := by unfold Hid monL; rw [if_neg (by omega)]
    have hN := Lib.hid names12
    have hk := str_toList
    generalize monK l = K at *
    generalize (l.take 3).map low = t at *
    generalize l.take 3 = l3 at *
    generalize monL l = L at *
    clear hl
    go_enter Tryz.func104, Tryz.ntmps104
    go_wp2_with (go_at_call 61; (with_reducible refine (HL _).mono ?_); rintro e w2 ⟨rfl, hb⟩)
    go_loopw [5] (fun i wr => ∃ k : Nat, k ≤ 12 ∧ k ≤ K ∧ i = .int .i64 ((k : Int) + 1) ∧ w2 = wr) (fun i _ => 13 - (intOf i).toNat)
    case atStart => exact ⟨0, Nat.zero_le _, Nat.zero_le _, rfl, rfl⟩
    case round =>
      obtain ⟨k, hk1, hkK, rfl, rfl⟩ := hrel
      rcases (show (k < 12 ∧ k < K) ∨ (k < 12 ∧ k = K) ∨ k = 12 by omega) with ⟨hk1, hk2⟩ | ⟨hk1, rfl⟩ | rfl
      · have hn := hN.out k hk1
        have hc := hK1.out k hk2 hk1
        generalize monTab.getD k [] = z at *
        have h12 : (k : Int) < 12 := by omega
        go_wp2
        go_roundw
        case rel => exact ⟨k + 1, by omega, by omega, by go_num, by first | rfl | trivial⟩
        case measure => simp [intOf]; omega
      · have hn := hN.out k hk1
        have hc := hK2.out hk1
        generalize monTab.getD k [] = z at *
        have h12 : (k : Int) < 12 := by omega
        have e : Hid (L = k + 1) := by unfold Hid; rw [hK3.out, if_pos hk1]
        go_wp2
        go_ret
        exact ⟨by rw [e.out]; rfl, hb⟩
      · have e : Hid (L = 0) := by unfold Hid; rw [hK3.out, if_neg (by omega)]
        go_wp2
        go_ret
        exact ⟨by rw [e.out]; rfl, hb⟩
end Go.Proofs.YthefieemngmnjaaGreatDoor

/- Contracts of the reference of layer 7: a time. -/
namespace Go.Proofs.YthefieemngmnjaaGreatDoor
open Go.RowKit
set_option linter.unusedVariables false

theorem infoInt : (Tryz.prog.info? 3).map (fun i => (i.zero, i.size, i.bytes)) = some (some (.int .i64 0), 1, 8) := by kernel_rfl

def timeK (l : List UInt8) : Nat → List UInt8
  | 0 => l
  | k + 1 => timeB (timeK l k)
def valsT (l : List UInt8) (k : Nat) : List Value := (List.range k).map fun j => .int .i64 (valL (timeK l j) : Int)
theorem valsT_snoc (l : List UInt8) (k : Nat) : valsT l k ++ [.int .i64 (valL (timeK l k) : Int)] = valsT l (k + 1) := by
  unfold valsT
  rw [List.range_succ, List.map_append]
  rfl
theorem timeK_le (l : List UInt8) (k : Nat) : (timeK l k).length ≤ l.length := by
  induction k with
  | zero => exact Nat.le_refl _
  | succ k ih => exact Nat.le_trans (timeB_le _) ih
theorem isTime_no (l : List UInt8) (k : Nat) (hk : k ≤ 2) (h : dig 1 2 (timeK l k) = false) : isTimeB l = false := by
  unfold isTimeB
  rcases (show k = 0 ∨ k = 1 ∨ k = 2 by omega) with rfl | rfl | rfl
  · change dig 1 2 l = false at h
    rw [h]; rfl
  · change dig 1 2 (timeB l) = false at h
    rw [h]; simp
  · change dig 1 2 (timeB (timeB l)) = false at h
    rw [h]; simp
theorem isTime_yes (l : List UInt8) (h : ∀ j, j < 3 → dig 1 2 (timeK l j) = true) : isTimeB l = true := by
  have h0 : dig 1 2 l = true := h 0 (by omega)
  have h1 : dig 1 2 (timeB l) = true := h 1 (by omega)
  have h2 : dig 1 2 (timeB (timeB l)) = true := h 2 (by omega)
  unfold isTimeB
  rw [h0, h1, h2]
  rfl

def TimeIs (l : List UInt8) (w : World) (e : Ending) (w' : World) : Prop :=
  Below w.heap.size w w' ∧ ((isTimeB l = false ∧ e = .returned (.tuple #[.slice none 0 0, .bool false])) ∨
    (isTimeB l = true ∧ ∃ a c, e = .returned (.tuple #[.slice a 3 c, .bool true]) ∧ Owned w.heap.size 3 a 3 c (valsT l 3) w'))

set_option maxHeartbeats 1000000 in
theorem refTimeC (l : List UInt8) (n : Nat) (w : World) (hl : l.length = n) (hm : n ≤ 1000000000000) :
    Calls Tryz.prog 101 #[.string (str l)] w (TimeIs l w) := by
  obtain ⟨i0, hi, hz0, hz1, hz2⟩ := info_parts infoInt
  have hown0 := owned_lit w 3
  have hbel0 := below_alloc w (.cells #[] 3)
  have hm' : n ≤ maxLen := by unfold maxLen; omega
  have HD := Lib.hid (fun (k : Nat) (w : World) => refDigC (timeK l k) (timeK l k).length 1 2 1 2 w rfl (by have := timeK_le l k; omega) (by omega) (by omega) rfl rfl)
  have HG := Lib.hid (fun (k : Nat) (w : World) => refDigitsC (timeK l k) (timeK l k).length w rfl (by have := timeK_le l k; omega))
  have HV := Lib.hid (fun (k : Nat) (w : World) => refValueC (timeK l k) (timeK l k).length w rfl (by have := timeK_le l k; omega))
  have HN := Lib.hid (isTime_no l)
  have HY := Lib.hid (isTime_yes l)
  have hle := Lib.hid (timeK_le l)
  obtain ⟨G, hG⟩ : ∃ G, TimeIs l w = G := ⟨_, rfl⟩
  rw [hG]
  have hG' := Lib.hid hG
  have HL := Lib.hid hl
  clear hl hG
  have hl0 : timeK l 0 = l := rfl
  rw [← hl0]
  clear hl0
  go_enter Tryz.func101, Tryz.ntmps101
  go_wp2
  go_loopw [0, 4, 5] (fun s v i wr => ∃ (k : Nat) (a : Option Addr) (C : Nat), k ≤ 2 ∧ s = .string (str (timeK l k)) ∧ v = .slice a k C ∧ i = .int .i64 (k : Int) ∧ Hid (∀ j, j < k → dig 1 2 (timeK l j) = true) ∧ Owned w.heap.size 3 a k C (valsT l k) wr ∧ Below w.heap.size w wr) (fun _ _ i _ => 3 - (intOf i).toNat)
  case atStart => exact ⟨0, _, _, by omega, rfl, rfl, rfl, fun j hj => absurd hj (by omega), hown0, hbel0⟩
  case round =>
    clear hown0 hbel0
    obtain ⟨k, a, C, hk, rfl, rfl, rfl, HJ, ho, hb⟩ := hrel
    have hHD := HD.out k
    have hHG := HG.out k
    have hHV := HV.out k
    have hsz : (str (timeK l k)).size = (timeK l k).length := str_size _
    have hlen := hle.out k
    have hll := lead_le (timeK l k)
    have hk3 : (k : Int) < 3 := by omega
    have HO := Lib.hid ho
    have hbs := hb.size
    have HB := Lib.hid hb
    clear ho hb
    rw [HL.out] at hlen
    cases c : dig 1 2 (timeK l k) with
    | false =>
      have hn := Lib.hid (HN.out k hk c)
      rw [c] at hHD
      clear c
      generalize timeK l k = t at *
      go_wp2_with (go_at_call 102; (with_reducible refine (hHD _).mono ?_); rintro e w2 ⟨rfl, rfl⟩)
      rw [← hG'.out]
      exact ⟨HB.out, .inl ⟨hn.out, rfl⟩⟩
    | true =>
      have hJ2 : Hid (∀ j, j < k + 1 → dig 1 2 (timeK l j) = true) := fun j hj => by
        rcases Nat.lt_succ_iff_lt_or_eq.1 hj with h1 | rfl
        · exact HJ.out j h1
        · exact c
      rw [c] at hHD
      have hvs := Lib.hid (valsT_snoc l k)
      have hO := HO.out
      have tno := Lib.hid (fun h => HN.out (k + 1) h)
      have hno := Lib.hid (timeB_no (timeK l k))
      have hye := Lib.hid (timeB_yes (timeK l k))
      have hkk : Hid (timeK l (k + 1) = timeB (timeK l k)) := rfl
      have hix := Lib.hid (fun (w : World) (h : lead (timeK l k) < (timeK l k).length) => run_index_str (P := Tryz.prog) w 9 (timeK l k) .i64 (lead (timeK l k)) Tryz.underlying9 h)
      have hex := Lib.hid (str_extract (timeK l k))
      have hv := valL_le (timeK l k)
      clear c
      by_cases hk2 : k = 2
      · subst hk2
        have hy := Lib.hid (HY.out hJ2.out)
        generalize timeK l 2 = t at *
        generalize valL t = vv at *
        generalize lead t = d at *
        generalize t.length = tn at *
        go_wp2_with (first
          | (go_at_call 102; (with_reducible refine (hHD _).mono ?_); rintro e w2 ⟨rfl, rfl⟩)
          | (go_at_call 107; (with_reducible refine (hHG _).mono ?_); rintro e w2 ⟨rfl, rfl⟩)
          | (go_at_call 103; (with_reducible refine (hHV _).mono ?_); rintro e w2 ⟨rfl, rfl⟩)
          | (at_builtin; refine wpList_append_one rfl (.tmp 17) (.tmp 20) 114 rfl 3 i0 (.int .i64 0) 8 Tryz.underlying114 hi hz0 hz1 hz2 rfl hO.1 rfl rfl rfl (by unfold maxLen; omega) (by omega) hbs ?_; intro v2 w2 ho2 hb2; obtain ⟨a2, c2, rfl, ho3⟩ := Owned.of ho2))
        rw [hvs.out] at ho3
        rw [← hG'.out]
        exact ⟨HB.out.trans hb2, .inr ⟨hy.out, a2, c2, rfl, ho3⟩⟩
      · have hk1 : k ≤ 1 := by omega
        have hne : ((k : Int) == 2) = false := by simp; omega
        by_cases hlt : lead (timeK l k) < (timeK l k).length
        · have hxx := fun w => hix.out w hlt
          by_cases hc : ((timeK l k).getD (lead (timeK l k)) 0).toNat = 58
          · have e1 := hye.out hlt hc
            have hx2 := hex.out (lead (timeK l k) + 1) (timeK l k).length
            rw [List.take_of_length_le (by rw [List.length_drop]; omega), ← e1, ← hkk.out] at hx2
            have hne2 : (((timeK l k).length : Int) == (lead (timeK l k) : Int)) = false := by simp; omega
            rw [hc] at hxx
            obtain ⟨t', ht'⟩ : ∃ t', timeK l (k + 1) = t' := ⟨_, rfl⟩
            rw [ht'] at hx2
            have HT := Lib.hid ht'
            clear hno hye hkk hix hex e1 hc tno ht'
            generalize timeK l k = t at *
            generalize valL t = vv at *
            generalize lead t = d at *
            generalize t.length = tn at *
            go_wp2_with (first
              | (go_at_call 102; (with_reducible refine (hHD _).mono ?_); rintro e w2 ⟨rfl, rfl⟩)
              | (go_at_call 107; (with_reducible refine (hHG _).mono ?_); rintro e w2 ⟨rfl, rfl⟩)
              | (go_at_call 103; (with_reducible refine (hHV _).mono ?_); rintro e w2 ⟨rfl, rfl⟩)
              | (at_builtin; refine wpList_append_one rfl (.tmp 17) (.tmp 20) 114 rfl 3 i0 (.int .i64 0) 8 Tryz.underlying114 hi hz0 hz1 hz2 rfl hO.1 rfl rfl rfl (by unfold maxLen; omega) (by omega) hbs ?_; intro v2 w2 ho2 hb2; obtain ⟨a2, c2, rfl, ho3⟩ := Owned.of ho2))
            rw [hvs.out] at ho3
            go_roundw
            case rel => exact ⟨k + 1, a2, c2, by omega, by rw [HT.out], rfl, by go_num, hJ2.out, ho3, HB.out.trans hb2⟩
            case measure => simp [intOf]; omega
          · have e1 : Hid (isTimeB l = false) := by
              refine tno.out (by omega) ?_
              rw [hkk.out, hno.out (fun _ => hc)]
              exact dig_nil 1 2 (by omega)
            have hne2 : (((timeK l k).length : Int) == (lead (timeK l k) : Int)) = false := by simp; omega
            generalize ((timeK l k).getD (lead (timeK l k)) 0).toNat = xb at *
            have hc' : ((xb : Int) == 58) = false := by simp; omega
            have hc2 : ((xb : Int) != 58) = true := by simp; omega
            clear hno hye hkk hix hex hc tno
            generalize timeK l k = t at *
            generalize valL t = vv at *
            generalize lead t = d at *
            generalize t.length = tn at *
            go_wp2_with (first
              | (go_at_call 102; (with_reducible refine (hHD _).mono ?_); rintro e w2 ⟨rfl, rfl⟩)
              | (go_at_call 107; (with_reducible refine (hHG _).mono ?_); rintro e w2 ⟨rfl, rfl⟩)
              | (go_at_call 103; (with_reducible refine (hHV _).mono ?_); rintro e w2 ⟨rfl, rfl⟩)
              | (at_builtin; refine wpList_append_one rfl (.tmp 17) (.tmp 20) 114 rfl 3 i0 (.int .i64 0) 8 Tryz.underlying114 hi hz0 hz1 hz2 rfl hO.1 rfl rfl rfl (by unfold maxLen; omega) (by omega) hbs ?_; intro v2 w2 ho2 hb2; obtain ⟨a2, c2, rfl, ho3⟩ := Owned.of ho2))
            rw [← hG'.out]
            exact ⟨HB.out.trans hb2, .inl ⟨e1.out, rfl⟩⟩
        · have e1 : Hid (isTimeB l = false) := by
            refine tno.out (by omega) ?_
            rw [hkk.out, hno.out (fun h => absurd h hlt)]
            exact dig_nil 1 2 (by omega)
          have hne2 : (timeK l k).length = lead (timeK l k) := by omega
          have hne3 : (((timeK l k).length : Int) == (lead (timeK l k) : Int)) = true := by rw [hne2]; simp
          clear hno hye hkk hix hex tno
          generalize timeK l k = t at *
          generalize valL t = vv at *
          generalize lead t = d at *
          generalize t.length = tn at *
          subst hne2
          go_wp2_with (first
              | (go_at_call 102; (with_reducible refine (hHD _).mono ?_); rintro e w2 ⟨rfl, rfl⟩)
              | (go_at_call 107; (with_reducible refine (hHG _).mono ?_); rintro e w2 ⟨rfl, rfl⟩)
              | (go_at_call 103; (with_reducible refine (hHV _).mono ?_); rintro e w2 ⟨rfl, rfl⟩)
              | (at_builtin; refine wpList_append_one rfl (.tmp 17) (.tmp 20) 114 rfl 3 i0 (.int .i64 0) 8 Tryz.underlying114 hi hz0 hz1 hz2 rfl hO.1 rfl rfl rfl (by unfold maxLen; omega) (by omega) hbs ?_; intro v2 w2 ho2 hb2; obtain ⟨a2, c2, rfl, ho3⟩ := Owned.of ho2))
          rw [← hG'.out]
          exact ⟨HB.out.trans hb2, .inl ⟨e1.out, rfl⟩⟩
end Go.Proofs.YthefieemngmnjaaGreatDoor
