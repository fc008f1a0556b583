/- Contracts and plain words that the laws' proofs stand on, put together. -/
import Derived.Test.YthefieemngmnjaaGreatDoorLibAD
import Derived.Test.YthefieemngmnjaaGreatDoorLibAC
import Derived.Lib.IndexMore
import Derived.Lib.IndexAny
import Derived.Lib.Strings
import Derived.BigQuiet
import Derived.Deep.RegionHeld3
import Derived.Deep.RegionLaw
import Derived.Test.YthefieemngmnjaaGreatDoorLibAA
/- Addresses of requests in plain words. No program in it. -/
namespace Go.Proofs.YthefieemngmnjaaGreatDoor
open Go.RowKit
set_option linter.unusedVariables false

/-- The first number below n that is so; n: there is none. -/
def firstN (p : Nat → Bool) (n : Nat) : Nat := (List.range n).findIdx p

/-- Does "://" stand there? -/
def wordAt (l : List UInt8) (i : Nat) : Bool := (l.drop i).take 3 == [58, 47, 47]
/-- The place of "://". -/
def wordN (l : List UInt8) : Nat := firstN (wordAt l) (l.length - 2)
def hasWord (l : List UInt8) : Bool := decide (wordN l < l.length - 2)
def seenB (x : UInt8) : Bool := decide (33 ≤ x.toNat) && decide (x.toNat ≤ 126)
/-- The place of the first of some bytes. -/
def findS (l signs : List UInt8) : Nat := l.findIdx fun x => signs.contains x
/-- How many bytes a host's text has. -/
def nameN (l : List UInt8) : Nat := if 0 < l.length ∧ l.getD 0 0 = 91 then (if l.findIdx (· == 93) = l.length then l.length else l.findIdx (· == 93) + 1) else findS l [58]
/-- Nothing, or a colon and a port. -/
def portB (l : List UInt8) : Bool := (l == []) || ((l == [58]) || ((l.getD 0 0 == 58) && (decide (l.length ≤ 6) && (decide (lead (l.drop 1) = l.length - 1) && decide (numV (l.drop 1) ≤ 65535)))))
/-- A path as a request has it: of the rest behind a host. -/
def pathU (l : List UInt8) : List UInt8 :=
  if (l.take (findS l [63, 35]) = [] ∨ (l.take (findS l [63, 35])).getD 0 0 ≠ 47) then 47 :: l.take (findS l [63, 35]) else l.take (findS l [63, 35])

/-- Is a request right? -/
def rightU (h p : List UInt8) (sec : Bool) : Bool :=
  canonB h && (decide (0 < p.length) && ((p.getD 0 0 == 47) && (p.all seenB && (decide (findS p [63, 35] = p.length) && decide (7 + h.length + p.length + (if sec = true then 1 else 0) ≤ 1024)))))

theorem findS_le (l s : List UInt8) : findS l s ≤ l.length := List.findIdx_le_length

end Go.Proofs.YthefieemngmnjaaGreatDoor

/- Addresses of requests in plain words: the text of a right request is parsed as it, with a port and a query behind it, too. No program in it. -/
namespace Go.Proofs.YthefieemngmnjaaGreatDoor
open Go.RowKit
set_option linter.unusedVariables false

/-- What a canonical host's bytes are. -/
theorem canon_bytes {h : List UInt8} (hc : canonB h = true) : (∀ x ∈ h, x = 46 ∨ signB x = true) ∨ bracketB h = true := by
  unfold canonB addrB at hc
  rw [Bool.and_eq_true, Bool.or_eq_true, Bool.or_eq_true] at hc
  rcases hc.2 with h1 | h1 | h1
  · exact .inl (labels_sign (name_labels h1).2.2)
  · left
    intro x hx
    unfold quadB at h1
    rw [Bool.and_eq_true] at h1
    rw [← joinL_all h 46] at hx
    rcases mem_join 46 _ x hx with h2 | ⟨p, hp, hx⟩
    · exact .inl h2
    · right
      have ho := List.all_eq_true.1 h1.2 p hp
      unfold octetB at ho
      simp only [Bool.and_eq_true, decide_eq_true_iff] at ho
      obtain ⟨i, hi, rfl⟩ := List.getElem_of_mem hx
      have hd := lead_all ho.1.1.2 i hi
      simp only [List.getD, List.getElem?_eq_getElem hi, Option.getD_some] at hd
      unfold signB
      rw [decide_eq_true hd.1, decide_eq_true hd.2]
      simp
  · exact .inr h1

/-- A byte of a canonical host: it may be seen, is no capital, and ends no host. -/
def hostByte (x : UInt8) : Bool := seenB x && (low x == x) && !(([47, 63, 35] : List UInt8).contains x)

theorem byte_all (p : UInt8 → Bool) (h : ∀ n, n < 256 → p (UInt8.ofNat n) = true) (x : UInt8) : p x = true := by
  have := h x.toNat (u8_lt x)
  rwa [UInt8.ofNat_toNat] at this

theorem sign_host (x : UInt8) (h : signB x = true) : hostByte x = true ∧ x ≠ 58 ∧ x ≠ 91 := by
  have := byte_all (fun x => !signB x || (hostByte x && !(x == 58) && !(x == 91))) (by decide +kernel) x
  rw [h] at this
  simpa [Bool.and_eq_true, and_assoc] using this

theorem hex_host (x : UInt8) (h : hexB x = true) : hostByte x = true ∧ x ≠ 93 := by
  have := byte_all (fun x => !hexB x || (hostByte x && !(x == 93))) (by decide +kernel) x
  rw [h] at this
  simpa [Bool.and_eq_true] using this

/-- A bracketed address, part by part. -/
theorem bracket_split {h : List UInt8} (hb : bracketB h = true) : ∃ m, h = 91 :: (m ++ [93]) ∧ ∀ x ∈ m, hexB x = true := by
  unfold bracketB at hb
  simp only [Bool.and_eq_true, decide_eq_true_iff, beq_iff_eq] at hb
  obtain ⟨⟨⟨⟨h1, h2⟩, h3⟩, h4⟩, h5⟩ := hb
  refine ⟨(h.drop 1).take (h.length - 2), ?_, fun x hx => List.all_eq_true.1 h5 x hx⟩
  cases h with
  | nil => simp at h1
  | cons y t =>
    have e : y = 91 := h3
    subst e
    congr 1
    simp only [List.drop_succ_cons, List.drop_zero, List.length_cons] at h4 ⊢
    have h1 : 3 ≤ t.length := by simp at h1; omega
    have e1 : t.length + 1 - 2 = t.length - 1 := by omega
    rw [e1]
    have e2 : t.drop (t.length - 1) = [93] := by
      rw [List.drop_eq_getElem_cons (by omega), List.drop_eq_nil_of_le (by omega)]
      have e3 : t.length + 1 - 1 = (t.length - 1) + 1 := by omega
      rw [e3] at h4
      simp only [List.getD, List.getElem?_cons_succ, List.getElem?_eq_getElem (show t.length - 1 < t.length by omega), Option.getD_some] at h4
      rw [h4]
    have := List.take_append_drop (t.length - 1) t
    rw [e2] at this
    exact this.symm

theorem canon_host {h : List UInt8} (hc : canonB h = true) : ∀ x ∈ h, hostByte x = true := by
  intro x hx
  rcases canon_bytes hc with h1 | h1
  · rcases h1 x hx with rfl | h2
    · decide +kernel
    · exact (sign_host x h2).1
  · obtain ⟨m, rfl, hm⟩ := bracket_split h1
    rcases List.mem_cons.1 hx with rfl | hx
    · decide +kernel
    · rcases List.mem_append.1 hx with hx | hx
      · exact (hex_host x (hm x hx)).1
      · rw [List.mem_singleton] at hx
        subst hx
        decide +kernel

theorem map_low_host {h : List UInt8} (hc : canonB h = true) : h.map low = h := by
  have := canon_host hc
  clear hc
  induction h with
  | nil => rfl
  | cons x xs ih =>
    have hx := this x (by simp)
    unfold hostByte at hx
    rw [Bool.and_eq_true, Bool.and_eq_true, beq_iff_eq] at hx
    rw [List.map_cons, hx.1.2, ih fun y hy => this y (by simp [hy])]

def schemeL (sec : Bool) : List UInt8 := if sec = true then [104, 116, 116, 112, 115] else [104, 116, 116, 112]

end Go.Proofs.YthefieemngmnjaaGreatDoor

/- Contracts of the reference of layer 10: bytes, places, ports. -/
namespace Go.Proofs.YthefieemngmnjaaGreatDoor
open Go.RowKit
set_option linter.unusedVariables false

set_option maxRecDepth 100000 in
theorem refVisibleC (l : List UInt8) (n : Nat) (w : World) (hl : l.length = n) (hm : n ≤ maxLen) :
    Calls Tryz.prog 56 #[.string (str l)] w fun e w' => e = .returned (.bool (l.all seenB)) ∧ w = w' := by
  have hsz : (str l).size = n := by rw [str_size, hl]
  unfold maxLen at hm
  have HL := Lib.hid hl
  clear hl
  have HR : Hid (∀ k, k < n → seenB (l.getD k 0) = false → l.all seenB = false) := fun k hk h => all_no (by rw [HL.out]; exact hk) h
  have HY : Hid ((∀ j, j < n → seenB (l.getD j 0) = true) → l.all seenB = true) := fun h => all_yes (by rw [HL.out]; exact h)
  generalize l.all seenB = R at *
  go_enter Tryz.func56, Tryz.ntmps56
  go_wp2
  go_loopw [3] (fun i wr => ∃ k : Nat, k ≤ n ∧ i = .int .i64 (k : Int) ∧ Hid (∀ j, j < k → seenB (l.getD j 0) = true) ∧ w = wr) (fun i _ => n - (intOf i).toNat)
  case atStart => exact ⟨0, Nat.zero_le _, rfl, fun j hj => absurd hj (by omega), rfl⟩
  case round =>
    obtain ⟨k, hk, rfl, H, rfl⟩ := hrel
    by_cases hlt : k < n
    · have hlt' : (k : Int) < (n : Int) := by omega
      have hi := run_index_str (P := Tryz.prog) w 9 l .i64 k Tryz.underlying9 (by rw [HL.out]; exact hlt)
      have HN := Lib.hid (fun (hp : seenB (l.getD k 0) = true) => (fun j hj => by
        rcases Nat.lt_succ_iff_lt_or_eq.1 hj with h | rfl
        · exact H.out j h
        · exact hp : ∀ j, j < k + 1 → seenB (l.getD j 0) = true))
      have HF := Lib.hid (HR.out k hlt)
      have hs : seenB (l.getD k 0) = (decide (33 ≤ (l.getD k 0).toNat) && decide ((l.getD k 0).toNat ≤ 126)) := rfl
      generalize seenB (l.getD k 0) = t at *
      generalize (l.getD k 0).toNat = x at *
      clear HR HY
      by_cases h1 : 33 ≤ x
      · by_cases h2 : x ≤ 126
        · have c1 : ¬ (x : Int) < 33 := by omega
          have c2 : ¬ (126 : Int) < (x : Int) := by omega
          have HN2 := Lib.hid (HN.out (by rw [hs, decide_eq_true h1, decide_eq_true h2]; rfl))
          clear HN HF hs
          go_wp2
          go_roundw
          case rel => exact ⟨k + 1, by omega, by go_num, HN2.out, by first | rfl | trivial⟩
          case measure => simp [intOf]; omega
        · have c1 : ¬ (x : Int) < 33 := by omega
          have c2 : (126 : Int) < (x : Int) := by omega
          have HF2 := Lib.hid (HF.out (by rw [hs, decide_eq_false h2, Bool.and_false]))
          clear HN HF hs
          go_wp2
          go_ret
          exact ⟨by rw [HF2.out]; rfl, rfl⟩
      · have c1 : (x : Int) < 33 := by omega
        have HF2 := Lib.hid (HF.out (by rw [hs, decide_eq_false h1, Bool.false_and]))
        clear HN HF hs
        go_wp2
        go_ret
        exact ⟨by rw [HF2.out]; rfl, rfl⟩
    · obtain rfl : k = n := by omega
      have HE := Lib.hid (HY.out H.out)
      go_wp2
      go_ret
      exact ⟨by rw [HE.out]; rfl, rfl⟩

theorem find_in (l : List UInt8) (c : UInt8) : decide (0 ≤ findL l c) = l.contains c := by
  unfold findL
  have hle : l.findIdx (· == c) ≤ l.length := List.findIdx_le_length
  have hmem : (l.findIdx (· == c) < l.length) ↔ c ∈ l := by
    rw [List.findIdx_lt_length]
    constructor
    · rintro ⟨x, hx, hp⟩
      have := beq_iff_eq.1 hp
      subst this
      exact hx
    · intro h
      exact ⟨c, h, by simp⟩
  rw [Bool.eq_iff_iff, decide_eq_true_iff, List.contains_iff_mem, ← hmem]
  split
  · rename_i h
    rw [h]
    constructor
    · intro c; omega
    · intro c; omega
  · rename_i h
    constructor
    · intro _; omega
    · intro _; omega

set_option maxRecDepth 100000 in
theorem refUFindC (l s : List UInt8) (n m : Nat) (w : World) (hl : l.length = n) (hm : n ≤ maxLen) (hl2 : s.length = m) (hm2 : m ≤ maxLen) :
    Calls Tryz.prog 57 #[.string (str l), .string (str s)] w fun e w' => e = .returned (.int .i64 (findS l s : Int)) ∧ w = w' := by
  have hsz : (str l).size = n := by rw [str_size, hl]
  have HFi := fun c w => refFindC s c m w hl2 hm2
  have HC := fun c => find_in s c
  unfold maxLen at hm
  have HL := Lib.hid hl
  clear hl hl2 hm2
  have HR : Hid (∀ k, k < n → (∀ j, j < k → s.contains (l.getD j 0) = false) → s.contains (l.getD k 0) = true → findS l s = k) := fun k hk h hp => by
    unfold findS
    exact findIdx_at (p := fun x => s.contains x) h (by rw [HL.out]; exact hk) hp
  have HY : Hid ((∀ j, j < n → s.contains (l.getD j 0) = false) → findS l s = n) := fun h => by
    unfold findS
    rw [findIdx_end (p := fun x => s.contains x) (by rw [HL.out]; exact h), HL.out]
  generalize findS l s = R at *
  go_enter Tryz.func57, Tryz.ntmps57
  go_wp2
  go_loopw [5] (fun i wr => ∃ k : Nat, k ≤ n ∧ i = .int .i64 (k : Int) ∧ Hid (∀ j, j < k → s.contains (l.getD j 0) = false) ∧ w = wr) (fun i _ => n - (intOf i).toNat)
  case atStart => exact ⟨0, Nat.zero_le _, rfl, fun j hj => absurd hj (by omega), rfl⟩
  case round =>
    obtain ⟨k, hk, rfl, H, rfl⟩ := hrel
    by_cases hlt : k < n
    · have hlt' : (k : Int) < (n : Int) := by omega
      have hi := run_index_str (P := Tryz.prog) w 9 l .i64 k Tryz.underlying9 (by rw [HL.out]; exact hlt)
      have HN := Lib.hid (fun (hp : s.contains (l.getD k 0) = false) => (fun j hj => by
        rcases Nat.lt_succ_iff_lt_or_eq.1 hj with h | rfl
        · exact H.out j h
        · exact hp : ∀ j, j < k + 1 → s.contains (l.getD j 0) = false))
      have HF := Lib.hid (HR.out k hlt H.out)
      have hc := HC (l.getD k 0)
      have hf := HFi (l.getD k 0)
      generalize s.contains (l.getD k 0) = t at *
      generalize findL s (l.getD k 0) = v at *
      generalize l.getD k 0 = x at hi hf
      clear HR HY HC HFi
      cases t
      · have c1 : ¬ (0 : Int) ≤ v := of_decide_eq_false hc
        have HN2 := Lib.hid (HN.out rfl)
        clear HN HF hc
        go_wp2_with (go_at_call 35; (with_reducible refine (hf _).mono ?_); rintro e w1 ⟨rfl, rfl⟩)
        go_roundw
        case rel => exact ⟨k + 1, by omega, by go_num, HN2.out, by first | rfl | trivial⟩
        case measure => simp [intOf]; omega
      · have c1 : (0 : Int) ≤ v := of_decide_eq_true hc
        have HF2 := Lib.hid (HF.out rfl)
        clear HN HF hc
        go_wp2_with (go_at_call 35; (with_reducible refine (hf _).mono ?_); rintro e w1 ⟨rfl, rfl⟩)
        go_ret
        exact ⟨by rw [HF2.out]; rfl, rfl⟩
    · obtain rfl : k = n := by omega
      have HE := Lib.hid (HY.out H.out)
      clear HR HY HC HFi
      go_wp2
      go_ret
      exact ⟨by rw [HE.out]; rfl, rfl⟩

theorem refFindTwoC (l : List UInt8) (n : Nat) (w : World) (hl : l.length = n) (hm : n ≤ maxLen) :
    Calls Tryz.prog 57 #[.string (str l), .string ⟨#[63, 35]⟩] w fun e w' => e = .returned (.int .i64 (findS l [63, 35] : Int)) ∧ w = w' := refUFindC l [63, 35] n 2 w hl hm rfl (by unfold maxLen; omega)

end Go.Proofs.YthefieemngmnjaaGreatDoor

/- Contracts of the reference of layer 10: ports. -/
namespace Go.Proofs.YthefieemngmnjaaGreatDoor
open Go.RowKit
set_option linter.unusedVariables false

end Go.Proofs.YthefieemngmnjaaGreatDoor

/- Addresses of requests in plain words: what the library's functions answer of them. No program in it. -/
namespace Go.Proofs.YthefieemngmnjaaGreatDoor
open Go.RowKit
set_option linter.unusedVariables false

theorem findS_spec (l s : List UInt8) : (∀ (j : Nat) b, j < findS l s → l[j]? = some b → s.contains b = false) ∧ (findS l s < l.length → ∃ b, l[findS l s]? = some b ∧ s.contains b = true) := by
  unfold findS
  refine ⟨fun j b hj hb => ?_, fun h => ?_⟩
  · have hl := List.findIdx_le_length (p := fun x => s.contains x) (xs := l)
    have h2 := List.not_of_lt_findIdx hj
    have h3 : l[j]? = some l[j] := List.getElem?_eq_getElem _
    rw [h3] at hb
    cases hb
    simpa using h2
  · exact ⟨l[l.findIdx fun x => s.contains x], List.getElem?_eq_getElem h, List.findIdx_getElem (w := h)⟩

theorem lib_any (l s : List UInt8) : Lib.indexAny l s = if findS l s = l.length then -1 else (findS l s : Int) := by
  obtain ⟨h1, h2⟩ := findS_spec l s
  by_cases h : findS l s = l.length
  · rw [if_pos h]
    exact Lib.indexAny_none (by rw [← h]; exact h1)
  · rw [if_neg h]
    obtain ⟨b, hb, hc⟩ := h2 (Nat.lt_of_le_of_ne (findS_le l s) h)
    exact Lib.indexAny_hit h1 hb hc

/-- May a byte be in an address's part? -/
def butB (s : List UInt8) (x : UInt8) : Bool := seenB x && !(s.contains x)
theorem but_none (l : List UInt8) : l.all (butB []) = l.all seenB := by
  have : butB [] = seenB := by funext x; unfold butB; simp
  rw [this]
theorem but_all (l s : List UInt8) : l.all (butB s) = (l.all seenB && decide (findS l s = l.length)) := by
  rw [Bool.eq_iff_iff, Bool.and_eq_true, decide_eq_true_iff, List.all_eq_true, List.all_eq_true]
  unfold butB findS
  rw [List.findIdx_eq_length]
  constructor
  · intro h
    refine ⟨fun x hx => ?_, fun x hx => ?_⟩
    · have := h x hx; rw [Bool.and_eq_true] at this; exact this.1
    · have := h x hx; rw [Bool.and_eq_true] at this; simpa using this.2
  · rintro ⟨h1, h2⟩ x hx
    rw [h1 x hx, Bool.true_and]
    simpa using h2 x hx
theorem lib_byte (s : List UInt8) (x : UInt8) : (Lib.indexByte s x < 0) ↔ s.contains x = false := by
  rw [Lib.contains_iff_indexByte, decide_eq_false_iff_not]
  omega

theorem head_is (l : List UInt8) (x : UInt8) : Lib.hasPrefix l [x] = (decide (0 < l.length) && (l.getD 0 0 == x)) := by
  unfold Lib.hasPrefix
  cases l with
  | nil => rfl
  | cons a t => simp [List.isPrefixOf, Bool.beq_comm]

theorem byte_find (l : List UInt8) (c : UInt8) : Lib.indexByte l c = if l.findIdx (· == c) = l.length then -1 else (l.findIdx (· == c) : Int) := by
  have h := lib_any l [c]
  rw [Lib.indexAny_one] at h
  rw [h]
  have e : findS l [c] = l.findIdx (· == c) := by
    unfold findS
    congr 1
    funext x
    rw [Bool.eq_iff_iff, beq_iff_eq, List.contains_iff_mem, List.mem_singleton]
  rw [e]

end Go.Proofs.YthefieemngmnjaaGreatDoor

/- Contracts of the reference of layer 10: an address's request. -/
namespace Go.Proofs.YthefieemngmnjaaGreatDoor
open Go.RowKit
set_option linter.unusedVariables false

theorem rows_at {w : World} {b : Nat} {c : Array Value} {e : TypeId} (h : w.heap[b]? = some (.cells c e (0, 0))) (i : Nat) (hi : i < c.size) : w.cell? ⟨b, i, none⟩ = some c[i] ∧ w.frozen? ⟨b, i, none⟩ = false := by
  constructor
  · unfold World.cell?
    simp [h, hi]
  · unfold World.frozen?
    simp [h]

/-- The cells of a request that holds nothing yet. -/
def ReqAt (w : World) (B : Nat) : Prop := w.heap[B]? = some (.cells #[.string (str []), .string (str []), .bool false, .bool false] 24 (0, 0))

theorem ReqAt.below {w w' : World} {B K : Nat} (h : ReqAt w B) (hb : Below K w w') (hlt : B < K) : ReqAt w' B := (hb.block B hlt).trans h

theorem ReqAt.lt {w : World} {B : Nat} (h : ReqAt w B) : B < w.heap.size := by
  rcases Nat.lt_or_ge B w.heap.size with h1 | h1
  · exact h1
  · unfold ReqAt at h
    rw [Array.getElem?_eq_none h1] at h
    cases h

theorem ReqAt.new (w : World) : ReqAt (w.alloc (.cells #[.string (str []), .string (str []), .bool false, .bool false] 24)) w.heap.size := by
  unfold ReqAt World.alloc
  simp

/-- What a request's cells hold behind four stores. -/
theorem ReqAt.set {w : World} {B : Nat} (h : ReqAt w B) (v0 v1 v2 v3 : Value) :
    ((((w.setCell ⟨B, 0, none⟩ v0).setCell ⟨B, 1, none⟩ v1).setCell ⟨B, 2, none⟩ v2).setCell ⟨B, 3, none⟩ v3).cell? ⟨B, 0, none⟩ = some v0 ∧
    ((((w.setCell ⟨B, 0, none⟩ v0).setCell ⟨B, 1, none⟩ v1).setCell ⟨B, 2, none⟩ v2).setCell ⟨B, 3, none⟩ v3).cell? ⟨B, 1, none⟩ = some v1 ∧
    ((((w.setCell ⟨B, 0, none⟩ v0).setCell ⟨B, 1, none⟩ v1).setCell ⟨B, 2, none⟩ v2).setCell ⟨B, 3, none⟩ v3).cell? ⟨B, 2, none⟩ = some v2 ∧
    ((((w.setCell ⟨B, 0, none⟩ v0).setCell ⟨B, 1, none⟩ v1).setCell ⟨B, 2, none⟩ v2).setCell ⟨B, 3, none⟩ v3).cell? ⟨B, 3, none⟩ = some v3 := by
  have ne : ∀ i j, i ≠ j → (⟨B, i, none⟩ : Addr) ≠ ⟨B, j, none⟩ := fun i j h c => by
    simp only [Addr.mk.injEq] at c
    exact h c.2.1
  obtain ⟨c0, -⟩ := rows_at h 0 (by decide)
  obtain ⟨c1, -⟩ := rows_at h 1 (by decide)
  obtain ⟨c2, -⟩ := rows_at h 2 (by decide)
  obtain ⟨c3, -⟩ := rows_at h 3 (by decide)
  have a0 := World.cell?_setCell_same w _ v0 c0
  have a1 := (World.cell?_setCell_other w _ _ v0 (ne 0 1 (by decide))).trans c1
  have a2 := (World.cell?_setCell_other w _ _ v0 (ne 0 2 (by decide))).trans c2
  have a3 := (World.cell?_setCell_other w _ _ v0 (ne 0 3 (by decide))).trans c3
  generalize w.setCell ⟨B, 0, none⟩ v0 = w at *
  have b1 := World.cell?_setCell_same w _ v1 a1
  have b0 := (World.cell?_setCell_other w _ _ v1 (ne 1 0 (by decide))).trans a0
  have b2 := (World.cell?_setCell_other w _ _ v1 (ne 1 2 (by decide))).trans a2
  have b3 := (World.cell?_setCell_other w _ _ v1 (ne 1 3 (by decide))).trans a3
  generalize w.setCell ⟨B, 1, none⟩ v1 = w at *
  have d2 := World.cell?_setCell_same w _ v2 b2
  have d0 := (World.cell?_setCell_other w _ _ v2 (ne 2 0 (by decide))).trans b0
  have d1 := (World.cell?_setCell_other w _ _ v2 (ne 2 1 (by decide))).trans b1
  have d3 := (World.cell?_setCell_other w _ _ v2 (ne 2 3 (by decide))).trans b3
  generalize w.setCell ⟨B, 2, none⟩ v2 = w at *
  exact ⟨(World.cell?_setCell_other w _ _ v3 (ne 3 0 (by decide))).trans d0, (World.cell?_setCell_other w _ _ v3 (ne 3 1 (by decide))).trans d1, (World.cell?_setCell_other w _ _ v3 (ne 3 2 (by decide))).trans d2, World.cell?_setCell_same w _ v3 d3⟩

end Go.Proofs.YthefieemngmnjaaGreatDoor

/- Contracts of layer 10: an address's parts. -/
namespace Go.Proofs.YthefieemngmnjaaGreatDoor
open Go.RowKit
set_option linter.unusedVariables false

theorem byteC (l : List UInt8) (c : UInt8) (w : World) :
    Calls Tryz.prog 81 #[.string (str l), .int .u8 (c.toNat : Int)] w fun e w' => e = .returned (.int .i64 (Lib.indexByte l c)) ∧ w = w' := by
  refine (Tryz.strings_IndexByte (str l) (c.toNat : Int) w).mono ?_
  rintro e w' ⟨rfl, rfl⟩
  rw [str_data]
  have : (c.toNat : Int).toNat.toUInt8 = c := by simp
  rw [this]
  exact ⟨rfl, rfl⟩

theorem headC (l : List UInt8) (c : UInt8) (w : World) :
    Calls Tryz.prog 44 #[.string (str l), .string ⟨#[c]⟩] w fun e w' => e = .returned (.bool (Lib.hasPrefix l [c])) ∧ w = w' := by
  refine (Tryz.strings_HasPrefix (str l) ⟨#[c]⟩ w).mono ?_
  rintro e w' ⟨rfl, rfl⟩
  rw [str_data]
  exact ⟨rfl, rfl⟩

set_option maxRecDepth 100000 in
theorem wordOfC (h p : List UInt8) (sec scr : Bool) (w : World) :
    Calls Tryz.prog 43 #[.agg #[.string (str h), .string (str p), .bool sec, .bool scr]] w fun e w' => e = .returned (.string (str (schemeL sec))) ∧ Below w.heap.size w w' := by
  have hb := below_alloc w (.cells #[.string (str h), .string (str p), .bool sec, .bool scr] 24)
  cases sec
  · go_enter Tryz.func43, Tryz.ntmps43
    go_wp2
    go_ret
    exact ⟨rfl, hb⟩
  · go_enter Tryz.func43, Tryz.ntmps43
    go_wp2
    go_ret
    exact ⟨rfl, hb⟩

set_option maxRecDepth 100000 in
theorem butFnC (s : List UInt8) (x : UInt8) (b : Nat) (w : World) (hc : w.cell? ⟨b, 0, none⟩ = some (.string (str s))) :
    Calls Tryz.prog 80 #[.int .u8 (x.toNat : Int), .pointer (some ⟨b, 0, none⟩)] w fun e w' => e = .returned (.bool (butB s x)) ∧ w = w' := by
  have HB := fun w => byteC s x w
  have hl := lib_byte s x
  unfold butB seenB
  generalize Lib.indexByte s x = v at *
  generalize s.contains x = t at *
  generalize x.toNat = n at *
  by_cases h1 : 33 ≤ n
  · have c1 : (33 : Int) ≤ (n : Int) := by omega
    by_cases h2 : n ≤ 126
    · have c2 : (n : Int) ≤ 126 := by omega
      rw [decide_eq_true h1, decide_eq_true h2]
      cases t with
      | true =>
        have c3 : ¬ v < 0 := fun c => by cases hl.1 c
        go_enter Tryz.func80, Tryz.ntmps80
        go_wp2_with (go_at_call 81; (with_reducible refine (HB _).mono ?_); rintro e w1 ⟨rfl, rfl⟩)
        go_ret
        exact ⟨rfl, rfl⟩
      | false =>
        have c3 : v < 0 := hl.2 rfl
        go_enter Tryz.func80, Tryz.ntmps80
        go_wp2_with (go_at_call 81; (with_reducible refine (HB _).mono ?_); rintro e w1 ⟨rfl, rfl⟩)
        go_ret
        exact ⟨rfl, rfl⟩
    · have c2 : ¬ (n : Int) ≤ 126 := by omega
      rw [decide_eq_true h1, decide_eq_false h2]
      clear hl
      go_enter Tryz.func80, Tryz.ntmps80
      go_wp2
      go_ret
      exact ⟨rfl, rfl⟩
  · have c1 : ¬ (33 : Int) ≤ (n : Int) := by omega
    rw [decide_eq_false h1]
    clear hl
    go_enter Tryz.func80, Tryz.ntmps80
    go_wp2
    go_ret
    exact ⟨rfl, rfl⟩

set_option maxRecDepth 100000 in
theorem butC (s : List UInt8) (w : World) :
    Calls Tryz.prog 46 #[.string (str s)] w fun e w' => e = .returned (.func (.func 80) #[] #[.pointer (some ⟨w.heap.size, 0, none⟩)]) ∧ w.alloc (.cells #[.string (str s)] 9) = w' := by
  have hmf : ∀ (fn : Fn) (first cap : Array Value) (w : World), (Instr.makeFunc fn first cap).run Tryz.prog w = .ok (.func fn first cap) w := fun _ _ _ _ => rfl
  go_enter Tryz.func46, Tryz.ntmps46
  go_wp2
  go_ret
  exact ⟨rfl, rfl⟩

set_option maxRecDepth 100000 in
theorem allBC (s l : List UInt8) (n b : Nat) (w : World) (hc : w.cell? ⟨b, 0, none⟩ = some (.string (str s))) (hl : l.length = n) (hm : n ≤ maxLen) :
    Calls Tryz.prog 45 #[.string (str l), .func (.func 80) #[] #[.pointer (some ⟨b, 0, none⟩)]] w fun e w' => e = .returned (.bool (l.all (butB s))) ∧ w = w' := by
  have hsz : (str l).size = n := by rw [str_size, hl]
  unfold maxLen at hm
  have HL := Lib.hid hl
  clear hl
  have HP := fun x => butFnC s x b w hc
  clear hc
  generalize butB s = p at *
  have HR : Hid (∀ k, k < n → p (l.getD k 0) = false → l.all p = false) := fun k hk h => all_no (by rw [HL.out]; exact hk) h
  have HY : Hid ((∀ j, j < n → p (l.getD j 0) = true) → l.all p = true) := fun h => all_yes (by rw [HL.out]; exact h)
  generalize l.all p = R at *
  go_enter Tryz.func45, Tryz.ntmps45
  go_wp2
  go_loopw [8] (fun i wr => ∃ k : Nat, k ≤ n ∧ i = .int .i64 (k : Int) ∧ Hid (∀ j, j < k → p (l.getD j 0) = true) ∧ w = wr) (fun i _ => n - (intOf i).toNat)
  case atStart => exact ⟨0, Nat.zero_le _, rfl, fun j hj => absurd hj (by omega), rfl⟩
  case round =>
    obtain ⟨k, hk, rfl, H, rfl⟩ := hrel
    by_cases hlt : k < n
    · have hlt' : (k : Int) < (n : Int) := by omega
      have hi := run_index_str (P := Tryz.prog) w 9 l .i64 k Tryz.underlying9 (by rw [HL.out]; exact hlt)
      have HN := Lib.hid (fun (hp : p (l.getD k 0) = true) => (fun j hj => by
        rcases Nat.lt_succ_iff_lt_or_eq.1 hj with h | rfl
        · exact H.out j h
        · exact hp : ∀ j, j < k + 1 → p (l.getD j 0) = true))
      have HF := Lib.hid (HR.out k hlt)
      have HC := HP (l.getD k 0)
      clear HP
      generalize p (l.getD k 0) = t at *
      generalize l.getD k 0 = x at HC hi
      cases t
      · have HF2 := Lib.hid (HF.out rfl)
        clear HN HF
        go_wp2_with (go_at_call 80; (with_reducible refine HC.mono ?_); rintro e w1 ⟨rfl, rfl⟩)
        go_ret
        exact ⟨by rw [HF2.out]; rfl, rfl⟩
      · have HN2 := Lib.hid (HN.out rfl)
        clear HN HF
        go_wp2_with (go_at_call 80; (with_reducible refine HC.mono ?_); rintro e w1 ⟨rfl, rfl⟩)
        go_roundw
        case rel => exact ⟨k + 1, by omega, by go_num, HN2.out, by first | rfl | trivial⟩
        case measure => simp [intOf]; omega
    · obtain rfl : k = n := by omega
      have HE := Lib.hid (HY.out H.out)
      clear HP
      go_wp2
      go_ret
      exact ⟨by rw [HE.out]; rfl, rfl⟩
end Go.Proofs.YthefieemngmnjaaGreatDoor

/- Contracts of layer 10: addresses. -/
namespace Go.Proofs.YthefieemngmnjaaGreatDoor
open Go.RowKit
set_option linter.unusedVariables false

theorem butC2 (s : List UInt8) (w : World) :
    Calls Tryz.prog 46 #[.string (str s)] w fun e w' => ∃ b, e = .returned (.func (.func 80) #[] #[.pointer (some ⟨b, 0, none⟩)]) ∧ w'.cell? ⟨b, 0, none⟩ = some (.string (str s)) ∧ Below w.heap.size w w' := by
  refine (butC s w).mono ?_
  rintro e w' ⟨rfl, rfl⟩
  exact ⟨_, rfl, by simp, below_alloc w _⟩

end Go.Proofs.YthefieemngmnjaaGreatDoor

/- Contracts of layer 10: which requests are right, and their texts. -/
namespace Go.Proofs.YthefieemngmnjaaGreatDoor
open Go.RowKit
set_option linter.unusedVariables false

theorem right_is (h p : List UInt8) (sec : Bool) (G : Nat) (hG : G = h.length + (if sec = true then 8 else 7)) :
    rightU h p sec = (canonB h && (decide (p.length + G ≤ 1024) && (Lib.hasPrefix p [47] && p.all (butB [63, 35])))) := by
  unfold rightU
  rw [head_is, but_all]
  have e : decide (7 + h.length + p.length + (if sec = true then 1 else 0) ≤ 1024) = decide (p.length + G ≤ 1024) := decide_eq_decide.2 (by subst hG; cases sec <;> simp <;> omega)
  rw [e]
  cases canonB h <;> cases decide (p.length + G ≤ 1024) <;> cases decide (0 < p.length) <;> cases (p.getD 0 0 == 47) <;> cases p.all seenB <;> cases decide (findS p [63, 35] = p.length) <;> rfl

theorem canon_self (h : List UInt8) : ∃ (X : List UInt8) (E : Int),
    (if 256 < h.length then (Value.tuple #[.string (str []), .int .i64 3]) else if canonB (h.map low) = true then .tuple #[.string (str (h.map low)), .int .i64 0] else .tuple #[.string (str []), .int .i64 1]) = .tuple #[.string (str X), .int .i64 E] ∧
    ((E = 0 ∧ X = h ∧ canonB h = true) ∨ (E = 0 ∧ (X == h) = false ∧ canonB h = false) ∨ ((E == 0) = false ∧ canonB h = false)) := by
  by_cases c1 : 256 < h.length
  · rw [if_pos c1]
    refine ⟨_, _, rfl, .inr (.inr ⟨rfl, ?_⟩)⟩
    cases hc : canonB h with
    | false => rfl
    | true => exact absurd (canon_len hc) (by omega)
  · rw [if_neg c1]
    cases hc : canonB h with
    | true =>
      rw [map_low_host hc, if_pos hc]
      exact ⟨_, _, rfl, .inl ⟨rfl, rfl, rfl⟩⟩
    | false =>
      cases hc2 : canonB (h.map low) with
      | false => exact ⟨_, _, if_neg Bool.false_ne_true, .inr (.inr ⟨rfl, rfl⟩)⟩
      | true =>
        refine ⟨_, _, if_pos rfl, .inr (.inl ⟨rfl, ?_, rfl⟩)⟩
        rw [beq_eq_false_iff_ne]
        intro e
        rw [e, hc] at hc2
        cases hc2

set_option maxHeartbeats 2000000 in
set_option maxRecDepth 100000 in
theorem uriRightC (h p : List UInt8) (sec scr : Bool) (n m : Nat) (w : World) (hl : h.length = n) (hm : n ≤ 5000) (hl2 : p.length = m) (hm2 : m ≤ 5000) (hT : PTab Tryz.prog w) :
    Calls Tryz.prog 19 #[.agg #[.string (str h), .string (str p), .bool sec, .bool scr]] w fun e w' => e = .returned (.bool (rightU h p sec)) ∧ Below w.heap.size w w' := by
  obtain ⟨G, hG⟩ : ∃ G, G = h.length + (if sec = true then 8 else 7) := ⟨_, rfl⟩
  rw [right_is h p sec G hG]
  obtain ⟨X, E, hXE, hcase⟩ := canon_self h
  have HC := fun w (t : PTab Tryz.prog w) => canonC h n w hl (by unfold maxLen; omega) t
  unfold CanonIs at HC
  simp only [hXE] at HC
  have hk := str_toList
  have hb := below_alloc w (.cells #[.string (str h), .string (str p), .bool sec, .bool scr] 24)
  have hTW := hT.below hb
  have o := ObjAt.new w #[.string (str h), .string (str p), .bool sec, .bool scr] 24
  have hszp : (str p).size = m := by rw [str_size, hl2]
  have HWd := fun w => wordOfC h p sec scr w
  have hl1 : (schemeL sec).length ≤ 5 := by cases sec <;> decide
  have a1 := fun (w : World) => run_add_str (P := Tryz.prog) w (schemeL sec) [58, 47, 47] (by simp; omega)
  have a2 := fun (w : World) => run_add_str (P := Tryz.prog) w (schemeL sec ++ [58, 47, 47]) h (by simp; omega)
  have e58 : ({ data := #[58, 47, 47] } : ByteArray) = str [58, 47, 47] := rfl
  have hszG : (str (schemeL sec ++ [58, 47, 47] ++ h)).size = G := by
    rw [str_size, hG]
    cases sec <;> simp [schemeL] <;> omega
  have hGm : G ≤ 5008 := by rw [hG, hl]; split <;> omega
  have hB : ∀ w', Below (w.alloc (.cells #[.string (str h), .string (str p), .bool sec, .bool scr] 24)).heap.size (w.alloc (.cells #[.string (str h), .string (str p), .bool sec, .bool scr] 24)) w' → ObjAt w' w.heap.size [.string (str h), .string (str p), .bool sec, .bool scr] := fun w' hx => o.below hx o.lt
  have HH := fun w => headC p 47 w
  have HBt := fun w => butC2 [63, 35] w
  change ∀ w, Calls Tryz.prog 46 #[.string ⟨#[63, 35]⟩] w _ at HBt
  have HAl := fun b w hc => allBC [63, 35] p m b w hc hl2 (by unfold maxLen; omega)
  rw [hl2]
  generalize schemeL sec ++ [58, 47, 47] ++ h = t3 at *
  generalize schemeL sec ++ [58, 47, 47] = t2 at *
  generalize schemeL sec = t1 at *
  generalize p.all (butB [63, 35]) = ab at *
  generalize Lib.hasPrefix p [47] = hp at *
  have u0 := o.cell 0 rfl; have u1 := o.cell 1 rfl; have u2 := o.cell 2 rfl; have u3 := o.cell 3 rfl
  clear hXE hG hl1 hl hl2
  generalize hWe : w.alloc (.cells #[.string (str h), .string (str p), .bool sec, .bool scr] 24) = W at *
  rcases hcase with ⟨rfl, rfl, hcb⟩ | ⟨rfl, hX, hcb⟩ | ⟨hE, hcb⟩
  · rw [hcb, Bool.true_and]
    clear hcb
    obtain ⟨R, hR⟩ : ∃ R : Int, IntKind.i64.wrap (1024 - (G : Int)) = R := ⟨_, rfl⟩
    have hR2 : R = 1024 - (G : Int) := by rw [← hR, IntKind.wrap_i64]; omega
    by_cases c : m + G ≤ 1024
    · have c1 : decide ((m : Int) ≤ R) = true := decide_eq_true (by omega)
      have c2 : (m : Int) ≤ R := by omega
      rw [decide_eq_true c, Bool.true_and]
      clear hR2 c
      cases hp with
      | false =>
        rw [Bool.false_and]
        go_enter Tryz.func19, Tryz.ntmps19
        go_wp2_with (go_at_call 42; (with_reducible refine (HC _ hTW).mono ?_); rintro e w1 ⟨rfl, hx⟩; have o1 := hB _ hx; have hb1 := hb.trans (hx.mono hb.size); clear hx; have v0 := o1.cell 0 rfl; have v1 := o1.cell 1 rfl; have v2 := o1.cell 2 rfl; have v3 := o1.cell 3 rfl)
        have hS1 : ∀ w', Below w1.heap.size w1 w' → (w'.cell? ⟨w.heap.size, 0, none⟩ = some (.string (str X)) ∧ w'.cell? ⟨w.heap.size, 1, none⟩ = some (.string (str p)) ∧ w'.cell? ⟨w.heap.size, 2, none⟩ = some (.bool sec) ∧ w'.cell? ⟨w.heap.size, 3, none⟩ = some (.bool scr)) := fun w' hx => by
          have o2 := o1.below hx o1.lt
          exact ⟨o2.cell 0 rfl, o2.cell 1 rfl, o2.cell 2 rfl, o2.cell 3 rfl⟩
        have hdr : Below w1.heap.size w1 w1.drew := (Below.refl _ w1).drew
        go_region_held3 (fun w' => w'.cell? ⟨w.heap.size, 0, none⟩ = some (.string (str X)) ∧ w'.cell? ⟨w.heap.size, 1, none⟩ = some (.string (str p)) ∧ w'.cell? ⟨w.heap.size, 2, none⟩ = some (.bool sec) ∧ w'.cell? ⟨w.heap.size, 3, none⟩ = some (.bool scr))
          (first | exact hS1 _ hdr | exact hS1 _ (hdr.trans hx))
          (first | (go_at_call 43; (with_reducible refine (HWd _).mono ?_); rintro e w3 ⟨rfl, hx⟩))
        all_goals
          obtain ⟨v0, v1, v2, v3⟩ := hS1 _ (hdr.trans hx)
          have hb3 := hb1.trans ((hdr.trans hx).mono hb1.size)
          have hd3 : Below w3.heap.size w3 w3.drew := (Below.refl _ w3).drew
          have x1 := (hd3.cell (cell_lt v1)).trans v1
          clear hS1 hdr hx o1 u0 u1 u2 u3
          go_wp2_with fail
          go_quiet ((go_at_call 44; exact Calls.quiet_of_same ((HH _).mono fun e w' h => ⟨h.1, h.2.symm⟩)))
          go_wp2
          go_ret
          exact ⟨rfl, below_draws hb3 _⟩
      | true =>
        rw [Bool.true_and]
        go_enter Tryz.func19, Tryz.ntmps19
        go_wp2_with (go_at_call 42; (with_reducible refine (HC _ hTW).mono ?_); rintro e w1 ⟨rfl, hx⟩; have o1 := hB _ hx; have hb1 := hb.trans (hx.mono hb.size); clear hx; have v0 := o1.cell 0 rfl; have v1 := o1.cell 1 rfl; have v2 := o1.cell 2 rfl; have v3 := o1.cell 3 rfl)
        have hS1 : ∀ w', Below w1.heap.size w1 w' → (w'.cell? ⟨w.heap.size, 0, none⟩ = some (.string (str X)) ∧ w'.cell? ⟨w.heap.size, 1, none⟩ = some (.string (str p)) ∧ w'.cell? ⟨w.heap.size, 2, none⟩ = some (.bool sec) ∧ w'.cell? ⟨w.heap.size, 3, none⟩ = some (.bool scr)) := fun w' hx => by
          have o2 := o1.below hx o1.lt
          exact ⟨o2.cell 0 rfl, o2.cell 1 rfl, o2.cell 2 rfl, o2.cell 3 rfl⟩
        have hdr : Below w1.heap.size w1 w1.drew := (Below.refl _ w1).drew
        go_region_held3 (fun w' => w'.cell? ⟨w.heap.size, 0, none⟩ = some (.string (str X)) ∧ w'.cell? ⟨w.heap.size, 1, none⟩ = some (.string (str p)) ∧ w'.cell? ⟨w.heap.size, 2, none⟩ = some (.bool sec) ∧ w'.cell? ⟨w.heap.size, 3, none⟩ = some (.bool scr))
          (first | exact hS1 _ hdr | exact hS1 _ (hdr.trans hx))
          (first | (go_at_call 43; (with_reducible refine (HWd _).mono ?_); rintro e w3 ⟨rfl, hx⟩))
        all_goals
          obtain ⟨v0, v1, v2, v3⟩ := hS1 _ (hdr.trans hx)
          have hb3 := hb1.trans ((hdr.trans hx).mono hb1.size)
          have hd3 : Below w3.heap.size w3 w3.drew := (Below.refl _ w3).drew
          have x1 := (hd3.cell (cell_lt v1)).trans v1
          clear hS1 hdr hx o1 u0 u1 u2 u3
          go_wp2_with fail
          go_region_law (first
            | ((try go_simp); go_at_call 44; (refine (HH _).mono ?_); rintro e w4 ⟨rfl, rfl⟩)
            | ((try go_simp); go_at_call 46; (refine (HBt _).mono ?_); rintro e w5 ⟨bb, rfl, hcb, hx5⟩; have y1 := (hx5.cell (cell_lt x1)).trans x1)
            | ((try go_simp); go_at_call 45; (refine (HAl _ _ hcb).mono ?_); rintro e w6 ⟨rfl, rfl⟩))
          all_goals
            go_wp2
            go_ret
            exact ⟨rfl, hb3.trans ((hd3.trans hx5).mono hb3.size)⟩
    · have c1 : decide ((m : Int) ≤ R) = false := decide_eq_false (by omega)
      have c2 : ¬ (m : Int) ≤ R := by omega
      rw [decide_eq_false c, Bool.false_and]
      clear hR2 c
      go_enter Tryz.func19, Tryz.ntmps19
      go_wp2_with (go_at_call 42; (with_reducible refine (HC _ hTW).mono ?_); rintro e w1 ⟨rfl, hx⟩; have o1 := hB _ hx; have hb1 := hb.trans (hx.mono hb.size); clear hx; have v0 := o1.cell 0 rfl; have v1 := o1.cell 1 rfl; have v2 := o1.cell 2 rfl; have v3 := o1.cell 3 rfl)
      have hS1 : ∀ w', Below w1.heap.size w1 w' → (w'.cell? ⟨w.heap.size, 0, none⟩ = some (.string (str X)) ∧ w'.cell? ⟨w.heap.size, 1, none⟩ = some (.string (str p)) ∧ w'.cell? ⟨w.heap.size, 2, none⟩ = some (.bool sec) ∧ w'.cell? ⟨w.heap.size, 3, none⟩ = some (.bool scr)) := fun w' hx => by
        have o2 := o1.below hx o1.lt
        exact ⟨o2.cell 0 rfl, o2.cell 1 rfl, o2.cell 2 rfl, o2.cell 3 rfl⟩
      have hdr : Below w1.heap.size w1 w1.drew := (Below.refl _ w1).drew
      go_region_held3 (fun w' => w'.cell? ⟨w.heap.size, 0, none⟩ = some (.string (str X)) ∧ w'.cell? ⟨w.heap.size, 1, none⟩ = some (.string (str p)) ∧ w'.cell? ⟨w.heap.size, 2, none⟩ = some (.bool sec) ∧ w'.cell? ⟨w.heap.size, 3, none⟩ = some (.bool scr))
        (first | exact hS1 _ hdr | exact hS1 _ (hdr.trans hx))
        (first | (go_at_call 43; (with_reducible refine (HWd _).mono ?_); rintro e w3 ⟨rfl, hx⟩))
      all_goals
        obtain ⟨v0, v1, v2, v3⟩ := hS1 _ (hdr.trans hx)
        have hb3 := hb1.trans ((hdr.trans hx).mono hb1.size)
        have hd3 : Below w3.heap.size w3 w3.drew := (Below.refl _ w3).drew
        have x1 := (hd3.cell (cell_lt v1)).trans v1
        clear hS1 hdr hx o1 u0 u1 u2 u3
        go_wp2_with fail
        go_quiet (fail)
        go_wp2
        go_ret
        exact ⟨rfl, below_draws hb3 _⟩
  · rw [hcb, Bool.false_and]
    have hX2 : (X != h) = true := by rw [bne, hX]; rfl
    clear hcb
    go_enter Tryz.func19, Tryz.ntmps19
    go_wp2_with (go_at_call 42; (with_reducible refine (HC _ (hTW)).mono ?_); rintro e w1 ⟨rfl, hx⟩; have o1 := hB _ hx; have hb1 := hb.trans (hx.mono hb.size); clear hx; have v0 := o1.cell 0 rfl; have v1 := o1.cell 1 rfl; have v2 := o1.cell 2 rfl; have v3 := o1.cell 3 rfl)
    go_ret
    exact ⟨rfl, hb1⟩
  · rw [hcb, Bool.false_and]
    have hE2 : (E != 0) = true := by rw [bne, hE]; rfl
    clear hcb
    go_enter Tryz.func19, Tryz.ntmps19
    go_wp2_with (go_at_call 42; (with_reducible refine (HC _ (hTW)).mono ?_); rintro e w1 ⟨rfl, hx⟩; have o1 := hB _ hx; have hb1 := hb.trans (hx.mono hb.size); clear hx; have v0 := o1.cell 0 rfl; have v1 := o1.cell 1 rfl; have v2 := o1.cell 2 rfl; have v3 := o1.cell 3 rfl)
    go_ret
    exact ⟨rfl, hb1⟩

end Go.Proofs.YthefieemngmnjaaGreatDoor
