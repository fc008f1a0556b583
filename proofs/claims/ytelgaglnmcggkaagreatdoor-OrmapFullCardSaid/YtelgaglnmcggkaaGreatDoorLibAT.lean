/- Contracts and plain words that the laws' proofs stand on, put together. -/
import Derived.Test.YtelgaglnmcggkaaGreatDoorLibAK
import Derived.Test.YtelgaglnmcggkaaGreatDoorLibAC
import Derived.Lib.IndexMore
import Derived.Lib.IndexAny
import Derived.Lib.Strings
/- Addresses of requests in plain words. No program in it. -/
namespace Go.Proofs.YtelgaglnmcggkaaGreatDoor
open Go.RowKit
set_option linter.unusedVariables false

/-- The first number below n that is so; n: there is none. -/
def firstN (p : Nat → Bool) (n : Nat) : Nat := (List.range n).findIdx p

/-- Does "://" stand there? -/
def wordAt (l : List UInt8) (i : Nat) : Bool := (l.drop i).take 3 == [58, 47, 47]
/-- The place of "://". -/
def wordN (l : List UInt8) : Nat := firstN (wordAt l) (l.length - 2)
def hasWord (l : List UInt8) : Bool := decide (wordN l < l.length - 2)
def seenB (x : UInt8) : Bool := decide (33 ≤ x.toNat) && decide (x.toNat ≤ 126)
/-- The place of the first of some bytes. -/
def findS (l signs : List UInt8) : Nat := l.findIdx fun x => signs.contains x
/-- How many bytes a host's text has. -/
def nameN (l : List UInt8) : Nat := if 0 < l.length ∧ l.getD 0 0 = 91 then (if l.findIdx (· == 93) = l.length then l.length else l.findIdx (· == 93) + 1) else findS l [58]
/-- Nothing, or a colon and a port. -/
def portB (l : List UInt8) : Bool := (l == []) || ((l == [58]) || ((l.getD 0 0 == 58) && (decide (l.length ≤ 6) && (decide (lead (l.drop 1) = l.length - 1) && decide (numV (l.drop 1) ≤ 65535)))))
/-- A path as a request has it: of the rest behind a host. -/
def pathU (l : List UInt8) : List UInt8 :=
  if (l.take (findS l [63, 35]) = [] ∨ (l.take (findS l [63, 35])).getD 0 0 ≠ 47) then 47 :: l.take (findS l [63, 35]) else l.take (findS l [63, 35])

theorem findS_le (l s : List UInt8) : findS l s ≤ l.length := List.findIdx_le_length

end Go.Proofs.YtelgaglnmcggkaaGreatDoor

/- Addresses of requests in plain words: the text of a right request is parsed as it, with a port and a query behind it, too. No program in it. -/
namespace Go.Proofs.YtelgaglnmcggkaaGreatDoor
open Go.RowKit
set_option linter.unusedVariables false

/-- What a canonical host's bytes are. -/
theorem canon_bytes {h : List UInt8} (hc : canonB h = true) : (∀ x ∈ h, x = 46 ∨ signB x = true) ∨ bracketB h = true := by
  unfold canonB addrB at hc
  rw [Bool.and_eq_true, Bool.or_eq_true, Bool.or_eq_true] at hc
  rcases hc.2 with h1 | h1 | h1
  · exact .inl (labels_sign (name_labels h1).2.2)
  · left
    intro x hx
    unfold quadB at h1
    rw [Bool.and_eq_true] at h1
    rw [← joinL_all h 46] at hx
    rcases mem_join 46 _ x hx with h2 | ⟨p, hp, hx⟩
    · exact .inl h2
    · right
      have ho := List.all_eq_true.1 h1.2 p hp
      unfold octetB at ho
      simp only [Bool.and_eq_true, decide_eq_true_iff] at ho
      obtain ⟨i, hi, rfl⟩ := List.getElem_of_mem hx
      have hd := lead_all ho.1.1.2 i hi
      simp only [List.getD, List.getElem?_eq_getElem hi, Option.getD_some] at hd
      unfold signB
      rw [decide_eq_true hd.1, decide_eq_true hd.2]
      simp
  · exact .inr h1

/-- A byte of a canonical host: it may be seen, is no capital, and ends no host. -/
def hostByte (x : UInt8) : Bool := seenB x && (low x == x) && !(([47, 63, 35] : List UInt8).contains x)

theorem byte_all (p : UInt8 → Bool) (h : ∀ n, n < 256 → p (UInt8.ofNat n) = true) (x : UInt8) : p x = true := by
  have := h x.toNat (u8_lt x)
  rwa [UInt8.ofNat_toNat] at this

theorem sign_host (x : UInt8) (h : signB x = true) : hostByte x = true ∧ x ≠ 58 ∧ x ≠ 91 := by
  have := byte_all (fun x => !signB x || (hostByte x && !(x == 58) && !(x == 91))) (by decide +kernel) x
  rw [h] at this
  simpa [Bool.and_eq_true, and_assoc] using this

theorem hex_host (x : UInt8) (h : hexB x = true) : hostByte x = true ∧ x ≠ 93 := by
  have := byte_all (fun x => !hexB x || (hostByte x && !(x == 93))) (by decide +kernel) x
  rw [h] at this
  simpa [Bool.and_eq_true] using this

/-- A bracketed address, part by part. -/
theorem bracket_split {h : List UInt8} (hb : bracketB h = true) : ∃ m, h = 91 :: (m ++ [93]) ∧ ∀ x ∈ m, hexB x = true := by
  unfold bracketB at hb
  simp only [Bool.and_eq_true, decide_eq_true_iff, beq_iff_eq] at hb
  obtain ⟨⟨⟨⟨h1, h2⟩, h3⟩, h4⟩, h5⟩ := hb
  refine ⟨(h.drop 1).take (h.length - 2), ?_, fun x hx => List.all_eq_true.1 h5 x hx⟩
  cases h with
  | nil => simp at h1
  | cons y t =>
    have e : y = 91 := h3
    subst e
    congr 1
    simp only [List.drop_succ_cons, List.drop_zero, List.length_cons] at h4 ⊢
    have h1 : 3 ≤ t.length := by simp at h1; omega
    have e1 : t.length + 1 - 2 = t.length - 1 := by omega
    rw [e1]
    have e2 : t.drop (t.length - 1) = [93] := by
      rw [List.drop_eq_getElem_cons (by omega), List.drop_eq_nil_of_le (by omega)]
      have e3 : t.length + 1 - 1 = (t.length - 1) + 1 := by omega
      rw [e3] at h4
      simp only [List.getD, List.getElem?_cons_succ, List.getElem?_eq_getElem (show t.length - 1 < t.length by omega), Option.getD_some] at h4
      rw [h4]
    have := List.take_append_drop (t.length - 1) t
    rw [e2] at this
    exact this.symm

theorem canon_host {h : List UInt8} (hc : canonB h = true) : ∀ x ∈ h, hostByte x = true := by
  intro x hx
  rcases canon_bytes hc with h1 | h1
  · rcases h1 x hx with rfl | h2
    · decide +kernel
    · exact (sign_host x h2).1
  · obtain ⟨m, rfl, hm⟩ := bracket_split h1
    rcases List.mem_cons.1 hx with rfl | hx
    · decide +kernel
    · rcases List.mem_append.1 hx with hx | hx
      · exact (hex_host x (hm x hx)).1
      · rw [List.mem_singleton] at hx
        subst hx
        decide +kernel

theorem map_low_host {h : List UInt8} (hc : canonB h = true) : h.map low = h := by
  have := canon_host hc
  clear hc
  induction h with
  | nil => rfl
  | cons x xs ih =>
    have hx := this x (by simp)
    unfold hostByte at hx
    rw [Bool.and_eq_true, Bool.and_eq_true, beq_iff_eq] at hx
    rw [List.map_cons, hx.1.2, ih fun y hy => this y (by simp [hy])]

end Go.Proofs.YtelgaglnmcggkaaGreatDoor

/- Contracts of the reference of layer 10: bytes, places, ports. -/
namespace Go.Proofs.YtelgaglnmcggkaaGreatDoor
open Go.RowKit
set_option linter.unusedVariables false

end Go.Proofs.YtelgaglnmcggkaaGreatDoor

/- Contracts of the reference of layer 10: ports. -/
namespace Go.Proofs.YtelgaglnmcggkaaGreatDoor
open Go.RowKit
set_option linter.unusedVariables false

end Go.Proofs.YtelgaglnmcggkaaGreatDoor

/- Addresses of requests in plain words: what the library's functions answer of them. No program in it. -/
namespace Go.Proofs.YtelgaglnmcggkaaGreatDoor
open Go.RowKit
set_option linter.unusedVariables false

theorem findS_spec (l s : List UInt8) : (∀ (j : Nat) b, j < findS l s → l[j]? = some b → s.contains b = false) ∧ (findS l s < l.length → ∃ b, l[findS l s]? = some b ∧ s.contains b = true) := by
  unfold findS
  refine ⟨fun j b hj hb => ?_, fun h => ?_⟩
  · have hl := List.findIdx_le_length (p := fun x => s.contains x) (xs := l)
    have h2 := List.not_of_lt_findIdx hj
    have h3 : l[j]? = some l[j] := List.getElem?_eq_getElem _
    rw [h3] at hb
    cases hb
    simpa using h2
  · exact ⟨l[l.findIdx fun x => s.contains x], List.getElem?_eq_getElem h, List.findIdx_getElem (w := h)⟩

theorem lib_any (l s : List UInt8) : Lib.indexAny l s = if findS l s = l.length then -1 else (findS l s : Int) := by
  obtain ⟨h1, h2⟩ := findS_spec l s
  by_cases h : findS l s = l.length
  · rw [if_pos h]
    exact Lib.indexAny_none (by rw [← h]; exact h1)
  · rw [if_neg h]
    obtain ⟨b, hb, hc⟩ := h2 (Nat.lt_of_le_of_ne (findS_le l s) h)
    exact Lib.indexAny_hit h1 hb hc

theorem byte_find (l : List UInt8) (c : UInt8) : Lib.indexByte l c = if l.findIdx (· == c) = l.length then -1 else (l.findIdx (· == c) : Int) := by
  have h := lib_any l [c]
  rw [Lib.indexAny_one] at h
  rw [h]
  have e : findS l [c] = l.findIdx (· == c) := by
    unfold findS
    congr 1
    funext x
    rw [Bool.eq_iff_iff, beq_iff_eq, List.contains_iff_mem, List.mem_singleton]
  rw [e]

end Go.Proofs.YtelgaglnmcggkaaGreatDoor
