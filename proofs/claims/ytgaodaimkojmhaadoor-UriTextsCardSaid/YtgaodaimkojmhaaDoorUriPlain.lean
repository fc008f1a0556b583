/- Addresses of requests in plain words. No program in it. -/
import Derived.Test.YtgaodaimkojmhaaDoorHostPlain2
import Derived.Test.YtgaodaimkojmhaaDoorAsciiRef2
namespace Go.Proofs.YtgaodaimkojmhaaDoor
open Go.RowKit
set_option linter.unusedVariables false

/-- The first number below n that is so; n: there is none. -/
def firstN (p : Nat → Bool) (n : Nat) : Nat := (List.range n).findIdx p

theorem firstN_le (p : Nat → Bool) (n : Nat) : firstN p n ≤ n := by
  unfold firstN
  have := List.findIdx_le_length (p := p) (xs := List.range n)
  rwa [List.length_range] at this

theorem firstN_at {p : Nat → Bool} {n k : Nat} (h : ∀ j, j < k → p j = false) (hk : k < n) (hp : p k = true) : firstN p n = k := by
  unfold firstN
  have hk' : k < (List.range n).length := by rw [List.length_range]; exact hk
  refine (List.findIdx_eq hk').2 ⟨by rw [List.getElem_range]; exact hp, fun j hj => ?_⟩
  rw [List.getElem_range]
  simpa using h j hj

theorem firstN_end {p : Nat → Bool} {n : Nat} (h : ∀ j, j < n → p j = false) : firstN p n = n := by
  unfold firstN
  have : (List.range n).findIdx p = (List.range n).length := List.findIdx_eq_length.2 fun x hx => h x (List.mem_range.1 hx)
  rw [this, List.length_range]

/-- Does "://" stand there? -/
def wordAt (l : List UInt8) (i : Nat) : Bool := (l.drop i).take 3 == [58, 47, 47]
/-- The place of "://". -/
def wordN (l : List UInt8) : Nat := firstN (wordAt l) (l.length - 2)
def hasWord (l : List UInt8) : Bool := decide (wordN l < l.length - 2)
def seenB (x : UInt8) : Bool := decide (33 ≤ x.toNat) && decide (x.toNat ≤ 126)
/-- The place of the first of some bytes. -/
def findS (l signs : List UInt8) : Nat := l.findIdx fun x => signs.contains x
/-- How many bytes a host's text has. -/
def nameN (l : List UInt8) : Nat := if 0 < l.length ∧ l.getD 0 0 = 91 then (if l.findIdx (· == 93) = l.length then l.length else l.findIdx (· == 93) + 1) else findS l [58]
/-- Nothing, or a colon and a port. -/
def portB (l : List UInt8) : Bool := (l == []) || ((l == [58]) || ((l.getD 0 0 == 58) && (decide (l.length ≤ 6) && (decide (lead (l.drop 1) = l.length - 1) && decide (numV (l.drop 1) ≤ 65535)))))
/-- A path as a request has it: of the rest behind a host. -/
def pathU (l : List UInt8) : List UInt8 :=
  if (l.take (findS l [63, 35]) = [] ∨ (l.take (findS l [63, 35])).getD 0 0 ≠ 47) then 47 :: l.take (findS l [63, 35]) else l.take (findS l [63, 35])

/-- A request: host, path, secure. -/
abbrev Req := List UInt8 × List UInt8 × Bool
def noReq : Req := ([], [], false)
def restU (l : List UInt8) : List UInt8 := l.drop (wordN l + 3)
def headU (r : List UInt8) : List UInt8 := r.take (findS r [47, 63, 35])
def hostU (r : List UInt8) : List UInt8 := (r.take (nameN (headU r))).map low
def portU (r : List UInt8) : List UInt8 := (headU r).drop (nameN (headU r))
def schemeU (l : List UInt8) : List UInt8 := (l.take (wordN l)).map low
def parseU (l : List UInt8) : Req × Int :=
  if 1024 < l.length then (noReq, 3)
  else if l.all seenB = false ∨ hasWord l = false then (noReq, 1)
  else if schemeU l ≠ [104, 116, 116, 112] ∧ schemeU l ≠ [104, 116, 116, 112, 115] then (noReq, 15)
  else if canonB (hostU (restU l)) = false ∨ portB (portU (restU l)) = false then (noReq, 1)
  else ((hostU (restU l), pathU ((restU l).drop (findS (restU l) [47, 63, 35])), schemeU l == [104, 116, 116, 112, 115]), 0)

/-- Is a request right? -/
def rightU (h p : List UInt8) (sec : Bool) : Bool :=
  canonB h && (decide (0 < p.length) && ((p.getD 0 0 == 47) && (p.all seenB && (decide (findS p [63, 35] = p.length) && decide (7 + h.length + p.length + (if sec = true then 1 else 0) ≤ 1024)))))

theorem findS_le (l s : List UInt8) : findS l s ≤ l.length := List.findIdx_le_length

theorem nameN_le (l : List UInt8) : nameN l ≤ l.length := by
  unfold nameN
  have := List.findIdx_le_length (p := (· == (93 : UInt8))) (xs := l)
  split
  · split
    · exact Nat.le_refl _
    · omega
  · exact findS_le l _
end Go.Proofs.YtgaodaimkojmhaaDoor
