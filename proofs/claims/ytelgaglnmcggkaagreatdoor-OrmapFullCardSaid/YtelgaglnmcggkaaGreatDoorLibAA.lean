/- Contracts and plain words that the laws' proofs stand on, put together. -/
import Derived.Laws.Strings3
import Derived.Laws.DeepStrings4
import Derived.Laws.Concat
import Derived.ProofKit
import Derived.OpenShut
import Derived.Lib.ConvBytes
import Derived.Laws.IdiomStrings
import Derived.WalkKit
import Derived.WalkLawsBesides
import Derived.WalkSpells
import Derived.Lib.Hide
import Derived.Laws.AppendOwnNone
import Derived.Maps.AppendAt
import Derived.Deep.Slices
import Derived.Deep.Fields
import Derived.Deep.Grids
import Derived.ChangeSame
import Derived.Laws.Rows
import Derived.Test.YtelgaglnmcggkaaGreatDoorRows
import Derived.ShutString
import Derived.ChangeOld
import Derived.Below
import Derived.JoinedCond
import Derived.Deep.WholeRow
import Derived.Maps.OwnOps
import Derived.Maps.OwnSet
import Derived.DeepKeys4
import Derived.Sort.Grow
import Derived.RangeFuncNested
import Derived.RangeFuncBound
import Derived.RangeFuncCalls
import Derived.RangeFuncLeaves
import Derived.Shelf.Abstract
import Derived.Shelf.RegionOpen
import Derived.OwnWalkIn
import Derived.TacticsInMore
import Derived.LoopNIn
import Derived.LoopIn
import Derived.Shelf.GgSortFunc.InsertionK
/- Strings as lists of bytes: what a walk is told of them. No program in it. -/
namespace Go.Proofs.YtelgaglnmcggkaaGreatDoor
open Go.RowKit
set_option linter.unusedVariables false

/-- The string of these bytes. -/
def str (l : List UInt8) : ByteArray := ⟨l.toArray⟩

theorem str_of (s : ByteArray) : s = str s.data.toList := by cases s; simp [str]
theorem str_size (l : List UInt8) : (str l).size = l.length := by simp [str, ByteArray.size]
theorem str_toList (l : List UInt8) : (str l).toList = l := ByteArray.toList_mk l
theorem str_data (l : List UInt8) : (str l).data.toList = l := by simp [str]
theorem str_extract (l : List UInt8) (a b : Nat) : (str l).extract a b = str ((l.drop a).take (b - a)) := ByteArray.extract_mk l a b
theorem str_append (a b : List UInt8) : str a ++ str b = str (a ++ b) := by
  apply ByteArray.ext
  simp [str, ByteArray.data_append]
theorem str_inj {a b : List UInt8} (h : str a = str b) : a = b := by
  have := congrArg ByteArray.toList h
  rwa [str_toList, str_toList] at this
theorem str_get (l : List UInt8) (k : Nat) (h : k < (str l).size) : (str l)[k] = l.getD k 0 := by
  have h' : k < l.length := by rw [← str_size]; exact h
  show l.toArray[k]'(by simpa using h') = l.getD k 0
  simp [List.getD, h']
theorem getD_map {α β : Type} (f : α → β) (l : List α) (d : α) (k : Nat) : (l.map f).getD k (f d) = f (l.getD k d) := by
  simp [List.getD, List.getElem?_map]

theorem findIdx_at {l : List UInt8} {p : UInt8 → Bool} {k : Nat} (h : ∀ j, j < k → p (l.getD j 0) = false) (hk : k < l.length) (hp : p (l.getD k 0) = true) : l.findIdx p = k := by
  have e : ∀ j (hj : j < l.length), l.getD j 0 = l[j] := fun j hj => by simp [List.getD, hj]
  refine (List.findIdx_eq hk).2 ⟨by rw [← e k hk]; exact hp, fun j hj => ?_⟩
  rw [← e j (by omega)]
  exact h j hj
theorem findIdx_end {l : List UInt8} {p : UInt8 → Bool} (h : ∀ j, j < l.length → p (l.getD j 0) = false) : l.findIdx p = l.length := by
  rw [List.findIdx_eq_length]
  intro x hx
  obtain ⟨j, hj, rfl⟩ := List.getElem_of_mem hx
  have e : l.getD j 0 = l[j] := by simp [List.getD, hj]
  rw [← e]
  exact h j hj

section
variable {P : Program}
/-- A byte of a string. -/
theorem run_index_str (w : World) (t : TypeId) (l : List UInt8) (K : IntKind) (k : Nat) (ht : P.underlying t = some .string) (h : k < l.length) :
    (Instr.index t (.string (str l)) (.int K (k : Int))).run P w = .ok (.int .u8 ((l.getD k 0).toNat : Int)) w := by
  have hs : k < (str l).size := by rw [str_size]; exact h
  rw [run_index_string w t (str l) K k ht, dif_pos ⟨by omega, by omega⟩]
  have := str_get l k hs
  simp only [Int.toNat_natCast, this]
theorem run_add_str (w : World) (a b : List UInt8) (h : a.length + b.length ≤ 9223372036854775807) : (Op.stringOp .add (str a) (str b)).run P w = .ok (.string (str (a ++ b))) w := by
  rw [run_string_add_sum w _ _ (by rw [str_size, str_size]; exact h), str_append]
end

/-- The row of bytes that a conversion of a string made, as long as the string at least. -/
def BRow (w : World) (g : Nat) (l : List UInt8) : Prop :=
  ∃ cur e fz, w.heap[g]? = some (.cells cur e fz) ∧ l.length ≤ cur.size ∧ cur.size ≤ fz.1 ∧ ∀ i, i < l.length → cur[i]? = some (.int .u8 ((l.getD i 0).toNat : Int))

theorem BRow.new (w : World) (e : TypeId) (l : List UInt8) : BRow (Lib.bytesWorld w e (str l)) w.heap.size l := by
  have hsz : l.length ≤ (Lib.bytesCells w e (str l)).size := by
    unfold Lib.bytesCells
    simp [str]
  refine ⟨_, _, _, Lib.bytesWorld_at_new w e (str l), hsz, Nat.le_refl _, fun i hi => ?_⟩
  have h := Lib.bytesWorld_cell w e (str l) i (by rw [str_size]; exact hi)
  rw [cell_of_row _ _ _ _ _ _ (Lib.bytesWorld_at_new w e (str l)), str_data] at h
  exact h
theorem BRow.lt {w : World} {g : Nat} {l : List UInt8} (h : BRow w g l) : g < w.heap.size := by
  obtain ⟨cur, e, fz, hg, _⟩ := h
  rcases Nat.lt_or_ge g w.heap.size with hlt | hge
  · exact hlt
  · rw [Array.getElem?_eq_none hge] at hg
    cases hg
theorem BRow.cell {w : World} {g : Nat} {l : List UInt8} (h : BRow w g l) (i : Nat) (hi : i < l.length) : w.cell? ⟨g, i, none⟩ = some (.int .u8 ((l.getD i 0).toNat : Int)) := by
  obtain ⟨cur, e, fz, hg, _, _, hc⟩ := h
  rw [cell_of_row _ _ _ _ _ _ hg]
  exact hc i hi
theorem BRow.free {w : World} {g : Nat} {l : List UInt8} (h : BRow w g l) (i : Nat) (hi : i < l.length) : w.frozen? ⟨g, i, none⟩ = false := by
  obtain ⟨cur, e, ⟨f1, f2⟩, hg, h1, h2, _⟩ := h
  simp only [World.frozen?, hg]
  have : ¬ f1 ≤ i := by simp only [] at h2; omega
  simp [this]
theorem BRow.set {w : World} {g : Nat} {l : List UInt8} (h : BRow w g l) (i : Nat) (x : UInt8) : BRow (w.setCell ⟨g, i, none⟩ (.int .u8 (x.toNat : Int))) g (l.set i x) := by
  obtain ⟨cur, e, fz, hg, h1, h2, hc⟩ := h
  refine ⟨cur.setIfInBounds i (.int .u8 (x.toNat : Int)), e, fz, by simp [World.setCell, Array.getElem?_modify, hg], by simpa using h1, by simpa using h2, fun j hj => ?_⟩
  rw [List.length_set] at hj
  rw [Array.getElem?_setIfInBounds]
  by_cases hij : i = j
  · subst hij
    have : i < cur.size := by omega
    simp [this, List.getD, hj]
  · simp only [hij, if_false]
    rw [hc j hj]
    simp [List.getD, hij]
theorem BRow.back {P : Program} {w : World} {g : Nat} {l : List UInt8} (h : BRow w g l) (src dst e : TypeId) (n cap : Nat) (hs : P.underlying src = some (.slice e)) (he : P.underlying e = some (.int .u8)) (hd : P.underlying dst = some .string) (hn : l.length = n) :
    (convert src dst (.slice (some ⟨g, 0, none⟩) n cap)).run P w = .ok (.string (str l)) w := by
  subst hn
  refine run_convert_bytes_back w src dst e ⟨g, 0, none⟩ cap l hs he hd fun j hj => ?_
  have := h.cell j hj
  simp only [List.getD, List.getElem?_eq_getElem hj, Option.getD_some] at this
  rw [← this]
  congr 1
  simp [Addr.add]
  exact fun h => h.symm
theorem one_back {P : Program} (w : World) (src dst e : TypeId) (x : UInt8) (v : Int) (hv : v = (x.toNat : Int)) (hs : P.underlying src = some (.slice e)) (he : P.underlying e = some (.int .u8)) (hd : P.underlying dst = some .string) :
    (convert src dst (.slice (some ⟨w.heap.size, 0, none⟩) 1 1)).run P (w.alloc (.cells #[.int .u8 v] e)) = .ok (.string (str [x])) (w.alloc (.cells #[.int .u8 v] e)) := by
  subst hv
  refine run_convert_bytes_back (w.alloc (.cells #[.int .u8 (x.toNat : Int)] e)) src dst e ⟨w.heap.size, 0, none⟩ 1 [x] hs he hd fun j hj => ?_
  have : j = 0 := by simp at hj; exact hj
  subst this
  simp [Addr.add]
theorem take_snoc {l : List UInt8} {k : Nat} (hk : k < l.length) : l.take (k + 1) = l.take k ++ [l.getD k 0] := by
  rw [List.take_succ_eq_append_getElem hk]
  simp [List.getD, hk]
theorem cut_one {l : List UInt8} {k : Nat} (hk : k < l.length) : (l.drop k).take (k + 1 - k) = [l.getD k 0] := by
  have e : k + 1 - k = 1 := by omega
  rw [e, List.drop_eq_getElem_cons hk]
  show [l[k]] = _
  simp [List.getD, hk]
theorem set_low {l : List UInt8} {f : UInt8 → UInt8} {k : Nat} (hk : k < l.length) : ((l.take k).map f ++ l.drop k).set k (f (l.getD k 0)) = (l.take (k + 1)).map f ++ l.drop (k + 1) := by
  have hd : l.drop k = l.getD k 0 :: l.drop (k + 1) := by
    rw [List.drop_eq_getElem_cons hk]
    simp [List.getD, hk]
  have ht : l.take (k + 1) = l.take k ++ [l.getD k 0] := by
    rw [List.take_succ_eq_append_getElem hk]
    simp [List.getD, hk]
  rw [hd, ht, List.set_append_right _ _ (by simp; omega)]
  have : (List.map f (List.take k l)).length = k := by simp; omega
  rw [this]
  simp
end Go.Proofs.YtelgaglnmcggkaaGreatDoor

/- Plain facts on whole numbers and their bits, with no program in them. -/
namespace Go.Proofs.YtelgaglnmcggkaaGreatDoor
open Go.RowKit
set_option linter.unusedVariables false

def foldI (n : Int) : Int := if 0 ≤ n then 2 * n else -2 * n - 1
def unfoldI (n : Int) : Int := if n % 2 = 0 then n / 2 else -(n / 2) - 1

/-- The number whose bytes, the lowest first, a list is. -/
def leNum : List Int → Int
  | [] => 0
  | x :: l => x + 256 * leNum l
def IsBytes (l : List Int) : Prop := ∀ x ∈ l, 0 ≤ x ∧ x ≤ 255
theorem IsBytes.getD {l : List Int} (h : IsBytes l) (i : Nat) : 0 ≤ l.getD i 0 ∧ l.getD i 0 ≤ 255 := by
  rw [List.getD_eq_getElem?_getD]
  rcases Nat.lt_or_ge i l.length with hi | hi
  · rw [List.getElem?_eq_getElem hi]; exact h _ (List.getElem_mem hi)
  · rw [List.getElem?_eq_none hi]; simp
theorem leNum_bd : ∀ (l : List Int), IsBytes l → 0 ≤ leNum l ∧ leNum l < 256 ^ l.length
  | [], _ => by simp [leNum]
  | x :: l, h => by
    have h1 := leNum_bd l (fun y hy => h y (List.mem_cons_of_mem _ hy))
    have h2 := h x List.mem_cons_self
    rw [List.length_cons, Int.pow_succ, leNum]
    generalize (256 : Int) ^ l.length = P at h1 ⊢
    omega
theorem leNum_snoc : ∀ (l : List Int) (x : Int), leNum (l ++ [x]) = leNum l + x * 256 ^ l.length
  | [], x => by simp [leNum]
  | y :: l, x => by
    rw [List.cons_append, leNum, leNum_snoc l x, leNum, List.length_cons, Int.pow_succ, Int.mul_add, Int.add_assoc, ← Int.mul_assoc, Int.mul_comm 256 x, Int.mul_assoc, Int.mul_comm 256 (256 ^ _)]
theorem getD_of_lt (l : List Int) (k : Nat) (h : k < l.length) : l.getD k 0 = l[k] := by simp [List.getD_eq_getElem?_getD, h]
theorem leNum_take (l : List Int) (k : Nat) (h : k < l.length) : leNum (l.take (k + 1)) = leNum (l.take k) + l.getD k 0 * 256 ^ k := by
  rw [List.take_succ_eq_append_getElem h, leNum_snoc, List.length_take_of_le (by omega), getD_of_lt l k h]
theorem leNum_drop (l : List Int) (k : Nat) (h : k < l.length) : leNum (l.drop k) = l.getD k 0 + 256 * leNum (l.drop (k + 1)) := by
  rw [List.drop_eq_getElem_cons h, leNum, getD_of_lt l k h]
theorem IsBytes.take {l : List Int} (h : IsBytes l) (k : Nat) : IsBytes (l.take k) := fun x hx => h x (List.mem_of_mem_take hx)
theorem IsBytes.drop {l : List Int} (h : IsBytes l) (k : Nat) : IsBytes (l.drop k) := fun x hx => h x (List.mem_of_mem_drop hx)
theorem pow256 (k : Nat) : (256 : Int) ^ k = ((2 ^ (8 * k) : Nat) : Int) := by
  rw [Nat.pow_mul, Int.natCast_pow]; rfl
theorem pow256_le (k j : Nat) (h : k ≤ j) : (256 : Int) ^ k ≤ 256 ^ j := by
  rw [pow256, pow256]
  exact Int.ofNat_le.mpr (Nat.pow_le_pow_right (by decide) (by omega))
theorem leNum_le (l : List Int) (h : IsBytes l) (hl : l.length ≤ 8) : 0 ≤ leNum l ∧ leNum l ≤ 18446744073709551615 := by
  have h1 := leNum_bd l h
  have h2 := pow256_le _ _ hl
  have h3 : (256 : Int) ^ 8 = 18446744073709551616 := by decide
  omega
theorem or_join (n x : Int) (k : Nat) (h0 : 0 ≤ n) (h1 : n < 256 ^ k) (h2 : 0 ≤ x) (h3 : x ≤ 255) (hk : k ≤ 7) :
    bits BinOp.or IntKind.u64 n (IntKind.u64.wrap (x * 2 ^ (8 * k))) = n + x * 256 ^ k := by
  obtain ⟨N, rfl⟩ := Int.eq_ofNat_of_zero_le h0
  obtain ⟨X, rfl⟩ := Int.eq_ofNat_of_zero_le h2
  rw [pow256] at h1 ⊢
  have e1 : (X : Int) * 2 ^ (8 * k) = ((X * 2 ^ (8 * k) : Nat) : Int) := by push_cast; rfl
  have e7 : 2 ^ (8 * k) ≤ 2 ^ 56 := Nat.pow_le_pow_right (by decide) (by omega)
  have e8 : X * 2 ^ (8 * k) ≤ 255 * 2 ^ 56 := Nat.mul_le_mul (by omega) e7
  have e9 : N < 2 ^ (8 * k) := by omega
  rw [e1, IntKind.wrap_u64]
  have e2 : ((X * 2 ^ (8 * k) : Nat) : Int) % 18446744073709551616 = ((X * 2 ^ (8 * k) : Nat) : Int) := by omega
  rw [e2, u64_or_nat _ _ (by omega) (by omega), Nat.or_comm, nat_join (8 * k) (X * 2 ^ (8 * k)) N (Nat.mul_mod_left _ _) e9]
  push_cast
  omega
end Go.Proofs.YtelgaglnmcggkaaGreatDoor

/- Facts on slices in memory, with no program in them. -/
namespace Go.Proofs.YtelgaglnmcggkaaGreatDoor
open Go.RowKit
set_option linter.unusedVariables false

/-- The cells from an address on read as these values; where there are none, the address may be any, or nil. -/
def Reads (w : World) (a : Option Addr) (xs : List Value) : Prop :=
  ∀ (i : Nat) (v : Value), xs[i]? = some v → ∃ b off, a = some ⟨b, off, none⟩ ∧ w.cell? ⟨b, off + i, none⟩ = some v

theorem Reads.nil (w : World) (a : Option Addr) : Reads w a [] := fun i v h => by simp at h

theorem Reads.at {w : World} {a : Option Addr} {l : List Int} {k : IntKind} (h : Reads w a (l.map (Value.int k))) (i : Nat) (hi : i < l.length) :
    ∃ b off, a = some ⟨b, off, none⟩ ∧ w.cell? ⟨b, off + i, none⟩ = some (.int k (l.getD i 0)) :=
  h i _ (by simp [hi])

theorem Reads.same {w w' : World} {a : Option Addr} {xs : List Value} (h : Reads w a xs) (hs : ∀ x, w'.cell? x = w.cell? x) : Reads w' a xs := fun i v hv => by
  obtain ⟨b, off, e, hc⟩ := h i v hv
  exact ⟨b, off, e, (hs _).trans hc⟩

theorem Reads.below {w w' : World} {a : Option Addr} {xs : List Value} {B : Nat} (h : Reads w a xs) (hb : Below B w w') (hlt : ∀ x, a = some x → x.block < B) : Reads w' a xs := fun i v hv => by
  obtain ⟨b, off, e, hc⟩ := h i v hv
  exact ⟨b, off, e, (hb.cell (p := ⟨b, off + i, none⟩) (show b < B from hlt _ e)).trans hc⟩

/-- A cell that is read lies in a block that is there. -/
theorem cell_lt {w : World} {x : Addr} {v : Value} (h : w.cell? x = some v) : x.block < w.heap.size := by
  by_cases c : x.block < w.heap.size
  · exact c
  · have e : w.heap[x.block]? = none := Array.getElem?_eq_none (by omega)
    simp [World.cell?, e] at h

theorem Reads.below' {w w' : World} {a : Option Addr} {xs : List Value} (h : Reads w a xs) (hb : Below w.heap.size w w') : Reads w' a xs := fun i v hv => by
  obtain ⟨b, off, e, hc⟩ := h i v hv
  exact ⟨b, off, e, (hb.cell (cell_lt hc)).trans hc⟩

theorem owns_reads {w : World} {base : Nat} {e : TypeId} {v : Value} {n : Nat} {xs : List Value} (h : w.ownsRow base e 1 v n xs) :
    ∃ a cap, v = .slice a n cap ∧ Reads w a xs ∧ n ≤ cap ∧ cap ≤ maxLen ∧ (∀ x, a = some x → base ≤ x.block ∧ x.block < w.heap.size) ∧ xs.length = n := by
  have hl := h.1
  rw [Nat.mul_one] at hl
  rcases h.2 with ⟨rfl, rfl⟩ | ⟨g, cap, cur, rfl, hb, hg, hnc, hcm, _, _⟩
  · exact ⟨none, 0, rfl, fun i v hv => by rw [List.length_eq_zero_iff.mp hl] at hv; simp at hv, Nat.le_refl _, by unfold maxLen; omega, by simp, hl⟩
  · refine ⟨some ⟨g, 0, none⟩, cap, rfl, fun i v hv => ⟨g, 0, rfl, ?_⟩, hnc, hcm, fun x hx => ?_, hl⟩
    · have hi : i < xs.length := by
        rcases Nat.lt_or_ge i xs.length with h | h
        · exact h
        · rw [List.getElem?_eq_none h] at hv; cases hv
      rw [Nat.zero_add, h.cellAt i (by omega), hv]
    · cases hx
      refine ⟨hb, ?_⟩
      rcases Nat.lt_or_ge g w.heap.size with h | h
      · exact h
      · rw [Array.getElem?_eq_none h] at hg; cases hg

theorem owns_base {w : World} {base base' : Nat} {e : TypeId} {size : Nat} {v : Value} {n : Nat} {xs : List Value} (h : w.ownsRow base e size v n xs) (hb : base' ≤ base) : w.ownsRow base' e size v n xs := by
  obtain ⟨h1, h2⟩ := h
  refine ⟨h1, ?_⟩
  rcases h2 with h2 | ⟨g, cap, cur, a, b, c⟩
  · exact .inl h2
  · exact .inr ⟨g, cap, cur, a, Nat.le_trans hb b, c⟩

theorem owns_below {w w' : World} {base B : Nat} {e : TypeId} {size : Nat} {v : Value} {n : Nat} {xs : List Value} (h : w.ownsRow base e size v n xs) (hb : Below B w w') (hB : w.heap.size ≤ B) : w'.ownsRow base e size v n xs := by
  obtain ⟨h1, h2⟩ := h
  refine ⟨h1, ?_⟩
  rcases h2 with h2 | ⟨g, cap, cur, a, b, c, d⟩
  · exact .inl h2
  · refine .inr ⟨g, cap, cur, a, b, ?_, d⟩
    have : g < w.heap.size := by
      rcases Nat.lt_or_ge g w.heap.size with h | h
      · exact h
      · rw [Array.getElem?_eq_none h] at c; cases c
    rw [hb.block g (by omega)]; exact c
end Go.Proofs.YtelgaglnmcggkaaGreatDoor

/- Appending to a row of the call's own, for whatever is appended. No program in it. -/
namespace Go.Proofs.YtelgaglnmcggkaaGreatDoor
open Go.RowKit
set_option linter.unusedVariables false

theorem grown_below {w w' : World} {base : Nat} {e : TypeId} {v : Value} {n size : Nat} {xs : List Value} (hown : w.ownsRow base e size v n xs) (hg : w.grownBy w' v.ownBlock) (hB : base ≤ w.heap.size) : Below base w w' :=
  (Below.refl _ _).grown hg hB fun k hk => (hown.lt k hk).1

/-- One value appended: it lies first in a new block of its own. -/
theorem wpList_append_one {P : Program} {wr : World} {ops : Array Oper} {rest : List Oper} {o : Oper} {a : Act} {Q : Exit → Act → World → Prop} (hgd : o.guard = none) (s x : Operand) (t : TypeId)
    (ho : o.op = .call { callee := .builtin .append, args := #[s, x], argTypes := #[t, t] })
    (e : TypeId) (i : TypeInfo) (z : Value) (bytes : Nat) (ht : P.underlying t = some (.slice e)) (hi : P.info? e = some i) (hz : i.zero = some z) (hsize : i.size = 1) (hby : i.bytes = bytes) (hzs : z.cells.size = 1)
    {base : Nat} {v : Value} {n : Nat} {xs : List Value} (hown : wr.ownsRow base e 1 v n xs) (hs : a.eval s = v)
    {y : Value} {t' : TypeId} (hx : a.eval x = .slice (some ⟨wr.heap.size, 0, none⟩) 1 1) (h1 : y.oneCell' = true)
    (h63 : n + 1 ≤ maxLen) (hbytes : (n + 1) * bytes ≤ 140737488355328) (hbase : base ≤ wr.heap.size)
    (h : ∀ v' w', w'.ownsRow base e 1 v' (n + 1) (xs ++ [y]) → Below base wr w' → wpList P ops Q rest (a.put o.dst v') w') : wpList P ops Q (o :: rest) a (wr.alloc (.cells #[y] t')) := by
  refine wpList_append_own _ hgd s x t ho base e i z 1 bytes ht hi hz hsize hby hzs (by decide) v n xs hs (hown.alloc _) ⟨wr.heap.size, 0, none⟩ 1 1 [y] hx rfl (cell_one_new _ _ _) (fun u hu => by simp at hu; subst hu; exact h1) h63 hbytes (by simp; omega) (fun v' w' h2 h3 _ => h v' w' h2 ?_)
  exact ((Below.refl _ _).alloc hbase _).grown h3 (by simp; omega) fun k hk => (hown.lt k hk).1

theorem Reads.cut {w : World} {b off : Nat} {xs ys : List Value} (h : Reads w (some ⟨b, off, none⟩) (xs ++ ys)) : Reads w (some ⟨b, off + xs.length, none⟩) ys := fun i v hv => by
  obtain ⟨b', off', e, hc⟩ := h (xs.length + i) v (by rw [List.getElem?_append_right (by omega)]; simpa using hv)
  cases e
  exact ⟨b, off + xs.length, rfl, by rw [Nat.add_assoc]; exact hc⟩
/-- What stands behind a cut 's[n:]', as the model writes its address. -/
theorem Reads.cut_if {w : World} {b off c : Nat} {xs ys : List Value} (h : Reads w (some ⟨b, off, none⟩) (xs ++ ys)) (q : Nat) (hq : xs.length = q) (hc : c = q → ys = []) :
    Reads w (if c = q then some ⟨b, off, none⟩ else some ⟨b, off + q, none⟩) ys := by
  subst hq
  by_cases e : c = xs.length
  · rw [hc e]; exact Reads.nil _ _
  · rw [if_neg e]; exact h.cut
theorem Reads.head {w : World} {a : Option Addr} {xs ys : List Value} (h : Reads w a (xs ++ ys)) : Reads w a xs := fun i v hv => by
  have hi : i < xs.length := by
    rcases Nat.lt_or_ge i xs.length with h | h
    · exact h
    · rw [List.getElem?_eq_none h] at hv; cases hv
  exact h i v (by rw [List.getElem?_append_left hi]; exact hv)

/-- A row of the call's own, as a slice that is read. -/
theorem owns_open {w : World} {base : Nat} {e : TypeId} {v : Value} {n : Nat} {xs : List Value} (h : w.ownsRow base e 1 v n xs) :
    ∃ a c, v = .slice a n c ∧ Reads w a xs ∧ (a = none → c = 0) ∧ n ≤ c ∧ c ≤ maxLen ∧ xs.length = n := by
  obtain ⟨a, c, rfl, h1, h2, h3, _, h5⟩ := owns_reads h
  refine ⟨a, c, rfl, h1, fun e0 => ?_, h2, h3, h5⟩
  subst e0
  rcases h.2 with ⟨hv, _⟩ | ⟨g, cap, cur, hv, _⟩
  · cases hv; rfl
  · cases hv

/-- A slice of the call's own, in new memory: its values are xs, N of them. -/
def Owned (base : Nat) (e : TypeId) (a : Option Addr) (n c : Nat) (xs : List Value) (w : World) : Prop :=
  w.ownsRow base e 1 (.slice a n c) n xs ∧ Reads w a xs ∧ (a = none → c = 0) ∧ n ≤ c ∧ c ≤ maxLen ∧ xs.length = n
theorem Owned.reads {base : Nat} {e : TypeId} {a : Option Addr} {n c : Nat} {xs : List Value} {w : World} (h : Owned base e a n c xs w) : Reads w a xs := h.2.1
theorem Owned.nil0 {base : Nat} {e : TypeId} {a : Option Addr} {n c : Nat} {xs : List Value} {w : World} (h : Owned base e a n c xs w) : a = none → c = 0 := h.2.2.1
theorem Owned.len {base : Nat} {e : TypeId} {a : Option Addr} {n c : Nat} {xs : List Value} {w : World} (h : Owned base e a n c xs w) : xs.length = n := h.2.2.2.2.2
theorem Owned.head {base : Nat} {e : TypeId} {a : Option Addr} {n c : Nat} {xs : List Value} {w : World} (h : Owned base e a n c xs w) (hn : 1 ≤ n) : ∃ g, a = some ⟨g, 0, none⟩ ∧ base ≤ g ∧ g < w.heap.size := by
  rcases h.1.2 with ⟨hv, hx⟩ | ⟨g, cap, cur, hv, hb, hg, _⟩
  · cases hv
    omega
  · cases hv
    refine ⟨g, rfl, hb, ?_⟩
    rcases Nat.lt_or_ge g w.heap.size with h | h
    · exact h
    · rw [Array.getElem?_eq_none h] at hg; cases hg
theorem Owned.below {base B : Nat} {e : TypeId} {a : Option Addr} {n c : Nat} {xs : List Value} {w w' : World} (h : Owned base e a n c xs w) (hb : Below B w w') (hB : w.heap.size ≤ B) : Owned base e a n c xs w' :=
  ⟨owns_below h.1 hb hB, h.2.1.below' (hb.mono hB), h.2.2⟩
theorem Owned.base {base base' : Nat} {e : TypeId} {a : Option Addr} {n c : Nat} {xs : List Value} {w : World} (h : Owned base e a n c xs w) (hb : base' ≤ base) : Owned base' e a n c xs w := ⟨owns_base h.1 hb, h.2⟩
theorem Owned.of {w : World} {base : Nat} {e : TypeId} {v : Value} {n : Nat} {xs : List Value} (h : w.ownsRow base e 1 v n xs) : ∃ a c, v = .slice a n c ∧ Owned base e a n c xs w := by
  obtain ⟨a, c, rfl, h1⟩ := owns_open h
  exact ⟨a, c, rfl, h, h1⟩

/-- A literal's values, in a new block. -/
theorem reads_new (w : World) (xs : List Value) (e : TypeId) : Reads (w.alloc (.cells xs.toArray e)) (some ⟨w.heap.size, 0, none⟩) xs := fun i v hv => by
  refine ⟨w.heap.size, 0, rfl, ?_⟩
  rw [Nat.zero_add, World.cell?_alloc_at _ _ _ _ rfl]
  simpa using hv
theorem below_alloc (w : World) (o : Obj) : Below w.heap.size w (w.alloc o) := (Below.refl _ _).alloc (Nat.le_refl _) _

/-- A guarded operation whose guard says yes goes as one without a guard. -/
theorem wpList_guard {P : Program} {w : World} {ops : Array Oper} {rest : List Oper} {o : Oper} {a : Act} {Q : Exit → Act → World → Prop} (hw : Region.wanted o (yielded ops a.tmps) = true)
    (h : wpList P ops Q ({ o with guard := none } :: rest) a w) : wpList P ops Q (o :: rest) a w := by
  unfold wpList at h ⊢
  rw [if_pos hw]
  rw [if_pos (by simp [Region.wanted])] at h
  exact h
theorem Reads.drewN {w : World} {a : Option Addr} {xs : List Value} (h : Reads w a xs) (n : Nat) : Reads (w.drewN n) a xs := h.same (fun x => by simp)
end Go.Proofs.YtelgaglnmcggkaaGreatDoor

/- Appending to a slice of the call's own, and where the new slice lies. No program in it. -/
namespace Go.Proofs.YtelgaglnmcggkaaGreatDoor
open Go.RowKit
set_option linter.unusedVariables false

/-- The block that a slice lies in is none of these. -/
def Apart (a : Option Addr) (B : Nat) : Prop := ∀ x, a = some x → x.block ≠ B
theorem Apart.none (B : Nat) : Apart none B := fun x h => by cases h

/-- All that was there stays, but for the row of the slice itself. -/
def GrownBut (w w' : World) (a : Option Addr) : Prop := w.heap.size ≤ w'.heap.size ∧ ∀ k, k < w.heap.size → Apart a k → w'.heap[k]? = w.heap[k]?
theorem GrownBut.cell {w w' : World} {a : Option Addr} (h : GrownBut w w' a) {x : Addr} {v : Value} (hc : w.cell? x = some v) (ha : Apart a x.block) : w'.cell? x = some v :=
  (World.cell?_of_block (h.2 x.block (cell_lt hc) ha)).trans hc
theorem GrownBut.frozen {w w' : World} {a : Option Addr} (h : GrownBut w w' a) {x : Addr} (hx : x.block < w.heap.size) (ha : Apart a x.block) : w'.frozen? x = w.frozen? x :=
  World.frozen?_of_block (h.2 x.block hx ha)

theorem Owned.setCell {base : Nat} {e : TypeId} {a : Option Addr} {n c : Nat} {xs : List Value} {w : World} (h : Owned base e a n c xs w) {p : Addr} (ha : Apart a p.block) (u : Value) : Owned base e a n c xs (w.setCell p u) := by
  have hne : (Value.slice a n c).ownBlock ≠ some p.block := fun e0 => by
    cases a with
    | none => simp [Value.ownBlock] at e0
    | some x => exact ha x rfl (by simpa [Value.ownBlock] using e0)
  obtain ⟨a', c', he, h2⟩ := Owned.of (ownsRow_setCell_other h.1 hne u)
  cases he
  exact h2
end Go.Proofs.YtelgaglnmcggkaaGreatDoor

/- What a method changes: its object's block, the row that it grows, what it makes anew, and nothing else; strings as bytes. No program in it. -/
namespace Go.Proofs.YtelgaglnmcggkaaGreatDoor
open Go.RowKit
set_option linter.unusedVariables false

/-- But for block p and the row that a lies in, all that was there is as it was. -/
structure Kept (p : Nat) (a : Option Addr) (w w' : World) : Prop where
  os : w'.os = w.os
  tape : w'.tape = w.tape
  output : w'.output = w.output
  size : w.heap.size ≤ w'.heap.size
  block : ∀ k, k < w.heap.size → k ≠ p → Apart a k → w'.heap[k]? = w.heap[k]?

/-- A row that stayed, or that lies in new memory. -/
def Near (a a' : Option Addr) (w : World) : Prop := ∀ k, k < w.heap.size → Apart a k → Apart a' k

theorem Near.refl (a : Option Addr) (w : World) : Near a a w := fun k hk h => h
theorem Near.of {a a' : Option Addr} {w : World} (h : a' = a ∨ ∃ g, a' = some ⟨g, 0, none⟩ ∧ w.heap.size ≤ g) : Near a a' w := fun k hk ha => by
  rcases h with rfl | ⟨g, rfl, hg⟩
  · exact ha
  · intro x hx
    cases hx
    show g ≠ k
    omega
theorem Near.trans {a a1 a2 : Option Addr} {w w1 : World} (h : Near a a1 w) (h1 : Near a1 a2 w1) (hs : w.heap.size ≤ w1.heap.size) : Near a a2 w := fun k hk ha => h1 k (Nat.lt_of_lt_of_le hk hs) (h k hk ha)
theorem Near.early {a a1 : Option Addr} {w w1 : World} (h : Near a a1 w1) (hs : w.heap.size ≤ w1.heap.size) : Near a a1 w := fun k hk ha => h k (Nat.lt_of_lt_of_le hk hs) ha

theorem Kept.refl (p : Nat) (a : Option Addr) (w : World) : Kept p a w w := ⟨rfl, rfl, rfl, Nat.le_refl _, fun _ _ _ _ => rfl⟩
theorem Kept.of {p : Nat} {a : Option Addr} {w w' : World} (h : Below w.heap.size w w') : Kept p a w w' := ⟨h.os, h.tape, h.output, h.size, fun k hk _ _ => h.block k hk⟩
theorem Kept.trans {p : Nat} {a a1 : Option Addr} {w w1 w2 : World} (h : Kept p a w w1) (hn : Near a a1 w) (h1 : Kept p a1 w1 w2) : Kept p a w w2 :=
  ⟨h1.os.trans h.os, h1.tape.trans h.tape, h1.output.trans h.output, Nat.le_trans h.size h1.size, fun k hk hp ha => (h1.block k (Nat.lt_of_lt_of_le hk h.size) hp (hn k hk ha)).trans (h.block k hk hp ha)⟩
theorem Kept.cell {p : Nat} {a : Option Addr} {w w' : World} (h : Kept p a w w') {x : Addr} {v : Value} (hc : w.cell? x = some v) (hp : x.block ≠ p) (ha : Apart a x.block) : w'.cell? x = some v :=
  (World.cell?_of_block (h.block x.block (cell_lt hc) hp ha)).trans hc
theorem Kept.frozen {p : Nat} {a : Option Addr} {w w' : World} (h : Kept p a w w') {x : Addr} (hx : x.block < w.heap.size) (hp : x.block ≠ p) (ha : Apart a x.block) : w'.frozen? x = w.frozen? x :=
  World.frozen?_of_block (h.block x.block hx hp ha)
theorem Kept.below {base p : Nat} {a : Option Addr} {w w' : World} (h : Kept p a w w') (hp : base ≤ p) (ha : ∀ x, a = some x → base ≤ x.block) (hs : base ≤ w.heap.size) : Below base w w' :=
  ⟨h.os, h.tape, h.output, h.size, fun k hk => h.block k (by omega) (by omega) (fun x hx => by have := ha x hx; omega)⟩
theorem Kept.setCell {p : Nat} {a : Option Addr} {w w' : World} (h : Kept p a w w') (i : Nat) (u : Value) : Kept p a w (w'.setCell ⟨p, i, none⟩ u) :=
  ⟨h.os, h.tape, h.output, by simpa using h.size, fun k hk hp ha => (Below.heap_setCell w' ⟨p, i, none⟩ u k hp).trans (h.block k hk hp ha)⟩
theorem Kept.grown {p base : Nat} {a : Option Addr} {w w' : World} (hb : Below base w w') (hg : GrownBut w w' a) : Kept p a w w' := ⟨hb.os, hb.tape, hb.output, hg.1, fun k hk _ ha => hg.2 k hk ha⟩

/-- The slice q lies neither in block p nor in a's row. -/
def Away (q : Option Addr) (p : Nat) (a : Option Addr) : Prop := ∀ x, q = some x → x.block ≠ p ∧ Apart a x.block

theorem Reads.kept {p : Nat} {a q : Option Addr} {w w' : World} {xs : List Value} (h : Reads w q xs) (hk : Kept p a w w') (ha : Away q p a) : Reads w' q xs := fun i v hv => by
  obtain ⟨b, off, hb, hc⟩ := h i v hv
  exact ⟨b, off, hb, hk.cell hc (ha _ hb).1 (ha _ hb).2⟩
theorem Owned.kept {base p : Nat} {e : TypeId} {a q : Option Addr} {n c : Nat} {xs : List Value} {w w' : World} (h : Owned base e q n c xs w) (hk : Kept p a w w') (ha : Away q p a) : Owned base e q n c xs w' := by
  refine ⟨⟨h.1.1, ?_⟩, h.2.1.kept hk ha, h.2.2⟩
  rcases h.1.2 with h2 | ⟨g, cap, cur, hv, hb, hg, d⟩
  · exact .inl h2
  · refine .inr ⟨g, cap, cur, hv, hb, ?_, d⟩
    have hlt : g < w.heap.size := by
      rcases Nat.lt_or_ge g w.heap.size with h | h
      · exact h
      · rw [Array.getElem?_eq_none h] at hg; cases hg
    cases hv
    rw [hk.block g hlt (ha _ rfl).1 (ha _ rfl).2]
    exact hg
theorem Owned.le {base : Nat} {e : TypeId} {a : Option Addr} {n c : Nat} {xs : List Value} {w : World} (h : Owned base e a n c xs w) : n ≤ c := h.2.2.2.1
theorem Owned.capm {base : Nat} {e : TypeId} {a : Option Addr} {n c : Nat} {xs : List Value} {w : World} (h : Owned base e a n c xs w) : c ≤ maxLen := h.2.2.2.2.1
theorem Owned.lt' {base : Nat} {e : TypeId} {a : Option Addr} {n c : Nat} {xs : List Value} {w : World} (h : Owned base e a n c xs w) (x : Addr) (hx : a = some x) : base ≤ x.block ∧ x.block < w.heap.size := by
  subst hx
  exact h.1.lt _ rfl

/-- An object at block p whose field is a slice of the call's own, of the bytes l. -/
def Wr (e : TypeId) (base p : Nat) (a : Option Addr) (l : List Int) (w : World) : Prop :=
  ∃ n c, base ≤ p ∧ p < w.heap.size ∧ w.cell? ⟨p, 0, none⟩ = some (.slice a n c) ∧ w.frozen? ⟨p, 0, none⟩ = false ∧ l.length = n ∧ Owned base e a n c (l.map (Value.int .u8)) w ∧ Apart a p
theorem Wr.below {e : TypeId} {base p : Nat} {a : Option Addr} {l : List Int} {w w' : World} (h : Wr e base p a l w) (hb : Below w.heap.size w w') : Wr e base p a l w' := by
  obtain ⟨n, c, h1, h2, h3, h4, h5, h6, h7⟩ := h
  exact ⟨n, c, h1, Nat.lt_of_lt_of_le h2 hb.size, (hb.cell (p := ⟨p, 0, none⟩) h2).trans h3, (hb.frozen (p := ⟨p, 0, none⟩) h2).trans h4, h5, h6.below hb (Nat.le_refl _), h7⟩
theorem Wr.lt {e : TypeId} {base p : Nat} {a : Option Addr} {l : List Int} {w : World} (h : Wr e base p a l w) : base ≤ p ∧ p < w.heap.size := ⟨h.choose_spec.choose_spec.1, h.choose_spec.choose_spec.2.1⟩
theorem Wr.row {e : TypeId} {base p : Nat} {a : Option Addr} {l : List Int} {w : World} (h : Wr e base p a l w) (x : Addr) (hx : a = some x) : base ≤ x.block ∧ x.block < w.heap.size ∧ x.block ≠ p := by
  obtain ⟨n, c, h1, h2, h3, h4, h5, h6, h7⟩ := h
  exact ⟨(h6.lt' x hx).1, (h6.lt' x hx).2, h7 x hx⟩
/-- Another row grew. -/
theorem Wr.kept {e : TypeId} {base p p' : Nat} {a q : Option Addr} {l : List Int} {w w' : World} (h : Wr e base p a l w) (hk : Kept p' q w w') (hp : p ≠ p') (hq : Apart q p) (ha : Away a p' q) : Wr e base p a l w' := by
  obtain ⟨n, c, h1, h2, h3, h4, h5, h6, h7⟩ := h
  exact ⟨n, c, h1, Nat.lt_of_lt_of_le h2 hk.size, hk.cell h3 hp hq, (hk.frozen (x := ⟨p, 0, none⟩) h2 hp hq).trans h4, h5, h6.kept hk ha, h7⟩

/-- A method of the object answers the object itself, behind which l lies. -/
def WrGives (e : TypeId) (base p : Nat) (a : Option Addr) (l : List Int) (w : World) (en : Ending) (w' : World) : Prop :=
  en = .returned (.pointer (some ⟨p, 0, none⟩)) ∧ ∃ a', Wr e base p a' l w' ∧ Kept p a w w' ∧ Near a a' w
theorem WrGives.early {e : TypeId} {base p : Nat} {a : Option Addr} {l : List Int} {w w1 w2 : World} {en : Ending} (h : WrGives e base p a l w1 en w2) (hb : Below w.heap.size w w1) : WrGives e base p a l w en w2 := by
  obtain ⟨rfl, a', h1, h2, h3⟩ := h
  exact ⟨rfl, a', h1, (Kept.of hb).trans (Near.refl _ _) h2, h3.early hb.size⟩
theorem WrGives.later {e : TypeId} {base p : Nat} {a a1 : Option Addr} {l : List Int} {w w1 w2 : World} {en : Ending} (h : WrGives e base p a1 l w1 en w2) (hk : Kept p a w w1) (hn : Near a a1 w) : WrGives e base p a l w en w2 := by
  obtain ⟨rfl, a', h1, h2, h3⟩ := h
  exact ⟨rfl, a', h1, hk.trans hn h2, hn.trans h3 hk.size⟩

/-- A string's bytes. -/
def strBytes (s : ByteArray) : List Int := s.data.toList.map fun b => (b.toNat : Int)
theorem strBytes_len (s : ByteArray) : (strBytes s).length = s.size := by simp [strBytes]
theorem strBytes_bytes (s : ByteArray) : IsBytes (strBytes s) := fun x hx => by
  simp only [strBytes, List.mem_map] at hx
  obtain ⟨b, -, rfl⟩ := hx
  have := b.toNat_lt
  omega
theorem bytesWorld_below (w : World) (e : TypeId) (s : ByteArray) : Below w.heap.size w (Lib.bytesWorld w e s) :=
  ⟨rfl, rfl, rfl, by rw [Lib.bytesWorld_size]; omega, fun k hk => Lib.bytesWorld_at_old w e s k hk⟩
theorem bytesWorld_reads (w : World) (e : TypeId) (s : ByteArray) : Reads (Lib.bytesWorld w e s) (some ⟨w.heap.size, 0, none⟩) ((strBytes s).map (Value.int .u8)) := fun i v hv => by
  have hi : i < s.size := by
    have := (List.getElem?_eq_some_iff.1 hv).1
    simpa [strBytes] using this
  refine ⟨w.heap.size, 0, rfl, ?_⟩
  rw [Nat.zero_add, Lib.bytesWorld_cell w e s i hi, ← hv]
  have hi' : i < s.data.toList.length := by simpa using hi
  simp [strBytes, List.getD, List.getElem?_eq_getElem hi']

end Go.Proofs.YtelgaglnmcggkaaGreatDoor

/- Structs and slices of structs that came in, field by field. No program in it. -/
namespace Go.Proofs.YtelgaglnmcggkaaGreatDoor
open Go.ChangeShapes Go.WideShapes Go.RowKit
set_option linter.unusedVariables false

section
variable {H : Type} {enc : TypeId × Value → H} {P : Program} {w : World} {base : Nat} {spare : Nat → Bool} {held : Bool}

end

end Go.Proofs.YtelgaglnmcggkaaGreatDoor

/- Slices of elements of several cells: rows that are read, rows of the call's own, appending to them; structs of strings, numbers and flags, cell by cell. No program in it. -/
namespace Go.Proofs.YtelgaglnmcggkaaGreatDoor
open Go.ChangeShapes Go.WideShapes Go.RowKit
set_option linter.unusedVariables false

/-- All elements' cells, one behind the other. -/
def flatC {α : Type} (enc : α → List Value) (P : List α) : List Value := P.flatMap enc

theorem flatC_len {α : Type} {enc : α → List Value} {z : Nat} (hz : ∀ x, (enc x).length = z) : ∀ P : List α, (flatC enc P).length = P.length * z
  | [] => by simp [flatC]
  | x :: r => by
    have := flatC_len hz r
    unfold flatC at *
    rw [List.flatMap_cons, List.length_append, this, hz, List.length_cons, Nat.add_mul]
    omega

theorem flatC_app {α : Type} {enc : α → List Value} (P Q : List α) : flatC enc (P ++ Q) = flatC enc P ++ flatC enc Q := by
  unfold flatC
  exact List.flatMap_append

theorem flatC_one {α : Type} {enc : α → List Value} (x : α) : flatC enc [x] = enc x := by simp [flatC]

theorem flatC_at {α : Type} {enc : α → List Value} {z : Nat} (hz : ∀ x, (enc x).length = z) : ∀ (P : List α) (i : Nat) (x : α) (j : Nat) (v : Value), P[i]? = some x → (enc x)[j]? = some v → (flatC enc P)[i * z + j]? = some v
  | [], i, x, j, v, h, hv => by simp at h
  | y :: r, 0, x, j, v, h, hv => by
    simp only [List.getElem?_cons_zero, Option.some.injEq] at h
    subst h
    unfold flatC
    rw [List.flatMap_cons, Nat.zero_mul, Nat.zero_add, List.getElem?_append_left (List.getElem?_eq_some_iff.1 hv).1]
    exact hv
  | y :: r, i + 1, x, j, v, h, hv => by
    have := flatC_at hz r i x j v (by simpa using h) hv
    unfold flatC at *
    have hl := hz y
    rw [List.flatMap_cons, List.getElem?_append_right (by rw [hl, Nat.add_mul]; omega), hl]
    have e : (i + 1) * z + j - z = i * z + j := by rw [Nat.add_mul]; omega
    rw [e]
    exact this

/-- A slice of elements of z cells each, that is read. -/
structure RowOf {α : Type} (enc : α → List Value) (z : Nat) (w : World) (a : Option Addr) (len cap : Nat) (P : List α) : Prop where
  leq : P.length = len
  cle : len ≤ cap
  capm : cap ≤ maxLen
  nil0 : a = none → cap = 0
  at_ : ∀ (i : Nat) (x : α), P[i]? = some x → ∃ g off, a = some ⟨g, off, none⟩ ∧ ∀ (j : Nat) (v : Value), (enc x)[j]? = some v → w.cell? ⟨g, off + i * z + j, none⟩ = some v

theorem RowOf.below {α : Type} {enc : α → List Value} {z : Nat} {w w' : World} {a : Option Addr} {len cap : Nat} {P : List α} (h : RowOf enc z w a len cap P) (hb : Below w.heap.size w w') : RowOf enc z w' a len cap P :=
  ⟨h.leq, h.cle, h.capm, h.nil0, fun i x hx => by
    obtain ⟨g, off, e, hc⟩ := h.at_ i x hx
    exact ⟨g, off, e, fun j v hv => (hb.cell (p := ⟨g, off + i * z + j, none⟩) (cell_lt (hc j v hv))).trans (hc j v hv)⟩⟩

theorem RowOf.at {α : Type} {enc : α → List Value} {z : Nat} {w : World} {a : Option Addr} {len cap : Nat} {P : List α} (h : RowOf enc z w a len cap P) (k : Nat) (hk : k < len) :
    ∃ x g off, P[k]? = some x ∧ a = some ⟨g, off, none⟩ ∧ ∀ (j : Nat) (v : Value), (enc x)[j]? = some v → w.cell? ⟨g, off + k * z + j, none⟩ = some v := by
  have hk' : k < P.length := by rw [h.leq]; exact hk
  obtain ⟨g, off, e, hc⟩ := h.at_ k P[k] (List.getElem?_eq_getElem hk')
  exact ⟨P[k], g, off, List.getElem?_eq_getElem hk', e, hc⟩

/-- A slice of the call's own, in new memory, of elements of z cells each. -/
def OwnZ {α : Type} (enc : α → List Value) (z base : Nat) (e : TypeId) (a : Option Addr) (n c : Nat) (P : List α) (w : World) : Prop :=
  w.ownsRow base e z (.slice a n c) n (flatC enc P) ∧ P.length = n ∧ n ≤ c ∧ c ≤ maxLen

theorem OwnZ.head {α : Type} {enc : α → List Value} {z base : Nat} {e : TypeId} {a : Option Addr} {n c : Nat} {P : List α} {w : World} (h : OwnZ enc z base e a n c P w) : (a = none ∧ n = 0 ∧ c = 0) ∨ ∃ g, a = some ⟨g, 0, none⟩ ∧ base ≤ g ∧ g < w.heap.size := by
  rcases h.1.2 with ⟨hv, hn⟩ | ⟨g, cap, cur, hv, hb, hg, _⟩
  · cases hv; exact .inl ⟨rfl, rfl, rfl⟩
  · cases hv
    refine .inr ⟨g, rfl, hb, ?_⟩
    rcases Nat.lt_or_ge g w.heap.size with h | h
    · exact h
    · rw [Array.getElem?_eq_none h] at hg; cases hg

theorem OwnZ.row {α : Type} {enc : α → List Value} {z base : Nat} {e : TypeId} {a : Option Addr} {n c : Nat} {P : List α} {w : World} (hz : ∀ x, (enc x).length = z) (h : OwnZ enc z base e a n c P w) : RowOf enc z w a n c P := by
  refine ⟨h.2.1, h.2.2.1, h.2.2.2, fun e0 => ?_, fun i x hx => ?_⟩
  · rcases h.head with ⟨-, -, h⟩ | ⟨g, h, -⟩
    · exact h
    · rw [e0] at h; cases h
  · have hi : i < n := by have := (List.getElem?_eq_some_iff.1 hx).1; rw [h.2.1] at this; exact this
    rcases h.head with ⟨-, h, -⟩ | ⟨g, rfl, -⟩
    · omega
    · refine ⟨g, 0, rfl, fun j v hv => ?_⟩
      have hj : j < z := by have := (List.getElem?_eq_some_iff.1 hv).1; rw [hz] at this; exact this
      have h1 : i * z + j < n * z := by
        have : (i + 1) * z ≤ n * z := Nat.mul_le_mul_right z hi
        rw [Nat.add_mul] at this
        omega
      rw [Nat.zero_add, World.ownsRow.cellAt h.1 (i * z + j) h1]
      exact flatC_at hz P i x j v hx hv

theorem OwnZ.below {α : Type} {enc : α → List Value} {z base B : Nat} {e : TypeId} {a : Option Addr} {n c : Nat} {P : List α} {w w' : World} (h : OwnZ enc z base e a n c P w) (hb : Below B w w') (hB : w.heap.size ≤ B) : OwnZ enc z base e a n c P w' :=
  ⟨owns_below h.1 hb hB, h.2⟩

theorem OwnZ.base {α : Type} {enc : α → List Value} {z base base' : Nat} {e : TypeId} {a : Option Addr} {n c : Nat} {P : List α} {w : World} (h : OwnZ enc z base e a n c P w) (hb : base' ≤ base) : OwnZ enc z base' e a n c P w :=
  ⟨owns_base h.1 hb, h.2⟩

/-- Nothing yet: the nil slice, and the empty literal. -/
theorem OwnZ.none {α : Type} (enc : α → List Value) (z base : Nat) (e : TypeId) (w : World) : OwnZ enc z base e none 0 0 [] w :=
  ⟨⟨by simp [flatC], .inl ⟨rfl, rfl⟩⟩, rfl, Nat.le_refl _, by unfold maxLen; omega⟩

theorem OwnZ.lit {α : Type} (enc : α → List Value) (z : Nat) (e : TypeId) (w : World) : OwnZ enc z w.heap.size e (some ⟨w.heap.size, 0, .none⟩) 0 0 [] (w.alloc (.cells #[] e)) :=
  ⟨World.ownsRow_lit _ #[] 0 (Nat.le_refl _) (by unfold maxLen; omega) (by simp), rfl, Nat.le_refl _, by unfold maxLen; omega⟩

/-- A literal of elements, in a new block. -/
theorem OwnZ.new {α : Type} {enc : α → List Value} {z : Nat} (hz : ∀ x, (enc x).length = z) (P : List α) (C : Array Value) (hC : C.toList = flatC enc P) (n : Nat) (hn : P.length = n) (hm : n ≤ maxLen) (e : TypeId) (w : World) :
    OwnZ enc z w.heap.size e (some ⟨w.heap.size, 0, .none⟩) n n P (w.alloc (.cells C e)) := by
  refine ⟨?_, hn, Nat.le_refl _, hm⟩
  rw [← hC]
  refine World.ownsRow_lit _ C n (Nat.le_refl _) hm ?_
  have := flatC_len hz P
  rw [← hC, hn] at this
  simpa using this

theorem RowOf.cellsOf {α : Type} {enc : α → List Value} {z : Nat} (hz : ∀ x, (enc x).length = z) {w : World} {g off : Nat} {len cap : Nat} {P : List α} (h : RowOf enc z w (some ⟨g, off, none⟩) len cap P) (j : Nat) (u : Value) (hu : (flatC enc P)[j]? = some u) : w.cell? ⟨g, off + j, none⟩ = some u := by
  have hl := flatC_len hz P
  have hj := (List.getElem?_eq_some_iff.1 hu).1
  rw [hl] at hj
  have hz0 : 0 < z := by
    rcases Nat.eq_zero_or_pos z with h0 | h0
    · rw [h0] at hj; omega
    · exact h0
  have hi : j / z < P.length := Nat.div_lt_of_lt_mul (by rw [Nat.mul_comm]; exact hj)
  obtain ⟨g', off', e, hc⟩ := h.at_ (j / z) _ (List.getElem?_eq_getElem hi)
  cases e
  have hm : j % z < (enc P[j / z]).length := by rw [hz]; exact Nat.mod_lt _ hz0
  have h2 := hc (j % z) _ (List.getElem?_eq_getElem hm)
  have h3 := flatC_at hz P (j / z) _ (j % z) _ (List.getElem?_eq_getElem hi) (List.getElem?_eq_getElem hm)
  have e1 : j / z * z + j % z = j := by rw [Nat.mul_comm]; exact Nat.div_add_mod j z
  rw [e1, hu] at h3
  rw [Nat.add_assoc, e1] at h2
  rw [h2, ← h3]

/-- An append of elements onto a slice of the call's own, and where the new slice lies. -/
theorem wp_append_rows {α : Type} {enc : α → List Value} {z : Nat} (hz : ∀ x, (enc x).length = z) (hz0 : 0 < z) (hone : ∀ x, ∀ u ∈ enc x, u.oneCell' = true) {P : Program} {w : World} {o : Oper} {a : Act} {K : Act → World → Prop} {Q : Exit → Act → World → Prop} (s x : Operand) (t : TypeId)
    (ho : o.op = .call { callee := .builtin .append, args := #[s, x], argTypes := #[t, t] })
    (e : TypeId) (i : TypeInfo) (z0 : Value) (bytes : Nat) (ht : P.underlying t = some (.slice e)) (hi : P.info? e = some i) (hzz : i.zero = some z0) (hsize : i.size = z) (hby : i.bytes = bytes) (hzs : z0.cells.size = z)
    {base : Nat} {a0 : Option Addr} {n c0 : Nat} {xs : List α} (hown : OwnZ enc z base e a0 n c0 xs w) (hs : a.eval s = .slice a0 n c0)
    {ao : Option Addr} {m c : Nat} {news : List α} (hr : RowOf enc z w ao m c news) (hx : a.eval x = .slice ao m c)
    (N : Nat) (hN : n + m = N) (h63 : N ≤ maxLen) (hbytes : N * bytes ≤ 140737488355328) (hbase : base ≤ w.heap.size)
    (h : ∀ a' c' w', OwnZ enc z base e a' N c' (xs ++ news) w' → Below base w w' → GrownBut w w' a0 → (a' = a0 ∨ ∃ g, a' = some ⟨g, 0, none⟩ ∧ w.heap.size ≤ g) → K (a.put o.dst (.slice a' N c')) w') : Oper.wp P o a w K Q := by
  subst hN
  have h1 : ∀ u ∈ flatC enc news, u.oneCell' = true := fun u hu => by
    obtain ⟨y, -, hy⟩ := List.mem_flatMap.1 hu
    exact hone y u hy
  have hrun : ∃ v' w', (Builtin.append_ #[t, t] o.type #[.slice a0 n c0, .slice ao m c]).run P w = .ok v' w' ∧ w'.ownsRow base e z v' (n + m) (flatC enc (xs ++ news)) ∧ w.grownBy w' (Value.slice a0 n c0).ownBlock ∧ (v'.ownBlock = (Value.slice a0 n c0).ownBlock ∨ v'.ownBlock = some w.heap.size) := by
    rw [flatC_app]
    cases ao with
    | none =>
      have hc0 := hr.nil0 rfl
      have hm0 : m = 0 := by have := hr.cle; omega
      subst hc0
      subst hm0
      have hn : news = [] := List.length_eq_zero_iff.1 hr.leq
      subst hn
      have hrn := run_append_owned_none (P := P) (w := w) base t o.type e i z ht hi _ n (flatC enc xs) hown.1
      exact ⟨_, w, hrn, by simpa [flatC] using hown.1, ⟨rfl, rfl, rfl, Nat.le_refl _, fun _ _ _ => rfl⟩, .inl rfl⟩
    | some ad =>
      by_cases hm : m = 0
      · subst hm
        have hn : news = [] := List.length_eq_zero_iff.1 hr.leq
        subst hn
        obtain ⟨v', w', h2, h3, h4, _, h5⟩ := run_append_own_at (P := P) w base t o.type e i z0 z bytes ht hi hzz hsize hby hzs hz0 _ n (flatC enc xs) hown.1 ad 0 c [] (by simp) (fun j u hu => by simp at hu) (by simp) h63 hbytes hbase
        exact ⟨v', w', h2, by simpa [flatC] using h3, h4, h5⟩
      · obtain ⟨y, g, off, -, e1, -⟩ := hr.at 0 (by omega)
        cases e1
        obtain ⟨v', w', h2, h3, h4, _, h5⟩ := run_append_own_at (P := P) w base t o.type e i z0 z bytes ht hi hzz hsize hby hzs hz0 _ n (flatC enc xs) hown.1 ⟨g, off, none⟩ m c (flatC enc news) (by rw [flatC_len hz, hr.leq]) (fun j u hu => by
          have hc := hr.cellsOf hz j u hu
          have hA : (⟨g, off, none⟩ : Addr).add j = ⟨g, off + j, none⟩ := by
            by_cases h0 : j = 0
            · subst h0; simp [Addr.add]
            · simp [Addr.add, h0]
          rw [hA]
          exact hc) h1 h63 hbytes hbase
        exact ⟨v', w', h2, h3, h4, h5⟩
  obtain ⟨v', w', h2, h3, h4, h5⟩ := hrun
  unfold Oper.wp execOp
  simp only [ho, resolve, invoke, builtin, Sem.run_bind, Sem.run_pure, Result.andThen_ok, List.map_toArray, List.map_cons, List.map_nil, hs, hx, h2]
  have hlen : (xs ++ news).length = n + m := by rw [List.length_append, hown.2.1, hr.leq]
  have hv' : ∃ a' c', v' = .slice a' (n + m) c' ∧ n + m ≤ c' ∧ c' ≤ maxLen := by
    rcases h3.2 with ⟨hv, hn0⟩ | ⟨g, cap, cur, hv, hb, hg, hnc, hcm, _⟩
    · exact ⟨.none, 0, by rw [hv, hn0], by omega, by unfold maxLen; omega⟩
    · exact ⟨_, cap, hv, hnc, hcm⟩
  obtain ⟨a', c', rfl, hle, hcm⟩ := hv'
  have h6 : OwnZ enc z base e a' (n + m) c' (xs ++ news) w' := ⟨h3, hlen, hle, hcm⟩
  refine h a' c' w' h6 (grown_below hown.1 h4 hbase) ⟨h4.size, fun k hk ha => h4.block k hk fun e0 => ?_⟩ ?_
  · cases a0 with
    | none => simp [Value.ownBlock] at e0
    | some x0 => exact ha x0 rfl (by simpa [Value.ownBlock] using e0.symm)
  · rcases h6.1.2 with ⟨hv, hn0⟩ | ⟨g, cap, cur, hv, hb, hg, _⟩
    · simp only [Value.slice.injEq] at hv
      obtain ⟨rfl, -, -⟩ := hv
      rcases h5 with h5 | h5
      · cases a0 with
        | none => exact .inl rfl
        | some x0 => simp [Value.ownBlock] at h5
      · simp [Value.ownBlock] at h5
    · simp only [Value.slice.injEq] at hv
      obtain ⟨rfl, -, -⟩ := hv
      rcases h5 with h5 | h5
      · cases a0 with
        | none => simp [Value.ownBlock] at h5
        | some x0 =>
          rcases hown.1.2 with ⟨hv0, _⟩ | ⟨g0, cap0, cur0, hv0, _⟩
          · cases hv0
          · cases hv0
            simp [Value.ownBlock] at h5
            subst h5
            exact .inl rfl
      · simp [Value.ownBlock] at h5
        exact .inr ⟨g, rfl, by omega⟩

theorem wpList_append_rows {α : Type} {enc : α → List Value} {z : Nat} (hz : ∀ x, (enc x).length = z) (hz0 : 0 < z) (hone : ∀ x, ∀ u ∈ enc x, u.oneCell' = true) {P : Program} {w : World} {ops : Array Oper} {rest : List Oper} {o : Oper} {a : Act} {Q : Exit → Act → World → Prop} (hgd : o.guard = none) (s x : Operand) (t : TypeId)
    (ho : o.op = .call { callee := .builtin .append, args := #[s, x], argTypes := #[t, t] })
    (e : TypeId) (i : TypeInfo) (z0 : Value) (bytes : Nat) (ht : P.underlying t = some (.slice e)) (hi : P.info? e = some i) (hzz : i.zero = some z0) (hsize : i.size = z) (hby : i.bytes = bytes) (hzs : z0.cells.size = z)
    {base : Nat} {a0 : Option Addr} {n c0 : Nat} {xs : List α} (hown : OwnZ enc z base e a0 n c0 xs w) (hs : a.eval s = .slice a0 n c0)
    {ao : Option Addr} {m c : Nat} {news : List α} (hr : RowOf enc z w ao m c news) (hx : a.eval x = .slice ao m c)
    (N : Nat) (hN : n + m = N) (h63 : N ≤ maxLen) (hbytes : N * bytes ≤ 140737488355328) (hbase : base ≤ w.heap.size)
    (h : ∀ a' c' w', OwnZ enc z base e a' N c' (xs ++ news) w' → Below base w w' → GrownBut w w' a0 → (a' = a0 ∨ ∃ g, a' = some ⟨g, 0, none⟩ ∧ w.heap.size ≤ g) → wpList P ops Q rest (a.put o.dst (.slice a' N c')) w') : wpList P ops Q (o :: rest) a w :=
  wpList_plain hgd fun K hK => wp_append_rows hz hz0 hone s x t ho e i z0 bytes ht hi hzz hsize hby hzs hown hs hr hx N hN h63 hbytes hbase fun a' c' w' h1 h2 h3 h4 => hK _ _ (h a' c' w' h1 h2 h3 h4)

/-- One element appended: it lies first in a new block of its own. -/
theorem wp_append_row1 {α : Type} {enc : α → List Value} {z : Nat} (hz : ∀ x, (enc x).length = z) (hz0 : 0 < z) (hone : ∀ x, ∀ u ∈ enc x, u.oneCell' = true) {P : Program} {wr : World} {o : Oper} {a : Act} {K : Act → World → Prop} {Q : Exit → Act → World → Prop} (s x : Operand) (t : TypeId)
    (ho : o.op = .call { callee := .builtin .append, args := #[s, x], argTypes := #[t, t] })
    (e : TypeId) (i : TypeInfo) (z0 : Value) (bytes : Nat) (ht : P.underlying t = some (.slice e)) (hi : P.info? e = some i) (hzz : i.zero = some z0) (hsize : i.size = z) (hby : i.bytes = bytes) (hzs : z0.cells.size = z)
    {base : Nat} {a0 : Option Addr} {n c0 : Nat} {xs : List α} (hown : OwnZ enc z base e a0 n c0 xs wr) (hs : a.eval s = .slice a0 n c0)
    {C : Array Value} {t' : TypeId} (y : α) (hC : C.toList = enc y) (hx : a.eval x = .slice (some ⟨wr.heap.size, 0, none⟩) 1 1)
    (N : Nat) (hN : n + 1 = N) (h63 : N ≤ maxLen) (hbytes : N * bytes ≤ 140737488355328) (hbase : base ≤ wr.heap.size)
    (h : ∀ a' c' w', OwnZ enc z base e a' N c' (xs ++ [y]) w' → Below base wr w' → GrownBut wr w' a0 → (a' = a0 ∨ ∃ g, a' = some ⟨g, 0, none⟩ ∧ wr.heap.size ≤ g) → K (a.put o.dst (.slice a' N c')) w') : Oper.wp P o a (wr.alloc (.cells C t')) K Q := by
  have hal := below_alloc wr (.cells C t')
  have hnew := OwnZ.new hz [y] C (by rw [hC, flatC_one]) 1 rfl (by unfold maxLen; omega) t' wr
  refine wp_append_rows hz hz0 hone s x t ho e i z0 bytes ht hi hzz hsize hby hzs (hown.below hal (Nat.le_refl _)) hs (hnew.row hz) hx N hN h63 hbytes (Nat.le_trans hbase hal.size) fun a' c' w' h1 h2 h3 h4 => ?_
  refine h a' c' w' h1 ((hal.mono hbase).trans h2) ⟨Nat.le_trans hal.size h3.1, fun k hk ha => (h3.2 k (Nat.lt_of_lt_of_le hk hal.size) ha).trans (hal.block k hk)⟩ ?_
  rcases h4 with h4 | ⟨g, e1, h4⟩
  · exact .inl h4
  · exact .inr ⟨g, e1, Nat.le_trans hal.size h4⟩

theorem wpList_append_row1 {α : Type} {enc : α → List Value} {z : Nat} (hz : ∀ x, (enc x).length = z) (hz0 : 0 < z) (hone : ∀ x, ∀ u ∈ enc x, u.oneCell' = true) {P : Program} {wr : World} {ops : Array Oper} {rest : List Oper} {o : Oper} {a : Act} {Q : Exit → Act → World → Prop} (hgd : o.guard = none) (s x : Operand) (t : TypeId)
    (ho : o.op = .call { callee := .builtin .append, args := #[s, x], argTypes := #[t, t] })
    (e : TypeId) (i : TypeInfo) (z0 : Value) (bytes : Nat) (ht : P.underlying t = some (.slice e)) (hi : P.info? e = some i) (hzz : i.zero = some z0) (hsize : i.size = z) (hby : i.bytes = bytes) (hzs : z0.cells.size = z)
    {base : Nat} {a0 : Option Addr} {n c0 : Nat} {xs : List α} (hown : OwnZ enc z base e a0 n c0 xs wr) (hs : a.eval s = .slice a0 n c0)
    {C : Array Value} {t' : TypeId} (y : α) (hC : C.toList = enc y) (hx : a.eval x = .slice (some ⟨wr.heap.size, 0, none⟩) 1 1)
    (N : Nat) (hN : n + 1 = N) (h63 : N ≤ maxLen) (hbytes : N * bytes ≤ 140737488355328) (hbase : base ≤ wr.heap.size)
    (h : ∀ a' c' w', OwnZ enc z base e a' N c' (xs ++ [y]) w' → Below base wr w' → GrownBut wr w' a0 → (a' = a0 ∨ ∃ g, a' = some ⟨g, 0, none⟩ ∧ wr.heap.size ≤ g) → wpList P ops Q rest (a.put o.dst (.slice a' N c')) w') : wpList P ops Q (o :: rest) a (wr.alloc (.cells C t')) :=
  wpList_plain hgd fun K hK => wp_append_row1 hz hz0 hone s x t ho e i z0 bytes ht hi hzz hsize hby hzs hown hs y hC hx N hN h63 hbytes hbase fun a' c' w' h1 h2 h3 h4 => hK _ _ (h a' c' w' h1 h2 h3 h4)

/-- The same as a step of a region that draws its order. -/
theorem step_append_row1 {α : Type} {enc : α → List Value} {z : Nat} (hz : ∀ x, (enc x).length = z) (hz0 : 0 < z) (hone : ∀ x, ∀ u ∈ enc x, u.oneCell' = true) {P : Program} {wr : World} {ops : Array Oper} {o : Oper} {a : Act} {K : Act → World → Prop} {E : Prop} {Q : Exit → Act → World → Prop} (hgd : o.guard = none) (s x : Operand) (t : TypeId)
    (ho : o.op = .call { callee := .builtin .append, args := #[s, x], argTypes := #[t, t] })
    (e : TypeId) (i : TypeInfo) (z0 : Value) (bytes : Nat) (ht : P.underlying t = some (.slice e)) (hi : P.info? e = some i) (hzz : i.zero = some z0) (hsize : i.size = z) (hby : i.bytes = bytes) (hzs : z0.cells.size = z)
    {base : Nat} {a0 : Option Addr} {n c0 : Nat} {xs : List α} (hown : OwnZ enc z base e a0 n c0 xs wr) (hs : a.eval s = .slice a0 n c0)
    {C : Array Value} {t' : TypeId} (y : α) (hC : C.toList = enc y) (hx : a.eval x = .slice (some ⟨wr.heap.size, 0, none⟩) 1 1)
    (N : Nat) (hN : n + 1 = N) (h63 : N ≤ maxLen) (hbytes : N * bytes ≤ 140737488355328) (hbase : base ≤ wr.heap.size)
    (h : ∀ a' c' w', OwnZ enc z base e a' N c' (xs ++ [y]) w' → Below base wr w' → GrownBut wr w' a0 → (a' = a0 ∨ ∃ g, a' = some ⟨g, 0, none⟩ ∧ wr.heap.size ≤ g) → K (a.put o.dst (.slice a' N c')) w') : if Region.wanted o (yielded ops a.tmps) = true then Oper.wp P o a (wr.alloc (.cells C t')) K Q else E := by
  rw [if_pos (by simp [Region.wanted, hgd])]
  exact wp_append_row1 hz hz0 hone s x t ho e i z0 bytes ht hi hzz hsize hby hzs hown hs y hC hx N hN h63 hbytes hbase h

theorem OwnZ.setCell {α : Type} {enc : α → List Value} {z base : Nat} {e : TypeId} {a : Option Addr} {n c : Nat} {P : List α} {w : World} (h : OwnZ enc z base e a n c P w) {p : Addr} (ha : Apart a p.block) (u : Value) : OwnZ enc z base e a n c P (w.setCell p u) := by
  have hne : (Value.slice a n c).ownBlock ≠ some p.block := fun e0 => by
    cases a with
    | none => simp [Value.ownBlock] at e0
    | some x => exact ha x rfl (by simpa [Value.ownBlock] using e0)
  exact ⟨ownsRow_setCell_other h.1 hne u, h.2⟩

/-- A contract's row of elements in new memory. -/
def GivesZ {α : Type} (enc : α → List Value) (z : Nat) (e : TypeId) (P : List α) (n : Nat) (w : World) (en : Ending) (w' : World) : Prop :=
  ∃ a c, en = .returned (.slice a n c) ∧ OwnZ enc z w.heap.size e a n c P w' ∧ Below w.heap.size w w'

/-- What a cell of a struct of strings, flags and numbers holds. -/
inductive Leaf where
  | text
  | flag
  | num (k : IntKind)

def Leaf.ok : Leaf → Value → Prop
  | .text, v => ∃ s : List UInt8, v = .string (str s) ∧ s.length ≤ maxLen
  | .flag, v => ∃ b : Bool, v = .bool b
  | .num k, v => ∃ n : Int, v = .int k n ∧ (Lit.int k n).wf = true

/-- The cells of a type, if it is made of strings, flags and numbers alone. -/
def flatK (P : Program) : Nat → TypeId → Option (List Leaf)
  | 0, _ => none
  | n + 1, t => match P.underlying t with
    | some .bool => some [.flag]
    | some .string => some [.text]
    | some (.int k) => some [.num k]
    | some (.struct fs) => (fs.toList.foldl (fun acc f => acc.bind fun l => (flatK P n f.type).bind fun a => if f.offset = l.length ∧ a.length = P.cellsOf f.type then some (l ++ a) else none) (some [])).bind fun l => if l.length = P.cellsOf t then some l else none
    | _ => none

section
variable {H : Type} {enc : TypeId × Value → H} {P : Program} {w : World} {base : Nat} {spare : Nat → Bool} {held : Bool}

end
end Go.Proofs.YtelgaglnmcggkaaGreatDoor

/- Objects of known cells: structs behind pointers, rows of structs that the call made itself. No program in it. -/
namespace Go.Proofs.YtelgaglnmcggkaaGreatDoor
open Go.RowKit
set_option linter.unusedVariables false

/-- The block holds these values, and may be written. -/
structure ObjAt (w : World) (b : Nat) (vs : List Value) : Prop where
  heap : ∃ e, w.heap[b]? = some (.cells vs.toArray e (0, 0))

theorem ObjAt.lt {w : World} {b : Nat} {vs : List Value} (h : ObjAt w b vs) : b < w.heap.size := by
  obtain ⟨e, h⟩ := h.heap
  rcases Nat.lt_or_ge b w.heap.size with h1 | h1
  · exact h1
  · rw [Array.getElem?_eq_none h1] at h
    cases h

theorem ObjAt.cell {w : World} {b : Nat} {vs : List Value} (h : ObjAt w b vs) (i : Nat) {v : Value} (hv : vs[i]? = some v) : w.cell? ⟨b, i, none⟩ = some v := by
  obtain ⟨e, h⟩ := h.heap
  simp [World.cell?, h, hv]

theorem ObjAt.free {w : World} {b : Nat} {vs : List Value} (h : ObjAt w b vs) (i : Nat) : w.frozen? ⟨b, i, none⟩ = false := by
  obtain ⟨e, h⟩ := h.heap
  simp [World.frozen?, h]

theorem ObjAt.new (w : World) (vs : Array Value) (e : TypeId) : ObjAt (w.alloc (.cells vs e)) w.heap.size vs.toList := by
  refine ⟨e, ?_⟩
  unfold World.alloc
  simp

theorem ObjAt.below {w w' : World} {b K : Nat} {vs : List Value} (h : ObjAt w b vs) (hb : Below K w w') (hlt : b < K) : ObjAt w' b vs := by
  obtain ⟨e, h⟩ := h.heap
  exact ⟨e, (hb.block b hlt).trans h⟩

theorem ObjAt.set {w : World} {b : Nat} {vs : List Value} (h : ObjAt w b vs) (i : Nat) (v : Value) : ObjAt (w.setCell ⟨b, i, none⟩ v) b (vs.set i v) := by
  obtain ⟨e, h⟩ := h.heap
  refine ⟨e, ?_⟩
  have := heap_setCell_same w b i vs.toArray e v h
  rw [this, List.setIfInBounds_toArray]

theorem ObjAt.other {w : World} {b : Nat} {vs : List Value} (h : ObjAt w b vs) {p : Addr} (hne : p.block ≠ b) (v : Value) : ObjAt (w.setCell p v) b vs := by
  obtain ⟨e, h⟩ := h.heap
  refine ⟨e, ?_⟩
  rw [heap_setCell_other w p b v (Ne.symm hne)]
  exact h

theorem ObjAt.drew {w : World} {b : Nat} {vs : List Value} (h : ObjAt w b vs) : ObjAt w.drew b vs := by
  obtain ⟨e, h⟩ := h.heap
  exact ⟨e, h⟩

theorem ObjAt.drewN {w : World} {b : Nat} {vs : List Value} (h : ObjAt w b vs) (n : Nat) : ObjAt (w.drewN n) b vs := by
  obtain ⟨e, h⟩ := h.heap
  exact ⟨e, by rw [show (w.drewN n).heap = w.heap from by simp]; exact h⟩
end Go.Proofs.YtelgaglnmcggkaaGreatDoor

/- What a call changes: some blocks of what was there, and what it makes anew; which rows and objects stay as they are. No program in it. -/
namespace Go.Proofs.YtelgaglnmcggkaaGreatDoor
open Go.RowKit
set_option linter.unusedVariables false

/-- The block that a slice, or a pointer, leads to. -/
def At (a : Option Addr) (k : Nat) : Prop := ∃ x, a = some x ∧ x.block = k
theorem at_none (k : Nat) : ¬ At none k := by rintro ⟨x, h, _⟩; cases h
theorem at_some {x : Addr} {k : Nat} : At (some x) k ↔ x.block = k := ⟨by rintro ⟨y, h, e⟩; cases h; exact e, fun e => ⟨x, rfl, e⟩⟩
theorem apart_iff {a : Option Addr} {k : Nat} : Apart a k ↔ ¬ At a k := ⟨fun h ⟨x, e, q⟩ => h x e q, fun h x e q => h ⟨x, e, q⟩⟩

/-- Two of them lead to different blocks. -/
def Off (a b : Option Addr) : Prop := ∀ k, At a k → ¬ At b k
theorem Off.symm {a b : Option Addr} (h : Off a b) : Off b a := fun k h1 h2 => h k h2 h1
theorem off_none (b : Option Addr) : Off none b := fun k h => absurd h (at_none k)
theorem off_none' (b : Option Addr) : Off b none := fun k _ h => absurd h (at_none k)
theorem Off.new {a : Option Addr} {n : Nat} (h : ∀ k, At a k → k < n) {g o : Nat} {t : Option Nat} (hg : n ≤ g) : Off a (some ⟨g, o, none⟩) := fun k h1 h2 => by
  have e : g = k := at_some.1 h2
  have := h k h1
  omega
theorem Off.moved {a a' b : Option Addr} {n : Nat} (h : Off a b) (hn : a' = a ∨ ∃ g, a' = some ⟨g, 0, none⟩ ∧ n ≤ g) (hb : ∀ k, At b k → k < n) : Off a' b := by
  rcases hn with rfl | ⟨g, rfl, hg⟩
  · exact h
  · intro k h1 h2
    have e : g = k := at_some.1 h1
    have := hb k h2
    omega
theorem Off.near {a a' b : Option Addr} {w : World} (h : Off a b) (hn : Near a a' w) (hb : ∀ k, At b k → k < w.heap.size) : Off a' b := fun k h1 h2 =>
  apart_iff.1 (hn k (hb k h2) (apart_iff.2 fun h3 => h k h3 h2)) h1
theorem Off.away {q a : Option Addr} {p : Nat} {o : Nat} (h1 : Off q (some ⟨p, o, none⟩)) (h2 : Off q a) : Away q p a := fun x hx =>
  ⟨fun e => h1 x.block ⟨x, hx, rfl⟩ (at_some.2 e.symm), apart_iff.2 fun h => h2 x.block ⟨x, hx, rfl⟩ h⟩
theorem Off.apart {q : Option Addr} {p o : Nat} (h : Off q (some ⟨p, o, none⟩)) : Apart q p := apart_iff.2 fun h1 => h p h1 (at_some.2 rfl)
theorem Off.of_apart {q : Option Addr} {p : Nat} (h : Apart q p) (o : Nat) : Off q (some ⟨p, o, none⟩) := fun k h1 h2 => by
  have e : p = k := at_some.1 h2
  subst e
  exact apart_iff.1 h h1

/-- All that was there stays, but for the blocks of F. -/
structure Keeps (F : Nat → Prop) (w w' : World) : Prop where
  os : w'.os = w.os
  tape : w'.tape = w.tape
  output : w'.output = w.output
  size : w.heap.size ≤ w'.heap.size
  block : ∀ k, k < w.heap.size → ¬ F k → w'.heap[k]? = w.heap[k]?

theorem Keeps.refl (F : Nat → Prop) (w : World) : Keeps F w w := ⟨rfl, rfl, rfl, Nat.le_refl _, fun _ _ _ => rfl⟩
theorem Keeps.trans {F G : Nat → Prop} {w w1 w2 : World} (h : Keeps F w w1) (h1 : Keeps G w1 w2) (hs : ∀ k, k < w.heap.size → G k → F k) : Keeps F w w2 :=
  ⟨h1.os.trans h.os, h1.tape.trans h.tape, h1.output.trans h.output, Nat.le_trans h.size h1.size, fun k hk hF => (h1.block k (Nat.lt_of_lt_of_le hk h.size) fun hG => hF (hs k hk hG)).trans (h.block k hk hF)⟩
theorem Keeps.mono {F G : Nat → Prop} {w w' : World} (h : Keeps F w w') (hs : ∀ k, k < w.heap.size → F k → G k) : Keeps G w w' :=
  ⟨h.os, h.tape, h.output, h.size, fun k hk hG => h.block k hk fun hF => hG (hs k hk hF)⟩
theorem Keeps.of {B : Nat} {w w' : World} (h : Below B w w') : Keeps (fun k => B ≤ k) w w' :=
  ⟨h.os, h.tape, h.output, h.size, fun k hk hF => h.block k (by omega)⟩
theorem Keeps.new {F : Nat → Prop} {w w' : World} (h : Below w.heap.size w w') : Keeps F w w' :=
  ⟨h.os, h.tape, h.output, h.size, fun k hk _ => h.block k hk⟩
theorem Keeps.below {F : Nat → Prop} {B : Nat} {w w' : World} (h : Keeps F w w') (hB : B ≤ w.heap.size) (hF : ∀ k, k < w.heap.size → F k → B ≤ k) : Below B w w' :=
  ⟨h.os, h.tape, h.output, h.size, fun k hk => h.block k (Nat.lt_of_lt_of_le hk hB) fun c => by have := hF k (Nat.lt_of_lt_of_le hk hB) c; omega⟩
theorem Keeps.ofKept {p : Nat} {a : Option Addr} {w w' : World} (h : Kept p a w w') : Keeps (fun k => k = p ∨ At a k) w w' :=
  ⟨h.os, h.tape, h.output, h.size, fun k hk hF => h.block k hk (fun e => hF (.inl e)) (apart_iff.2 fun e => hF (.inr e))⟩
theorem Keeps.ofGrown {B : Nat} {a : Option Addr} {w w' : World} (hb : Below B w w') (h : GrownBut w w' a) : Keeps (At a) w w' :=
  ⟨hb.os, hb.tape, hb.output, h.1, fun k hk hF => h.2 k hk (apart_iff.2 hF)⟩
theorem Keeps.cell {F : Nat → Prop} {w w' : World} (h : Keeps F w w') {x : Addr} {v : Value} (hc : w.cell? x = some v) (hF : ¬ F x.block) : w'.cell? x = some v :=
  (World.cell?_of_block (h.block x.block (cell_lt hc) hF)).trans hc
theorem Keeps.frozen {F : Nat → Prop} {w w' : World} (h : Keeps F w w') {x : Addr} (hx : x.block < w.heap.size) (hF : ¬ F x.block) : w'.frozen? x = w.frozen? x :=
  World.frozen?_of_block (h.block x.block hx hF)
theorem Keeps.setCell {F : Nat → Prop} {w w' : World} (h : Keeps F w w') {x : Addr} (hF : F x.block) (u : Value) : Keeps F w (w'.setCell x u) :=
  ⟨h.os, h.tape, h.output, by simpa using h.size, fun k hk hn => (Below.heap_setCell w' x u k (fun e => hn (e ▸ hF))).trans (h.block k hk hn)⟩

theorem Reads.keeps {F : Nat → Prop} {q : Option Addr} {w w' : World} {xs : List Value} (h : Reads w q xs) (hk : Keeps F w w') (hq : ∀ k, At q k → ¬ F k) : Reads w' q xs := by
  intro k v hv
  obtain ⟨b, off, e, hc⟩ := h k v hv
  exact ⟨b, off, e, hk.cell hc (hq _ (e ▸ at_some.2 rfl))⟩
theorem ownsRow_keeps {F : Nat → Prop} {w w' : World} {base : Nat} {e : TypeId} {z : Nat} {q : Option Addr} {n c : Nat} {m : Nat} {xs : List Value} (h : w.ownsRow base e z (.slice q n c) m xs) (hk : Keeps F w w') (hq : ∀ k, At q k → ¬ F k) : w'.ownsRow base e z (.slice q n c) m xs := by
  refine ⟨h.1, ?_⟩
  rcases h.2 with h2 | ⟨g, cap, cur, hv, hb, hg, d⟩
  · exact .inl h2
  · refine .inr ⟨g, cap, cur, hv, hb, ?_, d⟩
    have hlt : g < w.heap.size := by
      rcases Nat.lt_or_ge g w.heap.size with h | h
      · exact h
      · rw [Array.getElem?_eq_none h] at hg; cases hg
    cases hv
    rw [hk.block g hlt (hq _ (at_some.2 rfl))]
    exact hg
theorem Owned.keeps {F : Nat → Prop} {base : Nat} {e : TypeId} {q : Option Addr} {n c : Nat} {xs : List Value} {w w' : World} (h : Owned base e q n c xs w) (hk : Keeps F w w') (hq : ∀ k, At q k → ¬ F k) : Owned base e q n c xs w' :=
  ⟨ownsRow_keeps h.1 hk hq, h.2.1.keeps hk hq, h.2.2⟩
theorem OwnZ.keeps {F : Nat → Prop} {α : Type} {enc : α → List Value} {z base : Nat} {e : TypeId} {q : Option Addr} {n c : Nat} {P : List α} {w w' : World} (h : OwnZ enc z base e q n c P w) (hk : Keeps F w w') (hq : ∀ k, At q k → ¬ F k) : OwnZ enc z base e q n c P w' :=
  ⟨ownsRow_keeps h.1 hk hq, h.2⟩
theorem OwnZ.lt' {α : Type} {enc : α → List Value} {z base : Nat} {e : TypeId} {a : Option Addr} {n c : Nat} {P : List α} {w : World} (h : OwnZ enc z base e a n c P w) : ∀ k, At a k → base ≤ k ∧ k < w.heap.size := by
  rintro k ⟨x, rfl, rfl⟩
  rcases h.head with ⟨c, _⟩ | ⟨g, e, h1, h2⟩
  · cases c
  · cases e
    exact ⟨h1, h2⟩
theorem Owned.at' {base : Nat} {e : TypeId} {a : Option Addr} {n c : Nat} {xs : List Value} {w : World} (h : Owned base e a n c xs w) : ∀ k, At a k → base ≤ k ∧ k < w.heap.size := by
  rintro k ⟨x, rfl, rfl⟩
  exact h.lt' x rfl
theorem Wr.at' {e : TypeId} {base p : Nat} {a : Option Addr} {l : List Int} {w : World} (h : Wr e base p a l w) : ∀ k, At a k → base ≤ k ∧ k < w.heap.size ∧ k ≠ p := by
  rintro k ⟨x, rfl, rfl⟩
  exact h.row x rfl
theorem Wr.keeps {F : Nat → Prop} {e : TypeId} {base p : Nat} {a : Option Addr} {l : List Int} {w w' : World} (h : Wr e base p a l w) (hk : Keeps F w w') (hp : ¬ F p) (ha : ∀ k, At a k → ¬ F k) : Wr e base p a l w' := by
  obtain ⟨n, c, h1, h2, h3, h4, h5, h6, h7⟩ := h
  exact ⟨n, c, h1, Nat.lt_of_lt_of_le h2 hk.size, hk.cell h3 hp, (hk.frozen h2 hp).trans h4, h5, h6.keeps hk ha, h7⟩
theorem RowOf.keeps {F : Nat → Prop} {α : Type} {enc : α → List Value} {z : Nat} {w w' : World} {a : Option Addr} {len cap : Nat} {P : List α} (h : RowOf enc z w a len cap P) (hk : Keeps F w w') (ha : ∀ k, At a k → ¬ F k) : RowOf enc z w' a len cap P := by
  refine ⟨h.leq, h.cle, h.capm, h.nil0, fun i x hx => ?_⟩
  obtain ⟨g, off, e, hc⟩ := h.at_ i x hx
  exact ⟨g, off, e, fun j v hv => hk.cell (hc j v hv) (ha _ (e ▸ at_some.2 rfl))⟩
theorem ObjAt.keeps {F : Nat → Prop} {w w' : World} {b : Nat} {vs : List Value} (h : ObjAt w b vs) (hk : Keeps F w w') (hb : ¬ F b) : ObjAt w' b vs := by
  have hlt := h.lt
  obtain ⟨e, he⟩ := h.heap
  exact ⟨e, (hk.block b hlt hb).trans he⟩
end Go.Proofs.YtelgaglnmcggkaaGreatDoor

/- How the arguments of a law are opened: what its walk is told of them. -/
namespace Go.Proofs.YtelgaglnmcggkaaGreatDoor
open Go.ChangeShapes Go.WideShapes Go.ChangeAt Go.RowKit
set_option linter.unusedVariables false

theorem own : ownKnob Tryz.prog.godebug = none := by kernel_rfl
theorem laidOut : laidOutB Tryz.prog = true := by kernel_rfl

theorem wfU64 {n : Int} (h : (Lit.int .u64 n).wf = true) : 0 ≤ n ∧ n ≤ 18446744073709551615 := by
  simpa [Lit.wf, IntKind.min, IntKind.max, IntKind.signed, IntKind.bits] using h
theorem wfI64 {n : Int} (h : (Lit.int .i64 n).wf = true) : -9223372036854775808 ≤ n ∧ n ≤ 9223372036854775807 := by
  simpa [Lit.wf, IntKind.min, IntKind.max, IntKind.signed, IntKind.bits] using h
theorem wfU32 {n : Int} (h : (Lit.int .u32 n).wf = true) : 0 ≤ n ∧ n ≤ 4294967295 := by
  simpa [Lit.wf, IntKind.min, IntKind.max, IntKind.signed, IntKind.bits] using h
theorem wfU8 {n : Int} (h : (Lit.int .u8 n).wf = true) : 0 ≤ n ∧ n ≤ 255 := by
  simpa [Lit.wf, IntKind.min, IntKind.max, IntKind.signed, IntKind.bits] using h

end Go.Proofs.YtelgaglnmcggkaaGreatDoor

/- Structs of many cells, loaded and stored at one stroke (a walk that opens them cell by cell is dear from some fifteen cells on). No program in it. -/
namespace Go.Proofs.YtelgaglnmcggkaaGreatDoor
open Go.RowKit
set_option linter.unusedVariables false

/-- A whole struct out of its block. -/
theorem ObjAt.loads {P : Program} {w : World} {b : Nat} {vs : List Value} (h : ObjAt w b vs) {n : Nat} (hn : vs.length = n) : (loadCellsFrom ⟨b, 0, none⟩ 0 n #[]).run P w = .ok vs.toArray w := by
  subst hn
  have := run_loadCells_list (P := P) w ⟨b, 0, none⟩ vs (fun j v hv => by
    have hadd : (⟨b, 0, none⟩ : Addr).add j = ⟨b, j, none⟩ := by unfold Addr.add; split <;> simp_all
    rw [hadd]
    exact h.cell j hv)
  simpa [loadCells] using this
/-- A whole struct into the block that was made last. -/
theorem storeNew {P : Program} (w : World) (t : TypeId) (c : Array Value) (vs : List Value) (hi : (P.info? t).map (·.size) = some vs.length) (ho : c.size = vs.length) (h1 : vs.all (·.oneCell') = true) :
    (storeCells ⟨w.heap.size, 0, none⟩ vs 0).run P (w.alloc (.cells c t)) = .ok () (w.alloc (.cells vs.toArray t)) :=
  run_storeCells_new w t c vs.toArray (by simpa using hi) (by simpa using ho) (by simpa using h1)
theorem wpList_storeNew {P : Program} {ops : Array Oper} {rest : List Oper} {o : Oper} {a : Act} {w : World} {Q : Exit → Act → World → Prop} (hgd : o.guard = none) (ty : TypeId) (x y : Operand) (ho : o.op = .store ty x y) (old : Array Value) (vs : List Value)
    (hx : a.eval x = .pointer (some ⟨w.heap.size, 0, none⟩)) (hy : a.eval y = .agg vs.toArray) (hi : (P.info? ty).map (·.size) = some vs.length) (hold : old.size = vs.length) (h1 : vs.all (·.oneCell') = true)
    (h : wpList P ops Q rest (a.put o.dst undef) (w.alloc (.cells vs.toArray ty))) : wpList P ops Q (o :: rest) a (w.alloc (.cells old ty)) := by
  refine wpList_store_row hgd ty x y ho w.heap.size vs.toArray hx hy ty old (heap_alloc_last w _) (by simpa using hi) (by simpa using hold) (by simpa using h1) ?_
  rw [World.setRow_alloc_new]
  exact h
/-- A whole struct that lies in a block of its own. -/
theorem wpList_loadObj {P : Program} {ops : Array Oper} {rest : List Oper} {o : Oper} {a : Act} {w : World} {Q : Exit → Act → World → Prop} (hgd : o.guard = none) (ty : TypeId) (x : Operand) (ho : o.op = .load ty x) (g : Nat) (vs : List Value)
    (hx : a.eval x = .pointer (some ⟨g, 0, none⟩)) (hg : ObjAt w g vs) (ha : ∀ w, (isAgg ty).run P w = .ok true w) (hs : ∀ w, (sizeOf ty).run P w = .ok vs.length w)
    (h : wpList P ops Q rest (a.put o.dst (.agg vs.toArray)) w) : wpList P ops Q (o :: rest) a w := by
  refine wpList_plain hgd fun K hK => ?_
  have hl := hg.loads (P := P) rfl
  unfold Oper.wp execOp
  simp only [ho, hx, Instr.loadAt, Instr.sureAddr, loadVar, loadCells, Sem.run_bind, Sem.run_pure, Result.andThen, ha, hs, hl, if_true]
  exact hK _ _ h
/-! The same as steps of a drawn region ('wpAnyH_take': Or.inl ⟨by rfl, fun w' hS => ..⟩, S: an object lies there). -/
theorem ObjAt.loadsAt {P : Program} {w : World} {b : Nat} {vs : List Value} (h : ObjAt w b vs) (off : Nat) (us : List Value) {n : Nat} (hu : (vs.drop off).take n = us) (hn : us.length = n) : (loadCellsFrom ⟨b, off, none⟩ 0 n #[]).run P w = .ok us.toArray w := by
  subst hn
  have := run_loadCells_list (P := P) w ⟨b, off, none⟩ us (fun j v hv => by
    have hadd : (⟨b, off, none⟩ : Addr).add j = ⟨b, off + j, none⟩ := by unfold Addr.add; split <;> simp_all
    rw [hadd]
    refine h.cell (off + j) ?_
    have hj : j < us.length := (List.getElem?_eq_some_iff.1 hv).1
    rw [← hu, List.getElem?_take_of_lt hj, List.getElem?_drop] at hv
    exact hv)
  simpa [loadCells] using this
theorem execLoadAll {P : Program} {o : Oper} {a : Act} {w : World} (ty : TypeId) (x : Operand) (ho : o.op = .load ty x) (g n : Nat) (A : Array Value) (hx : a.eval x = .pointer (some ⟨g, 0, none⟩)) (hg : ObjAt w g A.toList)
    (ha : ∀ w, (isAgg ty).run P w = .ok true w) (hs : ∀ w, (sizeOf ty).run P w = .ok n w) (hn : A.size = n) : (execOp a.eval o).run P w = .ok (.value (.agg A)) w := by
  have hl := hg.loads (P := P) (n := n) (by simpa using hn)
  rw [Array.toArray_toList] at hl
  unfold execOp
  simp only [ho, hx, Instr.loadAt, Instr.sureAddr, loadVar, loadCells, Sem.run_bind, Sem.run_pure, Result.andThen, ha, hs, hl, if_true]
theorem execLoadPart {P : Program} {o : Oper} {a : Act} {w : World} (ty : TypeId) (x : Operand) (ho : o.op = .load ty x) (g off n : Nat) (A : Array Value) (us : List Value) (hx : a.eval x = .pointer (some ⟨g, off, none⟩)) (hg : ObjAt w g A.toList)
    (ha : ∀ w, (isAgg ty).run P w = .ok true w) (hs : ∀ w, (sizeOf ty).run P w = .ok n w) (hu : (A.toList.drop off).take n = us) (hn : us.length = n) : (execOp a.eval o).run P w = .ok (.value (.agg us.toArray)) w := by
  have hl := hg.loadsAt (P := P) off us hu hn
  unfold execOp
  simp only [ho, hx, Instr.loadAt, Instr.sureAddr, loadVar, loadCells, Sem.run_bind, Sem.run_pure, Result.andThen, ha, hs, hl, if_true]
theorem wpList_loadAll {P : Program} {ops : Array Oper} {rest : List Oper} {o : Oper} {a : Act} {w : World} {Q : Exit → Act → World → Prop} (hgd : o.guard = none) (ty : TypeId) (x : Operand) (ho : o.op = .load ty x) (g n : Nat) (A : Array Value)
    (hx : a.eval x = .pointer (some ⟨g, 0, none⟩)) (hg : ObjAt w g A.toList) (ha : ∀ w, (isAgg ty).run P w = .ok true w) (hs : ∀ w, (sizeOf ty).run P w = .ok n w) (hn : A.size = n)
    (h : wpList P ops Q rest (a.put o.dst (.agg A)) w) : wpList P ops Q (o :: rest) a w := by
  have := wpList_loadObj (P := P) (ops := ops) (rest := rest) (w := w) (Q := Q) hgd ty x ho g A.toList hx hg ha (by intro w; rw [hs, Array.length_toList, hn]) (by rw [Array.toArray_toList]; exact h)
  exact this
theorem wpList_storeAll {P : Program} {ops : Array Oper} {rest : List Oper} {o : Oper} {a : Act} {w : World} {Q : Exit → Act → World → Prop} (hgd : o.guard = none) (ty : TypeId) (x y : Operand) (ho : o.op = .store ty x y) (old A : Array Value) (n : Nat)
    (hx : a.eval x = .pointer (some ⟨w.heap.size, 0, none⟩)) (hy : a.eval y = .agg A) (hi : (P.info? ty).map (·.size) = some n) (hold : old.size = n) (hn : A.size = n) (h1 : A.all (·.oneCell') = true)
    (h : wpList P ops Q rest (a.put o.dst undef) (w.alloc (.cells A ty))) : wpList P ops Q (o :: rest) a (w.alloc (.cells old ty)) := by
  refine wpList_store_row hgd ty x y ho w.heap.size A hx hy ty old (heap_alloc_last w _) (by rw [hi, hn]) (by rw [hold, hn]) h1 ?_
  rw [World.setRow_alloc_new]
  exact h
/-! An element of a row of such structs. -/
def CellsAt (w : World) (g o : Nat) (vs : List Value) : Prop := ∀ (j : Nat) (v : Value), vs[j]? = some v → w.cell? ⟨g, o + j, none⟩ = some v
theorem CellsAt.loadsAt {P : Program} {w : World} {g o : Nat} {vs : List Value} (h : CellsAt w g o vs) (d : Nat) (us : List Value) {n : Nat} (hu : (vs.drop d).take n = us) (hn : us.length = n) : (loadCellsFrom ⟨g, o + d, none⟩ 0 n #[]).run P w = .ok us.toArray w := by
  subst hn
  have := run_loadCells_list (P := P) w ⟨g, o + d, none⟩ us (fun j v hv => by
    have hadd : (⟨g, o + d, none⟩ : Addr).add j = ⟨g, o + (d + j), none⟩ := by unfold Addr.add; split <;> simp_all [Nat.add_assoc]
    rw [hadd]
    refine h (d + j) v ?_
    have hj : j < us.length := (List.getElem?_eq_some_iff.1 hv).1
    rw [← hu, List.getElem?_take_of_lt hj, List.getElem?_drop] at hv
    exact hv)
  simpa [loadCells] using this
theorem execLoadRow {P : Program} {o : Oper} {a : Act} {w : World} (ty : TypeId) (x : Operand) (ho : o.op = .load ty x) (g q n : Nat) (A : Array Value) (hx : a.eval x = .pointer (some ⟨g, q, none⟩)) (hg : CellsAt w g q A.toList)
    (ha : ∀ w, (isAgg ty).run P w = .ok true w) (hs : ∀ w, (sizeOf ty).run P w = .ok n w) (hn : A.size = n) : (execOp a.eval o).run P w = .ok (.value (.agg A)) w := by
  have hl := hg.loadsAt (P := P) 0 A.toList (n := n) (by rw [List.drop_zero, List.take_of_length_le (by rw [Array.length_toList]; omega)]) (by rw [Array.length_toList]; exact hn)
  rw [Array.toArray_toList, Nat.add_zero] at hl
  unfold execOp
  simp only [ho, hx, Instr.loadAt, Instr.sureAddr, loadVar, loadCells, Sem.run_bind, Sem.run_pure, Result.andThen, ha, hs, hl, if_true]
theorem execLoadRowPart {P : Program} {o : Oper} {a : Act} {w : World} (ty : TypeId) (x : Operand) (ho : o.op = .load ty x) (g q d n : Nat) (A : Array Value) (us : List Value) (hx : a.eval x = .pointer (some ⟨g, q + d, none⟩)) (hg : CellsAt w g q A.toList)
    (ha : ∀ w, (isAgg ty).run P w = .ok true w) (hs : ∀ w, (sizeOf ty).run P w = .ok n w) (hu : (A.toList.drop d).take n = us) (hn : us.length = n) : (execOp a.eval o).run P w = .ok (.value (.agg us.toArray)) w := by
  have hl := hg.loadsAt (P := P) d us hu hn
  unfold execOp
  simp only [ho, hx, Instr.loadAt, Instr.sureAddr, loadVar, loadCells, Sem.run_bind, Sem.run_pure, Result.andThen, ha, hs, hl, if_true]
theorem wpList_loadRow {P : Program} {ops : Array Oper} {rest : List Oper} {o : Oper} {a : Act} {w : World} {Q : Exit → Act → World → Prop} (hgd : o.guard = none) (ty : TypeId) (x : Operand) (ho : o.op = .load ty x) (g q n : Nat) (A : Array Value)
    (hx : a.eval x = .pointer (some ⟨g, q, none⟩)) (hg : CellsAt w g q A.toList) (ha : ∀ w, (isAgg ty).run P w = .ok true w) (hs : ∀ w, (sizeOf ty).run P w = .ok n w) (hn : A.size = n)
    (h : wpList P ops Q rest (a.put o.dst (.agg A)) w) : wpList P ops Q (o :: rest) a w := by
  refine wpList_plain hgd fun K hK => ?_
  have he := execLoadRow (P := P) (o := o) (a := a) ty x ho g q n A hx hg ha hs hn
  unfold Oper.wp
  rw [he]
  exact hK _ _ h
end Go.Proofs.YtelgaglnmcggkaaGreatDoor

/- Parts of rows of elements of several cells; a row beside one that grows. No program in it. -/
namespace Go.Proofs.YtelgaglnmcggkaaGreatDoor
open Go.RowKit
set_option linter.unusedVariables false

theorem take_snocI {α : Type} {L : List α} {k : Nat} {x : α} (h : L[k]? = some x) : L.take (k + 1) = L.take k ++ [x] := by
  obtain ⟨h1, e1⟩ := List.getElem?_eq_some_iff.1 h
  rw [List.take_succ_eq_append_getElem h1, e1]

end Go.Proofs.YtelgaglnmcggkaaGreatDoor

/- What the program says of the types that slices of numbers are of. -/
namespace Go.Proofs.YtelgaglnmcggkaaGreatDoor
open Go.RowKit
set_option linter.unusedVariables false

end Go.Proofs.YtelgaglnmcggkaaGreatDoor

/- A number's bytes, the lowest first: plain, with no program in it. -/
namespace Go.Proofs.YtelgaglnmcggkaaGreatDoor
open Go.RowKit
set_option linter.unusedVariables false

end Go.Proofs.YtelgaglnmcggkaaGreatDoor

/- A struct built of a whole one ('[]T{x}'): its cells are that one's. No program in it. -/
namespace Go.Proofs.YtelgaglnmcggkaaGreatDoor
open Go.RowKit
set_option linter.unusedVariables false

theorem foldl_set_at : ∀ (l : List Value) (k : Nat) (Z : Array Value), k + l.length ≤ Z.size → ((l.zipIdx k).foldl (fun cs x => cs.setIfInBounds x.snd x.fst) Z).size = Z.size ∧ ∀ i, ((l.zipIdx k).foldl (fun cs x => cs.setIfInBounds x.snd x.fst) Z)[i]? = if k ≤ i ∧ i < k + l.length then l[i - k]? else Z[i]?
  | [], k, Z, _ => ⟨rfl, fun i => by rw [if_neg (by simp only [List.length_nil]; omega)]; rfl⟩
  | v :: t, k, Z, h => by
    rw [List.length_cons] at h
    have ih := foldl_set_at t (k + 1) (Z.setIfInBounds k v) (by rw [Array.size_setIfInBounds]; omega)
    rw [List.zipIdx_cons, List.foldl_cons]
    refine ⟨by rw [ih.1, Array.size_setIfInBounds], fun i => ?_⟩
    rw [ih.2 i, List.length_cons]
    by_cases c : k = i
    · subst c
      rw [if_neg (by omega), if_pos (by omega), Nat.sub_self, Array.getElem?_setIfInBounds]
      simp
      omega
    · by_cases c2 : k + 1 ≤ i ∧ i < k + 1 + t.length
      · rw [if_pos c2, if_pos (by omega)]
        have : i - k = (i - (k + 1)) + 1 := by omega
        rw [this, List.getElem?_cons_succ]
      · rw [if_neg c2, if_neg (by omega), Array.getElem?_setIfInBounds, if_neg c]
theorem foldSet (A Z : Array Value) (n : Nat) (hA : A.size = n) (hZ : Z.size = n) : Array.foldl (fun cs x => cs.setIfInBounds x.snd x.fst) Z A.zipIdx 0 n = A := by
  have e : n = A.zipIdx.size := by rw [Array.size_zipIdx, hA]
  have h1 : Array.foldl (fun (cs : Array Value) (x : Value × Nat) => cs.setIfInBounds x.snd x.fst) Z A.zipIdx 0 A.zipIdx.size = (A.toList.zipIdx 0).foldl (fun cs x => cs.setIfInBounds x.snd x.fst) Z := by
    rw [← Array.foldl_toList, Array.toList_zipIdx]
  rw [e, h1]
  obtain ⟨s1, s2⟩ := foldl_set_at A.toList 0 Z (by rw [Array.length_toList]; omega)
  apply Array.ext_getElem?
  intro i
  rw [s2 i]
  by_cases c : i < A.size
  · rw [if_pos (by rw [Array.length_toList]; omega), Nat.sub_zero, Array.getElem?_toList]
  · rw [if_neg (by rw [Array.length_toList]; omega), Array.getElem?_eq_none (by omega), Array.getElem?_eq_none (by omega)]
end Go.Proofs.YtelgaglnmcggkaaGreatDoor

/- Slices cut out of a row in a region that draws its order: the first elements, the others; of a nil one too. No program in it. -/
namespace Go.Proofs.YtelgaglnmcggkaaGreatDoor
open Go.RowKit
set_option linter.unusedVariables false

end Go.Proofs.YtelgaglnmcggkaaGreatDoor

/- What a map of numbers holds, key by key. No program in it. -/
namespace Go.Proofs.YtelgaglnmcggkaaGreatDoor
open Go.RowKit
set_option linter.unusedVariables false

theorem Keeps.ofGrownBy {w w' : World} {row : Option Nat} (h : w.grownBy w' row) : Keeps (fun k => row = some k) w w' :=
  ⟨h.os, h.tape, h.output, h.size, fun k hk hF => h.block k hk fun e => hF e.symm⟩
theorem Keeps.grownBy {F : Nat → Prop} {w w' : World} (h : Keeps F w w') {b : Nat} (hb : ¬ F b) : ∀ {H : Type} {P : Program} {k : TypeId} {R : Value → Option (DataW H × List MemPlace)} {n : Nat} {D : DataW H}, w.ownsMap P k R b n D → w'.ownsMap P k R b n D := by
  intro H P k R n D hm
  obtain ⟨es, clock, h1, h2⟩ := hm
  exact ⟨es, clock, (h.block b (Array.getElem?_eq_some_iff.1 h1).1 hb).trans h1, h2⟩

/-- The number at a key (0: none). -/
def NumAt (D : DataW Unit) (kl : Lit) (c : Int) : Prop := D.atKey kl (.lit (.int .i64 0)) = .lit (.int .i64 c)
theorem NumAt.one {D : DataW Unit} {kl : Lit} {a b : Int} (h : NumAt D kl a) (h2 : NumAt D kl b) : a = b := by
  unfold NumAt at *
  rw [h] at h2
  simpa using h2
theorem NumAt.empty (kl : Lit) : NumAt (.map []) kl 0 := rfl
theorem NumAt.put {D : DataW Unit} {kl : Lit} (hD : Go.Maps.IsMap D) (hk : WideAt.IsKeyLit kl) (c : Int) : NumAt (D.put kl (.lit (.int .i64 c))) kl c := Go.Maps.atKey_put_same hD hk _ _
theorem NumAt.other {D : DataW Unit} {kl kl' : Lit} {c : Int} (h : NumAt D kl' c) (hne : kl' ≠ kl) (d : DataW Unit) : NumAt (D.put kl d) kl' c := (Go.Maps.atKey_put_other hne _ _).trans h
end Go.Proofs.YtelgaglnmcggkaaGreatDoor

/- Maps whose elements are told as the values that they are (structs, slices, pointers: anything): what a map holds, key by key; looked up. No program in it. -/
namespace Go.Proofs.YtelgaglnmcggkaaGreatDoor
open Go.RowKit
open Go.Maps (Keyed)
set_option linter.unusedVariables false

/-- An element is told as it is. -/
def heldElem (v : Value) : Option (DataW Value × List MemPlace) := some (.held v, [])
theorem held_inv {v : Value} {d : DataW Value} {ps : List MemPlace} (h : heldElem v = some (d, ps)) : d = .held v := by
  unfold heldElem at h
  cases h
  rfl
/-- What a map holds at a key. -/
structure HeldAt (D : DataW Value) (kl : Lit) (o : Option Value) : Prop where
  has : Go.Maps.has D kl = o.isSome
  at_ : ∀ v, o = some v → ∀ zd, D.atKey kl zd = .held v
theorem HeldAt.empty (kl : Lit) : HeldAt (.map []) kl none := ⟨rfl, fun _ h => by cases h⟩
theorem HeldAt.put {D : DataW Value} {kl : Lit} (hD : Go.Maps.IsMap D) (hk : WideAt.IsKeyLit kl) (v : Value) : HeldAt (D.put kl (.held v)) kl (some v) :=
  ⟨Go.Maps.has_put_same hD hk _, fun u h zd => by cases h; exact Go.Maps.atKey_put_same hD hk _ _⟩
theorem HeldAt.other {D : DataW Value} {kl kl' : Lit} {o : Option Value} (h : HeldAt D kl' o) (hne : kl' ≠ kl) (d : DataW Value) : HeldAt (D.put kl d) kl' o :=
  ⟨(Go.Maps.has_put_other hne d).trans h.has, fun v e zd => (Go.Maps.atKey_put_other hne _ _).trans (h.at_ v e zd)⟩
theorem HeldAt.gone {D : DataW Value} {kl : Lit} : HeldAt (D.del kl) kl none := ⟨Go.Maps.has_del_same, fun _ h => by cases h⟩
theorem HeldAt.but {D : DataW Value} {kl kl' : Lit} {o : Option Value} (h : HeldAt D kl' o) (hne : kl' ≠ kl) : HeldAt (D.del kl) kl' o :=
  ⟨(Go.Maps.has_del_other hne).trans h.has, fun v e zd => (Go.Maps.atKey_del_other hne _).trans (h.at_ v e zd)⟩
theorem HeldAt.one {D : DataW Value} {kl : Lit} {o o' : Option Value} (h : HeldAt D kl o) (h' : HeldAt D kl o') : o = o' := by
  cases o with
  | none =>
    cases o' with
    | none => rfl
    | some v => have := h.has.symm.trans h'.has; simp at this
  | some v =>
    cases o' with
    | none => have := h.has.symm.trans h'.has; simp at this
    | some u =>
      have := (h.at_ v rfl .nil).symm.trans (h'.at_ u rfl .nil)
      cases this
      rfl

/-- 'v, is := m[k]'. -/
theorem wpList_lookup_held {P : Program} {w : World} {ops : Array Oper} {rest : List Oper} {o : Oper} {a : Act} {Q : Exit → Act → World → Prop} (hg : o.guard = none) (m x : Operand) (t : TypeId) (hop : o.op = Op.lookup t m x true)
    (k e : TypeId) (K : Keyed P k) (ht : P.underlying t = some (.map k e)) {z : Value} (hz : (zeroValue e).run P w = .ok z w) (b n : Nat) (D : DataW Value)
    (hm : a.eval m = .map (some b)) (hown : w.ownsMap P k heldElem b n D) (key : Value) (kl : Lit) (hx : a.eval x = key) (hkey : keyOf P k key = some kl) (c : Option Value) (hc : HeldAt D kl c)
    (hK : wpList P ops Q rest (a.put o.dst (.tuple #[c.getD z, .bool c.isSome])) w) :
    wpList P ops Q (o :: rest) a w :=
  wpList_lookup_own_ok w hg m x t hop k e K ht heldElem hz (.held z) [] rfl b n D hm hown key kl hx hkey (fun v ps hv => by
    have h1 := held_inv hv
    rw [hc.has]
    cases c with
    | none =>
      have h2 := Go.Maps.atKey_of_not_has hc.has (.held z)
      rw [h2] at h1
      cases h1
      exact hK
    | some u =>
      rw [hc.at_ u rfl] at h1
      cases h1
      exact hK)
/-- 'm[k]', without 'is'. -/
theorem wpList_lookup_held1 {P : Program} {w : World} {ops : Array Oper} {rest : List Oper} {o : Oper} {a : Act} {Q : Exit → Act → World → Prop} (hg : o.guard = none) (m x : Operand) (t : TypeId) (hop : o.op = Op.lookup t m x false)
    (k e : TypeId) (K : Keyed P k) (ht : P.underlying t = some (.map k e)) {z : Value} (hz : (zeroValue e).run P w = .ok z w) (b n : Nat) (D : DataW Value)
    (hm : a.eval m = .map (some b)) (hown : w.ownsMap P k heldElem b n D) (key : Value) (kl : Lit) (hx : a.eval x = key) (hkey : keyOf P k key = some kl) (c : Option Value) (hc : HeldAt D kl c)
    (hK : wpList P ops Q rest (a.put o.dst (c.getD z)) w) :
    wpList P ops Q (o :: rest) a w := by
  refine wpList_plain hg fun K' hK' => ?_
  obtain ⟨es, clock, hb, F, _, rfl⟩ := hown
  have hrun : (Instr.lookup t (.map (some b)) key false).run P w = .ok (c.getD z) w := by
    rcases Go.Maps.fit_look false K ht hz hb F hkey with ⟨hrun, _, hat⟩ | ⟨e0, y, _, _, hrun, hRv, hat, _⟩
    · have h1 := hc.has
      rw [Go.Maps.has_false_of_atKey hat] at h1
      cases c with
      | none => exact hrun
      | some u => simp at h1
    · have h1 := hc.has
      rw [Go.Maps.has_true_of_atKey hat] at h1
      cases c with
      | none => simp at h1
      | some u =>
        have h2 := (hc.at_ u rfl .nil).symm.trans (hat .nil)
        have h3 := held_inv (d := y.1) (ps := y.2) hRv
        rw [h3] at h2
        cases h2
        exact hrun
  unfold Oper.wp
  simp [execOp, hop, hm, hx, hrun, Result.andThen]
  exact hK' _ _ hK
/-- 'm[k] = v'. -/
theorem held_store {v : Value} : heldElem v = some (.held v, []) := rfl
end Go.Proofs.YtelgaglnmcggkaaGreatDoor

/- Keys of cookies (structs of three texts) as keys of maps. -/
namespace Go.Proofs.YtelgaglnmcggkaaGreatDoor
open Go.RowKit Go.WideMaps
set_option linter.unusedVariables false

theorem laidOutKK : laidOutB Tryz.prog = true := by kernel_rfl
theorem lawKeyK : KeyLaw Tryz.prog 39 := deep_law_laid laidOutKK (m := 4) (by omega) (of_decide_eq_true (by kernel_rfl)) (by kernel_rfl) (by kernel_rfl)
theorem keyedKey : Go.Maps.Keyed Tryz.prog 39 := Go.Maps.Keyed.of_law lawKeyK

/-- What a cookie's key reads as, as a key. -/
def keyK (a b c : List UInt8) : Lit := .string (keyBytes [.string a, .string b, .string c])

set_option maxRecDepth 100000 in
theorem key_key {a b c : List UInt8} (ha : a.length ≤ maxLen) (hb : b.length ≤ maxLen) (hc : c.length ≤ maxLen) : keyOf Tryz.prog 39 (.agg #[.string (str a), .string (str b), .string (str c)]) = some (keyK a b c) := by
  have w1 : (str a).size ≤ maxLen := by rw [str_size]; exact ha
  have w2 : (str b).size ≤ maxLen := by rw [str_size]; exact hb
  have w3 : (str c).size ≤ maxLen := by rw [str_size]; exact hc
  have hk : Tryz.prog.keyType 39 = true := by kernel_rfl
  obtain ⟨m, hm⟩ : ∃ m, Tryz.prog.types.size = m + 2 := ⟨Tryz.prog.types.size - 2, by kernel_rfl⟩
  have h1 : Tryz.prog.cellsOf 39 = 3 := by kernel_rfl
  have h2 : Tryz.prog.cellsOf 9 = 1 := by kernel_rfl
  have hf : (Value.agg #[.string (str a), .string (str b), .string (str c)]).formed Tryz.prog 39 = true := by simp [Value.formed, Tryz.underlying39, h1]
  have hl : Tryz.prog.keyLits (Tryz.prog.types.size + 1) 39 [.string (str a), .string (str b), .string (str c)] = some [.string a, .string b, .string c] := by
    rw [hm]
    simp [Program.keyLits, Tryz.underlying39, Tryz.underlying9, h1, h2, w1, w2, w3]
    exact ⟨by simp [str], by simp [str], by simp [str]⟩
  unfold keyOf
  rw [Tryz.underlying39]
  simp only [hk, hf]
  show Option.map _ (Tryz.prog.keyLits _ _ [.string (str a), .string (str b), .string (str c)]) = _
  rw [hl]
  rfl

theorem keyK_inj {a b c x y z : List UInt8} (ha : a.length ≤ maxLen) (hb : b.length ≤ maxLen) (hc : c.length ≤ maxLen) (hx : x.length ≤ maxLen) (hy : y.length ≤ maxLen) (hz : z.length ≤ maxLen) (h : keyK a b c = keyK x y z) : a = x ∧ b = y ∧ c = z := by
  have e := keyedKey.inj (key_key ha hb hc) (h ▸ key_key hx hy hz)
  simp only [Value.agg.injEq, Array.mk.injEq, List.cons.injEq, Value.string.injEq, and_true] at e
  exact ⟨str_inj e.1, str_inj e.2.1, str_inj e.2.2⟩
end Go.Proofs.YtelgaglnmcggkaaGreatDoor

/- What a comparison leaves behind: draws and new blocks alone, written out as the library's sort asks for it. No program in it. -/
namespace Go.Proofs.YtelgaglnmcggkaaGreatDoor
open Go.RowKit Go.Sort
set_option linter.unusedVariables false

def Grows (w w' : World) : Prop := ∃ q os, w' = grow (w.drewN q) os
theorem Grows.refl (w : World) : Grows w w := ⟨0, #[], by unfold grow; rw [Array.append_empty]; rfl⟩
theorem Grows.alloc (w : World) (o : Obj) : Grows w (w.alloc o) := ⟨0, #[o], by rw [alloc_eq_grow]; rfl⟩
theorem Grows.drewN (w : World) (q : Nat) : Grows w (w.drewN q) := ⟨q, #[], by unfold grow; rw [Array.append_empty]⟩
theorem Grows.trans {a b c : World} (h : Grows a b) (k : Grows b c) : Grows a c := by
  obtain ⟨q, os, rfl⟩ := h
  obtain ⟨r, os', rfl⟩ := k
  refine ⟨q + r, os ++ os', ?_⟩
  have e : (grow (a.drewN q) os).drewN r = grow ((a.drewN q).drewN r) os := rfl
  rw [e, grow_grow, World.drewN_drewN]
theorem Grows.below {w w' : World} (h : Grows w w') : Below w.heap.size w w' := by
  obtain ⟨q, os, rfl⟩ := h
  exact ⟨rfl, rfl, rfl, by simp [grow], fun k hk => by simp [grow, Array.getElem?_append, hk]⟩
end Go.Proofs.YtelgaglnmcggkaaGreatDoor

/- The library's comparison of two numbers (cmp.Compare at int). -/
namespace Go.Proofs.YtelgaglnmcggkaaGreatDoor
open Go.RowKit
set_option linter.unusedVariables false

def cmpN (a b : Int) : Int := if a < b then -1 else if b < a then 1 else 0

theorem isNaNC (a : Int) (w : World) : Calls Tryz.prog 172 #[.int .i64 a] w fun e w' => e = .returned (.bool false) ∧ w = w' := by
  go_enter Tryz.func172, Tryz.ntmps172
  go_wp2
  go_ret
  exact ⟨by simp, rfl⟩

theorem cmpIntC (a b : Int) (w : World) : Calls Tryz.prog 135 #[.int .i64 a, .int .i64 b] w fun e w' => e = .returned (.int .i64 (cmpN a b)) ∧ w = w' := by
  have H := fun x w => isNaNC x w
  unfold cmpN
  by_cases h1 : a < b
  · rw [if_pos h1]
    go_enter Tryz.func135, Tryz.ntmps135
    go_wp2_with (go_at_call 172; (with_reducible refine (H _ _).mono ?_); rintro e w1 ⟨rfl, rfl⟩)
    go_ret
    exact ⟨rfl, rfl⟩
  · rw [if_neg h1]
    by_cases h2 : b < a
    · rw [if_pos h2]
      go_enter Tryz.func135, Tryz.ntmps135
      go_wp2_with (go_at_call 172; (with_reducible refine (H _ _).mono ?_); rintro e w1 ⟨rfl, rfl⟩)
      go_ret
      exact ⟨rfl, rfl⟩
    · rw [if_neg h2]
      go_enter Tryz.func135, Tryz.ntmps135
      go_wp2_with (go_at_call 172; (with_reducible refine (H _ _).mono ?_); rintro e w1 ⟨rfl, rfl⟩)
      go_ret
      exact ⟨rfl, rfl⟩
end Go.Proofs.YtelgaglnmcggkaaGreatDoor

/- Ranges over a function whose rounds all go on: what a round must leave as it is; the statement's rule. No program in it. -/
namespace Go.Proofs.YtelgaglnmcggkaaGreatDoor
open Go.RowKit Go.Shelf
set_option linter.unusedVariables false

/-- What holds neither cells nor a map. -/
def sysObj : Obj → Bool
  | .cells .. => false
  | .map .. => false
  | _ => true

/-- What a round leaves as it is: the blocks of G, and whatever holds neither cells nor a map. -/
structure StaysG (G : Nat → Prop) (W W' : World) : Prop where
  size : W.heap.size ≤ W'.heap.size
  same : ∀ k o, W.heap[k]? = some o → (G k ∨ sysObj o = true) → W'.heap[k]? = some o
theorem StaysG.refl (G : Nat → Prop) (W : World) : StaysG G W W := ⟨Nat.le_refl _, fun _ _ h _ => h⟩
theorem StaysG.trans {G : Nat → Prop} {A B C : World} (h : StaysG G A B) (k : StaysG G B C) : StaysG G A C :=
  ⟨Nat.le_trans h.size k.size, fun i o hi ho => k.same i o (h.same i o hi ho) ho⟩
theorem StaysG.ofBelow {G : Nat → Prop} {W W' : World} (hb : Below W.heap.size W W') : StaysG G W W' :=
  ⟨hb.size, fun k o hk _ => (hb.block k (Array.getElem?_eq_some_iff.1 hk).1).trans hk⟩
theorem StaysG.ofKeeps {F G : Nat → Prop} {W W' : World} (hk : Keeps F W W') (hu : ∀ k o, F k → W.heap[k]? = some o → sysObj o = false) (hd : ∀ k, G k → ¬ F k) : StaysG G W W' := by
  refine ⟨hk.size, fun k o ho hs => (hk.block k (Array.getElem?_eq_some_iff.1 ho).1 fun hF => ?_).trans ho⟩
  rcases hs with hs | hs
  · exact hd k hs hF
  · rw [hu k o hF ho] at hs
    cases hs

/-- What the statement itself does to memory, and its function: new blocks; such behind B turned as hold neither cells nor a map. -/
structure SysStep (B : Nat) (W W' : World) : Prop where
  os : W'.os = W.os
  tape : W'.tape = W.tape
  output : W'.output = W.output
  size : W.heap.size ≤ W'.heap.size
  same : ∀ k o, W.heap[k]? = some o → (k < B ∨ sysObj o = false) → W'.heap[k]? = some o
theorem SysStep.refl (B : Nat) (W : World) : SysStep B W W := ⟨rfl, rfl, rfl, Nat.le_refl _, fun _ _ h _ => h⟩
theorem SysStep.trans {B : Nat} {W X Y : World} (h : SysStep B W X) (k : SysStep B X Y) : SysStep B W Y :=
  ⟨k.os.trans h.os, k.tape.trans h.tape, k.output.trans h.output, Nat.le_trans h.size k.size, fun i o hi ho => k.same i o (h.same i o hi ho) ho⟩
theorem SysStep.ofBelow {B : Nat} {W W' : World} (hb : Below W.heap.size W W') : SysStep B W W' :=
  ⟨hb.os, hb.tape, hb.output, hb.size, fun k o hk _ => (hb.block k (Array.getElem?_eq_some_iff.1 hk).1).trans hk⟩
theorem SysStep.alloc (B : Nat) (W : World) (o : Obj) : SysStep B W (W.alloc o) := .ofBelow (below_alloc W o)
theorem SysStep.put {B : Nat} {W : World} {l : Nat} {o : Obj} (hl : B ≤ l) (h : W.heap[l]? = some o) (hs : sysObj o = true) (o' : Obj) : SysStep B W (W.putObj l o') := by
  refine ⟨rfl, rfl, rfl, by simp, fun k u hk hu => ?_⟩
  by_cases e : k = l
  · subst e
    rw [h] at hk
    cases hk
    rcases hu with c | c
    · omega
    · rw [hs] at c
      cases c
  · exact (World.putObj_heap_other e).trans hk
theorem SysStep.grown {B : Nat} {W W' : World} {row : Option Nat} (hg : W.grownBy W' row) (hr : ∀ r, row = some r → B ≤ r ∧ ∃ o : Obj, W.heap[r]? = some o ∧ sysObj o = true) : SysStep B W W' := by
  refine ⟨hg.os, hg.tape, hg.output, hg.size, fun k u hk hu => (hg.block k (Array.getElem?_eq_some_iff.1 hk).1 fun e => ?_).trans hk⟩
  obtain ⟨h1, o, h2, h3⟩ := hr k e.symm
  rw [h2] at hk
  cases hk
  rcases hu with c | c
  · omega
  · rw [h3] at c
    cases c
theorem SysStep.mono {B C : Nat} {W W' : World} (h : SysStep C W W') (hBC : B ≤ C) : SysStep B W W' :=
  ⟨h.os, h.tape, h.output, h.size, fun k o hk hs => h.same k o hk (hs.imp (fun c => Nat.lt_of_lt_of_le c hBC) id)⟩
theorem SysStep.keeps {B : Nat} {W W' : World} (h : SysStep B W W') : Keeps (fun k => B ≤ k ∧ ∃ o, W.heap[k]? = some o ∧ sysObj o = true) W W' := by
  refine ⟨h.os, h.tape, h.output, h.size, fun k hk hn => ?_⟩
  obtain ⟨o, ho⟩ : ∃ o, W.heap[k]? = some o := ⟨W.heap[k], Array.getElem?_eq_getElem hk⟩
  rw [ho]
  refine h.same k o ho ?_
  cases hs : sysObj o with
  | false => exact .inr rfl
  | true => exact .inl (Nat.lt_of_not_le fun c => hn ⟨c, o, ho, hs⟩)
theorem SysStep.below {B C : Nat} {W W' : World} (h : SysStep B W W') (hC : C ≤ B) (hW : C ≤ W.heap.size) : Below C W W' :=
  h.keeps.below hW fun k _ hk => Nat.le_trans hC hk.1

/-- A function that gives elements one by one to whatever is called with them, all of them, in whatever order S allows; T holds of what has come at any time; the blocks of G it reads on between them. -/
def EachOf {α : Type} (F : Fence) (n : Nat) (P : Program) (gf : Nat) (lb : Array Value) (encs : α → Array Value) (G : Nat → Prop) (T S : List α → Prop) (w : World) : Prop :=
  ∀ (l : Nat) (J : List α → World → Prop) (W : World), Below w.heap.size w W → (∀ pre A B, SysStep W.heap.size A B → J pre A → J pre B) →
    (∀ pre x W1, J pre W1 → T (pre ++ [x]) → YieldAt F (n - 1) P l (encs x) W1 fun e W' => e = .returned (.bool true) ∧ J (pre ++ [x]) W' ∧ StaysG G W1 W') → J [] W →
    CallsIn F n P gf (#[.func (.yield l) #[] #[]] ++ lb) W fun e W' => (∃ v, e = .returned v) ∧ ∃ xs, S xs ∧ J xs W'

/-- The statement: the assignments of a round, its body, each left at its end. -/
theorem wpIn_forEach {α : Type} {F : Fence} {n : Nat} {P : Program} {g : Operand} {ps : Array Tmp} {assign body : Code} {Q : Exit → Act → World → Prop} {a : Act} {w : World}
    (hro : F.round = none) (h1 : 1 ≤ n) {gf : Nat} {lb : Array Value} (hg : a.eval g = .func (.func gf) #[] lb) (hFg : F.fn gf) (eg : ∀ args w, (callFunc gf args).run P w = .ok (.enter gf args) w)
    {encs : α → Array Value} {G : Nat → Prop} {T S : List α → Prop} {w0 : World} (hit : EachOf F (n - 1) P gf lb encs G T S w0) (hw0 : Below w0.heap.size w0 w) (hps : ∀ x, (encs x).size = ps.size)
    (I : List α → World → Prop) (hI : ∀ pre A B, SysStep w.heap.size A B → I pre A → I pre B) (h0 : I [] w)
    (Ax : α → Act → World → Prop) (hAx : ∀ x a' A B, SysStep w.heap.size A B → Ax x a' A → Ax x a' B)
    (hassign : ∀ l pre x W, w.heap.size ≤ W.heap.size → I pre W → assign.wpIn (F.inRound l) (n - 1 - 1) P (Exit.then (fun a' W' => StaysG G W W' ∧ I pre W' ∧ Ax x a' W') (fun _ _ _ => False)) { tmps := (ps.zip (encs x)).foldl (fun t (p, v) => t.setIfInBounds p v) a.tmps, defers := [] } W)
    (hbody : ∀ l pre x a' W, T (pre ++ [x]) → I pre W → Ax x a' W → body.wpIn (F.inRound l) (n - 1 - 1) P (fun e _ W' => e = .normal ∧ StaysG G W W' ∧ I (pre ++ [x]) W') a' W)
    (hdone : ∀ D xs W, w.heap.size ≤ D → S xs → I xs W → W.heap[D]? = some (.deferred (some [])) → Q .normal { a with defers := { target := .collected D, args := #[] } :: a.defers } W) :
    (Code.rangeFunc g ps assign body).wpIn F n P Q a w := by
  refine wpIn_rangeFunc fun fn hfn => ?_
  rw [hro]
  obtain ⟨rc, hrc⟩ : ∃ rc : LoopState → Option Code → Loop, rc = fun st pe => { state := st, pending := pe, fn, tmps := a.tmps, params := ps, assign, body, defers := w.heap.size } := ⟨_, rfl⟩
  obtain ⟨B, hB⟩ : ∃ B, w.heap.size = B := ⟨_, rfl⟩
  obtain ⟨W1, hW1⟩ : ∃ W1, (w.alloc (.deferred (some []))).alloc (.loop (rc .ready none)) = W1 := ⟨_, rfl⟩
  have hL1 : W1.heap[B + 1]? = some (.loop (rc .ready none)) := by
    rw [← hW1, ← hB]
    have := World.alloc_heap_new (w.alloc (.deferred (some []))) (.loop (rc .ready none))
    rwa [World.size_alloc] at this
  have hK1 : W1.heap[B]? = some (.deferred (some [])) := by
    rw [← hW1, ← hB]
    exact (Below.heap_alloc _ _ _ (by simp)).trans (World.alloc_heap_new w _)
  have hs1 : SysStep w.heap.size w W1 := hW1 ▸ (SysStep.alloc _ _ _).trans (SysStep.alloc _ _ _)
  have hb1 : Below w0.heap.size w0 W1 := hw0.trans (hs1.below hw0.size hw0.size)
  have hz1 : B + 1 < W1.heap.size := (Array.getElem?_eq_some_iff.1 hL1).1
  refine ⟨B + 1, [{ target := .collected B, args := #[] }], W1, { target := .fn (.func gf) lb, args := #[.func (.yield (B + 1)) #[] #[]] }, W1, gf, #[.func (.yield (B + 1)) #[] #[]] ++ lb, W1, ?_, ?_, ?_, ?_, fun _ => h1, ?_⟩
  · rw [← hW1, hrc, ← hB]
    exact run_enterLoop_outer _ _ _ _ _
  · simp only [resolve, hg]
    simp [go_sem]
  · intro f' hf'
    simp [Target.leads] at hf'
    subst hf'
    exact hFg
  · simp [invoke, go_sem, eg]
  · have hst : ∀ {X Y : World} {k : Nat} {o : Obj}, StaysG G X Y → X.heap[k]? = some o → sysObj o = true → Y.heap[k]? = some o := fun h hk ho => h.same _ _ hk (.inr ho)
    refine (hit (B + 1) (fun pre W => I pre W ∧ w.heap.size ≤ W.heap.size ∧ W.heap[B + 1]? = some (.loop (rc .ready none)) ∧ W.heap[B]? = some (.deferred (some []))) W1 hb1 ?_ ?_ ⟨hI _ _ _ hs1 h0, hs1.size, hL1, hK1⟩).mono ?_
    · rintro pre X Y hs ⟨hi, hsz, hl, hk⟩
      exact ⟨hI _ _ _ (hs.mono (by omega)) hi, Nat.le_trans hsz hs.size, hs.same _ _ hl (.inl hz1), hs.same _ _ hk (.inl (by omega))⟩
    · rintro pre x W ⟨hi, hsz, hl, hk⟩ hT
      have hy := run_yield (P := P) (args := encs x) hl (by rw [hrc]; exact hps x)
      rw [hrc] at hy
      refine ⟨fn, _, assign, body, hy, roundIn_of_wpIn hfn (Go.wpIn_mono (hassign (B + 1) pre x W hsz hi) fun e a' Wa hp => ?_)⟩
      cases e with
      | normal =>
        obtain ⟨ha, hia, hxa⟩ := hp
        have hla := hst ha hl rfl
        have hka := hst ha hk rfl
        refine ⟨_, run_beginRound hla (by rw [hrc]), ?_⟩
        have hlt : B + 1 < Wa.heap.size := (Array.getElem?_eq_some_iff.1 hla).1
        have hsp : SysStep w.heap.size Wa (Wa.putObj (B + 1) (.loop { rc .ready none with state := .busy })) := SysStep.put (by omega) hla rfl _
        have hl2 : (Wa.putObj (B + 1) (.loop { rc .ready none with state := .busy })).heap[B + 1]? = some (.loop { rc .ready none with state := .busy }) := World.putObj_heap_same hlt
        have hk2 : (Wa.putObj (B + 1) (.loop { rc .ready none with state := .busy })).heap[B]? = some (.deferred (some [])) := (World.putObj_heap_other (by omega)).trans hka
        refine Go.wpIn_mono (hbody (B + 1) pre x a' _ hT (hI _ _ _ hsp hia) (hAx _ _ _ _ hsp hxa)) fun e2 a2 W3 hp3 => ?_
        obtain ⟨rfl, h3, hi3⟩ := hp3
        have hsz3 := h3.size
        rw [World.putObj_size] at hsz3
        have hl3 := hst h3 hl2 rfl
        have hk3 := hst h3 hk2 rfl
        have hlt3 : B + 1 < W3.heap.size := (Array.getElem?_eq_some_iff.1 hl3).1
        have hr := run_endRound (P := P) none hl3
        refine ⟨_, _, hr, rfl, ⟨hI _ _ _ (SysStep.put (by omega) hl3 rfl _) hi3, ?_, ?_, (World.putObj_heap_other (by omega)).trans hk3⟩, ?_⟩
        · rw [World.putObj_size]
          have := ha.size
          omega
        · rw [World.putObj_heap_same hlt3, hrc]
          rfl
        · refine ⟨by rw [World.putObj_size]; have := ha.size; omega, fun k o ho hg => ?_⟩
          by_cases e : k = B + 1
          · subst e
            rw [hl] at ho
            cases ho
            rw [World.putObj_heap_same hlt3, hrc]
            rfl
          · rw [World.putObj_heap_other e]
            refine h3.same k o ?_ hg
            rw [World.putObj_heap_other e]
            exact ha.same k o ho hg
      | _ => exact hp.elim
    · rintro e W2 ⟨⟨v, rfl⟩, xs, hS, hi, hsz, hl, hk⟩
      refine ⟨none, _, by have := run_endLoop (P := P) hl (by rw [hrc]; simp); rw [hrc] at this; exact this, ?_⟩
      refine hdone _ xs _ (Nat.le_of_eq hB) hS (hI _ _ _ (SysStep.put (by omega) hl rfl _) hi) ((World.putObj_heap_other (by omega)).trans hk)
end Go.Proofs.YtelgaglnmcggkaaGreatDoor

/- A map written, or struck from, as a step of a region that draws its order. No program in it. -/
namespace Go.Proofs.YtelgaglnmcggkaaGreatDoor
open Go.RowKit
open Go.ChangeMaps Go.MapKept Go.WideShapes
open Go.Maps (Keyed)
set_option linter.unusedVariables false

theorem Keeps.ofTurned {w w' : World} {b : Nat} (h : w.mapTurned w' b) : Keeps (fun k => k = b) w w' := by
  obtain ⟨es, cl, es', cl', hb, rfl⟩ := h
  refine ⟨rfl, rfl, rfl, by simp [setBlock], fun i _ hi => heap_setBlock_other hb _ hi⟩
theorem step_mapUpdate {H : Type} {P : Program} {w : World} {ops : Array Oper} {o : Oper} {a : Act} {K : Act → World → Prop} {E : Prop} {Q : Exit → Act → World → Prop} (hgd : o.guard = none) (m x v : Operand) (t : TypeId) (hop : o.op = Op.mapUpdate t m x v)
    (k e : TypeId) (Kd : Keyed P k) (ht : P.underlying t = some (.map k e)) (R : Value → Option (DataW H × List MemPlace)) (b n : Nat) (D : DataW H)
    (hm : a.eval m = .map (some b)) (hown : w.ownsMap P k R b n D) (hn : n < maxLen) (key val : Value) (kl : Lit) (hx : a.eval x = key) (hv : a.eval v = val) (hkey : keyOf P k key = some kl)
    (d : DataW H) (ps : List MemPlace) (hval : R val = some (d, ps))
    (h : ∀ w', w'.ownsMap P k R b (n + 1) (D.put kl d) → Keeps (fun k => k = b) w w' → K (a.put o.dst undef) w') : if Region.wanted o (yielded ops a.tmps) = true then Oper.wp P o a w K Q else E := by
  rw [if_pos (by simp [Region.wanted, hgd])]
  obtain ⟨w', hrun, r1, r2⟩ := hown.store Kd ht hn hkey hval
  unfold Oper.wp
  simp [execOp, hop, hm, hx, hv, hrun, Result.andThen]
  exact h w' r1 (Keeps.ofTurned r2)
theorem step_delete {H : Type} {P : Program} {w : World} {ops : Array Oper} {o : Oper} {a : Act} {K : Act → World → Prop} {E : Prop} {Q : Exit → Act → World → Prop} (hgd : o.guard = none) (m x : Operand) (t k : TypeId) (hop : o.op = Op.call { callee := Callee.builtin Builtin.delete, args := #[m, x], argTypes := #[t, k] })
    (e : TypeId) (Kd : Keyed P k) (ht : P.underlying t = some (.map k e)) (R : Value → Option (DataW H × List MemPlace)) (b n : Nat) (D : DataW H)
    (hm : a.eval m = .map (some b)) (hown : w.ownsMap P k R b n D) (key : Value) (kl : Lit) (hx : a.eval x = key) (hkey : keyOf P k key = some kl)
    (h : ∀ w', w'.ownsMap P k R b n (D.del kl) → Keeps (fun k => k = b) w w' → K (a.put o.dst (.tuple #[])) w') : if Region.wanted o (yielded ops a.tmps) = true then Oper.wp P o a w K Q else E := by
  rw [if_pos (by simp [Region.wanted, hgd])]
  obtain ⟨w', hrun, r1, r2⟩ := hown.drop Kd ht hkey o.type
  unfold Oper.wp
  simp [execOp, hop, resolve, invoke, builtin, hm, hx, hrun, Result.andThen]
  exact h w' r1 (Keeps.ofTurned r2)
theorem step_deleteNil {P : Program} {w : World} {ops : Array Oper} {o : Oper} {a : Act} {K : Act → World → Prop} {E : Prop} {Q : Exit → Act → World → Prop} (hgd : o.guard = none) (m x : Operand) (t k : TypeId) (hop : o.op = Op.call { callee := Callee.builtin Builtin.delete, args := #[m, x], argTypes := #[t, k] })
    (e : TypeId) (Kd : Keyed P k) (ht : P.underlying t = some (.map k e)) (hm : a.eval m = .map none) (key : Value) (kl : Lit) (hx : a.eval x = key) (hkey : keyOf P k key = some kl)
    (h : K (a.put o.dst (.tuple #[])) w) : if Region.wanted o (yielded ops a.tmps) = true then Oper.wp P o a w K Q else E := by
  rw [if_pos (by simp [Region.wanted, hgd])]
  have hrun := Go.Maps.drop_nil (P := P) (w := w) Kd ht hkey o.type
  unfold Oper.wp
  simp [execOp, hop, resolve, invoke, builtin, hm, hx, hrun, Result.andThen]
  exact h
/-- A look-up, as it is carried out in a region: with 'is' and without. -/
theorem exec_look {P : Program} {w : World} {o : Oper} {a : Act} (m x : Operand) (t : TypeId) (c : Bool) (hop : o.op = Op.lookup t m x c) (mv : Option Nat) (hm : a.eval m = .map mv) (key : Value) (hx : a.eval x = key) {v : Value} (hr : (Instr.lookup t (.map mv) key c).run P w = .ok v w) :
    (execOp a.eval o).run P w = .ok (.value v) w := by
  simp [execOp, hop, hm, hx, hr, Result.andThen]
/-- What a look-up answers in a map whose elements are told as they are. -/
theorem held_look {P : Program} {k : TypeId} {w : World} {b n : Nat} {D : DataW Value} (hown : w.ownsMap P k heldElem b n D) (K : Keyed P k) {t e : TypeId} (ht : P.underlying t = some (.map k e)) {z : Value} (hz : (zeroValue e).run P w = .ok z w) {key : Value} {kl : Lit} (hkey : keyOf P k key = some kl) {c : Option Value} (hc : HeldAt D kl c) :
    (Instr.lookup t (.map (some b)) key false).run P w = .ok (c.getD z) w ∧ (Instr.lookup t (.map (some b)) key true).run P w = .ok (.tuple #[c.getD z, .bool c.isSome]) w := by
  obtain ⟨es, clock, hb, F, _, rfl⟩ := hown
  constructor
  · rcases Go.Maps.fit_look false K ht hz hb F hkey with ⟨hrun, _, hat⟩ | ⟨e0, y, _, _, hrun, hRv, hat, _⟩
    · have h1 := hc.has
      rw [Go.Maps.has_false_of_atKey hat] at h1
      cases c with
      | none => exact hrun
      | some u => simp at h1
    · have h1 := hc.has
      rw [Go.Maps.has_true_of_atKey hat] at h1
      cases c with
      | none => simp at h1
      | some u =>
        have h2 := (hc.at_ u rfl .nil).symm.trans (hat .nil)
        have h3 := held_inv (d := y.1) (ps := y.2) hRv
        rw [h3] at h2
        cases h2
        exact hrun
  · rcases Go.Maps.fit_look true K ht hz hb F hkey with ⟨hrun, _, hat⟩ | ⟨e0, y, _, _, hrun, hRv, hat, _⟩
    · have h1 := hc.has
      rw [Go.Maps.has_false_of_atKey hat] at h1
      cases c with
      | none => exact hrun
      | some u => simp at h1
    · have h1 := hc.has
      rw [Go.Maps.has_true_of_atKey hat] at h1
      cases c with
      | none => simp at h1
      | some u =>
        have h2 := (hc.at_ u rfl .nil).symm.trans (hat .nil)
        have h3 := held_inv (d := y.1) (ps := y.2) hRv
        rw [h3] at h2
        cases h2
        exact hrun
end Go.Proofs.YtelgaglnmcggkaaGreatDoor

/- A row of structs of the call's own, behind slices.SortFunc. No program in it. -/
namespace Go.Proofs.YtelgaglnmcggkaaGreatDoor
open Go.RowKit Go.Sort
set_option linter.unusedVariables false

theorem flatK_list {α : Type} [Inhabited α] {enc : α → List Value} {z : Nat} (hz : ∀ x, (enc x).length = z) (P : List α) : (Go.Sort.flatK enc z P.toArray).toList = flatC enc P := by
  apply List.ext_getElem?
  intro t
  by_cases ht : t < P.length * z
  · have hz0 : 0 < z := by
      rcases Nat.eq_zero_or_pos z with rfl | h
      · omega
      · exact h
    have hi : t / z < P.length := Nat.div_lt_of_lt_mul (by rw [Nat.mul_comm]; exact ht)
    have hj : t % z < z := Nat.mod_lt _ hz0
    have e1 : P[t / z]? = some P[t / z] := List.getElem?_eq_getElem hi
    have e2 : (enc P[t / z])[t % z]? = some ((enc P[t / z])[t % z]'(by rw [hz]; exact hj)) := List.getElem?_eq_getElem (by rw [hz]; exact hj)
    have h := flatC_at hz P _ _ _ _ e1 e2
    have e3 : t / z * z + t % z = t := by rw [Nat.mul_comm]; exact Nat.div_add_mod t z
    rw [e3] at h
    rw [h]
    have hs : t < (Go.Sort.flatK enc z P.toArray).size := by simpa using ht
    rw [Array.getElem?_toList, Array.getElem?_eq_getElem hs]
    have g := get_flatK enc z P.toArray t (by simpa using ht)
    rw [getElem!_pos _ t hs] at g
    rw [g]
    have e4 : P.toArray[t / z]! = P[t / z] := by simp [hi]
    rw [e4, getElem!_pos _ _ (by rw [hz]; exact hj)]
  · rw [List.getElem?_eq_none (by simp; omega), List.getElem?_eq_none (by rw [flatC_len hz]; omega)]

theorem own_block {α : Type} {enc : α → List Value} {z base : Nat} {e : TypeId} {g n c : Nat} {P : List α} {w : World} (h : OwnZ enc z base e (some ⟨g, 0, none⟩) n c P w) :
    ∃ cur, base ≤ g ∧ w.heap[g]? = some (.cells cur e (0, 0)) ∧ n ≤ c ∧ c ≤ maxLen ∧ cur.size = c * z ∧ cur.toList.take (n * z) = flatC enc P := by
  obtain ⟨⟨_, h1⟩, h2, h3, h4⟩ := h
  rcases h1 with ⟨h1, _⟩ | ⟨g', cap, cur, hv, hb, hg, a, b, d, f⟩
  · cases h1
  · cases hv
    exact ⟨cur, hb, hg, a, b, d, f⟩

theorem own_holds {α : Type} [Inhabited α] {enc : α → List Value} {z base : Nat} {e : TypeId} {g n c : Nat} {P : List α} {w : World} (hz : ∀ x, (enc x).length = z) (h : OwnZ enc z base e (some ⟨g, 0, none⟩) n c P w) : HoldsK enc z w g 0 P.toArray := by
  obtain ⟨cur, _, hg, hn, _, hs, ht⟩ := own_block h
  have hP : P.length = n := h.2.1
  intro t ht2
  have hlt : t < n * z := by simpa [hP] using ht2
  have hcz : n * z ≤ c * z := Nat.mul_le_mul_right z hn
  have e0 : (Go.Sort.flatK enc z P.toArray)[t]? = (flatC enc P)[t]? := by rw [← flatK_list hz P, Array.getElem?_toList]
  refine ⟨?_, by simp [World.frozen?, hg]⟩
  have e1 : (cur.toList.take (n * z))[t]? = (flatC enc P)[t]? := by rw [ht]
  rw [List.getElem?_take_of_lt hlt, ← e0, Array.getElem?_toList, Array.getElem?_eq_getElem ht2, Array.getElem?_eq_getElem (by omega)] at e1
  have e2 : cur[t]'(by omega) = (Go.Sort.flatK enc z P.toArray)[t] := by simpa using e1
  rw [getElem!_pos _ t ht2]
  simp [World.cell?, hg, show t < cur.size by omega, e2]

theorem heap_sortedK {α : Type} [Inhabited α] {enc : α → List Value} {z : Nat} {w : World} {g m : Nat} {os : Array Obj} {cur : Array Value} {e : TypeId} {fr : Nat × Nat} (d : Array α) (hb : w.heap[g]? = some (.cells cur e fr)) :
    (sortWorldK enc z w g 0 m d os).heap[g]? = some (.cells (putCells id 0 (Go.Sort.flatK enc z d) cur) e fr) := by
  have hg : g < w.heap.size := (Array.getElem?_eq_some_iff.1 hb).1
  unfold sortWorldK putRowK
  rw [heap_grow_old _ _ (by simpa using hg)]
  simp [putRow, mapBlock, Sort.ahead, Array.getElem?_modify, hb, onCells]

theorem keeps_sortedK {α : Type} [Inhabited α] {enc : α → List Value} {z : Nat} {w : World} {g m : Nat} {os : Array Obj} (d : Array α) : Keeps (fun k => k = g) w (sortWorldK enc z w g 0 m d os) := by
  unfold sortWorldK putRowK
  refine ⟨rfl, rfl, rfl, by simp, fun k hk hne => ?_⟩
  rw [heap_grow_old _ _ (by simpa using hk)]
  have : g ≠ k := fun e => hne e.symm
  simp [putRow, mapBlock, Sort.ahead, Array.getElem?_modify, this]

theorem take_putCellsK (cur F : Array Value) (h : F.size ≤ cur.size) : (putCells id 0 F cur).toList.take F.size = F.toList := by
  apply List.ext_getElem?
  intro j
  by_cases hj : j < F.size
  · rw [List.getElem?_take_of_lt hj, Array.getElem?_toList]
    simp [putCells, hj, show j < cur.size by omega]
  · rw [List.getElem?_eq_none (by simp; omega), List.getElem?_eq_none (by simp; omega)]

theorem own_sorted {α : Type} [Inhabited α] {enc : α → List Value} {z base : Nat} {e : TypeId} {g n c : Nat} {P : List α} {w : World} (hz : ∀ x, (enc x).length = z) (h : OwnZ enc z base e (some ⟨g, 0, none⟩) n c P w) (T : List α) (hT : T.length = n) (m : Nat) (os : Array Obj) :
    OwnZ enc z base e (some ⟨g, 0, none⟩) n c T (sortWorldK enc z w g 0 m T.toArray os) := by
  obtain ⟨cur, hb, hg, hn, hc, hs, ht⟩ := own_block h
  have hcz : n * z ≤ c * z := Nat.mul_le_mul_right z hn
  refine ⟨⟨by rw [flatC_len hz, hT], .inr ⟨g, c, _, rfl, hb, heap_sortedK T.toArray hg, hn, hc, by simp [putCells, hs], ?_⟩⟩, hT, hn, hc⟩
  have hF : (Go.Sort.flatK enc z T.toArray).size = n * z := by simp [hT]
  rw [← hF, take_putCellsK _ _ (by omega), flatK_list hz]

theorem permIn_all {α : Type} [Inhabited α] {d d' : Array α} (h : PermIn 0 d.size d d') : d'.size = d.size ∧ d'.toList.Perm d.toList := by
  obtain ⟨h1, _, h3⟩ := h
  refine ⟨h1, ?_⟩
  have e2 : d.extract 0 d.size = d := by simp
  have e1 : d'.extract 0 d.size = d' := by rw [← h1]; simp
  rw [e1, e2] at h3
  exact h3

theorem sortedIn_all {α : Type} [Inhabited α] {lt : α → α → Bool} {d : Array α} {n : Nat} (hn : d.size = n) (h : SortedIn lt 0 n d) : d.toList.Pairwise fun x y => lt y x = false := by
  rw [List.pairwise_iff_getElem]
  intro i j hi hj hij
  have hi' : i < d.size := by simpa using hi
  have hj' : j < d.size := by simpa using hj
  have := h i j (Nat.zero_le _) hij (by omega)
  rw [getElem!_pos d j hj', getElem!_pos d i hi'] at this
  simpa using this
end Go.Proofs.YtelgaglnmcggkaaGreatDoor

/- Structs of many cells, more: stored over one that is there, given as a result. No program in it. -/
namespace Go.Proofs.YtelgaglnmcggkaaGreatDoor
open Go.RowKit
set_option linter.unusedVariables false

theorem ObjAt.setRow {w : World} {b : Nat} {vs : List Value} (h : ObjAt w b vs) (A : Array Value) : ObjAt (w.setRow b A) b A.toList := by
  obtain ⟨e, h⟩ := h.heap
  exact ⟨e, by rw [Array.toArray_toList]; exact setRow_heap w b _ A e (0, 0) h⟩
theorem ObjAt.setOther {w : World} {b g : Nat} {vs : List Value} (h : ObjAt w b vs) (hne : b ≠ g) (A : Array Value) : ObjAt (w.setRow g A) b vs := by
  obtain ⟨e, h⟩ := h.heap
  exact ⟨e, by rw [setRow_other w g b A hne]; exact h⟩
theorem Keeps.setRow {F : Nat → Prop} {w w' : World} (h : Keeps F w w') {g : Nat} (hg : F g) (A : Array Value) : Keeps F w (w'.setRow g A) :=
  ⟨h.os, h.tape, h.output, by rw [setRow_size]; exact h.size, fun k hk hn => (setRow_other w' g k A (fun e => hn (e ▸ hg))).trans (h.block k hk hn)⟩
theorem below_rowSet {B : Nat} {w w' : World} (h : Below B w w') {g : Nat} (hg : B ≤ g) (A : Array Value) : Below B w (w'.setRow g A) :=
  ⟨h.os, h.tape, h.output, by rw [setRow_size]; exact h.size, fun k hk => (setRow_other w' g k A (by omega)).trans (h.block k hk)⟩

/-- A whole struct stored over one that is there. -/
theorem wpList_storeOver {P : Program} {ops : Array Oper} {rest : List Oper} {o : Oper} {a : Act} {w : World} {Q : Exit → Act → World → Prop} (hgd : o.guard = none) (ty : TypeId) (x y : Operand) (ho : o.op = .store ty x y) (g : Nat) (vs : List Value) (A : Array Value) (n : Nat)
    (hx : a.eval x = .pointer (some ⟨g, 0, none⟩)) (hy : a.eval y = .agg A) (hg : ObjAt w g vs) (hi : (P.info? ty).map (·.size) = some n) (hold : vs.length = n) (hn : A.size = n) (h1 : A.all (·.oneCell') = true)
    (h : wpList P ops Q rest (a.put o.dst undef) (w.setRow g A)) : wpList P ops Q (o :: rest) a w := by
  obtain ⟨t, ht⟩ := hg.heap
  exact wpList_store_row hgd ty x y ho g A hx hy t vs.toArray ht (by rw [hi, hn]) (by rw [List.size_toArray, hold, hn]) h1 h

theorem step_storeOver {P : Program} {ops : Array Oper} {o : Oper} {a : Act} {w : World} {K : Act → World → Prop} {E : Prop} {Q : Exit → Act → World → Prop} (hgd : o.guard = none) (ty : TypeId) (x y : Operand) (ho : o.op = .store ty x y) (g : Nat) (vs : List Value) (A : Array Value) (n : Nat)
    (hx : a.eval x = .pointer (some ⟨g, 0, none⟩)) (hy : a.eval y = .agg A) (hg : ObjAt w g vs) (hi : (P.info? ty).map (·.size) = some n) (hold : vs.length = n) (hn : A.size = n) (h1 : A.all (·.oneCell') = true)
    (h : K (a.put o.dst undef) (w.setRow g A)) : if Region.wanted o (yielded ops a.tmps) = true then Oper.wp P o a w K Q else E := by
  rw [if_pos (by simp [Region.wanted, hgd])]
  obtain ⟨t, ht⟩ := hg.heap
  exact wp_store_row ty x y ho g A hx hy t vs.toArray ht (by rw [hi, hn]) (by rw [List.size_toArray, hold, hn]) h1 h

/-- A struct in a cell, read as a result. -/
theorem loadVarBig {P : Program} {w : World} (ty : TypeId) (g n : Nat) (A : Array Value) (hg : ObjAt w g A.toList) (ha : ∀ w, (isAgg ty).run P w = .ok true w) (hs : ∀ w, (sizeOf ty).run P w = .ok n w) (hn : A.size = n) : (loadVar ty ⟨g, 0, none⟩).run P w = .ok (.agg A) w := by
  have hl := hg.loads (P := P) (n := n) (by simpa using hn)
  rw [Array.toArray_toList] at hl
  unfold loadVar loadCells
  simp only [Sem.run_bind, Sem.run_pure, Result.andThen, ha, hs, hl, if_true]
theorem results_big2 {P : Program} {w : World} {fn : Func} {tmps : Array Value} {a b : Tmp} {t : TypeId} {g : Nat} {x v : Value} (hr : fn.results = #[.cell a t, .tmp b]) (ha : tmps.getD a undef = .pointer (some ⟨g, 0, none⟩)) (hb : tmps.getD b undef = v) (hl : (loadVar t ⟨g, 0, none⟩).run P w = .ok x w) : (results fn tmps).run P w = .ok (.tuple #[x, v]) w := by
  rw [Array.getD_eq_getD_getElem?] at ha hb
  simp [results, hr, ha, hb, hl, asAddr, Result.andThen]
theorem results_big1 {P : Program} {w : World} {fn : Func} {tmps : Array Value} {a : Tmp} {t : TypeId} {g : Nat} {x : Value} (hr : fn.results = #[.cell a t]) (ha : tmps.getD a undef = .pointer (some ⟨g, 0, none⟩)) (hl : (loadVar t ⟨g, 0, none⟩).run P w = .ok x w) : (results fn tmps).run P w = .ok x w := by
  rw [Array.getD_eq_getD_getElem?] at ha
  simp [results, hr, ha, hl, asAddr]
end Go.Proofs.YtelgaglnmcggkaaGreatDoor

/- Every key of a map of cookies' keys is three texts. -/
namespace Go.Proofs.YtelgaglnmcggkaaGreatDoor
open Go.RowKit Go.WideMaps
set_option linter.unusedVariables false

set_option maxRecDepth 100000 in
theorem key_key_inv {key : Value} {kl : Lit} (h : keyOf Tryz.prog 39 key = some kl) : ∃ a b c : List UInt8, a.length ≤ maxLen ∧ b.length ≤ maxLen ∧ c.length ≤ maxLen ∧ key = .agg #[.string (str a), .string (str b), .string (str c)] ∧ kl = keyK a b c := by
  obtain ⟨m, hm⟩ : ∃ m, Tryz.prog.types.size = m + 2 := ⟨Tryz.prog.types.size - 2, by kernel_rfl⟩
  have hc : Tryz.prog.cellsOf 39 = 3 := by kernel_rfl
  have hc2 : Tryz.prog.cellsOf 9 = 1 := by kernel_rfl
  have h0 := h
  unfold keyOf at h
  rw [Tryz.underlying39] at h
  dsimp only at h
  split at h
  case isFalse => cases h
  case isTrue hh =>
    rw [Bool.and_eq_true] at hh
    have hf := hh.2
    cases key
    case agg cs =>
      obtain ⟨l⟩ := cs
      have hs : l.length = 3 := by simpa [Value.formed, Tryz.underlying39, hc] using hf
      match l, hs with
      | [x, y, z], _ =>
        cases hl : Tryz.prog.keyLits (Tryz.prog.types.size + 1) 39 (Value.agg #[x, y, z]).cells.toList with
        | none => rw [hl] at h; cases h
        | some ls =>
          rw [hm] at hl
          have hxy : ∃ a b c : ByteArray, a.size ≤ maxLen ∧ b.size ≤ maxLen ∧ c.size ≤ maxLen ∧ x = .string a ∧ y = .string b ∧ z = .string c := by
            cases x with
            | string s1 =>
              by_cases a1 : s1.size ≤ maxLen
              · cases y with
                | string s2 =>
                  by_cases a2 : s2.size ≤ maxLen
                  · cases z with
                    | string s3 =>
                      by_cases a3 : s3.size ≤ maxLen
                      · exact ⟨s1, s2, s3, a1, a2, a3, rfl, rfl, rfl⟩
                      · exfalso; simp [Program.keyLits, Value.cells, Tryz.underlying39, Tryz.underlying9, hc, hc2, a1, a2, a3] at hl
                    | _ => exfalso; simp [Program.keyLits, Value.cells, Tryz.underlying39, Tryz.underlying9, hc, hc2, a1, a2] at hl
                  · exfalso; simp [Program.keyLits, Value.cells, Tryz.underlying39, Tryz.underlying9, hc, hc2, a1, a2] at hl
                | _ => exfalso; simp [Program.keyLits, Value.cells, Tryz.underlying39, Tryz.underlying9, hc, hc2, a1] at hl
              · exfalso; simp [Program.keyLits, Value.cells, Tryz.underlying39, Tryz.underlying9, hc, hc2, a1] at hl
            | _ => exfalso; simp [Program.keyLits, Value.cells, Tryz.underlying39, Tryz.underlying9, hc, hc2] at hl
          obtain ⟨a, b, c, ha, hb, hcc, rfl, rfl, rfl⟩ := hxy
          obtain ⟨la, rfl⟩ : ∃ l, a = str l := ⟨_, str_of a⟩
          obtain ⟨lb, rfl⟩ : ∃ l, b = str l := ⟨_, str_of b⟩
          obtain ⟨lc, rfl⟩ : ∃ l, c = str l := ⟨_, str_of c⟩
          rw [str_size] at ha hb hcc
          refine ⟨la, lb, lc, ha, hb, hcc, rfl, ?_⟩
          have h9 := key_key ha hb hcc
          rw [h9] at h0
          exact (Option.some.inj h0).symm
    all_goals simp [Value.formed, Tryz.underlying39] at hf
end Go.Proofs.YtelgaglnmcggkaaGreatDoor

/- Operations without a fence, carried out within the widest one, and within a round of it. No program in it. -/
namespace Go.Proofs.YtelgaglnmcggkaaGreatDoor
open Go.RowKit Go.Shelf
set_option linter.unusedVariables false

/-- A fence that lets everything by. -/
structure LetsAll (F : Fence) : Prop where
  depth : F.depth = none
  fn : ∀ f, F.fn f
  calls : ∀ {n : Nat} {P : Program} {f : FuncId} {args : Array Value} {w : World} {R : Ending → World → Prop}, Calls P f args w R → CallsIn F n P f args w R
  rows : ∀ {n : Nat} {P : Program} {row : String} {args : Array Value} {w : World} {R : Value → World → Prop}, Rows P row args w R → RowsIn F n P row args w R
theorem letsAll_wide : LetsAll Fence.wide :=
  ⟨rfl, fun _ => trivial, fun h => callsIn_wide.2 h, fun h c cs _ => let ⟨v, w', r, s⟩ := h c cs; ⟨v, w', r, stepsIn_wide.2 s⟩⟩
theorem letsAll_round (l : Nat) : LetsAll (Fence.wide.inRound l) :=
  ⟨rfl, fun _ => trivial, fun h => CallsIn.inRound l (callsIn_wide.2 h), fun h => letsAll_wide.rows (n := _) h⟩

theorem wpIn_op {F : Fence} (hF : LetsAll F) {n : Nat} {P : Program} {o : Oper} {a : Act} {w : World} {K : Act → World → Prop} {Q : Exit → Act → World → Prop} (hd : ∀ c, o.op ≠ .defer c) (h : o.wp P a w K Q) : o.wpIn F n P a w K Q := by
  refine ⟨fun f _ => hF.fn f, ?_⟩
  rw [Oper.semAt_plain _ _ _ hd]
  unfold Oper.wp at h
  have hdep : F.depth.isSome = true → 1 ≤ n := by rw [hF.depth]; intro c; cases c
  generalize (execOp a.eval o).run P w = r at *
  cases r with
  | ok nx w' =>
    cases nx with
    | value v => exact h
    | skip => exact h
    | defer d => exact h
    | enter f args => exact ⟨hdep, hF.calls h⟩
    | row row args => exact ⟨hdep, hF.rows h⟩
    | _ => exact h.elim
  | halt hl w' =>
    cases hl with
    | panic v => exact h
    | _ => exact h.elim

theorem wpListIn_by {F : Fence} (hF : LetsAll F) {n : Nat} {P : Program} {ops : Array Oper} {rest : List Oper} {o : Oper} {a : Act} {w : World} {Q : Exit → Act → World → Prop} (hg : o.guard = none) (hd : ∀ c, o.op ≠ .defer c)
    (h : ∀ K : Act → World → Prop, (∀ a w, wpListIn F n P ops Q rest a w → K a w) → o.wp P a w K Q) : wpListIn F n P ops Q (o :: rest) a w :=
  wpListIn_plain hg fun K hK => wpIn_op hF hd (h K hK)
theorem wpListIn_loadAll {F : Fence} (hF : LetsAll F) {n0 : Nat} {P : Program} {ops : Array Oper} {rest : List Oper} {o : Oper} {a : Act} {w : World} {Q : Exit → Act → World → Prop} (hgd : o.guard = none) (ty : TypeId) (x : Operand) (ho : o.op = .load ty x) (g n : Nat) (A : Array Value)
    (hx : a.eval x = .pointer (some ⟨g, 0, none⟩)) (hg : ObjAt w g A.toList) (ha : ∀ w, (isAgg ty).run P w = .ok true w) (hs : ∀ w, (sizeOf ty).run P w = .ok n w) (hn : A.size = n)
    (h : wpListIn F n0 P ops Q rest (a.put o.dst (.agg A)) w) : wpListIn F n0 P ops Q (o :: rest) a w := by
  refine wpListIn_by hF hgd (by rw [ho]; intro c e; cases e) fun K hK => ?_
  have he := execLoadAll (P := P) (o := o) (a := a) ty x ho g n A hx hg ha hs hn
  unfold Oper.wp
  rw [he]
  exact hK _ _ h
theorem wpListIn_loadRow {F : Fence} (hF : LetsAll F) {n0 : Nat} {P : Program} {ops : Array Oper} {rest : List Oper} {o : Oper} {a : Act} {w : World} {Q : Exit → Act → World → Prop} (hgd : o.guard = none) (ty : TypeId) (x : Operand) (ho : o.op = .load ty x) (g q n : Nat) (A : Array Value)
    (hx : a.eval x = .pointer (some ⟨g, q, none⟩)) (hg : CellsAt w g q A.toList) (ha : ∀ w, (isAgg ty).run P w = .ok true w) (hs : ∀ w, (sizeOf ty).run P w = .ok n w) (hn : A.size = n)
    (h : wpListIn F n0 P ops Q rest (a.put o.dst (.agg A)) w) : wpListIn F n0 P ops Q (o :: rest) a w := by
  refine wpListIn_by hF hgd (by rw [ho]; intro c e; cases e) fun K hK => ?_
  have he := execLoadRow (P := P) (o := o) (a := a) ty x ho g q n A hx hg ha hs hn
  unfold Oper.wp
  rw [he]
  exact hK _ _ h
theorem wpListIn_storeAll {F : Fence} (hF : LetsAll F) {n0 : Nat} {P : Program} {ops : Array Oper} {rest : List Oper} {o : Oper} {a : Act} {w : World} {Q : Exit → Act → World → Prop} (hgd : o.guard = none) (ty : TypeId) (x y : Operand) (ho : o.op = .store ty x y) (old A : Array Value) (n : Nat)
    (hx : a.eval x = .pointer (some ⟨w.heap.size, 0, none⟩)) (hy : a.eval y = .agg A) (hi : (P.info? ty).map (·.size) = some n) (hold : old.size = n) (hn : A.size = n) (h1 : A.all (·.oneCell') = true)
    (h : wpListIn F n0 P ops Q rest (a.put o.dst undef) (w.alloc (.cells A ty))) : wpListIn F n0 P ops Q (o :: rest) a (w.alloc (.cells old ty)) := by
  refine wpListIn_by hF hgd (by rw [ho]; intro c e; cases e) fun K hK => ?_
  refine wp_store_row ty x y ho w.heap.size A hx hy ty old (heap_alloc_last w _) (by rw [hi, hn]) (by rw [hold, hn]) h1 ?_
  rw [World.setRow_alloc_new]
  exact hK _ _ h
end Go.Proofs.YtelgaglnmcggkaaGreatDoor
