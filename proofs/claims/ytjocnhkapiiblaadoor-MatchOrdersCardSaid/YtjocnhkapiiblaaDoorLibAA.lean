/- Contracts and plain words that the laws' proofs stand on, put together. -/
import Derived.Laws.Strings3
import Derived.Laws.DeepStrings4
import Derived.Laws.Concat
import Derived.ProofKit
import Derived.OpenShut
import Derived.Lib.ConvBytes
import Derived.Laws.IdiomStrings
import Derived.WalkKit
import Derived.WalkLawsBesides
import Derived.WalkSpells
import Derived.Lib.Hide
import Derived.Laws.AppendOwnNone
import Derived.Maps.AppendAt
import Derived.Deep.Slices
import Derived.Deep.Fields
import Derived.Deep.Grids
import Derived.ChangeSame
import Derived.Laws.Rows
import Derived.Sort.Grow
import Derived.Test.YtjocnhkapiiblaaDoorStab
import Derived.Test.YtjocnhkapiiblaaDoorChecked
import Derived.Shelf.SlSortCmp.InsertionK
import Derived.Shelf.SlSortCmp.KitK
import Derived.Sort.WalkB2
import Derived.Sort.WalkB12
import Derived.Deep.LoopGhost
import Derived.Shelf.GgSortFunc.InsertionK
import Derived.Test.YtjocnhkapiiblaaDoorShelf
import Derived.Shelf.Strings.BuilderK
import Derived.Shelf.Strings.BuilderCap
import Derived.Test.YtjocnhkapiiblaaDoorRows
import Derived.ShutString
import Derived.ChangeOld
import Derived.Below
import Derived.JoinedCond
/- Strings as lists of bytes: what a walk is told of them. No program in it. -/
namespace Go.Proofs.YtjocnhkapiiblaaDoor
open Go.RowKit
set_option linter.unusedVariables false

/-- The string of these bytes. -/
def str (l : List UInt8) : ByteArray := ⟨l.toArray⟩

theorem str_of (s : ByteArray) : s = str s.data.toList := by cases s; simp [str]
theorem str_size (l : List UInt8) : (str l).size = l.length := by simp [str, ByteArray.size]
theorem str_toList (l : List UInt8) : (str l).toList = l := ByteArray.toList_mk l
theorem str_data (l : List UInt8) : (str l).data.toList = l := by simp [str]
theorem str_extract (l : List UInt8) (a b : Nat) : (str l).extract a b = str ((l.drop a).take (b - a)) := ByteArray.extract_mk l a b
theorem str_append (a b : List UInt8) : str a ++ str b = str (a ++ b) := by
  apply ByteArray.ext
  simp [str, ByteArray.data_append]
theorem str_inj {a b : List UInt8} (h : str a = str b) : a = b := by
  have := congrArg ByteArray.toList h
  rwa [str_toList, str_toList] at this
theorem str_get (l : List UInt8) (k : Nat) (h : k < (str l).size) : (str l)[k] = l.getD k 0 := by
  have h' : k < l.length := by rw [← str_size]; exact h
  show l.toArray[k]'(by simpa using h') = l.getD k 0
  simp [List.getD, h']
theorem getD_map {α β : Type} (f : α → β) (l : List α) (d : α) (k : Nat) : (l.map f).getD k (f d) = f (l.getD k d) := by
  simp [List.getD, List.getElem?_map]

theorem findIdx_at {l : List UInt8} {p : UInt8 → Bool} {k : Nat} (h : ∀ j, j < k → p (l.getD j 0) = false) (hk : k < l.length) (hp : p (l.getD k 0) = true) : l.findIdx p = k := by
  have e : ∀ j (hj : j < l.length), l.getD j 0 = l[j] := fun j hj => by simp [List.getD, hj]
  refine (List.findIdx_eq hk).2 ⟨by rw [← e k hk]; exact hp, fun j hj => ?_⟩
  rw [← e j (by omega)]
  exact h j hj
theorem findIdx_end {l : List UInt8} {p : UInt8 → Bool} (h : ∀ j, j < l.length → p (l.getD j 0) = false) : l.findIdx p = l.length := by
  rw [List.findIdx_eq_length]
  intro x hx
  obtain ⟨j, hj, rfl⟩ := List.getElem_of_mem hx
  have e : l.getD j 0 = l[j] := by simp [List.getD, hj]
  rw [← e]
  exact h j hj

section
variable {P : Program}
/-- A byte of a string. -/
theorem run_index_str (w : World) (t : TypeId) (l : List UInt8) (K : IntKind) (k : Nat) (ht : P.underlying t = some .string) (h : k < l.length) :
    (Instr.index t (.string (str l)) (.int K (k : Int))).run P w = .ok (.int .u8 ((l.getD k 0).toNat : Int)) w := by
  have hs : k < (str l).size := by rw [str_size]; exact h
  rw [run_index_string w t (str l) K k ht, dif_pos ⟨by omega, by omega⟩]
  have := str_get l k hs
  simp only [Int.toNat_natCast, this]
theorem run_add_str (w : World) (a b : List UInt8) (h : a.length + b.length ≤ 9223372036854775807) : (Op.stringOp .add (str a) (str b)).run P w = .ok (.string (str (a ++ b))) w := by
  rw [run_string_add_sum w _ _ (by rw [str_size, str_size]; exact h), str_append]
end

/-- The row of bytes that a conversion of a string made, as long as the string at least. -/
def BRow (w : World) (g : Nat) (l : List UInt8) : Prop :=
  ∃ cur e fz, w.heap[g]? = some (.cells cur e fz) ∧ l.length ≤ cur.size ∧ cur.size ≤ fz.1 ∧ ∀ i, i < l.length → cur[i]? = some (.int .u8 ((l.getD i 0).toNat : Int))

theorem BRow.new (w : World) (e : TypeId) (l : List UInt8) : BRow (Lib.bytesWorld w e (str l)) w.heap.size l := by
  have hsz : l.length ≤ (Lib.bytesCells w e (str l)).size := by
    unfold Lib.bytesCells
    simp [str]
  refine ⟨_, _, _, Lib.bytesWorld_at_new w e (str l), hsz, Nat.le_refl _, fun i hi => ?_⟩
  have h := Lib.bytesWorld_cell w e (str l) i (by rw [str_size]; exact hi)
  rw [cell_of_row _ _ _ _ _ _ (Lib.bytesWorld_at_new w e (str l)), str_data] at h
  exact h
theorem BRow.lt {w : World} {g : Nat} {l : List UInt8} (h : BRow w g l) : g < w.heap.size := by
  obtain ⟨cur, e, fz, hg, _⟩ := h
  rcases Nat.lt_or_ge g w.heap.size with hlt | hge
  · exact hlt
  · rw [Array.getElem?_eq_none hge] at hg
    cases hg
theorem BRow.cell {w : World} {g : Nat} {l : List UInt8} (h : BRow w g l) (i : Nat) (hi : i < l.length) : w.cell? ⟨g, i, none⟩ = some (.int .u8 ((l.getD i 0).toNat : Int)) := by
  obtain ⟨cur, e, fz, hg, _, _, hc⟩ := h
  rw [cell_of_row _ _ _ _ _ _ hg]
  exact hc i hi
theorem BRow.free {w : World} {g : Nat} {l : List UInt8} (h : BRow w g l) (i : Nat) (hi : i < l.length) : w.frozen? ⟨g, i, none⟩ = false := by
  obtain ⟨cur, e, ⟨f1, f2⟩, hg, h1, h2, _⟩ := h
  simp only [World.frozen?, hg]
  have : ¬ f1 ≤ i := by simp only [] at h2; omega
  simp [this]
theorem BRow.set {w : World} {g : Nat} {l : List UInt8} (h : BRow w g l) (i : Nat) (x : UInt8) : BRow (w.setCell ⟨g, i, none⟩ (.int .u8 (x.toNat : Int))) g (l.set i x) := by
  obtain ⟨cur, e, fz, hg, h1, h2, hc⟩ := h
  refine ⟨cur.setIfInBounds i (.int .u8 (x.toNat : Int)), e, fz, by simp [World.setCell, Array.getElem?_modify, hg], by simpa using h1, by simpa using h2, fun j hj => ?_⟩
  rw [List.length_set] at hj
  rw [Array.getElem?_setIfInBounds]
  by_cases hij : i = j
  · subst hij
    have : i < cur.size := by omega
    simp [this, List.getD, hj]
  · simp only [hij, if_false]
    rw [hc j hj]
    simp [List.getD, hij]
theorem BRow.back {P : Program} {w : World} {g : Nat} {l : List UInt8} (h : BRow w g l) (src dst e : TypeId) (n cap : Nat) (hs : P.underlying src = some (.slice e)) (he : P.underlying e = some (.int .u8)) (hd : P.underlying dst = some .string) (hn : l.length = n) :
    (convert src dst (.slice (some ⟨g, 0, none⟩) n cap)).run P w = .ok (.string (str l)) w := by
  subst hn
  refine run_convert_bytes_back w src dst e ⟨g, 0, none⟩ cap l hs he hd fun j hj => ?_
  have := h.cell j hj
  simp only [List.getD, List.getElem?_eq_getElem hj, Option.getD_some] at this
  rw [← this]
  congr 1
  simp [Addr.add]
  exact fun h => h.symm
theorem one_back {P : Program} (w : World) (src dst e : TypeId) (x : UInt8) (v : Int) (hv : v = (x.toNat : Int)) (hs : P.underlying src = some (.slice e)) (he : P.underlying e = some (.int .u8)) (hd : P.underlying dst = some .string) :
    (convert src dst (.slice (some ⟨w.heap.size, 0, none⟩) 1 1)).run P (w.alloc (.cells #[.int .u8 v] e)) = .ok (.string (str [x])) (w.alloc (.cells #[.int .u8 v] e)) := by
  subst hv
  refine run_convert_bytes_back (w.alloc (.cells #[.int .u8 (x.toNat : Int)] e)) src dst e ⟨w.heap.size, 0, none⟩ 1 [x] hs he hd fun j hj => ?_
  have : j = 0 := by simp at hj; exact hj
  subst this
  simp [Addr.add]
theorem take_snoc {l : List UInt8} {k : Nat} (hk : k < l.length) : l.take (k + 1) = l.take k ++ [l.getD k 0] := by
  rw [List.take_succ_eq_append_getElem hk]
  simp [List.getD, hk]
theorem cut_one {l : List UInt8} {k : Nat} (hk : k < l.length) : (l.drop k).take (k + 1 - k) = [l.getD k 0] := by
  have e : k + 1 - k = 1 := by omega
  rw [e, List.drop_eq_getElem_cons hk]
  show [l[k]] = _
  simp [List.getD, hk]
theorem set_low {l : List UInt8} {f : UInt8 → UInt8} {k : Nat} (hk : k < l.length) : ((l.take k).map f ++ l.drop k).set k (f (l.getD k 0)) = (l.take (k + 1)).map f ++ l.drop (k + 1) := by
  have hd : l.drop k = l.getD k 0 :: l.drop (k + 1) := by
    rw [List.drop_eq_getElem_cons hk]
    simp [List.getD, hk]
  have ht : l.take (k + 1) = l.take k ++ [l.getD k 0] := by
    rw [List.take_succ_eq_append_getElem hk]
    simp [List.getD, hk]
  rw [hd, ht, List.set_append_right _ _ (by simp; omega)]
  have : (List.map f (List.take k l)).length = k := by simp; omega
  rw [this]
  simp
end Go.Proofs.YtjocnhkapiiblaaDoor

/- Plain facts on whole numbers and their bits, with no program in them. -/
namespace Go.Proofs.YtjocnhkapiiblaaDoor
open Go.RowKit
set_option linter.unusedVariables false

/-- The number whose bytes, the lowest first, a list is. -/
def leNum : List Int → Int
  | [] => 0
  | x :: l => x + 256 * leNum l
def IsBytes (l : List Int) : Prop := ∀ x ∈ l, 0 ≤ x ∧ x ≤ 255
theorem IsBytes.getD {l : List Int} (h : IsBytes l) (i : Nat) : 0 ≤ l.getD i 0 ∧ l.getD i 0 ≤ 255 := by
  rw [List.getD_eq_getElem?_getD]
  rcases Nat.lt_or_ge i l.length with hi | hi
  · rw [List.getElem?_eq_getElem hi]; exact h _ (List.getElem_mem hi)
  · rw [List.getElem?_eq_none hi]; simp
theorem leNum_bd : ∀ (l : List Int), IsBytes l → 0 ≤ leNum l ∧ leNum l < 256 ^ l.length
  | [], _ => by simp [leNum]
  | x :: l, h => by
    have h1 := leNum_bd l (fun y hy => h y (List.mem_cons_of_mem _ hy))
    have h2 := h x List.mem_cons_self
    rw [List.length_cons, Int.pow_succ, leNum]
    generalize (256 : Int) ^ l.length = P at h1 ⊢
    omega
theorem leNum_snoc : ∀ (l : List Int) (x : Int), leNum (l ++ [x]) = leNum l + x * 256 ^ l.length
  | [], x => by simp [leNum]
  | y :: l, x => by
    rw [List.cons_append, leNum, leNum_snoc l x, leNum, List.length_cons, Int.pow_succ, Int.mul_add, Int.add_assoc, ← Int.mul_assoc, Int.mul_comm 256 x, Int.mul_assoc, Int.mul_comm 256 (256 ^ _)]
theorem getD_of_lt (l : List Int) (k : Nat) (h : k < l.length) : l.getD k 0 = l[k] := by simp [List.getD_eq_getElem?_getD, h]
theorem leNum_take (l : List Int) (k : Nat) (h : k < l.length) : leNum (l.take (k + 1)) = leNum (l.take k) + l.getD k 0 * 256 ^ k := by
  rw [List.take_succ_eq_append_getElem h, leNum_snoc, List.length_take_of_le (by omega), getD_of_lt l k h]
theorem leNum_drop (l : List Int) (k : Nat) (h : k < l.length) : leNum (l.drop k) = l.getD k 0 + 256 * leNum (l.drop (k + 1)) := by
  rw [List.drop_eq_getElem_cons h, leNum, getD_of_lt l k h]
theorem IsBytes.take {l : List Int} (h : IsBytes l) (k : Nat) : IsBytes (l.take k) := fun x hx => h x (List.mem_of_mem_take hx)
theorem IsBytes.drop {l : List Int} (h : IsBytes l) (k : Nat) : IsBytes (l.drop k) := fun x hx => h x (List.mem_of_mem_drop hx)
theorem pow256 (k : Nat) : (256 : Int) ^ k = ((2 ^ (8 * k) : Nat) : Int) := by
  rw [Nat.pow_mul, Int.natCast_pow]; rfl
theorem pow256_le (k j : Nat) (h : k ≤ j) : (256 : Int) ^ k ≤ 256 ^ j := by
  rw [pow256, pow256]
  exact Int.ofNat_le.mpr (Nat.pow_le_pow_right (by decide) (by omega))
theorem leNum_le (l : List Int) (h : IsBytes l) (hl : l.length ≤ 8) : 0 ≤ leNum l ∧ leNum l ≤ 18446744073709551615 := by
  have h1 := leNum_bd l h
  have h2 := pow256_le _ _ hl
  have h3 : (256 : Int) ^ 8 = 18446744073709551616 := by decide
  omega
theorem or_join (n x : Int) (k : Nat) (h0 : 0 ≤ n) (h1 : n < 256 ^ k) (h2 : 0 ≤ x) (h3 : x ≤ 255) (hk : k ≤ 7) :
    bits BinOp.or IntKind.u64 n (IntKind.u64.wrap (x * 2 ^ (8 * k))) = n + x * 256 ^ k := by
  obtain ⟨N, rfl⟩ := Int.eq_ofNat_of_zero_le h0
  obtain ⟨X, rfl⟩ := Int.eq_ofNat_of_zero_le h2
  rw [pow256] at h1 ⊢
  have e1 : (X : Int) * 2 ^ (8 * k) = ((X * 2 ^ (8 * k) : Nat) : Int) := by push_cast; rfl
  have e7 : 2 ^ (8 * k) ≤ 2 ^ 56 := Nat.pow_le_pow_right (by decide) (by omega)
  have e8 : X * 2 ^ (8 * k) ≤ 255 * 2 ^ 56 := Nat.mul_le_mul (by omega) e7
  have e9 : N < 2 ^ (8 * k) := by omega
  rw [e1, IntKind.wrap_u64]
  have e2 : ((X * 2 ^ (8 * k) : Nat) : Int) % 18446744073709551616 = ((X * 2 ^ (8 * k) : Nat) : Int) := by omega
  rw [e2, u64_or_nat _ _ (by omega) (by omega), Nat.or_comm, nat_join (8 * k) (X * 2 ^ (8 * k)) N (Nat.mul_mod_left _ _) e9]
  push_cast
  omega
end Go.Proofs.YtjocnhkapiiblaaDoor

/- Facts on slices in memory, with no program in them. -/
namespace Go.Proofs.YtjocnhkapiiblaaDoor
open Go.RowKit
set_option linter.unusedVariables false

/-- The cells from an address on read as these values; where there are none, the address may be any, or nil. -/
def Reads (w : World) (a : Option Addr) (xs : List Value) : Prop :=
  ∀ (i : Nat) (v : Value), xs[i]? = some v → ∃ b off, a = some ⟨b, off, none⟩ ∧ w.cell? ⟨b, off + i, none⟩ = some v

theorem Reads.nil (w : World) (a : Option Addr) : Reads w a [] := fun i v h => by simp at h

theorem Reads.at {w : World} {a : Option Addr} {l : List Int} {k : IntKind} (h : Reads w a (l.map (Value.int k))) (i : Nat) (hi : i < l.length) :
    ∃ b off, a = some ⟨b, off, none⟩ ∧ w.cell? ⟨b, off + i, none⟩ = some (.int k (l.getD i 0)) :=
  h i _ (by simp [hi])

theorem Reads.same {w w' : World} {a : Option Addr} {xs : List Value} (h : Reads w a xs) (hs : ∀ x, w'.cell? x = w.cell? x) : Reads w' a xs := fun i v hv => by
  obtain ⟨b, off, e, hc⟩ := h i v hv
  exact ⟨b, off, e, (hs _).trans hc⟩

theorem Reads.below {w w' : World} {a : Option Addr} {xs : List Value} {B : Nat} (h : Reads w a xs) (hb : Below B w w') (hlt : ∀ x, a = some x → x.block < B) : Reads w' a xs := fun i v hv => by
  obtain ⟨b, off, e, hc⟩ := h i v hv
  exact ⟨b, off, e, (hb.cell (p := ⟨b, off + i, none⟩) (show b < B from hlt _ e)).trans hc⟩

/-- A cell that is read lies in a block that is there. -/
theorem cell_lt {w : World} {x : Addr} {v : Value} (h : w.cell? x = some v) : x.block < w.heap.size := by
  by_cases c : x.block < w.heap.size
  · exact c
  · have e : w.heap[x.block]? = none := Array.getElem?_eq_none (by omega)
    simp [World.cell?, e] at h

theorem Reads.below' {w w' : World} {a : Option Addr} {xs : List Value} (h : Reads w a xs) (hb : Below w.heap.size w w') : Reads w' a xs := fun i v hv => by
  obtain ⟨b, off, e, hc⟩ := h i v hv
  exact ⟨b, off, e, (hb.cell (cell_lt hc)).trans hc⟩

theorem owns_reads {w : World} {base : Nat} {e : TypeId} {v : Value} {n : Nat} {xs : List Value} (h : w.ownsRow base e 1 v n xs) :
    ∃ a cap, v = .slice a n cap ∧ Reads w a xs ∧ n ≤ cap ∧ cap ≤ maxLen ∧ (∀ x, a = some x → base ≤ x.block ∧ x.block < w.heap.size) ∧ xs.length = n := by
  have hl := h.1
  rw [Nat.mul_one] at hl
  rcases h.2 with ⟨rfl, rfl⟩ | ⟨g, cap, cur, rfl, hb, hg, hnc, hcm, _, _⟩
  · exact ⟨none, 0, rfl, fun i v hv => by rw [List.length_eq_zero_iff.mp hl] at hv; simp at hv, Nat.le_refl _, by unfold maxLen; omega, by simp, hl⟩
  · refine ⟨some ⟨g, 0, none⟩, cap, rfl, fun i v hv => ⟨g, 0, rfl, ?_⟩, hnc, hcm, fun x hx => ?_, hl⟩
    · have hi : i < xs.length := by
        rcases Nat.lt_or_ge i xs.length with h | h
        · exact h
        · rw [List.getElem?_eq_none h] at hv; cases hv
      rw [Nat.zero_add, h.cellAt i (by omega), hv]
    · cases hx
      refine ⟨hb, ?_⟩
      rcases Nat.lt_or_ge g w.heap.size with h | h
      · exact h
      · rw [Array.getElem?_eq_none h] at hg; cases hg

theorem owns_base {w : World} {base base' : Nat} {e : TypeId} {size : Nat} {v : Value} {n : Nat} {xs : List Value} (h : w.ownsRow base e size v n xs) (hb : base' ≤ base) : w.ownsRow base' e size v n xs := by
  obtain ⟨h1, h2⟩ := h
  refine ⟨h1, ?_⟩
  rcases h2 with h2 | ⟨g, cap, cur, a, b, c⟩
  · exact .inl h2
  · exact .inr ⟨g, cap, cur, a, Nat.le_trans hb b, c⟩

theorem owns_below {w w' : World} {base B : Nat} {e : TypeId} {size : Nat} {v : Value} {n : Nat} {xs : List Value} (h : w.ownsRow base e size v n xs) (hb : Below B w w') (hB : w.heap.size ≤ B) : w'.ownsRow base e size v n xs := by
  obtain ⟨h1, h2⟩ := h
  refine ⟨h1, ?_⟩
  rcases h2 with h2 | ⟨g, cap, cur, a, b, c, d⟩
  · exact .inl h2
  · refine .inr ⟨g, cap, cur, a, b, ?_, d⟩
    have : g < w.heap.size := by
      rcases Nat.lt_or_ge g w.heap.size with h | h
      · exact h
      · rw [Array.getElem?_eq_none h] at c; cases c
    rw [hb.block g (by omega)]; exact c
end Go.Proofs.YtjocnhkapiiblaaDoor

/- Appending to a row of the call's own, for whatever is appended. No program in it. -/
namespace Go.Proofs.YtjocnhkapiiblaaDoor
open Go.RowKit
set_option linter.unusedVariables false

theorem grown_below {w w' : World} {base : Nat} {e : TypeId} {v : Value} {n size : Nat} {xs : List Value} (hown : w.ownsRow base e size v n xs) (hg : w.grownBy w' v.ownBlock) (hB : base ≤ w.heap.size) : Below base w w' :=
  (Below.refl _ _).grown hg hB fun k hk => (hown.lt k hk).1

/-- One value appended: it lies first in a new block of its own. -/
theorem wpList_append_one {P : Program} {wr : World} {ops : Array Oper} {rest : List Oper} {o : Oper} {a : Act} {Q : Exit → Act → World → Prop} (hgd : o.guard = none) (s x : Operand) (t : TypeId)
    (ho : o.op = .call { callee := .builtin .append, args := #[s, x], argTypes := #[t, t] })
    (e : TypeId) (i : TypeInfo) (z : Value) (bytes : Nat) (ht : P.underlying t = some (.slice e)) (hi : P.info? e = some i) (hz : i.zero = some z) (hsize : i.size = 1) (hby : i.bytes = bytes) (hzs : z.cells.size = 1)
    {base : Nat} {v : Value} {n : Nat} {xs : List Value} (hown : wr.ownsRow base e 1 v n xs) (hs : a.eval s = v)
    {y : Value} {t' : TypeId} (hx : a.eval x = .slice (some ⟨wr.heap.size, 0, none⟩) 1 1) (h1 : y.oneCell' = true)
    (h63 : n + 1 ≤ maxLen) (hbytes : (n + 1) * bytes ≤ 140737488355328) (hbase : base ≤ wr.heap.size)
    (h : ∀ v' w', w'.ownsRow base e 1 v' (n + 1) (xs ++ [y]) → Below base wr w' → wpList P ops Q rest (a.put o.dst v') w') : wpList P ops Q (o :: rest) a (wr.alloc (.cells #[y] t')) := by
  refine wpList_append_own _ hgd s x t ho base e i z 1 bytes ht hi hz hsize hby hzs (by decide) v n xs hs (hown.alloc _) ⟨wr.heap.size, 0, none⟩ 1 1 [y] hx rfl (cell_one_new _ _ _) (fun u hu => by simp at hu; subst hu; exact h1) h63 hbytes (by simp; omega) (fun v' w' h2 h3 _ => h v' w' h2 ?_)
  exact ((Below.refl _ _).alloc hbase _).grown h3 (by simp; omega) fun k hk => (hown.lt k hk).1

theorem Reads.cut {w : World} {b off : Nat} {xs ys : List Value} (h : Reads w (some ⟨b, off, none⟩) (xs ++ ys)) : Reads w (some ⟨b, off + xs.length, none⟩) ys := fun i v hv => by
  obtain ⟨b', off', e, hc⟩ := h (xs.length + i) v (by rw [List.getElem?_append_right (by omega)]; simpa using hv)
  cases e
  exact ⟨b, off + xs.length, rfl, by rw [Nat.add_assoc]; exact hc⟩
/-- What stands behind a cut 's[n:]', as the model writes its address. -/
theorem Reads.cut_if {w : World} {b off c : Nat} {xs ys : List Value} (h : Reads w (some ⟨b, off, none⟩) (xs ++ ys)) (q : Nat) (hq : xs.length = q) (hc : c = q → ys = []) :
    Reads w (if c = q then some ⟨b, off, none⟩ else some ⟨b, off + q, none⟩) ys := by
  subst hq
  by_cases e : c = xs.length
  · rw [hc e]; exact Reads.nil _ _
  · rw [if_neg e]; exact h.cut
theorem Reads.head {w : World} {a : Option Addr} {xs ys : List Value} (h : Reads w a (xs ++ ys)) : Reads w a xs := fun i v hv => by
  have hi : i < xs.length := by
    rcases Nat.lt_or_ge i xs.length with h | h
    · exact h
    · rw [List.getElem?_eq_none h] at hv; cases hv
  exact h i v (by rw [List.getElem?_append_left hi]; exact hv)

/-- A row of the call's own, as a slice that is read. -/
theorem owns_open {w : World} {base : Nat} {e : TypeId} {v : Value} {n : Nat} {xs : List Value} (h : w.ownsRow base e 1 v n xs) :
    ∃ a c, v = .slice a n c ∧ Reads w a xs ∧ (a = none → c = 0) ∧ n ≤ c ∧ c ≤ maxLen ∧ xs.length = n := by
  obtain ⟨a, c, rfl, h1, h2, h3, _, h5⟩ := owns_reads h
  refine ⟨a, c, rfl, h1, fun e0 => ?_, h2, h3, h5⟩
  subst e0
  rcases h.2 with ⟨hv, _⟩ | ⟨g, cap, cur, hv, _⟩
  · cases hv; rfl
  · cases hv

/-- A slice of the call's own, in new memory: its values are xs, N of them. -/
def Owned (base : Nat) (e : TypeId) (a : Option Addr) (n c : Nat) (xs : List Value) (w : World) : Prop :=
  w.ownsRow base e 1 (.slice a n c) n xs ∧ Reads w a xs ∧ (a = none → c = 0) ∧ n ≤ c ∧ c ≤ maxLen ∧ xs.length = n
theorem Owned.reads {base : Nat} {e : TypeId} {a : Option Addr} {n c : Nat} {xs : List Value} {w : World} (h : Owned base e a n c xs w) : Reads w a xs := h.2.1
theorem Owned.nil0 {base : Nat} {e : TypeId} {a : Option Addr} {n c : Nat} {xs : List Value} {w : World} (h : Owned base e a n c xs w) : a = none → c = 0 := h.2.2.1
theorem Owned.len {base : Nat} {e : TypeId} {a : Option Addr} {n c : Nat} {xs : List Value} {w : World} (h : Owned base e a n c xs w) : xs.length = n := h.2.2.2.2.2
theorem Owned.head {base : Nat} {e : TypeId} {a : Option Addr} {n c : Nat} {xs : List Value} {w : World} (h : Owned base e a n c xs w) (hn : 1 ≤ n) : ∃ g, a = some ⟨g, 0, none⟩ ∧ base ≤ g ∧ g < w.heap.size := by
  rcases h.1.2 with ⟨hv, hx⟩ | ⟨g, cap, cur, hv, hb, hg, _⟩
  · cases hv
    omega
  · cases hv
    refine ⟨g, rfl, hb, ?_⟩
    rcases Nat.lt_or_ge g w.heap.size with h | h
    · exact h
    · rw [Array.getElem?_eq_none h] at hg; cases hg
theorem Owned.below {base B : Nat} {e : TypeId} {a : Option Addr} {n c : Nat} {xs : List Value} {w w' : World} (h : Owned base e a n c xs w) (hb : Below B w w') (hB : w.heap.size ≤ B) : Owned base e a n c xs w' :=
  ⟨owns_below h.1 hb hB, h.2.1.below' (hb.mono hB), h.2.2⟩
theorem Owned.base {base base' : Nat} {e : TypeId} {a : Option Addr} {n c : Nat} {xs : List Value} {w : World} (h : Owned base e a n c xs w) (hb : base' ≤ base) : Owned base' e a n c xs w := ⟨owns_base h.1 hb, h.2⟩
theorem Owned.of {w : World} {base : Nat} {e : TypeId} {v : Value} {n : Nat} {xs : List Value} (h : w.ownsRow base e 1 v n xs) : ∃ a c, v = .slice a n c ∧ Owned base e a n c xs w := by
  obtain ⟨a, c, rfl, h1⟩ := owns_open h
  exact ⟨a, c, rfl, h, h1⟩

/-- A literal's values, in a new block. -/
theorem reads_new (w : World) (xs : List Value) (e : TypeId) : Reads (w.alloc (.cells xs.toArray e)) (some ⟨w.heap.size, 0, none⟩) xs := fun i v hv => by
  refine ⟨w.heap.size, 0, rfl, ?_⟩
  rw [Nat.zero_add, World.cell?_alloc_at _ _ _ _ rfl]
  simpa using hv
theorem below_alloc (w : World) (o : Obj) : Below w.heap.size w (w.alloc o) := (Below.refl _ _).alloc (Nat.le_refl _) _

/-- A guarded operation whose guard says yes goes as one without a guard. -/
theorem wpList_guard {P : Program} {w : World} {ops : Array Oper} {rest : List Oper} {o : Oper} {a : Act} {Q : Exit → Act → World → Prop} (hw : Region.wanted o (yielded ops a.tmps) = true)
    (h : wpList P ops Q ({ o with guard := none } :: rest) a w) : wpList P ops Q (o :: rest) a w := by
  unfold wpList at h ⊢
  rw [if_pos hw]
  rw [if_pos (by simp [Region.wanted])] at h
  exact h
theorem Reads.drewN {w : World} {a : Option Addr} {xs : List Value} (h : Reads w a xs) (n : Nat) : Reads (w.drewN n) a xs := h.same (fun x => by simp)
end Go.Proofs.YtjocnhkapiiblaaDoor

/- Appending to a slice of the call's own, and where the new slice lies. No program in it. -/
namespace Go.Proofs.YtjocnhkapiiblaaDoor
open Go.RowKit
set_option linter.unusedVariables false

/-- The block that a slice lies in is none of these. -/
def Apart (a : Option Addr) (B : Nat) : Prop := ∀ x, a = some x → x.block ≠ B
theorem Apart.none (B : Nat) : Apart none B := fun x h => by cases h

/-- All that was there stays, but for the row of the slice itself. -/
def GrownBut (w w' : World) (a : Option Addr) : Prop := w.heap.size ≤ w'.heap.size ∧ ∀ k, k < w.heap.size → Apart a k → w'.heap[k]? = w.heap[k]?
theorem GrownBut.cell {w w' : World} {a : Option Addr} (h : GrownBut w w' a) {x : Addr} {v : Value} (hc : w.cell? x = some v) (ha : Apart a x.block) : w'.cell? x = some v :=
  (World.cell?_of_block (h.2 x.block (cell_lt hc) ha)).trans hc
theorem GrownBut.frozen {w w' : World} {a : Option Addr} (h : GrownBut w w' a) {x : Addr} (hx : x.block < w.heap.size) (ha : Apart a x.block) : w'.frozen? x = w.frozen? x :=
  World.frozen?_of_block (h.2 x.block hx ha)

theorem Owned.setCell {base : Nat} {e : TypeId} {a : Option Addr} {n c : Nat} {xs : List Value} {w : World} (h : Owned base e a n c xs w) {p : Addr} (ha : Apart a p.block) (u : Value) : Owned base e a n c xs (w.setCell p u) := by
  have hne : (Value.slice a n c).ownBlock ≠ some p.block := fun e0 => by
    cases a with
    | none => simp [Value.ownBlock] at e0
    | some x => exact ha x rfl (by simpa [Value.ownBlock] using e0)
  obtain ⟨a', c', he, h2⟩ := Owned.of (ownsRow_setCell_other h.1 hne u)
  cases he
  exact h2
end Go.Proofs.YtjocnhkapiiblaaDoor

/- Structs and slices of structs that came in, field by field. No program in it. -/
namespace Go.Proofs.YtjocnhkapiiblaaDoor
open Go.ChangeShapes Go.WideShapes Go.RowKit
set_option linter.unusedVariables false

section
variable {H : Type} {enc : TypeId × Value → H} {P : Program} {w : World} {base : Nat} {spare : Nat → Bool} {held : Bool}

/-- A struct of fields of one cell each: every cell is read by its field's type. -/
theorem fields_of {e : TypeId} {fs : Array Field} {fuel : Nat} {cs : List Value} {x : DataW H × List MemPlace} (hs : P.underlying e = some (.struct fs)) (hone : Go.Deep.oneCellFields P fs = true) (hC : P.cellsOf e = fs.size)
    (h : DataW.trod enc P w base spare held fuel e cs = some x) : cs.length = fs.size ∧ ∃ n, ∀ (j : Nat) (f : Field) (v : Value), fs[j]? = some f → cs[j]? = some v → ∃ y, DataW.trod enc P w base spare held n f.type [v] = some y := by
  obtain ⟨ys, n, -, -, hlen, hyl, hf⟩ := DataW.trod_struct hs h
  refine ⟨hlen.trans hC, n, fun j f v hj hv => ?_⟩
  obtain ⟨ho, hk⟩ := Go.Deep.hone_of hone j f hj
  have hjl : j < fs.size := (Array.getElem?_eq_some_iff.1 hj).1
  have h1 := hf j f hj
  obtain ⟨hjc, hve⟩ := List.getElem?_eq_some_iff.1 hv
  rw [ho, hk, List.drop_eq_getElem_cons hjc, hve, List.take_succ_cons, List.take_zero, List.getElem?_eq_getElem (by omega)] at h1
  exact ⟨_, h1⟩

/-- A slice of structs: where its elements' cells lie, and that each element is read. -/
theorem elems_of {t e : TypeId} (z : Nat) {fuel : Nat} {cs : List Value} {x : DataW H × List MemPlace} (ht : P.underlying t = some (.slice e)) (hC : P.cellsOf e = z) (hp : 0 < z)
    (h : DataW.trod enc P w base spare held fuel t cs = some x) :
    ∃ (a : Option Addr) (len cap n : Nat), cs = [.slice a len cap] ∧ len ≤ cap ∧ cap ≤ maxLen ∧ (a = none → cap = 0) ∧
      ∀ i, i < len → ∃ (b off : Nat) (cs' : List Value) (y : DataW H × List MemPlace), a = some ⟨b, off, none⟩ ∧ cs'.length = z ∧ (∀ j v, cs'[j]? = some v → w.cell? ⟨b, off + i * z + j, none⟩ = some v) ∧ DataW.trod enc P w base spare held n e cs' = some y := by
  rcases Go.Deep.open_slice ht h with ⟨rfl, -⟩ | ⟨a, len, cap, m, n, D, Pl, rfl, hb, hl, hm, hmm, -, hi⟩
  · exact ⟨none, 0, 0, 0, rfl, Nat.le_refl _, by unfold maxLen; omega, fun _ => rfl, fun i h => by omega⟩
  · refine ⟨some a, len, cap, n, rfl, hl, hm, (fun h => by cases h), fun i hil => ?_⟩
    have him : i < m := by rw [hmm]; split <;> omega
    obtain ⟨cs', hc, hy⟩ := hi i him
    obtain ⟨_, hcl, hat⟩ := World.cells?_some hc
    rw [hC] at hcl hat
    obtain ⟨b, off, spot⟩ := a
    obtain ⟨cs0, hc0, -⟩ := hi 0 (by omega)
    obtain ⟨_, hcl0, hat0⟩ := World.cells?_some hc0
    rw [hC] at hcl0 hat0
    have h0 := hat0 0 hp
    rw [List.getElem?_eq_getElem (by omega)] at h0
    have hspot : spot = none := by simpa [Addr.add] using World.cell?_spot h0
    subst hspot
    refine ⟨b, off, cs', _, rfl, hcl, fun j v hv => ?_, hy⟩
    have hjl : j < z := by
      have := (List.getElem?_eq_some_iff.1 hv).1
      omega
    have h1 := (hat j hjl).trans hv
    rw [Go.Deep.add_add] at h1
    have hA : (⟨b, off, none⟩ : Addr).add (i * z + j) = ⟨b, off + i * z + j, none⟩ := by
      by_cases h0 : i * z + j = 0
      · have e : off + i * z + j = off := by omega
        rw [h0, e]
        simp [Addr.add]
      · simp only [Addr.add, if_neg h0, Nat.add_assoc]
    rw [hA] at h1
    exact h1
end

end Go.Proofs.YtjocnhkapiiblaaDoor

/- Slices of elements of several cells: rows that are read, rows of the call's own, appending to them; structs of strings, numbers and flags, cell by cell. No program in it. -/
namespace Go.Proofs.YtjocnhkapiiblaaDoor
open Go.ChangeShapes Go.WideShapes Go.RowKit
set_option linter.unusedVariables false

/-- All elements' cells, one behind the other. -/
def flatC {α : Type} (enc : α → List Value) (P : List α) : List Value := P.flatMap enc

theorem flatC_len {α : Type} {enc : α → List Value} {z : Nat} (hz : ∀ x, (enc x).length = z) : ∀ P : List α, (flatC enc P).length = P.length * z
  | [] => by simp [flatC]
  | x :: r => by
    have := flatC_len hz r
    unfold flatC at *
    rw [List.flatMap_cons, List.length_append, this, hz, List.length_cons, Nat.add_mul]
    omega

theorem flatC_app {α : Type} {enc : α → List Value} (P Q : List α) : flatC enc (P ++ Q) = flatC enc P ++ flatC enc Q := by
  unfold flatC
  exact List.flatMap_append

theorem flatC_one {α : Type} {enc : α → List Value} (x : α) : flatC enc [x] = enc x := by simp [flatC]

theorem flatC_at {α : Type} {enc : α → List Value} {z : Nat} (hz : ∀ x, (enc x).length = z) : ∀ (P : List α) (i : Nat) (x : α) (j : Nat) (v : Value), P[i]? = some x → (enc x)[j]? = some v → (flatC enc P)[i * z + j]? = some v
  | [], i, x, j, v, h, hv => by simp at h
  | y :: r, 0, x, j, v, h, hv => by
    simp only [List.getElem?_cons_zero, Option.some.injEq] at h
    subst h
    unfold flatC
    rw [List.flatMap_cons, Nat.zero_mul, Nat.zero_add, List.getElem?_append_left (List.getElem?_eq_some_iff.1 hv).1]
    exact hv
  | y :: r, i + 1, x, j, v, h, hv => by
    have := flatC_at hz r i x j v (by simpa using h) hv
    unfold flatC at *
    have hl := hz y
    rw [List.flatMap_cons, List.getElem?_append_right (by rw [hl, Nat.add_mul]; omega), hl]
    have e : (i + 1) * z + j - z = i * z + j := by rw [Nat.add_mul]; omega
    rw [e]
    exact this

/-- A slice of elements of z cells each, that is read. -/
structure RowOf {α : Type} (enc : α → List Value) (z : Nat) (w : World) (a : Option Addr) (len cap : Nat) (P : List α) : Prop where
  leq : P.length = len
  cle : len ≤ cap
  capm : cap ≤ maxLen
  nil0 : a = none → cap = 0
  at_ : ∀ (i : Nat) (x : α), P[i]? = some x → ∃ g off, a = some ⟨g, off, none⟩ ∧ ∀ (j : Nat) (v : Value), (enc x)[j]? = some v → w.cell? ⟨g, off + i * z + j, none⟩ = some v

theorem RowOf.below {α : Type} {enc : α → List Value} {z : Nat} {w w' : World} {a : Option Addr} {len cap : Nat} {P : List α} (h : RowOf enc z w a len cap P) (hb : Below w.heap.size w w') : RowOf enc z w' a len cap P :=
  ⟨h.leq, h.cle, h.capm, h.nil0, fun i x hx => by
    obtain ⟨g, off, e, hc⟩ := h.at_ i x hx
    exact ⟨g, off, e, fun j v hv => (hb.cell (p := ⟨g, off + i * z + j, none⟩) (cell_lt (hc j v hv))).trans (hc j v hv)⟩⟩

theorem RowOf.at {α : Type} {enc : α → List Value} {z : Nat} {w : World} {a : Option Addr} {len cap : Nat} {P : List α} (h : RowOf enc z w a len cap P) (k : Nat) (hk : k < len) :
    ∃ x g off, P[k]? = some x ∧ a = some ⟨g, off, none⟩ ∧ ∀ (j : Nat) (v : Value), (enc x)[j]? = some v → w.cell? ⟨g, off + k * z + j, none⟩ = some v := by
  have hk' : k < P.length := by rw [h.leq]; exact hk
  obtain ⟨g, off, e, hc⟩ := h.at_ k P[k] (List.getElem?_eq_getElem hk')
  exact ⟨P[k], g, off, List.getElem?_eq_getElem hk', e, hc⟩

/-- A slice of the call's own, in new memory, of elements of z cells each. -/
def OwnZ {α : Type} (enc : α → List Value) (z base : Nat) (e : TypeId) (a : Option Addr) (n c : Nat) (P : List α) (w : World) : Prop :=
  w.ownsRow base e z (.slice a n c) n (flatC enc P) ∧ P.length = n ∧ n ≤ c ∧ c ≤ maxLen

theorem OwnZ.head {α : Type} {enc : α → List Value} {z base : Nat} {e : TypeId} {a : Option Addr} {n c : Nat} {P : List α} {w : World} (h : OwnZ enc z base e a n c P w) : (a = none ∧ n = 0 ∧ c = 0) ∨ ∃ g, a = some ⟨g, 0, none⟩ ∧ base ≤ g ∧ g < w.heap.size := by
  rcases h.1.2 with ⟨hv, hn⟩ | ⟨g, cap, cur, hv, hb, hg, _⟩
  · cases hv; exact .inl ⟨rfl, rfl, rfl⟩
  · cases hv
    refine .inr ⟨g, rfl, hb, ?_⟩
    rcases Nat.lt_or_ge g w.heap.size with h | h
    · exact h
    · rw [Array.getElem?_eq_none h] at hg; cases hg

theorem OwnZ.row {α : Type} {enc : α → List Value} {z base : Nat} {e : TypeId} {a : Option Addr} {n c : Nat} {P : List α} {w : World} (hz : ∀ x, (enc x).length = z) (h : OwnZ enc z base e a n c P w) : RowOf enc z w a n c P := by
  refine ⟨h.2.1, h.2.2.1, h.2.2.2, fun e0 => ?_, fun i x hx => ?_⟩
  · rcases h.head with ⟨-, -, h⟩ | ⟨g, h, -⟩
    · exact h
    · rw [e0] at h; cases h
  · have hi : i < n := by have := (List.getElem?_eq_some_iff.1 hx).1; rw [h.2.1] at this; exact this
    rcases h.head with ⟨-, h, -⟩ | ⟨g, rfl, -⟩
    · omega
    · refine ⟨g, 0, rfl, fun j v hv => ?_⟩
      have hj : j < z := by have := (List.getElem?_eq_some_iff.1 hv).1; rw [hz] at this; exact this
      have h1 : i * z + j < n * z := by
        have : (i + 1) * z ≤ n * z := Nat.mul_le_mul_right z hi
        rw [Nat.add_mul] at this
        omega
      rw [Nat.zero_add, World.ownsRow.cellAt h.1 (i * z + j) h1]
      exact flatC_at hz P i x j v hx hv

theorem OwnZ.below {α : Type} {enc : α → List Value} {z base B : Nat} {e : TypeId} {a : Option Addr} {n c : Nat} {P : List α} {w w' : World} (h : OwnZ enc z base e a n c P w) (hb : Below B w w') (hB : w.heap.size ≤ B) : OwnZ enc z base e a n c P w' :=
  ⟨owns_below h.1 hb hB, h.2⟩

theorem OwnZ.base {α : Type} {enc : α → List Value} {z base base' : Nat} {e : TypeId} {a : Option Addr} {n c : Nat} {P : List α} {w : World} (h : OwnZ enc z base e a n c P w) (hb : base' ≤ base) : OwnZ enc z base' e a n c P w :=
  ⟨owns_base h.1 hb, h.2⟩

/-- Nothing yet: the nil slice, and the empty literal. -/
theorem OwnZ.none {α : Type} (enc : α → List Value) (z base : Nat) (e : TypeId) (w : World) : OwnZ enc z base e none 0 0 [] w :=
  ⟨⟨by simp [flatC], .inl ⟨rfl, rfl⟩⟩, rfl, Nat.le_refl _, by unfold maxLen; omega⟩

theorem OwnZ.lit {α : Type} (enc : α → List Value) (z : Nat) (e : TypeId) (w : World) : OwnZ enc z w.heap.size e (some ⟨w.heap.size, 0, .none⟩) 0 0 [] (w.alloc (.cells #[] e)) :=
  ⟨World.ownsRow_lit _ #[] 0 (Nat.le_refl _) (by unfold maxLen; omega) (by simp), rfl, Nat.le_refl _, by unfold maxLen; omega⟩

/-- A literal of elements, in a new block. -/
theorem OwnZ.new {α : Type} {enc : α → List Value} {z : Nat} (hz : ∀ x, (enc x).length = z) (P : List α) (C : Array Value) (hC : C.toList = flatC enc P) (n : Nat) (hn : P.length = n) (hm : n ≤ maxLen) (e : TypeId) (w : World) :
    OwnZ enc z w.heap.size e (some ⟨w.heap.size, 0, .none⟩) n n P (w.alloc (.cells C e)) := by
  refine ⟨?_, hn, Nat.le_refl _, hm⟩
  rw [← hC]
  refine World.ownsRow_lit _ C n (Nat.le_refl _) hm ?_
  have := flatC_len hz P
  rw [← hC, hn] at this
  simpa using this

theorem RowOf.cellsOf {α : Type} {enc : α → List Value} {z : Nat} (hz : ∀ x, (enc x).length = z) {w : World} {g off : Nat} {len cap : Nat} {P : List α} (h : RowOf enc z w (some ⟨g, off, none⟩) len cap P) (j : Nat) (u : Value) (hu : (flatC enc P)[j]? = some u) : w.cell? ⟨g, off + j, none⟩ = some u := by
  have hl := flatC_len hz P
  have hj := (List.getElem?_eq_some_iff.1 hu).1
  rw [hl] at hj
  have hz0 : 0 < z := by
    rcases Nat.eq_zero_or_pos z with h0 | h0
    · rw [h0] at hj; omega
    · exact h0
  have hi : j / z < P.length := Nat.div_lt_of_lt_mul (by rw [Nat.mul_comm]; exact hj)
  obtain ⟨g', off', e, hc⟩ := h.at_ (j / z) _ (List.getElem?_eq_getElem hi)
  cases e
  have hm : j % z < (enc P[j / z]).length := by rw [hz]; exact Nat.mod_lt _ hz0
  have h2 := hc (j % z) _ (List.getElem?_eq_getElem hm)
  have h3 := flatC_at hz P (j / z) _ (j % z) _ (List.getElem?_eq_getElem hi) (List.getElem?_eq_getElem hm)
  have e1 : j / z * z + j % z = j := by rw [Nat.mul_comm]; exact Nat.div_add_mod j z
  rw [e1, hu] at h3
  rw [Nat.add_assoc, e1] at h2
  rw [h2, ← h3]

/-- An append of elements onto a slice of the call's own, and where the new slice lies. -/
theorem wp_append_rows {α : Type} {enc : α → List Value} {z : Nat} (hz : ∀ x, (enc x).length = z) (hz0 : 0 < z) (hone : ∀ x, ∀ u ∈ enc x, u.oneCell' = true) {P : Program} {w : World} {o : Oper} {a : Act} {K : Act → World → Prop} {Q : Exit → Act → World → Prop} (s x : Operand) (t : TypeId)
    (ho : o.op = .call { callee := .builtin .append, args := #[s, x], argTypes := #[t, t] })
    (e : TypeId) (i : TypeInfo) (z0 : Value) (bytes : Nat) (ht : P.underlying t = some (.slice e)) (hi : P.info? e = some i) (hzz : i.zero = some z0) (hsize : i.size = z) (hby : i.bytes = bytes) (hzs : z0.cells.size = z)
    {base : Nat} {a0 : Option Addr} {n c0 : Nat} {xs : List α} (hown : OwnZ enc z base e a0 n c0 xs w) (hs : a.eval s = .slice a0 n c0)
    {ao : Option Addr} {m c : Nat} {news : List α} (hr : RowOf enc z w ao m c news) (hx : a.eval x = .slice ao m c)
    (N : Nat) (hN : n + m = N) (h63 : N ≤ maxLen) (hbytes : N * bytes ≤ 140737488355328) (hbase : base ≤ w.heap.size)
    (h : ∀ a' c' w', OwnZ enc z base e a' N c' (xs ++ news) w' → Below base w w' → GrownBut w w' a0 → (a' = a0 ∨ ∃ g, a' = some ⟨g, 0, none⟩ ∧ w.heap.size ≤ g) → K (a.put o.dst (.slice a' N c')) w') : Oper.wp P o a w K Q := by
  subst hN
  have h1 : ∀ u ∈ flatC enc news, u.oneCell' = true := fun u hu => by
    obtain ⟨y, -, hy⟩ := List.mem_flatMap.1 hu
    exact hone y u hy
  have hrun : ∃ v' w', (Builtin.append_ #[t, t] o.type #[.slice a0 n c0, .slice ao m c]).run P w = .ok v' w' ∧ w'.ownsRow base e z v' (n + m) (flatC enc (xs ++ news)) ∧ w.grownBy w' (Value.slice a0 n c0).ownBlock ∧ (v'.ownBlock = (Value.slice a0 n c0).ownBlock ∨ v'.ownBlock = some w.heap.size) := by
    rw [flatC_app]
    cases ao with
    | none =>
      have hc0 := hr.nil0 rfl
      have hm0 : m = 0 := by have := hr.cle; omega
      subst hc0
      subst hm0
      have hn : news = [] := List.length_eq_zero_iff.1 hr.leq
      subst hn
      have hrn := run_append_owned_none (P := P) (w := w) base t o.type e i z ht hi _ n (flatC enc xs) hown.1
      exact ⟨_, w, hrn, by simpa [flatC] using hown.1, ⟨rfl, rfl, rfl, Nat.le_refl _, fun _ _ _ => rfl⟩, .inl rfl⟩
    | some ad =>
      by_cases hm : m = 0
      · subst hm
        have hn : news = [] := List.length_eq_zero_iff.1 hr.leq
        subst hn
        obtain ⟨v', w', h2, h3, h4, _, h5⟩ := run_append_own_at (P := P) w base t o.type e i z0 z bytes ht hi hzz hsize hby hzs hz0 _ n (flatC enc xs) hown.1 ad 0 c [] (by simp) (fun j u hu => by simp at hu) (by simp) h63 hbytes hbase
        exact ⟨v', w', h2, by simpa [flatC] using h3, h4, h5⟩
      · obtain ⟨y, g, off, -, e1, -⟩ := hr.at 0 (by omega)
        cases e1
        obtain ⟨v', w', h2, h3, h4, _, h5⟩ := run_append_own_at (P := P) w base t o.type e i z0 z bytes ht hi hzz hsize hby hzs hz0 _ n (flatC enc xs) hown.1 ⟨g, off, none⟩ m c (flatC enc news) (by rw [flatC_len hz, hr.leq]) (fun j u hu => by
          have hc := hr.cellsOf hz j u hu
          have hA : (⟨g, off, none⟩ : Addr).add j = ⟨g, off + j, none⟩ := by
            by_cases h0 : j = 0
            · subst h0; simp [Addr.add]
            · simp [Addr.add, h0]
          rw [hA]
          exact hc) h1 h63 hbytes hbase
        exact ⟨v', w', h2, h3, h4, h5⟩
  obtain ⟨v', w', h2, h3, h4, h5⟩ := hrun
  unfold Oper.wp execOp
  simp only [ho, resolve, invoke, builtin, Sem.run_bind, Sem.run_pure, Result.andThen_ok, List.map_toArray, List.map_cons, List.map_nil, hs, hx, h2]
  have hlen : (xs ++ news).length = n + m := by rw [List.length_append, hown.2.1, hr.leq]
  have hv' : ∃ a' c', v' = .slice a' (n + m) c' ∧ n + m ≤ c' ∧ c' ≤ maxLen := by
    rcases h3.2 with ⟨hv, hn0⟩ | ⟨g, cap, cur, hv, hb, hg, hnc, hcm, _⟩
    · exact ⟨.none, 0, by rw [hv, hn0], by omega, by unfold maxLen; omega⟩
    · exact ⟨_, cap, hv, hnc, hcm⟩
  obtain ⟨a', c', rfl, hle, hcm⟩ := hv'
  have h6 : OwnZ enc z base e a' (n + m) c' (xs ++ news) w' := ⟨h3, hlen, hle, hcm⟩
  refine h a' c' w' h6 (grown_below hown.1 h4 hbase) ⟨h4.size, fun k hk ha => h4.block k hk fun e0 => ?_⟩ ?_
  · cases a0 with
    | none => simp [Value.ownBlock] at e0
    | some x0 => exact ha x0 rfl (by simpa [Value.ownBlock] using e0.symm)
  · rcases h6.1.2 with ⟨hv, hn0⟩ | ⟨g, cap, cur, hv, hb, hg, _⟩
    · simp only [Value.slice.injEq] at hv
      obtain ⟨rfl, -, -⟩ := hv
      rcases h5 with h5 | h5
      · cases a0 with
        | none => exact .inl rfl
        | some x0 => simp [Value.ownBlock] at h5
      · simp [Value.ownBlock] at h5
    · simp only [Value.slice.injEq] at hv
      obtain ⟨rfl, -, -⟩ := hv
      rcases h5 with h5 | h5
      · cases a0 with
        | none => simp [Value.ownBlock] at h5
        | some x0 =>
          rcases hown.1.2 with ⟨hv0, _⟩ | ⟨g0, cap0, cur0, hv0, _⟩
          · cases hv0
          · cases hv0
            simp [Value.ownBlock] at h5
            subst h5
            exact .inl rfl
      · simp [Value.ownBlock] at h5
        exact .inr ⟨g, rfl, by omega⟩

theorem wpList_append_rows {α : Type} {enc : α → List Value} {z : Nat} (hz : ∀ x, (enc x).length = z) (hz0 : 0 < z) (hone : ∀ x, ∀ u ∈ enc x, u.oneCell' = true) {P : Program} {w : World} {ops : Array Oper} {rest : List Oper} {o : Oper} {a : Act} {Q : Exit → Act → World → Prop} (hgd : o.guard = none) (s x : Operand) (t : TypeId)
    (ho : o.op = .call { callee := .builtin .append, args := #[s, x], argTypes := #[t, t] })
    (e : TypeId) (i : TypeInfo) (z0 : Value) (bytes : Nat) (ht : P.underlying t = some (.slice e)) (hi : P.info? e = some i) (hzz : i.zero = some z0) (hsize : i.size = z) (hby : i.bytes = bytes) (hzs : z0.cells.size = z)
    {base : Nat} {a0 : Option Addr} {n c0 : Nat} {xs : List α} (hown : OwnZ enc z base e a0 n c0 xs w) (hs : a.eval s = .slice a0 n c0)
    {ao : Option Addr} {m c : Nat} {news : List α} (hr : RowOf enc z w ao m c news) (hx : a.eval x = .slice ao m c)
    (N : Nat) (hN : n + m = N) (h63 : N ≤ maxLen) (hbytes : N * bytes ≤ 140737488355328) (hbase : base ≤ w.heap.size)
    (h : ∀ a' c' w', OwnZ enc z base e a' N c' (xs ++ news) w' → Below base w w' → GrownBut w w' a0 → (a' = a0 ∨ ∃ g, a' = some ⟨g, 0, none⟩ ∧ w.heap.size ≤ g) → wpList P ops Q rest (a.put o.dst (.slice a' N c')) w') : wpList P ops Q (o :: rest) a w :=
  wpList_plain hgd fun K hK => wp_append_rows hz hz0 hone s x t ho e i z0 bytes ht hi hzz hsize hby hzs hown hs hr hx N hN h63 hbytes hbase fun a' c' w' h1 h2 h3 h4 => hK _ _ (h a' c' w' h1 h2 h3 h4)

/-- The same as a step of a region that draws its order. -/
theorem step_append_rows {α : Type} {enc : α → List Value} {z : Nat} (hz : ∀ x, (enc x).length = z) (hz0 : 0 < z) (hone : ∀ x, ∀ u ∈ enc x, u.oneCell' = true) {P : Program} {w : World} {ops : Array Oper} {o : Oper} {a : Act} {K : Act → World → Prop} {E : Prop} {Q : Exit → Act → World → Prop} (hgd : o.guard = none) (s x : Operand) (t : TypeId)
    (ho : o.op = .call { callee := .builtin .append, args := #[s, x], argTypes := #[t, t] })
    (e : TypeId) (i : TypeInfo) (z0 : Value) (bytes : Nat) (ht : P.underlying t = some (.slice e)) (hi : P.info? e = some i) (hzz : i.zero = some z0) (hsize : i.size = z) (hby : i.bytes = bytes) (hzs : z0.cells.size = z)
    {base : Nat} {a0 : Option Addr} {n c0 : Nat} {xs : List α} (hown : OwnZ enc z base e a0 n c0 xs w) (hs : a.eval s = .slice a0 n c0)
    {ao : Option Addr} {m c : Nat} {news : List α} (hr : RowOf enc z w ao m c news) (hx : a.eval x = .slice ao m c)
    (N : Nat) (hN : n + m = N) (h63 : N ≤ maxLen) (hbytes : N * bytes ≤ 140737488355328) (hbase : base ≤ w.heap.size)
    (h : ∀ a' c' w', OwnZ enc z base e a' N c' (xs ++ news) w' → Below base w w' → GrownBut w w' a0 → (a' = a0 ∨ ∃ g, a' = some ⟨g, 0, none⟩ ∧ w.heap.size ≤ g) → K (a.put o.dst (.slice a' N c')) w') : if Region.wanted o (yielded ops a.tmps) = true then Oper.wp P o a w K Q else E := by
  rw [if_pos (by simp [Region.wanted, hgd])]
  exact wp_append_rows hz hz0 hone s x t ho e i z0 bytes ht hi hzz hsize hby hzs hown hs hr hx N hN h63 hbytes hbase h

/-- One element appended: it lies first in a new block of its own. -/
theorem wp_append_row1 {α : Type} {enc : α → List Value} {z : Nat} (hz : ∀ x, (enc x).length = z) (hz0 : 0 < z) (hone : ∀ x, ∀ u ∈ enc x, u.oneCell' = true) {P : Program} {wr : World} {o : Oper} {a : Act} {K : Act → World → Prop} {Q : Exit → Act → World → Prop} (s x : Operand) (t : TypeId)
    (ho : o.op = .call { callee := .builtin .append, args := #[s, x], argTypes := #[t, t] })
    (e : TypeId) (i : TypeInfo) (z0 : Value) (bytes : Nat) (ht : P.underlying t = some (.slice e)) (hi : P.info? e = some i) (hzz : i.zero = some z0) (hsize : i.size = z) (hby : i.bytes = bytes) (hzs : z0.cells.size = z)
    {base : Nat} {a0 : Option Addr} {n c0 : Nat} {xs : List α} (hown : OwnZ enc z base e a0 n c0 xs wr) (hs : a.eval s = .slice a0 n c0)
    {C : Array Value} {t' : TypeId} (y : α) (hC : C.toList = enc y) (hx : a.eval x = .slice (some ⟨wr.heap.size, 0, none⟩) 1 1)
    (N : Nat) (hN : n + 1 = N) (h63 : N ≤ maxLen) (hbytes : N * bytes ≤ 140737488355328) (hbase : base ≤ wr.heap.size)
    (h : ∀ a' c' w', OwnZ enc z base e a' N c' (xs ++ [y]) w' → Below base wr w' → GrownBut wr w' a0 → (a' = a0 ∨ ∃ g, a' = some ⟨g, 0, none⟩ ∧ wr.heap.size ≤ g) → K (a.put o.dst (.slice a' N c')) w') : Oper.wp P o a (wr.alloc (.cells C t')) K Q := by
  have hal := below_alloc wr (.cells C t')
  have hnew := OwnZ.new hz [y] C (by rw [hC, flatC_one]) 1 rfl (by unfold maxLen; omega) t' wr
  refine wp_append_rows hz hz0 hone s x t ho e i z0 bytes ht hi hzz hsize hby hzs (hown.below hal (Nat.le_refl _)) hs (hnew.row hz) hx N hN h63 hbytes (Nat.le_trans hbase hal.size) fun a' c' w' h1 h2 h3 h4 => ?_
  refine h a' c' w' h1 ((hal.mono hbase).trans h2) ⟨Nat.le_trans hal.size h3.1, fun k hk ha => (h3.2 k (Nat.lt_of_lt_of_le hk hal.size) ha).trans (hal.block k hk)⟩ ?_
  rcases h4 with h4 | ⟨g, e1, h4⟩
  · exact .inl h4
  · exact .inr ⟨g, e1, Nat.le_trans hal.size h4⟩

theorem wpList_append_row1 {α : Type} {enc : α → List Value} {z : Nat} (hz : ∀ x, (enc x).length = z) (hz0 : 0 < z) (hone : ∀ x, ∀ u ∈ enc x, u.oneCell' = true) {P : Program} {wr : World} {ops : Array Oper} {rest : List Oper} {o : Oper} {a : Act} {Q : Exit → Act → World → Prop} (hgd : o.guard = none) (s x : Operand) (t : TypeId)
    (ho : o.op = .call { callee := .builtin .append, args := #[s, x], argTypes := #[t, t] })
    (e : TypeId) (i : TypeInfo) (z0 : Value) (bytes : Nat) (ht : P.underlying t = some (.slice e)) (hi : P.info? e = some i) (hzz : i.zero = some z0) (hsize : i.size = z) (hby : i.bytes = bytes) (hzs : z0.cells.size = z)
    {base : Nat} {a0 : Option Addr} {n c0 : Nat} {xs : List α} (hown : OwnZ enc z base e a0 n c0 xs wr) (hs : a.eval s = .slice a0 n c0)
    {C : Array Value} {t' : TypeId} (y : α) (hC : C.toList = enc y) (hx : a.eval x = .slice (some ⟨wr.heap.size, 0, none⟩) 1 1)
    (N : Nat) (hN : n + 1 = N) (h63 : N ≤ maxLen) (hbytes : N * bytes ≤ 140737488355328) (hbase : base ≤ wr.heap.size)
    (h : ∀ a' c' w', OwnZ enc z base e a' N c' (xs ++ [y]) w' → Below base wr w' → GrownBut wr w' a0 → (a' = a0 ∨ ∃ g, a' = some ⟨g, 0, none⟩ ∧ wr.heap.size ≤ g) → wpList P ops Q rest (a.put o.dst (.slice a' N c')) w') : wpList P ops Q (o :: rest) a (wr.alloc (.cells C t')) :=
  wpList_plain hgd fun K hK => wp_append_row1 hz hz0 hone s x t ho e i z0 bytes ht hi hzz hsize hby hzs hown hs y hC hx N hN h63 hbytes hbase fun a' c' w' h1 h2 h3 h4 => hK _ _ (h a' c' w' h1 h2 h3 h4)

/-- The same as a step of a region that draws its order. -/
theorem step_append_row1 {α : Type} {enc : α → List Value} {z : Nat} (hz : ∀ x, (enc x).length = z) (hz0 : 0 < z) (hone : ∀ x, ∀ u ∈ enc x, u.oneCell' = true) {P : Program} {wr : World} {ops : Array Oper} {o : Oper} {a : Act} {K : Act → World → Prop} {E : Prop} {Q : Exit → Act → World → Prop} (hgd : o.guard = none) (s x : Operand) (t : TypeId)
    (ho : o.op = .call { callee := .builtin .append, args := #[s, x], argTypes := #[t, t] })
    (e : TypeId) (i : TypeInfo) (z0 : Value) (bytes : Nat) (ht : P.underlying t = some (.slice e)) (hi : P.info? e = some i) (hzz : i.zero = some z0) (hsize : i.size = z) (hby : i.bytes = bytes) (hzs : z0.cells.size = z)
    {base : Nat} {a0 : Option Addr} {n c0 : Nat} {xs : List α} (hown : OwnZ enc z base e a0 n c0 xs wr) (hs : a.eval s = .slice a0 n c0)
    {C : Array Value} {t' : TypeId} (y : α) (hC : C.toList = enc y) (hx : a.eval x = .slice (some ⟨wr.heap.size, 0, none⟩) 1 1)
    (N : Nat) (hN : n + 1 = N) (h63 : N ≤ maxLen) (hbytes : N * bytes ≤ 140737488355328) (hbase : base ≤ wr.heap.size)
    (h : ∀ a' c' w', OwnZ enc z base e a' N c' (xs ++ [y]) w' → Below base wr w' → GrownBut wr w' a0 → (a' = a0 ∨ ∃ g, a' = some ⟨g, 0, none⟩ ∧ wr.heap.size ≤ g) → K (a.put o.dst (.slice a' N c')) w') : if Region.wanted o (yielded ops a.tmps) = true then Oper.wp P o a (wr.alloc (.cells C t')) K Q else E := by
  rw [if_pos (by simp [Region.wanted, hgd])]
  exact wp_append_row1 hz hz0 hone s x t ho e i z0 bytes ht hi hzz hsize hby hzs hown hs y hC hx N hN h63 hbytes hbase h

theorem OwnZ.setCell {α : Type} {enc : α → List Value} {z base : Nat} {e : TypeId} {a : Option Addr} {n c : Nat} {P : List α} {w : World} (h : OwnZ enc z base e a n c P w) {p : Addr} (ha : Apart a p.block) (u : Value) : OwnZ enc z base e a n c P (w.setCell p u) := by
  have hne : (Value.slice a n c).ownBlock ≠ some p.block := fun e0 => by
    cases a with
    | none => simp [Value.ownBlock] at e0
    | some x => exact ha x rfl (by simpa [Value.ownBlock] using e0)
  exact ⟨ownsRow_setCell_other h.1 hne u, h.2⟩

/-- A contract's row of elements in new memory. -/
def GivesZ {α : Type} (enc : α → List Value) (z : Nat) (e : TypeId) (P : List α) (n : Nat) (w : World) (en : Ending) (w' : World) : Prop :=
  ∃ a c, en = .returned (.slice a n c) ∧ OwnZ enc z w.heap.size e a n c P w' ∧ Below w.heap.size w w'

/-- What a cell of a struct of strings, flags and numbers holds. -/
inductive Leaf where
  | text
  | flag
  | num (k : IntKind)

def Leaf.ok : Leaf → Value → Prop
  | .text, v => ∃ s : List UInt8, v = .string (str s) ∧ s.length ≤ maxLen
  | .flag, v => ∃ b : Bool, v = .bool b
  | .num k, v => ∃ n : Int, v = .int k n ∧ (Lit.int k n).wf = true

def leavesOk : List Leaf → List Value → Prop
  | [], [] => True
  | k :: ks, v :: vs => k.ok v ∧ leavesOk ks vs
  | _, _ => False

theorem leaves_app : ∀ {a b : List Leaf} {u v : List Value}, leavesOk a u → leavesOk b v → leavesOk (a ++ b) (u ++ v)
  | [], b, [], v, _, h => h
  | k :: ks, b, x :: xs, v, h, h2 => ⟨h.1, leaves_app h.2 h2⟩
  | [], b, x :: xs, v, h, _ => h.elim
  | k :: ks, b, [], v, h, _ => h.elim

theorem leaves_cons {k : Leaf} {ks : List Leaf} {cs : List Value} (h : leavesOk (k :: ks) cs) : ∃ v vs, cs = v :: vs ∧ k.ok v ∧ leavesOk ks vs := by
  cases cs with
  | nil => exact h.elim
  | cons v vs => exact ⟨v, vs, rfl, h.1, h.2⟩

theorem leaves_nil {cs : List Value} (h : leavesOk [] cs) : cs = [] := by
  cases cs with
  | nil => rfl
  | cons v vs => exact h.elim

/-- The cells of a type, if it is made of strings, flags and numbers alone. -/
def flatK (P : Program) : Nat → TypeId → Option (List Leaf)
  | 0, _ => none
  | n + 1, t => match P.underlying t with
    | some .bool => some [.flag]
    | some .string => some [.text]
    | some (.int k) => some [.num k]
    | some (.struct fs) => (fs.toList.foldl (fun acc f => acc.bind fun l => (flatK P n f.type).bind fun a => if f.offset = l.length ∧ a.length = P.cellsOf f.type then some (l ++ a) else none) (some [])).bind fun l => if l.length = P.cellsOf t then some l else none
    | _ => none

section
variable {H : Type} {enc : TypeId × Value → H} {P : Program} {w : World} {base : Nat} {spare : Nat → Bool} {held : Bool}

theorem flat_fields (n : Nat) (cs : List Value) (ih : ∀ (t : TypeId) (ks : List Leaf) (fuel : Nat) (cs : List Value) (x : DataW H × List MemPlace), flatK P n t = some ks → DataW.trod enc P w base spare held fuel t cs = some x → leavesOk ks cs)
    (fuel : Nat) : ∀ (fs : List Field) (l ks : List Leaf), (∀ f ∈ fs, ∃ x, DataW.trod enc P w base spare held fuel f.type ((cs.drop f.offset).take (P.cellsOf f.type)) = some x) → leavesOk l (cs.take l.length) →
      fs.foldl (fun acc f => acc.bind fun l => (flatK P n f.type).bind fun a => if f.offset = l.length ∧ a.length = P.cellsOf f.type then some (l ++ a) else none) (some l) = some ks → leavesOk ks (cs.take ks.length)
  | [], l, ks, hf, hl, h => by
    simp only [List.foldl_nil, Option.some.injEq] at h
    subst h
    exact hl
  | f :: fs, l, ks, hf, hl, h => by
    rw [List.foldl_cons] at h
    have hnone : ∀ gs : List Field, gs.foldl (fun acc f => acc.bind fun l => (flatK P n f.type).bind fun a => if f.offset = l.length ∧ a.length = P.cellsOf f.type then some (l ++ a) else none) (none : Option (List Leaf)) = none := by
      intro gs
      induction gs with
      | nil => rfl
      | cons g gs ih => rw [List.foldl_cons]; exact ih
    cases ha : flatK P n f.type with
    | none =>
      simp only [Option.bind_some, ha, Option.bind_none] at h
      rw [hnone] at h
      cases h
    | some a =>
      by_cases hc : f.offset = l.length ∧ a.length = P.cellsOf f.type
      · simp only [Option.bind_some, ha, if_pos hc] at h
        refine flat_fields n cs ih fuel fs (l ++ a) ks (fun g hg => hf g (List.mem_cons_of_mem _ hg)) ?_ h
        obtain ⟨x, hx⟩ := hf f List.mem_cons_self
        have h1 := ih f.type a fuel _ x ha hx
        rw [hc.1, ← hc.2] at h1
        rw [List.length_append, List.take_add]
        exact leaves_app hl h1
      · simp only [Option.bind_some, ha, if_neg hc] at h
        rw [hnone] at h
        cases h

theorem leaves_of : ∀ (n : Nat) (t : TypeId) (ks : List Leaf) (fuel : Nat) (cs : List Value) (x : DataW H × List MemPlace), flatK P n t = some ks → DataW.trod enc P w base spare held fuel t cs = some x → leavesOk ks cs
  | 0, t, ks, fuel, cs, x, h, _ => by cases h
  | n + 1, t, ks, fuel, cs, x, h, hx => by
    unfold flatK at h
    split at h
    · rename_i hu
      cases h
      obtain ⟨b, rfl, -⟩ := DataW.trod_bool hu hx
      exact ⟨⟨b, rfl⟩, trivial⟩
    · rename_i hu
      cases h
      obtain ⟨s, rfl, -, hs⟩ := DataW.trod_string hu hx
      exact ⟨⟨s.data.toList, by rw [← str_of], by simpa [← str_size, ← str_of] using hs⟩, trivial⟩
    · rename_i k hu
      cases h
      obtain ⟨v, rfl, -, hv⟩ := DataW.trod_int hu hx
      exact ⟨⟨v, rfl, hv⟩, trivial⟩
    · rename_i fs hu
      obtain ⟨xs, m, -, -, hl, hxl, hf⟩ := DataW.trod_struct hu hx
      rw [Option.bind_eq_some_iff] at h
      obtain ⟨l, h1, h2⟩ := h
      split at h2
      · rename_i hlen
        cases h2
        have := flat_fields n cs (fun t ks fuel cs x => leaves_of n t ks fuel cs x) m fs.toList [] ks (fun f hfm => by
          obtain ⟨i, hi, e⟩ := List.getElem_of_mem hfm
          have hi2 : i < fs.size := by simpa using hi
          have e2 : fs[i]? = some f := by rw [Array.getElem?_eq_getElem hi2]; simpa using e
          have h3 := hf i f e2
          rw [List.getElem?_eq_getElem (by omega)] at h3
          exact ⟨_, h3⟩) (by simp [leavesOk]) h1
        rw [hlen, ← hl, List.take_length] at this
        exact this
      · cases h2
    · cases h

/-- A slice of such elements, as an argument. -/
theorem open_rows_of {α : Type} [Inhabited α] (en : α → List Value) (ok : α → Prop) {t e : TypeId} (z n : Nat) (ks : List Leaf) {r : Reach} {b0 : Nat} {v : Value} {d : DataW H} {p : List MemPlace} (ht : P.underlying t = some (.slice e)) (hC : P.cellsOf e = z) (hp : 0 < z)
    (hk : flatK P n e = some ks) (hD : ∀ cs, leavesOk ks cs → ∃ x, cs = en x ∧ ok x)
    (hv : Value.okWide P w r b0 t v) (h : DataW.Trod enc P w 0 (fun _ => true) held t v d p) :
    ∃ a len cap, ∃ Q : List α, v = .slice a len cap ∧ RowOf en z w a len cap Q ∧ ∀ x ∈ Q, ok x := by
  obtain ⟨a, len, cap, rfl⟩ := okWide_slice ht hv
  obtain ⟨fuel, hf⟩ := h
  obtain ⟨a', len', cap', m, hcs, h1, h2, h3, hall⟩ := elems_of z ht hC hp hf
  simp [Value.cells] at hcs
  obtain ⟨rfl, rfl, rfl⟩ := hcs
  have hq : ∀ i, ∃ x : α, i < len → ok x ∧ ∃ g off, a = some ⟨g, off, none⟩ ∧ ∀ (j : Nat) (v : Value), (en x)[j]? = some v → w.cell? ⟨g, off + i * z + j, none⟩ = some v := fun i => by
    by_cases hi : i < len
    · obtain ⟨b, off, cs', y, ha, hl, hc, hy⟩ := hall i hi
      obtain ⟨x, rfl, hx⟩ := hD cs' (leaves_of n e ks m cs' y hk hy)
      exact ⟨x, fun _ => ⟨hx, b, off, ha, hc⟩⟩
    · exact ⟨default, fun h => absurd h hi⟩
  refine ⟨a, len, cap, (List.range len).map fun i => Classical.choose (hq i), rfl, ⟨by simp, h1, h2, h3, fun i x hx => ?_⟩, fun x hx => ?_⟩
  · have hi : i < len := by have := (List.getElem?_eq_some_iff.1 hx).1; simpa using this
    rw [List.getElem?_map, List.getElem?_range hi] at hx
    cases hx
    exact (Classical.choose_spec (hq i) hi).2
  · obtain ⟨i, hi, rfl⟩ := List.mem_map.1 hx
    exact (Classical.choose_spec (hq i) (List.mem_range.1 hi)).1

/-- Such a struct, as an argument. -/
theorem open_flat {t : TypeId} {fs : Array Field} (n : Nat) (ks : List Leaf) {r : Reach} {b0 : Nat} {v : Value} {d : DataW H} {p : List MemPlace} (ht : P.underlying t = some (.struct fs)) (hk : flatK P n t = some ks)
    (hv : Value.okWide P w r b0 t v) (h : DataW.Trod enc P w base spare held t v d p) : ∃ cs : Array Value, v = .agg cs ∧ leavesOk ks cs.toList := by
  obtain ⟨cs, rfl, -⟩ := okWide_struct ht hv
  obtain ⟨fuel, hf⟩ := h
  have := leaves_of n t ks fuel _ _ hk hf
  exact ⟨cs, rfl, by simpa [Value.cells] using this⟩
end
end Go.Proofs.YtjocnhkapiiblaaDoor

/- Objects of known cells: structs behind pointers, rows of structs that the call made itself. No program in it. -/
namespace Go.Proofs.YtjocnhkapiiblaaDoor
open Go.RowKit
set_option linter.unusedVariables false

/-- The block holds these values, and may be written. -/
structure ObjAt (w : World) (b : Nat) (vs : List Value) : Prop where
  heap : ∃ e, w.heap[b]? = some (.cells vs.toArray e (0, 0))

theorem ObjAt.lt {w : World} {b : Nat} {vs : List Value} (h : ObjAt w b vs) : b < w.heap.size := by
  obtain ⟨e, h⟩ := h.heap
  rcases Nat.lt_or_ge b w.heap.size with h1 | h1
  · exact h1
  · rw [Array.getElem?_eq_none h1] at h
    cases h

theorem ObjAt.cell {w : World} {b : Nat} {vs : List Value} (h : ObjAt w b vs) (i : Nat) {v : Value} (hv : vs[i]? = some v) : w.cell? ⟨b, i, none⟩ = some v := by
  obtain ⟨e, h⟩ := h.heap
  simp [World.cell?, h, hv]

theorem ObjAt.free {w : World} {b : Nat} {vs : List Value} (h : ObjAt w b vs) (i : Nat) : w.frozen? ⟨b, i, none⟩ = false := by
  obtain ⟨e, h⟩ := h.heap
  simp [World.frozen?, h]

theorem ObjAt.new (w : World) (vs : Array Value) (e : TypeId) : ObjAt (w.alloc (.cells vs e)) w.heap.size vs.toList := by
  refine ⟨e, ?_⟩
  unfold World.alloc
  simp

theorem ObjAt.below {w w' : World} {b K : Nat} {vs : List Value} (h : ObjAt w b vs) (hb : Below K w w') (hlt : b < K) : ObjAt w' b vs := by
  obtain ⟨e, h⟩ := h.heap
  exact ⟨e, (hb.block b hlt).trans h⟩

theorem ObjAt.set {w : World} {b : Nat} {vs : List Value} (h : ObjAt w b vs) (i : Nat) (v : Value) : ObjAt (w.setCell ⟨b, i, none⟩ v) b (vs.set i v) := by
  obtain ⟨e, h⟩ := h.heap
  refine ⟨e, ?_⟩
  have := heap_setCell_same w b i vs.toArray e v h
  rw [this, List.setIfInBounds_toArray]

theorem ObjAt.other {w : World} {b : Nat} {vs : List Value} (h : ObjAt w b vs) {p : Addr} (hne : p.block ≠ b) (v : Value) : ObjAt (w.setCell p v) b vs := by
  obtain ⟨e, h⟩ := h.heap
  refine ⟨e, ?_⟩
  rw [heap_setCell_other w p b v (Ne.symm hne)]
  exact h

theorem ObjAt.drew {w : World} {b : Nat} {vs : List Value} (h : ObjAt w b vs) : ObjAt w.drew b vs := by
  obtain ⟨e, h⟩ := h.heap
  exact ⟨e, h⟩

theorem ObjAt.drewN {w : World} {b : Nat} {vs : List Value} (h : ObjAt w b vs) (n : Nat) : ObjAt (w.drewN n) b vs := by
  obtain ⟨e, h⟩ := h.heap
  exact ⟨e, by rw [show (w.drewN n).heap = w.heap from by simp]; exact h⟩
end Go.Proofs.YtjocnhkapiiblaaDoor

/- Parts of rows of elements of several cells; a row beside one that grows. No program in it. -/
namespace Go.Proofs.YtjocnhkapiiblaaDoor
open Go.RowKit
set_option linter.unusedVariables false

theorem take_snocI {α : Type} {L : List α} {k : Nat} {x : α} (h : L[k]? = some x) : L.take (k + 1) = L.take k ++ [x] := by
  obtain ⟨h1, e1⟩ := List.getElem?_eq_some_iff.1 h
  rw [List.take_succ_eq_append_getElem h1, e1]

/-- The first elements of a row, the others, and a row beside one that grows. -/
theorem row_front {α : Type} {enc : α → List Value} {z : Nat} {w : World} {a : Option Addr} {len cap : Nat} {P : List α} (h : RowOf enc z w a len cap P) (k : Nat) (hk : k ≤ len) : RowOf enc z w a k cap (P.take k) := by
  refine ⟨by rw [List.length_take, h.leq]; omega, Nat.le_trans hk h.cle, h.capm, h.nil0, fun i x hx => ?_⟩
  rw [List.getElem?_take] at hx
  split at hx
  · exact h.at_ i x hx
  · cases hx
theorem row_back {α : Type} {enc : α → List Value} {z : Nat} {w : World} {g off : Nat} {len cap : Nat} {P : List α} (h : RowOf enc z w (some ⟨g, off, none⟩) len cap P) (k : Nat) (hk : k ≤ len) (o : Nat) (ho : k < len → o = off + k * z) : RowOf enc z w (some ⟨g, o, none⟩) (len - k) (cap - k) (P.drop k) := by
  have h1 := h.cle
  have h2 := h.capm
  have h3 := h.leq
  refine ⟨by rw [List.length_drop, h3], by omega, by omega, (fun c => by cases c), fun i x hx => ?_⟩
  have hlt : k + i < P.length := by
    have := (List.getElem?_eq_some_iff.1 hx).1
    rw [List.length_drop] at this
    omega
  rw [List.getElem?_drop] at hx
  obtain ⟨g', off', e, hc⟩ := h.at_ (k + i) x hx
  cases e
  refine ⟨g, o, rfl, fun j v hv => ?_⟩
  have := hc j v hv
  rw [ho (by omega)]
  rw [Nat.add_mul] at this
  have e2 : off + k * z + i * z + j = off + (k * z + i * z) + j := by omega
  rw [e2]
  exact this
theorem row_grown {α : Type} {enc : α → List Value} {z : Nat} {w w' : World} {a b : Option Addr} {len cap : Nat} {P : List α} (h : RowOf enc z w a len cap P) (hg : GrownBut w w' b) (ha : ∀ x, a = some x → Apart b x.block) : RowOf enc z w' a len cap P :=
  ⟨h.leq, h.cle, h.capm, h.nil0, fun i x hx => by
    obtain ⟨g, off, e, hc⟩ := h.at_ i x hx
    exact ⟨g, off, e, fun j v hv => hg.cell (hc j v hv) (ha ⟨g, off, none⟩ e)⟩⟩

end Go.Proofs.YtjocnhkapiiblaaDoor

/- What a comparison leaves behind: draws and new blocks alone, written out as the library's sort asks for it. No program in it. -/
namespace Go.Proofs.YtjocnhkapiiblaaDoor
open Go.RowKit Go.Sort
set_option linter.unusedVariables false

def Grows (w w' : World) : Prop := ∃ q os, w' = grow (w.drewN q) os
theorem Grows.refl (w : World) : Grows w w := ⟨0, #[], by unfold grow; rw [Array.append_empty]; rfl⟩
theorem Grows.alloc (w : World) (o : Obj) : Grows w (w.alloc o) := ⟨0, #[o], by rw [alloc_eq_grow]; rfl⟩
theorem Grows.drewN (w : World) (q : Nat) : Grows w (w.drewN q) := ⟨q, #[], by unfold grow; rw [Array.append_empty]⟩
theorem Grows.trans {a b c : World} (h : Grows a b) (k : Grows b c) : Grows a c := by
  obtain ⟨q, os, rfl⟩ := h
  obtain ⟨r, os', rfl⟩ := k
  refine ⟨q + r, os ++ os', ?_⟩
  have e : (grow (a.drewN q) os).drewN r = grow ((a.drewN q).drewN r) os := rfl
  rw [e, grow_grow, World.drewN_drewN]
theorem Grows.below {w w' : World} (h : Grows w w') : Below w.heap.size w w' := by
  obtain ⟨q, os, rfl⟩ := h
  exact ⟨rfl, rfl, rfl, by simp [grow], fun k hk => by simp [grow, Array.getElem?_append, hk]⟩
end Go.Proofs.YtjocnhkapiiblaaDoor

/- slices.swapRangeCmpFunc and slices.rotateCmpFunc at rows of structs: from a world of the sort's to a world of the sort's; over any program that has their bodies (so that a struct's cells stay closed to the walk). -/
namespace Go.Proofs.YtjocnhkapiiblaaDoor
open Go.Shelf Go.RowKit Go.Lib Go.Sort
set_option linter.unusedVariables false
variable {P : Program} {α : Type} [Inhabited α]

/-- A program that has the stable sort's bodies, and their types. -/
structure PL (P : Program) : Prop where
  mixed : P.follows .mixedOrders = true
  fStable : P.funcs[23]? = some Tryd.f23
  fSym : P.funcs[29]? = some Tryd.f29
  fRot : P.funcs[35]? = some Tryd.f35
  fSwap : P.funcs[40]? = some Tryd.f40
  fIns : P.funcs[28]? = some Tryd.f28
  t0 : P.underlying 0 = some (TypeDesc.tuple #[])
  a0 : ∀ w, (isAgg 0).run P w = .ok false w
  z0 : ∀ w, (Go.sizeOf 0).run P w = .ok 1 w
  v0 : ∀ w, (zeroValue 0).run P w = .ok (Value.tuple #[]) w
  t3 : P.underlying 3 = some (TypeDesc.int IntKind.i64)
  a3 : ∀ w, (isAgg 3).run P w = .ok false w
  z3 : ∀ w, (Go.sizeOf 3).run P w = .ok 1 w
  v3 : ∀ w, (zeroValue 3).run P w = .ok (Value.int IntKind.i64 0) w
  t4 : P.underlying 4 = some (TypeDesc.bool)
  a4 : ∀ w, (isAgg 4).run P w = .ok false w
  z4 : ∀ w, (Go.sizeOf 4).run P w = .ok 1 w
  v4 : ∀ w, (zeroValue 4).run P w = .ok (Value.bool false) w
  tS : P.underlying 29 = some (TypeDesc.slice 27)
  aS : ∀ w, (isAgg 29).run P w = .ok false w
  zS : ∀ w, (Go.sizeOf 29).run P w = .ok 1 w
  vS : ∀ w, (zeroValue 29).run P w = .ok (Value.slice none 0 0) w
  tF : P.underlying 41 = some (TypeDesc.func #[27, 27] #[3] false)
  aF : ∀ w, (isAgg 41).run P w = .ok false w
  zF : ∀ w, (Go.sizeOf 41).run P w = .ok 1 w
  vF : ∀ w, (zeroValue 41).run P w = .ok (Value.nilFunc) w
  tU : P.underlying 63 = some (TypeDesc.int IntKind.u64)
  aU : ∀ w, (isAgg 63).run P w = .ok false w
  zU : ∀ w, (Go.sizeOf 63).run P w = .ok 1 w
  vU : ∀ w, (zeroValue 63).run P w = .ok (Value.int IntKind.u64 0) w

set_option maxHeartbeats 4000000 in
set_option maxRecDepth 1000000 in
theorem swapRangeS (L : PL P) (k : Nat) (aE : ∀ w, (isAgg 27).run P w = .ok true w) (zE : ∀ w, (Go.sizeOf 27).run P w = .ok k w) (enc : α → List Value) (g : Nat) (cb : Array Value) (blk off cap a b n : Nat) (d0 d : Array α) (w0 w : World)
    (R : RowK enc k w0 blk off d0) (hs : d0.size = d.size) (S : SWK enc k w0 blk off d w) (hab : a + n ≤ b) (hb : b + n ≤ d.size) (hsz : d.size < 4611686018427387904) :
    Calls P 40 #[.slice (some ⟨blk, off, none⟩) d.size cap, .int .i64 a, .int .i64 b, .int .i64 n, .func (.func g) #[] cb] w fun e w' => e = .returned (.tuple #[]) ∧ ∃ d', SWK enc k w0 blk off d' w' ∧ Is d d' (swapF a b n) ∧ PermIn a (b + n) d d' := by
  have mixed := L.mixed; have t0 := L.t0; have a0 := L.a0; have z0 := L.z0; have v0 := L.v0; have t3 := L.t3; have a3 := L.a3; have z3 := L.z3; have v3 := L.v3; have t4 := L.t4; have a4 := L.a4; have z4 := L.z4; have v4 := L.v4; have tS := L.tS; have aS := L.aS; have zS := L.zS; have vS := L.vS; have tF := L.tF; have aF := L.aF; have zF := L.zF; have vF := L.vF
  have FG := L.fSwap
  have S0 : Aside (SWK enc k w0 blk off d w) := S
  clear S L
  go_enter FG, Tryd.ntmps40
  go_wp2
  go_loopg [10] n (fun kx s10 wr => ∃ (i : Nat) (dk : Array α), s10 = .int .i64 i ∧ i ≤ n ∧ n - i ≤ kx ∧ dk.size = d.size ∧ Aside (SWK enc k w0 blk off dk wr) ∧ Hid (Is d dk (swapF a b i) ∧ PermIn a (b + n) d dk))
  case atStart => exact ⟨0, d, rfl, Nat.zero_le _, Nat.le_refl _, rfl, S0, (show Hid _ from ⟨Is.zero d a b, permIn_refl d a (b + n)⟩)⟩
  case round =>
    clear S0
    obtain ⟨i, dk, rfl, hi, hkx, hds, S1, HE⟩ := hrel
    by_cases hlt : i < n
    · have hltz : (i : Int) < (n : Int) := by omega
      go_wp2_with fail
      have ea44 : ((a : Int) + (i : Int)).toNat = a + i := by omega
      have pa44 : (0 : Int) ≤ (a : Int) + (i : Int) := by omega
      have ba44 : (a : Int) + (i : Int) < (d.size : Int) := by omega
      have ra44 : IntKind.i64.wrap ((a : Int) + (i : Int)) = (a : Int) + (i : Int) := by rw [IntKind.wrap_i64]; omega
      have ec44 : ((b : Int) + (i : Int)).toNat = b + i := by omega
      have pc44 : (0 : Int) ≤ (b : Int) + (i : Int) := by omega
      have bc44 : (b : Int) + (i : Int) < (d.size : Int) := by omega
      have rc44 : IntKind.i64.wrap ((b : Int) + (i : Int)) = (b : Int) + (i : Int) := by rw [IntKind.wrap_i64]; omega
      have S2 : Aside (SWK enc k w0 blk off (swp dk (a + i) (b + i)) ((wr.drew.setCells blk (off + (a + i) * k) (enc dk[b + i]!)).setCells blk (off + (b + i) * k) (enc dk[a + i]!))) := S1.out.swapped R (a + i) (b + i) (by omega) (by omega)
      have l44a := S1.out.ld1 R (by omega) P (a + i) (by omega)
      have l44b := S1.out.ld1 R (by omega) P (b + i) (by omega)
      have s44a := S1.out.st1 R (by omega) P (a + i) (by omega) dk[b + i]!
      have s44b := S1.out.st2 R (by omega) P (a + i) (b + i) (by omega) (by omega) dk[b + i]! dk[a + i]!
      have n44a : (enc dk[a + i]!).length = k := R.hk _
      have n44b : (enc dk[b + i]!).length = k := R.hk _
      generalize enc dk[a + i]! = cI44 at S2 l44a s44b n44a
      generalize enc dk[b + i]! = cJ44 at S2 l44b s44a s44b n44b
      clear S1
      go_wp2_with fail
      go_big_region_o
      clear l44a l44b s44a s44b
      generalize (wr.drew.setCells blk (off + (a + i) * k) cJ44).setCells blk (off + (b + i) * k) cI44 = w2 at S2 ⊢
      go_wp2
      go_roundg (n - (i + 1))
      case measure => omega
      case rel => exact ⟨i + 1, swp dk (a + i) (b + i), by go_num, by omega, Nat.le_refl _, by rw [size_swp]; exact hds, S2, (show Hid _ from ⟨HE.out.1.swap hlt hab hb, permIn_trans _ _ _ _ _ HE.out.2 (swp_permIn dk a (b + n) (a + i) (b + i) (by omega) (by omega) (by omega) (by omega) (by omega))⟩)⟩
    · obtain rfl : i = n := by omega
      go_wp2
      go_end0
      exact ⟨rfl, dk, S1.out, HE.out.1, HE.out.2⟩

theorem swap_left {d d' : Array α} {a m b i j : Nat} (h : PermIn a b d d') (x y : Nat) (hx : a ≤ x) (hy : y ≤ b) (hz : b ≤ d.size) {d2 : Array α} (h2 : PermIn x y d' d2) : PermIn a b d d2 :=
  permIn_trans _ _ _ _ _ h (permIn_mono _ _ x y a b hx hy (by rw [h.1]; exact hz) h2)

set_option maxHeartbeats 4000000 in
set_option maxRecDepth 1000000 in
theorem rotateS (L : PL P) (k : Nat) (aE : ∀ w, (isAgg 27).run P w = .ok true w) (zE : ∀ w, (Go.sizeOf 27).run P w = .ok k w) (enc : α → List Value) (g : Nat) (cb : Array Value) (blk off cap a m b : Nat) (d0 d : Array α) (w0 w : World)
    (R : RowK enc k w0 blk off d0) (hs : d0.size = d.size) (S : SWK enc k w0 blk off d w) (ham : a < m) (hmb : m < b) (hb : b ≤ d.size) (hsz : d.size < 4611686018427387904) :
    Calls P 35 #[.slice (some ⟨blk, off, none⟩) d.size cap, .int .i64 a, .int .i64 m, .int .i64 b, .func (.func g) #[] cb] w fun e w' => e = .returned (.tuple #[]) ∧ ∃ d', SWK enc k w0 blk off d' w' ∧ Is d d' (rotF a m b) ∧ PermIn a b d d' := by
  have mixed := L.mixed; have t0 := L.t0; have a0 := L.a0; have z0 := L.z0; have v0 := L.v0; have t3 := L.t3; have a3 := L.a3; have z3 := L.z3; have v3 := L.v3; have t4 := L.t4; have a4 := L.a4; have z4 := L.z4; have v4 := L.v4; have tS := L.tS; have aS := L.aS; have zS := L.zS; have vS := L.vS; have tF := L.tF; have aF := L.aF; have zF := L.zF; have vF := L.vF
  have FG := L.fRot
  have eS : ∀ args w, (callFunc 40 args).run P w = .ok (.enter 40 args) w := enters_of L.fSwap (by kernel_rfl) rfl
  have S0 : Aside (SWK enc k w0 blk off d w) := S
  have HSW := fun (x y n : Nat) (dk : Array α) (wr : World) (S : Aside (SWK enc k w0 blk off dk wr)) (hd : dk.size = d.size) (h1 : x + n ≤ y) (h2 : y + n ≤ d.size) => swapRangeS L k aE zE enc g cb blk off cap x y n d0 dk w0 wr R (by omega) S.out h1 (by omega) (by omega)
  have HH : Aside _ := HSW
  clear S HSW L
  go_enter FG, Tryd.ntmps35
  have im : (m : Int) - (a : Int) = ((m - a : Nat) : Int) := by omega
  have ib : (b : Int) - (m : Int) = ((b - m : Nat) : Int) := by omega
  go_wp2
  go_loopg [10, 11] (b - a) (fun kx s10 s11 wr => ∃ (i j : Nat) (dk : Array α), s10 = .int .i64 i ∧ s11 = .int .i64 j ∧ 0 < i ∧ 0 < j ∧ i ≤ m - a ∧ j ≤ b - m ∧ i + j ≤ kx ∧ dk.size = d.size ∧ Aside (SWK enc k w0 blk off dk wr) ∧ Hid (Left d dk a m b i j ∧ PermIn a b d dk))
  case atStart => exact ⟨m - a, b - m, d, by first | rfl | (congr 1; omega), by first | rfl | (congr 1; omega), by omega, by omega, Nat.le_refl _, Nat.le_refl _, by omega, rfl, S0, (show Hid _ from ⟨Left.start d (by omega) (by omega), permIn_refl d a b⟩)⟩
  case round =>
    clear S0 im ib
    obtain ⟨i, j, dk, rfl, rfl, hi0, hj0, hi, hj, hkx, hds, S1, HE⟩ := hrel
    have e1 : (m : Int) - (i : Int) = ((m - i : Nat) : Int) := by omega
    by_cases hij : i = j
    · subst hij
      have H1 := HH.out (m - i) m i dk wr S1 hds (by omega) (by omega)
      rw [hds] at H1
      go_wp2_with (go_at_fn 40; refine H1.mono ?_; rintro e w2 ⟨rfl, d2, S2, hI, hP⟩)
      go_end0
      exact ⟨rfl, d2, S2, HE.out.1.done (by omega) hI, swap_left (m := m) (i := 0) (j := 0) HE.out.2 (m - i) (m + i) (by omega) (by omega) hb hP⟩
    · have hne : ¬ (i : Int) = (j : Int) := by omega
      have hnb : ((i : Int) != (j : Int)) = true := by simp; omega
      by_cases hgt : j < i
      · have hgz : (j : Int) < (i : Int) := by omega
        have H1 := HH.out (m - i) m j dk wr S1 hds (by omega) (by omega)
        rw [hds] at H1
        go_wp2_with (go_at_fn 40; refine H1.mono ?_; rintro e w2 ⟨rfl, d2, S2, hI, hP⟩)
        go_roundg (i - j + j)
        case measure => omega
        case rel => exact ⟨i - j, j, d2, by congr 1; omega, rfl, by omega, by omega, by omega, by omega, Nat.le_refl _, by rw [hI.1]; exact hds, S2, (show Hid _ from ⟨HE.out.1.more (by omega) (by omega) hgt hI, swap_left (m := m) (i := 0) (j := 0) HE.out.2 (m - i) (m + j) (by omega) (by omega) hb hP⟩)⟩
      · have hgz : ¬ (j : Int) < (i : Int) := by omega
        have e2 : (m : Int) + (j : Int) - (i : Int) = ((m + j - i : Nat) : Int) := by omega
        have H1 := HH.out (m - i) (m + j - i) i dk wr S1 hds (by omega) (by omega)
        rw [hds] at H1
        go_wp2_with (go_at_fn 40; refine H1.mono ?_; rintro e w2 ⟨rfl, d2, S2, hI, hP⟩)
        go_roundg (i + (j - i))
        case measure => omega
        case rel => exact ⟨i, j - i, d2, rfl, by congr 1; omega, by omega, by omega, by omega, by omega, Nat.le_refl _, by rw [hI.1]; exact hds, S2, (show Hid _ from ⟨HE.out.1.less (by omega) (by omega) (by omega) hI, swap_left (m := m) (i := 0) (j := 0) HE.out.2 (m - i) (m + j - i + i) (by omega) (by omega) hb hP⟩)⟩
end Go.Proofs.YtjocnhkapiiblaaDoor

/- What stays in order: rows put in one by one, and runs that are merged. No program in it. -/
namespace Go.Proofs.YtjocnhkapiiblaaDoor
open Go.Sort
set_option linter.unusedVariables false
variable {α : Type} [Inhabited α] {lt : α → α → Bool} {tag : α → Nat}

/-- [a, i] is in order but for the place j; what lies at j is ahead of all to its right, and younger than all to its left. -/
structure InvA (lt : α → α → Bool) (tag : α → Nat) (a j i : Nat) (d : Array α) : Prop where
  rest : ∀ p q, a ≤ p → p < q → q ≤ i → p ≠ j → q ≠ j → Sb lt tag d[p]! d[q]!
  right : ∀ q, j < q → q ≤ i → Sb lt tag d[j]! d[q]!
  tags : ∀ p, a ≤ p → p < j → tag d[p]! < tag d[j]!

theorem InvA.stop (hS : SWO lt) {a j i : Nat} {d : Array α} (h : InvA lt tag a j i d) (hji : j ≤ i) (hs : j ≤ a ∨ lt d[j]! d[j - 1]! = false) : Asc lt tag d a (i + 1) := by
  intro p q hap hpq hq
  by_cases hqj : q = j
  · subst hqj
    rcases hs with hs | hs
    · omega
    · have h1 : Sb lt tag d[q - 1]! d[q]! := Sb.of_no hs (h.tags (q - 1) (by omega) (by omega))
      by_cases hp : p = q - 1
      · rw [hp]; exact h1
      · exact (h.rest p (q - 1) hap (by omega) (by omega) (by omega) (by omega)).trans hS h1
  · by_cases hpj : p = j
    · subst hpj; exact h.right q hpq (by omega)
    · exact h.rest p q hap hpq (by omega) hpj hqj

theorem InvA.step {a j i : Nat} {d : Array α} (h : InvA lt tag a (j + 1) i d) (hl : lt d[j + 1]! d[j]! = true) (haj : a ≤ j) (hsz : j + 1 < d.size) : InvA lt tag a j i (swp d (j + 1) j) := by
  have g := swp_at d (j + 1) j hsz (by omega)
  constructor
  · intro p q hap hpq hqi hp hq
    rw [g, g]
    have ep : (if p = j + 1 then j else if p = j then j + 1 else p) = (if p = j + 1 then j else p) := by rw [if_neg hp]
    have eq : (if q = j + 1 then j else if q = j then j + 1 else q) = (if q = j + 1 then j else q) := by rw [if_neg hq]
    rw [ep, eq]
    apply h.rest
    all_goals (repeat' split) <;> omega
  · intro q hq hqi
    rw [g, g, if_neg (by omega), if_pos rfl]
    by_cases e : q = j + 1
    · rw [if_pos e]; exact .inl hl
    · rw [if_neg e, if_neg (by omega)]; exact h.right q (by omega) hqi
  · intro p hp hpj
    rw [g, g, if_neg (by omega), if_neg (by omega), if_neg (by omega), if_pos rfl]
    exact h.tags p hp (by omega)

theorem insInner_asc (hS : SWO lt) {a i : Nat} : ∀ j (d : Array α), a ≤ j → j ≤ i → i < d.size → InvA lt tag a j i d → Asc lt tag (insInner lt a j d) a (i + 1) ∧ PermIn a (i + 1) d (insInner lt a j d)
  | 0, d, h1, h2, h3, h => by
    unfold insInner
    exact ⟨h.stop hS h2 (.inl (Nat.zero_le _)), permIn_refl _ _ _⟩
  | j + 1, d, h1, h2, h3, h => by
    unfold insInner
    by_cases hc : (decide (j + 1 > a) && lt d[j + 1]! d[j]!) = true
    · rw [if_pos hc]
      rw [Bool.and_eq_true, decide_eq_true_eq] at hc
      have := insInner_asc hS j (swp d (j + 1) j) (by omega) (by omega) (by rw [size_swp]; exact h3) (h.step hc.2 (by omega) (by omega))
      exact ⟨this.1, permIn_trans _ _ _ _ _ (swp_permIn d a (i + 1) (j + 1) j (by omega) (by omega) (by omega) (by omega) (by omega)) this.2⟩
    · rw [if_neg hc]
      refine ⟨h.stop hS h2 ?_, permIn_refl _ _ _⟩
      by_cases e : j + 1 ≤ a
      · exact .inl e
      · right
        cases hl : lt d[j + 1]! d[j]! with
        | false => exact hl
        | true => exact absurd (by rw [hl, decide_eq_true (by omega)]; rfl) hc

theorem insOuter_asc (hS : SWO lt) {a b : Nat} : ∀ n i (d : Array α), b - i = n → a + 1 ≤ i → b ≤ d.size → Asc lt tag d a i → (∀ p q, a ≤ p → p < q → i ≤ q → q < b → tag d[p]! < tag d[q]!) →
    Asc lt tag (insOuter lt a b i d) a b ∧ PermIn a b d (insOuter lt a b i d)
  | 0, i, d, hn, hi, hb, ha, ht => by
    rw [insOuter, if_neg (by omega)]
    exact ⟨ha.part (Nat.le_refl _) (by omega), permIn_refl _ _ _⟩
  | n + 1, i, d, hn, hi, hb, ha, ht => by
    rw [insOuter, if_pos (by omega)]
    have hv : InvA lt tag a i i d := ⟨fun p q h1 h2 h3 h4 h5 => ha p q h1 h2 (by omega), fun q h1 h2 => by omega, fun p h1 h2 => ht p i h1 h2 (Nat.le_refl _) (by omega)⟩
    obtain ⟨h1, h2⟩ := insInner_asc hS i d (by omega) (Nat.le_refl _) (by omega) hv
    have := insOuter_asc (a := a) (b := b) hS n (i + 1) (insInner lt a i d) (by omega) (by omega) (by rw [h2.1]; exact hb) h1 (fun p q k1 k2 k3 k4 => by
      rw [h2.2.1 q (.inr k3)]
      by_cases c : p < i + 1
      · exact Go.Sort.permIn_all d _ a (i + 1) (fun x => tag x < tag d[q]!) (by omega) h2 (fun x y1 y2 => ht x q y1 (by omega) (by omega) k4) p k1 c
      · rw [h2.2.1 p (.inr (by omega))]; exact ht p q k1 k2 (by omega) k4)
    exact ⟨this.1, permIn_trans _ _ _ _ _ (permIn_mono _ _ a (i + 1) a b (Nat.le_refl _) (by omega) hb h2) this.2⟩

theorem insertion_asc (hS : SWO lt) {a b : Nat} {d : Array α} (hab : a ≤ b) (hb : b ≤ d.size) (ht : ∀ p q, a ≤ p → p < q → q < b → tag d[p]! < tag d[q]!) :
    Merged lt tag d (insertionSort lt d a b) a b := by
  have := insOuter_asc (a := a) (b := b) hS (b - (a + 1)) (a + 1) d rfl (Nat.le_refl _) hb (Asc.small d (Nat.le_refl _)) (fun p q h1 h2 h3 h4 => ht p q h1 h2 h4)
  exact ⟨this.2, this.1⟩

/-- From a on: blocks of bs, each in order, each older than all behind it. -/
inductive Run (lt : α → α → Bool) (tag : α → Nat) (d : Array α) (n bs : Nat) : Nat → Prop
  | stop {a : Nat} : n ≤ a → Run lt tag d n bs a
  | step {a : Nat} : Asc lt tag d a (min (a + bs) n) → (∀ i j, a ≤ i → i < a + bs → a + bs ≤ j → j < n → tag d[i]! < tag d[j]!) → Run lt tag d n bs (a + bs) → Run lt tag d n bs a

theorem Run.head {d : Array α} {n bs a : Nat} (h : Run lt tag d n bs a) (ha : a < n) : Asc lt tag d a (min (a + bs) n) ∧ (∀ i j, a ≤ i → i < a + bs → a + bs ≤ j → j < n → tag d[i]! < tag d[j]!) ∧ Run lt tag d n bs (a + bs) := by
  cases h with
  | stop h => omega
  | step h1 h2 h3 => exact ⟨h1, h2, h3⟩

theorem Run.congr {d d' : Array α} {n bs a : Nat} (h : Run lt tag d n bs a) (he : ∀ i, a ≤ i → d'[i]! = d[i]!) : Run lt tag d' n bs a := by
  induction h with
  | stop h => exact .stop h
  | step h1 h2 h3 ih => exact .step (h1.congr fun i h _ => he i h) (fun i j k1 k2 k3 k4 => by rw [he i k1, he j (by omega)]; exact h2 i j k1 k2 k3 k4) (ih fun i h => he i (by omega))

/-- All ahead of a is done. -/
def Fin2 (lt : α → α → Bool) (tag : α → Nat) (d : Array α) (n bs a : Nat) : Prop := ∀ d', PermIn a n d d' → Run lt tag d' n bs a → Run lt tag d' n bs 0

theorem Fin2.start (d : Array α) (n bs : Nat) : Fin2 lt tag d n bs 0 := fun _ _ h => h

theorem Fin2.step {d d1 : Array α} {n bs a : Nat} (h : Fin2 lt tag d n bs a) (hm : Merged lt tag d d1 a (a + bs)) (hn : a + bs ≤ n) (hz : n ≤ d.size)
    (ht : ∀ i j, a ≤ i → i < a + bs → a + bs ≤ j → j < n → tag d[i]! < tag d[j]!) : Fin2 lt tag d1 n bs (a + bs) := by
  intro d' hp hr
  have z1 := hm.perm.1
  refine h d' (permIn_trans _ _ _ _ _ (permIn_mono _ _ a (a + bs) a n (Nat.le_refl _) hn hz hm.perm) (permIn_mono _ _ (a + bs) n a n (by omega) (Nat.le_refl _) (by omega) hp)) (.step ?_ ?_ hr)
  · rw [Nat.min_eq_left hn]
    exact hm.asc.congr fun i h1 h2 => hp.2.1 i (.inl h2)
  · intro i j k1 k2 k3 k4
    rw [hp.2.1 i (.inl k2)]
    refine Go.Sort.permIn_all d1 d' (a + bs) n (fun x => tag d1[i]! < tag x) (by omega) hp (fun x y1 y2 => ?_) j k3 k4
    rw [hm.perm.2.1 x (.inr y1)]
    exact Go.Sort.permIn_all d d1 a (a + bs) (fun y => tag y < tag d[x]!) (by omega) hm.perm (fun y u1 u2 => ht y x u1 u2 y1 y2) i k1 k2

/-- The last block, whatever its length. -/
theorem Fin2.last {d d1 : Array α} {n bs a : Nat} (h : Fin2 lt tag d n bs a) (hm : Merged lt tag d d1 a n) (hn : n ≤ a + bs) : Run lt tag d1 n bs 0 := by
  refine h d1 hm.perm (.step ?_ (fun i j _ _ _ _ => by omega) (.stop hn))
  rw [Nat.min_eq_right hn]
  exact hm.asc

theorem Fin2.rest {d : Array α} {n bs a : Nat} (h : Fin2 lt tag d n (2 * bs) a) (hr : Run lt tag d n bs a) (hn : n ≤ a + bs) : Run lt tag d n (2 * bs) 0 := by
  refine h d (permIn_refl _ _ _) ?_
  by_cases c : a < n
  · have := (hr.head c).1
    rw [Nat.min_eq_right hn] at this
    refine .step ?_ (fun i j _ _ _ _ => by omega) (.stop (by omega))
    rw [Nat.min_eq_right (by omega)]
    exact this
  · exact .stop (by omega)

/-- Two blocks one behind the other, ready to be merged. -/
theorem Run.pre {d : Array α} {n bs a b : Nat} (h : Run lt tag d n bs a) (h0 : 0 < bs) (h1 : a + bs < n) (hb : b = min (a + 2 * bs) n) : Pre lt tag d a (a + bs) b := by
  obtain ⟨k1, k2, k3⟩ := h.head (by omega)
  obtain ⟨k4, k5, k6⟩ := k3.head h1
  refine ⟨?_, ?_, fun i j p1 p2 p3 p4 => k2 i j p1 p2 p3 (by omega)⟩
  · exact k1.part (Nat.le_refl _) (by omega)
  · exact k4.part (Nat.le_refl _) (by omega)

theorem Run.two {d : Array α} {n bs a : Nat} (h : Run lt tag d n bs a) (h0 : 0 < bs) (h1 : a + 2 * bs ≤ n) :
    (∀ i j, a ≤ i → i < a + 2 * bs → a + 2 * bs ≤ j → j < n → tag d[i]! < tag d[j]!) ∧ Run lt tag d n bs (a + 2 * bs) := by
  obtain ⟨k1, k2, k3⟩ := h.head (by omega)
  obtain ⟨k4, k5, k6⟩ := k3.head (by omega)
  refine ⟨fun i j p1 p2 p3 p4 => ?_, by rw [show a + 2 * bs = a + bs + bs by omega]; exact k6⟩
  by_cases c : i < a + bs
  · exact k2 i j p1 c (by omega) p4
  · exact k5 i j (by omega) (by omega) (by omega) p4

theorem Run.all {d : Array α} {n bs : Nat} (h : Run lt tag d n bs 0) (hn : n ≤ bs) : Asc lt tag d 0 n := by
  by_cases c : 0 < n
  · have := (h.head c).1
    rw [Nat.min_eq_right (by omega)] at this
    exact this
  · exact Asc.small d (by omega)
end Go.Proofs.YtjocnhkapiiblaaDoor

/- What a method changes: its object's block, the row that it grows, what it makes anew, and nothing else; strings as bytes. No program in it. -/
namespace Go.Proofs.YtjocnhkapiiblaaDoor
open Go.RowKit
set_option linter.unusedVariables false

/-- But for block p and the row that a lies in, all that was there is as it was. -/
structure Kept (p : Nat) (a : Option Addr) (w w' : World) : Prop where
  os : w'.os = w.os
  tape : w'.tape = w.tape
  output : w'.output = w.output
  size : w.heap.size ≤ w'.heap.size
  block : ∀ k, k < w.heap.size → k ≠ p → Apart a k → w'.heap[k]? = w.heap[k]?

/-- A row that stayed, or that lies in new memory. -/
def Near (a a' : Option Addr) (w : World) : Prop := ∀ k, k < w.heap.size → Apart a k → Apart a' k

theorem Near.refl (a : Option Addr) (w : World) : Near a a w := fun k hk h => h
theorem Near.of {a a' : Option Addr} {w : World} (h : a' = a ∨ ∃ g, a' = some ⟨g, 0, none⟩ ∧ w.heap.size ≤ g) : Near a a' w := fun k hk ha => by
  rcases h with rfl | ⟨g, rfl, hg⟩
  · exact ha
  · intro x hx
    cases hx
    show g ≠ k
    omega
theorem Near.trans {a a1 a2 : Option Addr} {w w1 : World} (h : Near a a1 w) (h1 : Near a1 a2 w1) (hs : w.heap.size ≤ w1.heap.size) : Near a a2 w := fun k hk ha => h1 k (Nat.lt_of_lt_of_le hk hs) (h k hk ha)
theorem Near.early {a a1 : Option Addr} {w w1 : World} (h : Near a a1 w1) (hs : w.heap.size ≤ w1.heap.size) : Near a a1 w := fun k hk ha => h k (Nat.lt_of_lt_of_le hk hs) ha

theorem Kept.refl (p : Nat) (a : Option Addr) (w : World) : Kept p a w w := ⟨rfl, rfl, rfl, Nat.le_refl _, fun _ _ _ _ => rfl⟩
theorem Kept.of {p : Nat} {a : Option Addr} {w w' : World} (h : Below w.heap.size w w') : Kept p a w w' := ⟨h.os, h.tape, h.output, h.size, fun k hk _ _ => h.block k hk⟩
theorem Kept.trans {p : Nat} {a a1 : Option Addr} {w w1 w2 : World} (h : Kept p a w w1) (hn : Near a a1 w) (h1 : Kept p a1 w1 w2) : Kept p a w w2 :=
  ⟨h1.os.trans h.os, h1.tape.trans h.tape, h1.output.trans h.output, Nat.le_trans h.size h1.size, fun k hk hp ha => (h1.block k (Nat.lt_of_lt_of_le hk h.size) hp (hn k hk ha)).trans (h.block k hk hp ha)⟩
theorem Kept.cell {p : Nat} {a : Option Addr} {w w' : World} (h : Kept p a w w') {x : Addr} {v : Value} (hc : w.cell? x = some v) (hp : x.block ≠ p) (ha : Apart a x.block) : w'.cell? x = some v :=
  (World.cell?_of_block (h.block x.block (cell_lt hc) hp ha)).trans hc
theorem Kept.frozen {p : Nat} {a : Option Addr} {w w' : World} (h : Kept p a w w') {x : Addr} (hx : x.block < w.heap.size) (hp : x.block ≠ p) (ha : Apart a x.block) : w'.frozen? x = w.frozen? x :=
  World.frozen?_of_block (h.block x.block hx hp ha)
theorem Kept.below {base p : Nat} {a : Option Addr} {w w' : World} (h : Kept p a w w') (hp : base ≤ p) (ha : ∀ x, a = some x → base ≤ x.block) (hs : base ≤ w.heap.size) : Below base w w' :=
  ⟨h.os, h.tape, h.output, h.size, fun k hk => h.block k (by omega) (by omega) (fun x hx => by have := ha x hx; omega)⟩
theorem Kept.setCell {p : Nat} {a : Option Addr} {w w' : World} (h : Kept p a w w') (i : Nat) (u : Value) : Kept p a w (w'.setCell ⟨p, i, none⟩ u) :=
  ⟨h.os, h.tape, h.output, by simpa using h.size, fun k hk hp ha => (Below.heap_setCell w' ⟨p, i, none⟩ u k hp).trans (h.block k hk hp ha)⟩
theorem Kept.grown {p base : Nat} {a : Option Addr} {w w' : World} (hb : Below base w w') (hg : GrownBut w w' a) : Kept p a w w' := ⟨hb.os, hb.tape, hb.output, hg.1, fun k hk _ ha => hg.2 k hk ha⟩

/-- The slice q lies neither in block p nor in a's row. -/
def Away (q : Option Addr) (p : Nat) (a : Option Addr) : Prop := ∀ x, q = some x → x.block ≠ p ∧ Apart a x.block

theorem Reads.kept {p : Nat} {a q : Option Addr} {w w' : World} {xs : List Value} (h : Reads w q xs) (hk : Kept p a w w') (ha : Away q p a) : Reads w' q xs := fun i v hv => by
  obtain ⟨b, off, hb, hc⟩ := h i v hv
  exact ⟨b, off, hb, hk.cell hc (ha _ hb).1 (ha _ hb).2⟩
theorem Owned.kept {base p : Nat} {e : TypeId} {a q : Option Addr} {n c : Nat} {xs : List Value} {w w' : World} (h : Owned base e q n c xs w) (hk : Kept p a w w') (ha : Away q p a) : Owned base e q n c xs w' := by
  refine ⟨⟨h.1.1, ?_⟩, h.2.1.kept hk ha, h.2.2⟩
  rcases h.1.2 with h2 | ⟨g, cap, cur, hv, hb, hg, d⟩
  · exact .inl h2
  · refine .inr ⟨g, cap, cur, hv, hb, ?_, d⟩
    have hlt : g < w.heap.size := by
      rcases Nat.lt_or_ge g w.heap.size with h | h
      · exact h
      · rw [Array.getElem?_eq_none h] at hg; cases hg
    cases hv
    rw [hk.block g hlt (ha _ rfl).1 (ha _ rfl).2]
    exact hg
theorem Owned.le {base : Nat} {e : TypeId} {a : Option Addr} {n c : Nat} {xs : List Value} {w : World} (h : Owned base e a n c xs w) : n ≤ c := h.2.2.2.1
theorem Owned.capm {base : Nat} {e : TypeId} {a : Option Addr} {n c : Nat} {xs : List Value} {w : World} (h : Owned base e a n c xs w) : c ≤ maxLen := h.2.2.2.2.1
theorem Owned.lt' {base : Nat} {e : TypeId} {a : Option Addr} {n c : Nat} {xs : List Value} {w : World} (h : Owned base e a n c xs w) (x : Addr) (hx : a = some x) : base ≤ x.block ∧ x.block < w.heap.size := by
  subst hx
  exact h.1.lt _ rfl

/-- An object at block p whose field is a slice of the call's own, of the bytes l. -/
def Wr (e : TypeId) (base p : Nat) (a : Option Addr) (l : List Int) (w : World) : Prop :=
  ∃ n c, base ≤ p ∧ p < w.heap.size ∧ w.cell? ⟨p, 0, none⟩ = some (.slice a n c) ∧ w.frozen? ⟨p, 0, none⟩ = false ∧ l.length = n ∧ Owned base e a n c (l.map (Value.int .u8)) w ∧ Apart a p
theorem Wr.below {e : TypeId} {base p : Nat} {a : Option Addr} {l : List Int} {w w' : World} (h : Wr e base p a l w) (hb : Below w.heap.size w w') : Wr e base p a l w' := by
  obtain ⟨n, c, h1, h2, h3, h4, h5, h6, h7⟩ := h
  exact ⟨n, c, h1, Nat.lt_of_lt_of_le h2 hb.size, (hb.cell (p := ⟨p, 0, none⟩) h2).trans h3, (hb.frozen (p := ⟨p, 0, none⟩) h2).trans h4, h5, h6.below hb (Nat.le_refl _), h7⟩
theorem Wr.lt {e : TypeId} {base p : Nat} {a : Option Addr} {l : List Int} {w : World} (h : Wr e base p a l w) : base ≤ p ∧ p < w.heap.size := ⟨h.choose_spec.choose_spec.1, h.choose_spec.choose_spec.2.1⟩
theorem Wr.row {e : TypeId} {base p : Nat} {a : Option Addr} {l : List Int} {w : World} (h : Wr e base p a l w) (x : Addr) (hx : a = some x) : base ≤ x.block ∧ x.block < w.heap.size ∧ x.block ≠ p := by
  obtain ⟨n, c, h1, h2, h3, h4, h5, h6, h7⟩ := h
  exact ⟨(h6.lt' x hx).1, (h6.lt' x hx).2, h7 x hx⟩
/-- Another row grew. -/
theorem Wr.kept {e : TypeId} {base p p' : Nat} {a q : Option Addr} {l : List Int} {w w' : World} (h : Wr e base p a l w) (hk : Kept p' q w w') (hp : p ≠ p') (hq : Apart q p) (ha : Away a p' q) : Wr e base p a l w' := by
  obtain ⟨n, c, h1, h2, h3, h4, h5, h6, h7⟩ := h
  exact ⟨n, c, h1, Nat.lt_of_lt_of_le h2 hk.size, hk.cell h3 hp hq, (hk.frozen (x := ⟨p, 0, none⟩) h2 hp hq).trans h4, h5, h6.kept hk ha, h7⟩

/-- A method of the object answers the object itself, behind which l lies. -/
def WrGives (e : TypeId) (base p : Nat) (a : Option Addr) (l : List Int) (w : World) (en : Ending) (w' : World) : Prop :=
  en = .returned (.pointer (some ⟨p, 0, none⟩)) ∧ ∃ a', Wr e base p a' l w' ∧ Kept p a w w' ∧ Near a a' w
theorem WrGives.early {e : TypeId} {base p : Nat} {a : Option Addr} {l : List Int} {w w1 w2 : World} {en : Ending} (h : WrGives e base p a l w1 en w2) (hb : Below w.heap.size w w1) : WrGives e base p a l w en w2 := by
  obtain ⟨rfl, a', h1, h2, h3⟩ := h
  exact ⟨rfl, a', h1, (Kept.of hb).trans (Near.refl _ _) h2, h3.early hb.size⟩
theorem WrGives.later {e : TypeId} {base p : Nat} {a a1 : Option Addr} {l : List Int} {w w1 w2 : World} {en : Ending} (h : WrGives e base p a1 l w1 en w2) (hk : Kept p a w w1) (hn : Near a a1 w) : WrGives e base p a l w en w2 := by
  obtain ⟨rfl, a', h1, h2, h3⟩ := h
  exact ⟨rfl, a', h1, hk.trans hn h2, hn.trans h3 hk.size⟩

end Go.Proofs.YtjocnhkapiiblaaDoor

/- What a call changes: some blocks of what was there, and what it makes anew; which rows and objects stay as they are. No program in it. -/
namespace Go.Proofs.YtjocnhkapiiblaaDoor
open Go.RowKit
set_option linter.unusedVariables false

/-- The block that a slice, or a pointer, leads to. -/
def At (a : Option Addr) (k : Nat) : Prop := ∃ x, a = some x ∧ x.block = k
theorem at_none (k : Nat) : ¬ At none k := by rintro ⟨x, h, _⟩; cases h
theorem at_some {x : Addr} {k : Nat} : At (some x) k ↔ x.block = k := ⟨by rintro ⟨y, h, e⟩; cases h; exact e, fun e => ⟨x, rfl, e⟩⟩
theorem apart_iff {a : Option Addr} {k : Nat} : Apart a k ↔ ¬ At a k := ⟨fun h ⟨x, e, q⟩ => h x e q, fun h x e q => h ⟨x, e, q⟩⟩

/-- Two of them lead to different blocks. -/
def Off (a b : Option Addr) : Prop := ∀ k, At a k → ¬ At b k
theorem Off.symm {a b : Option Addr} (h : Off a b) : Off b a := fun k h1 h2 => h k h2 h1
theorem off_none (b : Option Addr) : Off none b := fun k h => absurd h (at_none k)
theorem off_none' (b : Option Addr) : Off b none := fun k _ h => absurd h (at_none k)
theorem Off.new {a : Option Addr} {n : Nat} (h : ∀ k, At a k → k < n) {g o : Nat} {t : Option Nat} (hg : n ≤ g) : Off a (some ⟨g, o, none⟩) := fun k h1 h2 => by
  have e : g = k := at_some.1 h2
  have := h k h1
  omega
theorem Off.moved {a a' b : Option Addr} {n : Nat} (h : Off a b) (hn : a' = a ∨ ∃ g, a' = some ⟨g, 0, none⟩ ∧ n ≤ g) (hb : ∀ k, At b k → k < n) : Off a' b := by
  rcases hn with rfl | ⟨g, rfl, hg⟩
  · exact h
  · intro k h1 h2
    have e : g = k := at_some.1 h1
    have := hb k h2
    omega
theorem Off.near {a a' b : Option Addr} {w : World} (h : Off a b) (hn : Near a a' w) (hb : ∀ k, At b k → k < w.heap.size) : Off a' b := fun k h1 h2 =>
  apart_iff.1 (hn k (hb k h2) (apart_iff.2 fun h3 => h k h3 h2)) h1
theorem Off.away {q a : Option Addr} {p : Nat} {o : Nat} (h1 : Off q (some ⟨p, o, none⟩)) (h2 : Off q a) : Away q p a := fun x hx =>
  ⟨fun e => h1 x.block ⟨x, hx, rfl⟩ (at_some.2 e.symm), apart_iff.2 fun h => h2 x.block ⟨x, hx, rfl⟩ h⟩
theorem Off.apart {q : Option Addr} {p o : Nat} (h : Off q (some ⟨p, o, none⟩)) : Apart q p := apart_iff.2 fun h1 => h p h1 (at_some.2 rfl)
theorem Off.of_apart {q : Option Addr} {p : Nat} (h : Apart q p) (o : Nat) : Off q (some ⟨p, o, none⟩) := fun k h1 h2 => by
  have e : p = k := at_some.1 h2
  subst e
  exact apart_iff.1 h h1

/-- All that was there stays, but for the blocks of F. -/
structure Keeps (F : Nat → Prop) (w w' : World) : Prop where
  os : w'.os = w.os
  tape : w'.tape = w.tape
  output : w'.output = w.output
  size : w.heap.size ≤ w'.heap.size
  block : ∀ k, k < w.heap.size → ¬ F k → w'.heap[k]? = w.heap[k]?

theorem Keeps.refl (F : Nat → Prop) (w : World) : Keeps F w w := ⟨rfl, rfl, rfl, Nat.le_refl _, fun _ _ _ => rfl⟩
theorem Keeps.trans {F G : Nat → Prop} {w w1 w2 : World} (h : Keeps F w w1) (h1 : Keeps G w1 w2) (hs : ∀ k, k < w.heap.size → G k → F k) : Keeps F w w2 :=
  ⟨h1.os.trans h.os, h1.tape.trans h.tape, h1.output.trans h.output, Nat.le_trans h.size h1.size, fun k hk hF => (h1.block k (Nat.lt_of_lt_of_le hk h.size) fun hG => hF (hs k hk hG)).trans (h.block k hk hF)⟩
theorem Keeps.mono {F G : Nat → Prop} {w w' : World} (h : Keeps F w w') (hs : ∀ k, k < w.heap.size → F k → G k) : Keeps G w w' :=
  ⟨h.os, h.tape, h.output, h.size, fun k hk hG => h.block k hk fun hF => hG (hs k hk hF)⟩
theorem Keeps.of {B : Nat} {w w' : World} (h : Below B w w') : Keeps (fun k => B ≤ k) w w' :=
  ⟨h.os, h.tape, h.output, h.size, fun k hk hF => h.block k (by omega)⟩
theorem Keeps.new {F : Nat → Prop} {w w' : World} (h : Below w.heap.size w w') : Keeps F w w' :=
  ⟨h.os, h.tape, h.output, h.size, fun k hk _ => h.block k hk⟩
theorem Keeps.below {F : Nat → Prop} {B : Nat} {w w' : World} (h : Keeps F w w') (hB : B ≤ w.heap.size) (hF : ∀ k, k < w.heap.size → F k → B ≤ k) : Below B w w' :=
  ⟨h.os, h.tape, h.output, h.size, fun k hk => h.block k (Nat.lt_of_lt_of_le hk hB) fun c => by have := hF k (Nat.lt_of_lt_of_le hk hB) c; omega⟩
theorem Keeps.ofKept {p : Nat} {a : Option Addr} {w w' : World} (h : Kept p a w w') : Keeps (fun k => k = p ∨ At a k) w w' :=
  ⟨h.os, h.tape, h.output, h.size, fun k hk hF => h.block k hk (fun e => hF (.inl e)) (apart_iff.2 fun e => hF (.inr e))⟩
theorem Keeps.ofGrown {B : Nat} {a : Option Addr} {w w' : World} (hb : Below B w w') (h : GrownBut w w' a) : Keeps (At a) w w' :=
  ⟨hb.os, hb.tape, hb.output, h.1, fun k hk hF => h.2 k hk (apart_iff.2 hF)⟩
theorem Keeps.cell {F : Nat → Prop} {w w' : World} (h : Keeps F w w') {x : Addr} {v : Value} (hc : w.cell? x = some v) (hF : ¬ F x.block) : w'.cell? x = some v :=
  (World.cell?_of_block (h.block x.block (cell_lt hc) hF)).trans hc
theorem Keeps.frozen {F : Nat → Prop} {w w' : World} (h : Keeps F w w') {x : Addr} (hx : x.block < w.heap.size) (hF : ¬ F x.block) : w'.frozen? x = w.frozen? x :=
  World.frozen?_of_block (h.block x.block hx hF)
theorem Keeps.setCell {F : Nat → Prop} {w w' : World} (h : Keeps F w w') {x : Addr} (hF : F x.block) (u : Value) : Keeps F w (w'.setCell x u) :=
  ⟨h.os, h.tape, h.output, by simpa using h.size, fun k hk hn => (Below.heap_setCell w' x u k (fun e => hn (e ▸ hF))).trans (h.block k hk hn)⟩

theorem Reads.keeps {F : Nat → Prop} {q : Option Addr} {w w' : World} {xs : List Value} (h : Reads w q xs) (hk : Keeps F w w') (hq : ∀ k, At q k → ¬ F k) : Reads w' q xs := by
  intro k v hv
  obtain ⟨b, off, e, hc⟩ := h k v hv
  exact ⟨b, off, e, hk.cell hc (hq _ (e ▸ at_some.2 rfl))⟩
theorem ownsRow_keeps {F : Nat → Prop} {w w' : World} {base : Nat} {e : TypeId} {z : Nat} {q : Option Addr} {n c : Nat} {m : Nat} {xs : List Value} (h : w.ownsRow base e z (.slice q n c) m xs) (hk : Keeps F w w') (hq : ∀ k, At q k → ¬ F k) : w'.ownsRow base e z (.slice q n c) m xs := by
  refine ⟨h.1, ?_⟩
  rcases h.2 with h2 | ⟨g, cap, cur, hv, hb, hg, d⟩
  · exact .inl h2
  · refine .inr ⟨g, cap, cur, hv, hb, ?_, d⟩
    have hlt : g < w.heap.size := by
      rcases Nat.lt_or_ge g w.heap.size with h | h
      · exact h
      · rw [Array.getElem?_eq_none h] at hg; cases hg
    cases hv
    rw [hk.block g hlt (hq _ (at_some.2 rfl))]
    exact hg
theorem Owned.keeps {F : Nat → Prop} {base : Nat} {e : TypeId} {q : Option Addr} {n c : Nat} {xs : List Value} {w w' : World} (h : Owned base e q n c xs w) (hk : Keeps F w w') (hq : ∀ k, At q k → ¬ F k) : Owned base e q n c xs w' :=
  ⟨ownsRow_keeps h.1 hk hq, h.2.1.keeps hk hq, h.2.2⟩
theorem OwnZ.keeps {F : Nat → Prop} {α : Type} {enc : α → List Value} {z base : Nat} {e : TypeId} {q : Option Addr} {n c : Nat} {P : List α} {w w' : World} (h : OwnZ enc z base e q n c P w) (hk : Keeps F w w') (hq : ∀ k, At q k → ¬ F k) : OwnZ enc z base e q n c P w' :=
  ⟨ownsRow_keeps h.1 hk hq, h.2⟩
theorem OwnZ.lt' {α : Type} {enc : α → List Value} {z base : Nat} {e : TypeId} {a : Option Addr} {n c : Nat} {P : List α} {w : World} (h : OwnZ enc z base e a n c P w) : ∀ k, At a k → base ≤ k ∧ k < w.heap.size := by
  rintro k ⟨x, rfl, rfl⟩
  rcases h.head with ⟨c, _⟩ | ⟨g, e, h1, h2⟩
  · cases c
  · cases e
    exact ⟨h1, h2⟩
theorem Owned.at' {base : Nat} {e : TypeId} {a : Option Addr} {n c : Nat} {xs : List Value} {w : World} (h : Owned base e a n c xs w) : ∀ k, At a k → base ≤ k ∧ k < w.heap.size := by
  rintro k ⟨x, rfl, rfl⟩
  exact h.lt' x rfl
theorem Wr.at' {e : TypeId} {base p : Nat} {a : Option Addr} {l : List Int} {w : World} (h : Wr e base p a l w) : ∀ k, At a k → base ≤ k ∧ k < w.heap.size ∧ k ≠ p := by
  rintro k ⟨x, rfl, rfl⟩
  exact h.row x rfl
theorem Wr.keeps {F : Nat → Prop} {e : TypeId} {base p : Nat} {a : Option Addr} {l : List Int} {w w' : World} (h : Wr e base p a l w) (hk : Keeps F w w') (hp : ¬ F p) (ha : ∀ k, At a k → ¬ F k) : Wr e base p a l w' := by
  obtain ⟨n, c, h1, h2, h3, h4, h5, h6, h7⟩ := h
  exact ⟨n, c, h1, Nat.lt_of_lt_of_le h2 hk.size, hk.cell h3 hp, (hk.frozen h2 hp).trans h4, h5, h6.keeps hk ha, h7⟩
theorem RowOf.keeps {F : Nat → Prop} {α : Type} {enc : α → List Value} {z : Nat} {w w' : World} {a : Option Addr} {len cap : Nat} {P : List α} (h : RowOf enc z w a len cap P) (hk : Keeps F w w') (ha : ∀ k, At a k → ¬ F k) : RowOf enc z w' a len cap P := by
  refine ⟨h.leq, h.cle, h.capm, h.nil0, fun i x hx => ?_⟩
  obtain ⟨g, off, e, hc⟩ := h.at_ i x hx
  exact ⟨g, off, e, fun j v hv => hk.cell (hc j v hv) (ha _ (e ▸ at_some.2 rfl))⟩
theorem ObjAt.keeps {F : Nat → Prop} {w w' : World} {b : Nat} {vs : List Value} (h : ObjAt w b vs) (hk : Keeps F w w') (hb : ¬ F b) : ObjAt w' b vs := by
  have hlt := h.lt
  obtain ⟨e, he⟩ := h.heap
  exact ⟨e, (hk.block b hlt hb).trans he⟩
end Go.Proofs.YtjocnhkapiiblaaDoor

/- A row of structs of the call's own, behind slices.SortFunc. No program in it. -/
namespace Go.Proofs.YtjocnhkapiiblaaDoor
open Go.RowKit Go.Sort
set_option linter.unusedVariables false

theorem flatK_list {α : Type} [Inhabited α] {enc : α → List Value} {z : Nat} (hz : ∀ x, (enc x).length = z) (P : List α) : (Go.Sort.flatK enc z P.toArray).toList = flatC enc P := by
  apply List.ext_getElem?
  intro t
  by_cases ht : t < P.length * z
  · have hz0 : 0 < z := by
      rcases Nat.eq_zero_or_pos z with rfl | h
      · omega
      · exact h
    have hi : t / z < P.length := Nat.div_lt_of_lt_mul (by rw [Nat.mul_comm]; exact ht)
    have hj : t % z < z := Nat.mod_lt _ hz0
    have e1 : P[t / z]? = some P[t / z] := List.getElem?_eq_getElem hi
    have e2 : (enc P[t / z])[t % z]? = some ((enc P[t / z])[t % z]'(by rw [hz]; exact hj)) := List.getElem?_eq_getElem (by rw [hz]; exact hj)
    have h := flatC_at hz P _ _ _ _ e1 e2
    have e3 : t / z * z + t % z = t := by rw [Nat.mul_comm]; exact Nat.div_add_mod t z
    rw [e3] at h
    rw [h]
    have hs : t < (Go.Sort.flatK enc z P.toArray).size := by simpa using ht
    rw [Array.getElem?_toList, Array.getElem?_eq_getElem hs]
    have g := get_flatK enc z P.toArray t (by simpa using ht)
    rw [getElem!_pos _ t hs] at g
    rw [g]
    have e4 : P.toArray[t / z]! = P[t / z] := by simp [hi]
    rw [e4, getElem!_pos _ _ (by rw [hz]; exact hj)]
  · rw [List.getElem?_eq_none (by simp; omega), List.getElem?_eq_none (by rw [flatC_len hz]; omega)]

theorem own_block {α : Type} {enc : α → List Value} {z base : Nat} {e : TypeId} {g n c : Nat} {P : List α} {w : World} (h : OwnZ enc z base e (some ⟨g, 0, none⟩) n c P w) :
    ∃ cur, base ≤ g ∧ w.heap[g]? = some (.cells cur e (0, 0)) ∧ n ≤ c ∧ c ≤ maxLen ∧ cur.size = c * z ∧ cur.toList.take (n * z) = flatC enc P := by
  obtain ⟨⟨_, h1⟩, h2, h3, h4⟩ := h
  rcases h1 with ⟨h1, _⟩ | ⟨g', cap, cur, hv, hb, hg, a, b, d, f⟩
  · cases h1
  · cases hv
    exact ⟨cur, hb, hg, a, b, d, f⟩

theorem own_holds {α : Type} [Inhabited α] {enc : α → List Value} {z base : Nat} {e : TypeId} {g n c : Nat} {P : List α} {w : World} (hz : ∀ x, (enc x).length = z) (h : OwnZ enc z base e (some ⟨g, 0, none⟩) n c P w) : HoldsK enc z w g 0 P.toArray := by
  obtain ⟨cur, _, hg, hn, _, hs, ht⟩ := own_block h
  have hP : P.length = n := h.2.1
  intro t ht2
  have hlt : t < n * z := by simpa [hP] using ht2
  have hcz : n * z ≤ c * z := Nat.mul_le_mul_right z hn
  have e0 : (Go.Sort.flatK enc z P.toArray)[t]? = (flatC enc P)[t]? := by rw [← flatK_list hz P, Array.getElem?_toList]
  refine ⟨?_, by simp [World.frozen?, hg]⟩
  have e1 : (cur.toList.take (n * z))[t]? = (flatC enc P)[t]? := by rw [ht]
  rw [List.getElem?_take_of_lt hlt, ← e0, Array.getElem?_toList, Array.getElem?_eq_getElem ht2, Array.getElem?_eq_getElem (by omega)] at e1
  have e2 : cur[t]'(by omega) = (Go.Sort.flatK enc z P.toArray)[t] := by simpa using e1
  rw [getElem!_pos _ t ht2]
  simp [World.cell?, hg, show t < cur.size by omega, e2]

theorem heap_sortedK {α : Type} [Inhabited α] {enc : α → List Value} {z : Nat} {w : World} {g m : Nat} {os : Array Obj} {cur : Array Value} {e : TypeId} {fr : Nat × Nat} (d : Array α) (hb : w.heap[g]? = some (.cells cur e fr)) :
    (sortWorldK enc z w g 0 m d os).heap[g]? = some (.cells (putCells id 0 (Go.Sort.flatK enc z d) cur) e fr) := by
  have hg : g < w.heap.size := (Array.getElem?_eq_some_iff.1 hb).1
  unfold sortWorldK putRowK
  rw [heap_grow_old _ _ (by simpa using hg)]
  simp [putRow, mapBlock, Sort.ahead, Array.getElem?_modify, hb, onCells]

theorem keeps_sortedK {α : Type} [Inhabited α] {enc : α → List Value} {z : Nat} {w : World} {g m : Nat} {os : Array Obj} (d : Array α) : Keeps (fun k => k = g) w (sortWorldK enc z w g 0 m d os) := by
  unfold sortWorldK putRowK
  refine ⟨rfl, rfl, rfl, by simp, fun k hk hne => ?_⟩
  rw [heap_grow_old _ _ (by simpa using hk)]
  have : g ≠ k := fun e => hne e.symm
  simp [putRow, mapBlock, Sort.ahead, Array.getElem?_modify, this]

theorem take_putCellsK (cur F : Array Value) (h : F.size ≤ cur.size) : (putCells id 0 F cur).toList.take F.size = F.toList := by
  apply List.ext_getElem?
  intro j
  by_cases hj : j < F.size
  · rw [List.getElem?_take_of_lt hj, Array.getElem?_toList]
    simp [putCells, hj, show j < cur.size by omega]
  · rw [List.getElem?_eq_none (by simp; omega), List.getElem?_eq_none (by simp; omega)]

theorem own_sorted {α : Type} [Inhabited α] {enc : α → List Value} {z base : Nat} {e : TypeId} {g n c : Nat} {P : List α} {w : World} (hz : ∀ x, (enc x).length = z) (h : OwnZ enc z base e (some ⟨g, 0, none⟩) n c P w) (T : List α) (hT : T.length = n) (m : Nat) (os : Array Obj) :
    OwnZ enc z base e (some ⟨g, 0, none⟩) n c T (sortWorldK enc z w g 0 m T.toArray os) := by
  obtain ⟨cur, hb, hg, hn, hc, hs, ht⟩ := own_block h
  have hcz : n * z ≤ c * z := Nat.mul_le_mul_right z hn
  refine ⟨⟨by rw [flatC_len hz, hT], .inr ⟨g, c, _, rfl, hb, heap_sortedK T.toArray hg, hn, hc, by simp [putCells, hs], ?_⟩⟩, hT, hn, hc⟩
  have hF : (Go.Sort.flatK enc z T.toArray).size = n * z := by simp [hT]
  rw [← hF, take_putCellsK _ _ (by omega), flatK_list hz]

theorem permIn_all {α : Type} [Inhabited α] {d d' : Array α} (h : PermIn 0 d.size d d') : d'.size = d.size ∧ d'.toList.Perm d.toList := by
  obtain ⟨h1, _, h3⟩ := h
  refine ⟨h1, ?_⟩
  have e2 : d.extract 0 d.size = d := by simp
  have e1 : d'.extract 0 d.size = d' := by rw [← h1]; simp
  rw [e1, e2] at h3
  exact h3

end Go.Proofs.YtjocnhkapiiblaaDoor

/- A strings.Builder of the call's own: what WriteString and String do. (The shelf's own laying falls where the program's dump names fewer types than the library's body: it is laid by hand here.) -/
namespace Go.Proofs.YtjocnhkapiiblaaDoor
open Go.RowKit Go.Shelf
set_option linter.unusedVariables false

def wsRen : Go.Shelf.Ren := ⟨fun | 166 => 21 | 240 => 27 | 276 => 34 | n => n, fun | 0 => 0 | 3 => 3 | 4 => 4 | 5 => 5 | 9 => 9 | 20 => 20 | 37 => 44 | 70 => 43 | 72 => 46 | 75 => 48 | 80 => 51 | 164 => 61 | n => n, fun | n => n⟩

theorem wsLays : Go.Proofs.Lays.n166 Tryd.prog wsRen where
  mixed := by kernel_rfl
  f166 := Tryd.func21.trans (congrArg some (by kernel_rfl))
  f240 := Tryd.func27.trans (congrArg some (by kernel_rfl))
  f276 := Tryd.func34.trans (congrArg some (by kernel_rfl))
  t0 := Tryd.underlying0
  a0 := Tryd.isAgg0
  z0 := Tryd.sizeOf0
  v0 := Tryd.zeroValue0
  t3 := Tryd.underlying3
  a3 := Tryd.isAgg3
  z3 := Tryd.sizeOf3
  v3 := Tryd.zeroValue3
  t4 := Tryd.underlying4
  a4 := Tryd.isAgg4
  z4 := Tryd.sizeOf4
  v4 := Tryd.zeroValue4
  t9 := Tryd.underlying9
  a9 := Tryd.isAgg9
  z9 := Tryd.sizeOf9
  v9 := Tryd.zeroValue9
  t20 := Tryd.underlying20
  a20 := Tryd.isAgg20
  z20 := Tryd.sizeOf20
  v20 := Tryd.zeroValue20
  t37 := Tryd.underlying44
  a37 := Tryd.isAgg44
  z37 := Tryd.sizeOf44
  v37 := Tryd.zeroValue44
  t70 := Tryd.underlying43
  a70 := Tryd.isAgg43
  z70 := Tryd.sizeOf43
  v70 := Tryd.zeroValue43
  t72 := Tryd.underlying46
  a72 := Tryd.isAgg46
  z72 := Tryd.sizeOf46
  v72 := Tryd.zeroValue46
  t75 := Tryd.underlying48
  a75 := Tryd.isAgg48
  z75 := Tryd.sizeOf48
  v75 := Tryd.zeroValue48
  t164 := Tryd.underlying61
  a164 := Tryd.isAgg61
  z164 := Tryd.sizeOf61
  v164 := Tryd.zeroValue61

theorem wsExtra : Builder.Extra Tryd.prog wsRen where
  sizeBuilder := by kernel_rfl
  liesBuilder := by kernel_rfl
  t5 := Tryd.underlying5
  a5 := Tryd.isAgg5
  z5 := Tryd.sizeOf5
  v5 := Tryd.zeroValue5
  infoByte := by kernel_rfl
  cellsByte := by kernel_rfl
  sizeByte := by kernel_rfl
  neB5 := by decide

/-- A builder in block b, one of the call's own from B on, that holds the bytes l. -/
abbrev Bld (B b : Nat) (l : List UInt8) (w : World) : Prop := Lib.IsBuilderF 46 5 B b (Lib.byteCells l) w
/-- All that is no row of bytes, and not the builder, stays. -/
def KeptBy (b : Nat) (w w' : World) : Prop := ∀ k cur e fr, w.heap[k]? = some (.cells cur e fr) → k ≠ b → e ≠ 5 → w'.heap[k]? = some (.cells cur e fr)

theorem bld_new (w : World) : Bld w.heap.size w.heap.size [] (w.alloc (.cells #[.pointer none, .slice none 0 0] 46)) := by
  left
  refine ⟨Nat.le_refl _, .slice none 0 0, by unfold World.alloc; simp, ⟨rfl, .inl ⟨rfl, rfl⟩⟩, by simp [Value.ownBlock]⟩

theorem writeC (B b : Nat) (l s : List UInt8) (w : World) (h : Bld B b l w) (hlen : l.length + s.length ≤ 140737488355328) (hB : B ≤ w.heap.size) :
    Calls Tryd.prog 21 #[.pointer (some ⟨b, 0, none⟩), .string (str s)] w fun e w' => e = .returned (.tuple #[.int .i64 (s.length : Int), .nilIface]) ∧ Bld B b (l ++ s) w' ∧ Below B w w' ∧ KeptBy b w w' := by
  have hc : Lib.strCells (str s) = Lib.byteCells s := rfl
  have hl : (Lib.byteCells l).length = l.length := by unfold Lib.byteCells; simp
  have := Any.Builder_WriteString_k wsLays wsExtra B b (Lib.byteCells l) (str s) w h (by rw [hl, str_size]; exact hlen) hB
  change Calls Tryd.prog 21 _ w _ at this
  refine this.mono ?_
  rintro e w' ⟨rfl, h1, h2, h3⟩
  refine ⟨by rw [str_size], .inr ?_, h2, fun k cur e fr hk hne he => h3 k _ hk (fun c => hne (Option.some.inj c)) (fun c fz hx => ?_)⟩
  · have ea : Lib.byteCells (l ++ s) = Lib.byteCells l ++ Lib.byteCells s := by unfold Lib.byteCells; exact List.map_append
    rw [ea, ← hc]
    exact h1
  · cases hx; exact he rfl

theorem buildC (B b : Nat) (l : List UInt8) (w : World) (h : Bld B b l w) (hB : B ≤ w.heap.size) :
    Calls Tryd.prog 22 #[.pointer (some ⟨b, 0, none⟩)] w fun e w' => e = .returned (.string (str l)) ∧ Below B w w' := by
  refine (Tryd.Builder_String_any_k B b l w h hB).mono ?_
  rintro e w' ⟨rfl, _, h2, _⟩
  exact ⟨rfl, h2⟩
end Go.Proofs.YtjocnhkapiiblaaDoor

/- How the arguments of a law are opened: what its walk is told of them. -/
namespace Go.Proofs.YtjocnhkapiiblaaDoor
open Go.ChangeShapes Go.WideShapes Go.ChangeAt Go.RowKit
set_option linter.unusedVariables false

theorem own : ownKnob Tryd.prog.godebug = none := by kernel_rfl
theorem laidOut : laidOutB Tryd.prog = true := by kernel_rfl

theorem wfU64 {n : Int} (h : (Lit.int .u64 n).wf = true) : 0 ≤ n ∧ n ≤ 18446744073709551615 := by
  simpa [Lit.wf, IntKind.min, IntKind.max, IntKind.signed, IntKind.bits] using h
theorem wfI64 {n : Int} (h : (Lit.int .i64 n).wf = true) : -9223372036854775808 ≤ n ∧ n ≤ 9223372036854775807 := by
  simpa [Lit.wf, IntKind.min, IntKind.max, IntKind.signed, IntKind.bits] using h
theorem wfU32 {n : Int} (h : (Lit.int .u32 n).wf = true) : 0 ≤ n ∧ n ≤ 4294967295 := by
  simpa [Lit.wf, IntKind.min, IntKind.max, IntKind.signed, IntKind.bits] using h
theorem wfU8 {n : Int} (h : (Lit.int .u8 n).wf = true) : 0 ≤ n ∧ n ≤ 255 := by
  simpa [Lit.wf, IntKind.min, IntKind.max, IntKind.signed, IntKind.bits] using h

end Go.Proofs.YtjocnhkapiiblaaDoor
