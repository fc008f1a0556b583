/- Strings as lists of bytes: what a walk is told of them. No program in it. -/
import Derived.Laws.Strings3
import Derived.Laws.DeepStrings4
import Derived.Laws.Concat
import Derived.ProofKit
import Derived.OpenShut
import Derived.Lib.ConvBytes
import Derived.Laws.IdiomStrings
import Derived.WalkKit
namespace Go.Proofs.Ytfdiomghoheljaa
open Go.RowKit
set_option linter.unusedVariables false

/-- The string of these bytes. -/
def str (l : List UInt8) : ByteArray := ⟨l.toArray⟩

theorem str_of (s : ByteArray) : s = str s.data.toList := by cases s; simp [str]
theorem str_size (l : List UInt8) : (str l).size = l.length := by simp [str, ByteArray.size]
theorem str_toList (l : List UInt8) : (str l).toList = l := ByteArray.toList_mk l
theorem str_data (l : List UInt8) : (str l).data.toList = l := by simp [str]
theorem str_extract (l : List UInt8) (a b : Nat) : (str l).extract a b = str ((l.drop a).take (b - a)) := ByteArray.extract_mk l a b
theorem str_append (a b : List UInt8) : str a ++ str b = str (a ++ b) := by
  apply ByteArray.ext
  simp [str, ByteArray.data_append]
theorem str_inj {a b : List UInt8} (h : str a = str b) : a = b := by
  have := congrArg ByteArray.toList h
  rwa [str_toList, str_toList] at this
theorem str_get (l : List UInt8) (k : Nat) (h : k < (str l).size) : (str l)[k] = l.getD k 0 := by
  have h' : k < l.length := by rw [← str_size]; exact h
  show l.toArray[k]'(by simpa using h') = l.getD k 0
  simp [List.getD, h']
theorem getD_map {α β : Type} (f : α → β) (l : List α) (d : α) (k : Nat) : (l.map f).getD k (f d) = f (l.getD k d) := by
  simp [List.getD, List.getElem?_map]

theorem findIdx_at {l : List UInt8} {p : UInt8 → Bool} {k : Nat} (h : ∀ j, j < k → p (l.getD j 0) = false) (hk : k < l.length) (hp : p (l.getD k 0) = true) : l.findIdx p = k := by
  have e : ∀ j (hj : j < l.length), l.getD j 0 = l[j] := fun j hj => by simp [List.getD, hj]
  refine (List.findIdx_eq hk).2 ⟨by rw [← e k hk]; exact hp, fun j hj => ?_⟩
  rw [← e j (by omega)]
  exact h j hj
theorem findIdx_end {l : List UInt8} {p : UInt8 → Bool} (h : ∀ j, j < l.length → p (l.getD j 0) = false) : l.findIdx p = l.length := by
  rw [List.findIdx_eq_length]
  intro x hx
  obtain ⟨j, hj, rfl⟩ := List.getElem_of_mem hx
  have e : l.getD j 0 = l[j] := by simp [List.getD, hj]
  rw [← e]
  exact h j hj

section
variable {P : Program}
/-- A byte of a string. -/
theorem run_index_str (w : World) (t : TypeId) (l : List UInt8) (K : IntKind) (k : Nat) (ht : P.underlying t = some .string) (h : k < l.length) :
    (Instr.index t (.string (str l)) (.int K (k : Int))).run P w = .ok (.int .u8 ((l.getD k 0).toNat : Int)) w := by
  have hs : k < (str l).size := by rw [str_size]; exact h
  rw [run_index_string w t (str l) K k ht, dif_pos ⟨by omega, by omega⟩]
  have := str_get l k hs
  simp only [Int.toNat_natCast, this]
theorem run_add_str (w : World) (a b : List UInt8) (h : a.length + b.length ≤ 9223372036854775807) : (Op.stringOp .add (str a) (str b)).run P w = .ok (.string (str (a ++ b))) w := by
  rw [run_string_add_sum w _ _ (by rw [str_size, str_size]; exact h), str_append]
end

/-- The row of bytes that a conversion of a string made, as long as the string at least. -/
def BRow (w : World) (g : Nat) (l : List UInt8) : Prop :=
  ∃ cur e fz, w.heap[g]? = some (.cells cur e fz) ∧ l.length ≤ cur.size ∧ cur.size ≤ fz.1 ∧ ∀ i, i < l.length → cur[i]? = some (.int .u8 ((l.getD i 0).toNat : Int))

theorem BRow.new (w : World) (e : TypeId) (l : List UInt8) : BRow (Lib.bytesWorld w e (str l)) w.heap.size l := by
  have hsz : l.length ≤ (Lib.bytesCells w e (str l)).size := by
    unfold Lib.bytesCells
    simp [str]
  refine ⟨_, _, _, Lib.bytesWorld_at_new w e (str l), hsz, Nat.le_refl _, fun i hi => ?_⟩
  have h := Lib.bytesWorld_cell w e (str l) i (by rw [str_size]; exact hi)
  rw [cell_of_row _ _ _ _ _ _ (Lib.bytesWorld_at_new w e (str l)), str_data] at h
  exact h
theorem BRow.lt {w : World} {g : Nat} {l : List UInt8} (h : BRow w g l) : g < w.heap.size := by
  obtain ⟨cur, e, fz, hg, _⟩ := h
  rcases Nat.lt_or_ge g w.heap.size with hlt | hge
  · exact hlt
  · rw [Array.getElem?_eq_none hge] at hg
    cases hg
theorem BRow.cell {w : World} {g : Nat} {l : List UInt8} (h : BRow w g l) (i : Nat) (hi : i < l.length) : w.cell? ⟨g, i, none⟩ = some (.int .u8 ((l.getD i 0).toNat : Int)) := by
  obtain ⟨cur, e, fz, hg, _, _, hc⟩ := h
  rw [cell_of_row _ _ _ _ _ _ hg]
  exact hc i hi
theorem BRow.free {w : World} {g : Nat} {l : List UInt8} (h : BRow w g l) (i : Nat) (hi : i < l.length) : w.frozen? ⟨g, i, none⟩ = false := by
  obtain ⟨cur, e, ⟨f1, f2⟩, hg, h1, h2, _⟩ := h
  simp only [World.frozen?, hg]
  have : ¬ f1 ≤ i := by simp only [] at h2; omega
  simp [this]
theorem BRow.set {w : World} {g : Nat} {l : List UInt8} (h : BRow w g l) (i : Nat) (x : UInt8) : BRow (w.setCell ⟨g, i, none⟩ (.int .u8 (x.toNat : Int))) g (l.set i x) := by
  obtain ⟨cur, e, fz, hg, h1, h2, hc⟩ := h
  refine ⟨cur.setIfInBounds i (.int .u8 (x.toNat : Int)), e, fz, by simp [World.setCell, Array.getElem?_modify, hg], by simpa using h1, by simpa using h2, fun j hj => ?_⟩
  rw [List.length_set] at hj
  rw [Array.getElem?_setIfInBounds]
  by_cases hij : i = j
  · subst hij
    have : i < cur.size := by omega
    simp [this, List.getD, hj]
  · simp only [hij, if_false]
    rw [hc j hj]
    simp [List.getD, hij]
theorem BRow.back {P : Program} {w : World} {g : Nat} {l : List UInt8} (h : BRow w g l) (src dst e : TypeId) (n cap : Nat) (hs : P.underlying src = some (.slice e)) (he : P.underlying e = some (.int .u8)) (hd : P.underlying dst = some .string) (hn : l.length = n) :
    (convert src dst (.slice (some ⟨g, 0, none⟩) n cap)).run P w = .ok (.string (str l)) w := by
  subst hn
  refine run_convert_bytes_back w src dst e ⟨g, 0, none⟩ cap l hs he hd fun j hj => ?_
  have := h.cell j hj
  simp only [List.getD, List.getElem?_eq_getElem hj, Option.getD_some] at this
  rw [← this]
  congr 1
  simp [Addr.add]
  exact fun h => h.symm
theorem one_back {P : Program} (w : World) (src dst e : TypeId) (x : UInt8) (v : Int) (hv : v = (x.toNat : Int)) (hs : P.underlying src = some (.slice e)) (he : P.underlying e = some (.int .u8)) (hd : P.underlying dst = some .string) :
    (convert src dst (.slice (some ⟨w.heap.size, 0, none⟩) 1 1)).run P (w.alloc (.cells #[.int .u8 v] e)) = .ok (.string (str [x])) (w.alloc (.cells #[.int .u8 v] e)) := by
  subst hv
  refine run_convert_bytes_back (w.alloc (.cells #[.int .u8 (x.toNat : Int)] e)) src dst e ⟨w.heap.size, 0, none⟩ 1 [x] hs he hd fun j hj => ?_
  have : j = 0 := by simp at hj; exact hj
  subst this
  simp [Addr.add]
theorem take_snoc {l : List UInt8} {k : Nat} (hk : k < l.length) : l.take (k + 1) = l.take k ++ [l.getD k 0] := by
  rw [List.take_succ_eq_append_getElem hk]
  simp [List.getD, hk]
theorem cut_one {l : List UInt8} {k : Nat} (hk : k < l.length) : (l.drop k).take (k + 1 - k) = [l.getD k 0] := by
  have e : k + 1 - k = 1 := by omega
  rw [e, List.drop_eq_getElem_cons hk]
  show [l[k]] = _
  simp [List.getD, hk]
theorem set_low {l : List UInt8} {f : UInt8 → UInt8} {k : Nat} (hk : k < l.length) : ((l.take k).map f ++ l.drop k).set k (f (l.getD k 0)) = (l.take (k + 1)).map f ++ l.drop (k + 1) := by
  have hd : l.drop k = l.getD k 0 :: l.drop (k + 1) := by
    rw [List.drop_eq_getElem_cons hk]
    simp [List.getD, hk]
  have ht : l.take (k + 1) = l.take k ++ [l.getD k 0] := by
    rw [List.take_succ_eq_append_getElem hk]
    simp [List.getD, hk]
  rw [hd, ht, List.set_append_right _ _ (by simp; omega)]
  have : (List.map f (List.take k l)).length = k := by simp; omega
  rw [this]
  simp
end Go.Proofs.Ytfdiomghoheljaa
