/- Contracts and plain words that the laws' proofs stand on. -/
import Derived.Laws.Strings3
import Derived.Laws.DeepStrings4
import Derived.Laws.Concat
import Derived.ProofKit
import Derived.OpenShut
import Derived.Lib.ConvBytes
import Derived.Laws.IdiomStrings
import Derived.WalkKit
import Derived.Lib.ItoaLen
import Derived.Lib.AppendIntMem
import Derived.Test.YtaodjnkjjmhecaaGreatDoorRows
import Derived.BigQuiet
import Derived.Deep.QuietTactic
import Derived.Deep.RegionHeld3
import Derived.WalkLawsBesides
import Derived.WalkSpells
import Derived.Lib.Hide
import Derived.Laws.AppendOwnNone
import Derived.Below
import Derived.Maps.AppendAt
import Derived.Deep.Slices
import Derived.Deep.Fields
import Derived.Deep.Grids
import Derived.ChangeSame
import Derived.Laws.Rows
import Derived.ShutString
import Derived.ChangeOld
import Derived.JoinedCond
import Derived.Test.YtaodjnkjjmhecaaGreatDoorChecked
import Derived.Deep.WholeRow
import Derived.Deep.RegionLaw
import Derived.BigRegion
import Derived.Lib.LazyBuf
import Derived.Deep.DeepCutAuto
import Derived.Maps.OwnOps
import Derived.Maps.OwnSet
import Derived.Test.YtaodjnkjjmhecaaGreatDoorShelf
namespace Go.Proofs.YtaodjnkjjmhecaaGreatDoor
open Go.RowKit
set_option linter.unusedVariables false
def str (l : List UInt8) : ByteArray := ⟨l.toArray⟩
theorem str_of (s : ByteArray) : s = str s.data.toList := by cases s; simp [str]
theorem str_size (l : List UInt8) : (str l).size = l.length := by simp [str, ByteArray.size]
theorem str_toList (l : List UInt8) : (str l).toList = l := ByteArray.toList_mk l
theorem str_data (l : List UInt8) : (str l).data.toList = l := by simp [str]
theorem str_extract (l : List UInt8) (a b : Nat) : (str l).extract a b = str ((l.drop a).take (b - a)) := ByteArray.extract_mk l a b
theorem str_append (a b : List UInt8) : str a ++ str b = str (a ++ b) := by
  apply ByteArray.ext
  simp [str, ByteArray.data_append]
theorem str_inj {a b : List UInt8} (h : str a = str b) : a = b := by
  have := congrArg ByteArray.toList h
  rwa [str_toList, str_toList] at this
theorem str_get (l : List UInt8) (k : Nat) (h : k < (str l).size) : (str l)[k] = l.getD k 0 := by
  have h' : k < l.length := by rw [← str_size]; exact h
  show l.toArray[k]'(by simpa using h') = l.getD k 0
  simp [List.getD, h']
theorem getD_map {α β : Type} (f : α → β) (l : List α) (d : α) (k : Nat) : (l.map f).getD k (f d) = f (l.getD k d) := by
  simp [List.getD, List.getElem?_map]
theorem findIdx_at {l : List UInt8} {p : UInt8 → Bool} {k : Nat} (h : ∀ j, j < k → p (l.getD j 0) = false) (hk : k < l.length) (hp : p (l.getD k 0) = true) : l.findIdx p = k := by
  have e : ∀ j (hj : j < l.length), l.getD j 0 = l[j] := fun j hj => by simp [List.getD, hj]
  refine (List.findIdx_eq hk).2 ⟨by rw [← e k hk]; exact hp, fun j hj => ?_⟩
  rw [← e j (by omega)]
  exact h j hj
theorem findIdx_end {l : List UInt8} {p : UInt8 → Bool} (h : ∀ j, j < l.length → p (l.getD j 0) = false) : l.findIdx p = l.length := by
  rw [List.findIdx_eq_length]
  intro x hx
  obtain ⟨j, hj, rfl⟩ := List.getElem_of_mem hx
  have e : l.getD j 0 = l[j] := by simp [List.getD, hj]
  rw [← e]
  exact h j hj
section
variable {P : Program}
theorem run_index_str (w : World) (t : TypeId) (l : List UInt8) (K : IntKind) (k : Nat) (ht : P.underlying t = some .string) (h : k < l.length) :
    (Instr.index t (.string (str l)) (.int K (k : Int))).run P w = .ok (.int .u8 ((l.getD k 0).toNat : Int)) w := by
  have hs : k < (str l).size := by rw [str_size]; exact h
  rw [run_index_string w t (str l) K k ht, dif_pos ⟨by omega, by omega⟩]
  have := str_get l k hs
  simp only [Int.toNat_natCast, this]
theorem run_add_str (w : World) (a b : List UInt8) (h : a.length + b.length ≤ 9223372036854775807) : (Op.stringOp .add (str a) (str b)).run P w = .ok (.string (str (a ++ b))) w := by
  rw [run_string_add_sum w _ _ (by rw [str_size, str_size]; exact h), str_append]
end
def BRow (w : World) (g : Nat) (l : List UInt8) : Prop :=
  ∃ cur e fz, w.heap[g]? = some (.cells cur e fz) ∧ l.length ≤ cur.size ∧ cur.size ≤ fz.1 ∧ ∀ i, i < l.length → cur[i]? = some (.int .u8 ((l.getD i 0).toNat : Int))
theorem BRow.new (w : World) (e : TypeId) (l : List UInt8) : BRow (Lib.bytesWorld w e (str l)) w.heap.size l := by
  have hsz : l.length ≤ (Lib.bytesCells w e (str l)).size := by
    unfold Lib.bytesCells
    simp [str]
  refine ⟨_, _, _, Lib.bytesWorld_at_new w e (str l), hsz, Nat.le_refl _, fun i hi => ?_⟩
  have h := Lib.bytesWorld_cell w e (str l) i (by rw [str_size]; exact hi)
  rw [cell_of_row _ _ _ _ _ _ (Lib.bytesWorld_at_new w e (str l)), str_data] at h
  exact h
theorem BRow.lt {w : World} {g : Nat} {l : List UInt8} (h : BRow w g l) : g < w.heap.size := by
  obtain ⟨cur, e, fz, hg, _⟩ := h
  rcases Nat.lt_or_ge g w.heap.size with hlt | hge
  · exact hlt
  · rw [Array.getElem?_eq_none hge] at hg
    cases hg
theorem BRow.cell {w : World} {g : Nat} {l : List UInt8} (h : BRow w g l) (i : Nat) (hi : i < l.length) : w.cell? ⟨g, i, none⟩ = some (.int .u8 ((l.getD i 0).toNat : Int)) := by
  obtain ⟨cur, e, fz, hg, _, _, hc⟩ := h
  rw [cell_of_row _ _ _ _ _ _ hg]
  exact hc i hi
theorem BRow.free {w : World} {g : Nat} {l : List UInt8} (h : BRow w g l) (i : Nat) (hi : i < l.length) : w.frozen? ⟨g, i, none⟩ = false := by
  obtain ⟨cur, e, ⟨f1, f2⟩, hg, h1, h2, _⟩ := h
  simp only [World.frozen?, hg]
  have : ¬ f1 ≤ i := by simp only [] at h2; omega
  simp [this]
theorem BRow.set {w : World} {g : Nat} {l : List UInt8} (h : BRow w g l) (i : Nat) (x : UInt8) : BRow (w.setCell ⟨g, i, none⟩ (.int .u8 (x.toNat : Int))) g (l.set i x) := by
  obtain ⟨cur, e, fz, hg, h1, h2, hc⟩ := h
  refine ⟨cur.setIfInBounds i (.int .u8 (x.toNat : Int)), e, fz, by simp [World.setCell, Array.getElem?_modify, hg], by simpa using h1, by simpa using h2, fun j hj => ?_⟩
  rw [List.length_set] at hj
  rw [Array.getElem?_setIfInBounds]
  by_cases hij : i = j
  · subst hij
    have : i < cur.size := by omega
    simp [this, List.getD, hj]
  · simp only [hij, if_false]
    rw [hc j hj]
    simp [List.getD, hij]
theorem BRow.back {P : Program} {w : World} {g : Nat} {l : List UInt8} (h : BRow w g l) (src dst e : TypeId) (n cap : Nat) (hs : P.underlying src = some (.slice e)) (he : P.underlying e = some (.int .u8)) (hd : P.underlying dst = some .string) (hn : l.length = n) :
    (convert src dst (.slice (some ⟨g, 0, none⟩) n cap)).run P w = .ok (.string (str l)) w := by
  subst hn
  refine run_convert_bytes_back w src dst e ⟨g, 0, none⟩ cap l hs he hd fun j hj => ?_
  have := h.cell j hj
  simp only [List.getD, List.getElem?_eq_getElem hj, Option.getD_some] at this
  rw [← this]
  congr 1
  simp [Addr.add]
  exact fun h => h.symm
theorem one_back {P : Program} (w : World) (src dst e : TypeId) (x : UInt8) (v : Int) (hv : v = (x.toNat : Int)) (hs : P.underlying src = some (.slice e)) (he : P.underlying e = some (.int .u8)) (hd : P.underlying dst = some .string) :
    (convert src dst (.slice (some ⟨w.heap.size, 0, none⟩) 1 1)).run P (w.alloc (.cells #[.int .u8 v] e)) = .ok (.string (str [x])) (w.alloc (.cells #[.int .u8 v] e)) := by
  subst hv
  refine run_convert_bytes_back (w.alloc (.cells #[.int .u8 (x.toNat : Int)] e)) src dst e ⟨w.heap.size, 0, none⟩ 1 [x] hs he hd fun j hj => ?_
  have : j = 0 := by simp at hj; exact hj
  subst this
  simp [Addr.add]
theorem take_snoc {l : List UInt8} {k : Nat} (hk : k < l.length) : l.take (k + 1) = l.take k ++ [l.getD k 0] := by
  rw [List.take_succ_eq_append_getElem hk]
  simp [List.getD, hk]
theorem cut_one {l : List UInt8} {k : Nat} (hk : k < l.length) : (l.drop k).take (k + 1 - k) = [l.getD k 0] := by
  have e : k + 1 - k = 1 := by omega
  rw [e, List.drop_eq_getElem_cons hk]
  show [l[k]] = _
  simp [List.getD, hk]
theorem set_low {l : List UInt8} {f : UInt8 → UInt8} {k : Nat} (hk : k < l.length) : ((l.take k).map f ++ l.drop k).set k (f (l.getD k 0)) = (l.take (k + 1)).map f ++ l.drop (k + 1) := by
  have hd : l.drop k = l.getD k 0 :: l.drop (k + 1) := by
    rw [List.drop_eq_getElem_cons hk]
    simp [List.getD, hk]
  have ht : l.take (k + 1) = l.take k ++ [l.getD k 0] := by
    rw [List.take_succ_eq_append_getElem hk]
    simp [List.getD, hk]
  rw [hd, ht, List.set_append_right _ _ (by simp; omega)]
  have : (List.map f (List.take k l)).length = k := by simp; omega
  rw [this]
  simp
end Go.Proofs.YtaodjnkjjmhecaaGreatDoor
namespace Go.Proofs.YtaodjnkjjmhecaaGreatDoor
set_option linter.unusedVariables false
def low (x : UInt8) : UInt8 := if 65 ≤ x.toNat ∧ x.toNat ≤ 90 then UInt8.ofNat (x.toNat + 32) else x
def blank (x : UInt8) : Bool := decide (x.toNat = 32) || decide (x.toNat = 9)
def ctl (x : UInt8) : Bool := decide (x.toNat < 32) && !decide (x.toNat = 9) || decide (x.toNat = 127)
def digit (x : UInt8) : Bool := decide (48 ≤ x.toNat) && decide (x.toNat ≤ 57)
theorem u8_lt (x : UInt8) : x.toNat < 256 := x.toNat_lt
theorem low_up {x : UInt8} (h : 65 ≤ x.toNat ∧ x.toNat ≤ 90) : (low x).toNat = x.toNat + 32 := by
  unfold low
  rw [if_pos h, UInt8.toNat_ofNat']
  omega
theorem low_not {x : UInt8} (h : ¬ (65 ≤ x.toNat ∧ x.toNat ≤ 90)) : low x = x := by
  unfold low
  rw [if_neg h]
def endB (l : List UInt8) : Nat → Nat
  | 0 => 0
  | k + 1 => if blank (l.getD k 0) = true then endB l k else k + 1
theorem endB_le (l : List UInt8) : ∀ k, endB l k ≤ k
  | 0 => Nat.le_refl _
  | k + 1 => by
    unfold endB
    have := endB_le l k
    split <;> omega
def frontB (l : List UInt8) : Nat := (l.take (endB l l.length)).findIdx (fun x => !blank x)
def trimL (l : List UInt8) : List UInt8 := (l.drop (frontB l)).take (endB l l.length - frontB l)
theorem frontB_le (l : List UInt8) : frontB l ≤ endB l l.length := by
  unfold frontB
  refine Nat.le_trans List.findIdx_le_length ?_
  rw [List.length_take]
  exact Nat.min_le_left _ _
def numV (l : List UInt8) : Nat := l.foldl (fun n x => min (10 * n + (x.toNat - 48)) 1099511627776) 0
theorem numV_le (l : List UInt8) : numV l ≤ 1099511627776 := by
  unfold numV
  suffices h : ∀ (l : List UInt8) (n : Nat), n ≤ 1099511627776 → l.foldl (fun n x => min (10 * n + (x.toNat - 48)) 1099511627776) n ≤ 1099511627776 from h l 0 (by omega)
  intro l
  induction l with
  | nil => intro n h; exact h
  | cons x xs ih => intro n h; exact ih _ (Nat.min_le_right _ _)
theorem numV_take {l : List UInt8} {k : Nat} (h : k < l.length) : numV (l.take (k + 1)) = min (10 * numV (l.take k) + ((l.getD k 0).toNat - 48)) 1099511627776 := by
  unfold numV
  rw [List.take_succ_eq_append_getElem h, List.foldl_append]
  simp [List.getD, h]
def signed (l : List UInt8) : Bool := Lib.hasPrefix l [45]
def body (l : List UInt8) : List UInt8 := Lib.trimPrefix l [45]
theorem body_le (l : List UInt8) : (body l).length ≤ l.length := by
  unfold body Lib.trimPrefix
  split
  · simp
  · exact Nat.le_refl _
def lead (l : List UInt8) : Nat := l.findIdx (fun x => !digit x)
theorem lead_le (l : List UInt8) : lead l ≤ l.length := List.findIdx_le_length
theorem lead_all {l : List UInt8} (h : lead l = l.length) (k : Nat) (hk : k < l.length) : 48 ≤ (l.getD k 0).toNat ∧ (l.getD k 0).toNat ≤ 57 := by
  have := List.findIdx_eq_length.1 h (l[k]) (List.getElem_mem hk)
  have e : l.getD k 0 = l[k] := by simp [List.getD, hk]
  rw [e]
  unfold digit at this
  simpa using this
def numL (l : List UInt8) : Int × Bool :=
  if (body l).length = 0 ∨ lead (body l) < (body l).length then (0, false) else (if signed l = true then 0 - (numV (body l) : Int) else (numV (body l) : Int), true)
def splitK (l : List UInt8) (c : UInt8) : Nat → List (List UInt8) × Nat
  | 0 => ([], 0)
  | k + 1 => if (l.getD k 0 == c) = true then ((splitK l c k).1 ++ [(l.drop (splitK l c k).2).take (k - (splitK l c k).2)], k + 1) else splitK l c k
theorem splitK_le (l : List UInt8) (c : UInt8) : ∀ k, (splitK l c k).1.length ≤ k ∧ (splitK l c k).2 ≤ k
  | 0 => ⟨Nat.le_refl _, Nat.le_refl _⟩
  | k + 1 => by
    unfold splitK
    have := splitK_le l c k
    split
    · simp
      omega
    · omega
def splitL (l : List UInt8) (c : UInt8) : List (List UInt8) := (splitK l c l.length).1 ++ [l.drop (splitK l c l.length).2]
def joinL (c : UInt8) : List (List UInt8) → List UInt8
  | [] => []
  | [x] => x
  | x :: y :: r => x ++ c :: joinL c (y :: r)
theorem joinL_snoc (c : UInt8) : ∀ (p : List (List UInt8)) (x : List UInt8), p ≠ [] → joinL c (p ++ [x]) = joinL c p ++ c :: x
  | [], _, h => absurd rfl h
  | [a], x, _ => rfl
  | a :: b :: r, x, _ => by
    show a ++ c :: joinL c ((b :: r) ++ [x]) = _
    rw [joinL_snoc c (b :: r) x (by simp)]
    simp [joinL]
theorem joinL_split (l : List UInt8) (c : UInt8) : ∀ k, k ≤ l.length → joinL c ((splitK l c k).1 ++ [(l.drop (splitK l c k).2).take (k - (splitK l c k).2)]) = l.take k
  | 0, _ => by simp [splitK, joinL]
  | k + 1, hk => by
    have ih := joinL_split l c k (by omega)
    have hle := splitK_le l c k
    have ht : l.take (k + 1) = l.take k ++ [l.getD k 0] := by
      rw [List.take_succ_eq_append_getElem (by omega)]
      simp [List.getD, show k < l.length by omega]
    by_cases h : (l.getD k 0 == c) = true
    · have e : splitK l c (k + 1) = ((splitK l c k).1 ++ [(l.drop (splitK l c k).2).take (k - (splitK l c k).2)], k + 1) := by
        show (if _ then _ else _) = _
        rw [if_pos h]
      rw [e]
      simp only []
      rw [joinL_snoc c _ _ (by simp), ih, ht]
      have : l.getD k 0 = c := by simpa using h
      simp only [Nat.sub_self, List.take_zero]
      rw [this]
    · have e : splitK l c (k + 1) = splitK l c k := by
        show (if _ then _ else _) = _
        rw [if_neg h]
      rw [e, ht, ← ih]
      generalize splitK l c k = q at *
      obtain ⟨p, s⟩ := q
      simp only at *
      have e2 : (l.drop s).take (k + 1 - s) = (l.drop s).take (k - s) ++ [l.getD k 0] := by
        have : k + 1 - s = (k - s) + 1 := by omega
        rw [this, List.take_succ_eq_append_getElem (by simp; omega)]
        congr 2
        simp [List.getD, show k < l.length by omega, show s + (k - s) = k by omega]
      rw [e2]
      cases p with
      | nil => rfl
      | cons a r => rw [joinL_snoc c _ _ (by simp), joinL_snoc c _ _ (by simp)]; simp
theorem joinL_all (l : List UInt8) (c : UInt8) : joinL c (splitL l c) = l := by
  have h := joinL_split l c l.length (Nat.le_refl _)
  have hle := splitK_le l c l.length
  rw [List.take_of_length_le (by simp)] at h
  unfold splitL
  rw [h, List.take_of_length_le (Nat.le_refl _)]
theorem signed_yes {l : List UInt8} (h : signed l = true) : 1 ≤ l.length ∧ (l.getD 0 0).toNat = 45 ∧ body l = l.drop 1 := by
  unfold signed Lib.hasPrefix at h
  cases l with
  | nil => simp at h
  | cons x xs =>
    simp at h
    subst h
    exact ⟨by simp, rfl, rfl⟩
theorem signed_no {l : List UInt8} (h : signed l = false) : (l.length = 0 ∨ (l.getD 0 0).toNat ≠ 45) ∧ body l = l := by
  unfold body Lib.trimPrefix
  unfold signed at h
  rw [h]
  refine ⟨?_, rfl⟩
  unfold Lib.hasPrefix at h
  cases l with
  | nil => exact .inl rfl
  | cons x xs =>
    right
    intro hx
    have : x = 45 := UInt8.toNat_inj.1 hx
    subst this
    simp at h
theorem splitL_le (l : List UInt8) (c : UInt8) : (splitL l c).length ≤ l.length + 1 := by
  unfold splitL
  have := (splitK_le l c l.length).1
  simp
  omega
theorem mem_join_le (c : UInt8) : ∀ (p : List (List UInt8)) (x : List UInt8), x ∈ p → x.length ≤ (joinL c p).length
  | [], x, h => by cases h
  | [y], x, h => by simp at h; subst h; exact Nat.le_refl _
  | y :: z :: r, x, h => by
    show x.length ≤ (y ++ c :: joinL c (z :: r)).length
    simp only [List.length_append, List.length_cons]
    rcases List.mem_cons.1 h with rfl | h2
    · omega
    · have := mem_join_le c (z :: r) x h2
      omega
end Go.Proofs.YtaodjnkjjmhecaaGreatDoor
namespace Go.Proofs.YtaodjnkjjmhecaaGreatDoor
open Go.RowKit
set_option linter.unusedVariables false
structure PTab (P : Program) (w : World) : Prop where
  tab : Lib.TabIs P w "internal/strconv.uint64pow10" .u64 Lib.pow10Tab
  most : ∀ g, P.globalNamed "internal/bytealg.MaxLen" = some g → ∃ m, w.cell? ⟨g, 0, none⟩ = some (.int .i64 m)
theorem PTab.below {P : Program} {w w' : World} (h : PTab P w) (hb : Below w.heap.size w w') : PTab P w' := by
  refine ⟨?_, fun g hg => ?_⟩
  · have h := h.tab
    unfold Lib.TabIs at h ⊢
    unfold World.var? at h ⊢
    cases hg : P.globalNamed "internal/strconv.uint64pow10" with
    | none => rw [hg] at h; cases h
    | some g =>
      rw [hg] at h
      simp only [Option.bind_some] at h ⊢
      have hlt : g < w.heap.size := by
        rcases Nat.lt_or_ge g w.heap.size with h1 | h1
        · exact h1
        · rw [Array.getElem?_eq_none h1] at h; cases h
      rw [hb.block g hlt]
      exact h
  · obtain ⟨m, hm⟩ := h.most g hg
    have hlt : g < w.heap.size := by
      rcases Nat.lt_or_ge g w.heap.size with h1 | h1
      · exact h1
      · unfold World.cell? at hm
        rw [Array.getElem?_eq_none h1] at hm; cases hm
    exact ⟨m, (hb.cell hlt).trans hm⟩
def signB (x : UInt8) : Bool := (decide (97 ≤ x.toNat) && decide (x.toNat ≤ 122)) || (decide (48 ≤ x.toNat) && decide (x.toNat ≤ 57)) || decide (x.toNat = 45) || decide (x.toNat = 95)
def labelB (l : List UInt8) : Bool := decide (1 ≤ l.length) && decide (l.length ≤ 63) && !(l.getD 0 0 == 45) && !(l.getD (l.length - 1) 0 == 45) && l.all signB
def octetB (l : List UInt8) : Bool := decide (1 ≤ l.length) && decide (l.length ≤ 3) && decide (lead l = l.length) && decide (numV l ≤ 255) && (Lib.decDigits (numV l) == l)
def quadB (l : List UInt8) : Bool := decide ((splitL l 46).length = 4) && (splitL l 46).all octetB
def hexB (x : UInt8) : Bool := (decide (48 ≤ x.toNat) && decide (x.toNat ≤ 57)) || (decide (97 ≤ x.toNat) && decide (x.toNat ≤ 102)) || decide (x.toNat = 58) || decide (x.toNat = 46)
def bracketB (l : List UInt8) : Bool := decide (4 ≤ l.length) && decide (l.length ≤ 47) && (l.getD 0 0 == 91) && (l.getD (l.length - 1) 0 == 93) && ((l.drop 1).take (l.length - 2)).all hexB
def addrB (l : List UInt8) : Bool := quadB l || bracketB l
def nameB (l : List UInt8) : Bool := decide (l.length ≤ 256) && !quadB l && (splitL l 46).all labelB
def canonB (l : List UInt8) : Bool := decide (l.length ≤ 256) && (nameB l || addrB l)
def belowB (h d : List UInt8) : Bool := decide (d.length < h.length) && (h.getD (h.length - d.length - 1) 0 == 46) && (h.drop (h.length - d.length) == d)
def matchB (h d : List UInt8) : Bool := canonB h && canonB d && (h == d || (nameB h && belowB h d))
theorem match_cases {h d : List UInt8} (m : matchB h d = true) : canonB h = true ∧ canonB d = true ∧ (h = d ∨ (nameB h = true ∧ belowB h d = true)) := by
  unfold matchB at m
  simp only [Bool.and_eq_true, Bool.or_eq_true, beq_iff_eq] at m
  exact ⟨m.1.1, m.1.2, m.2⟩
theorem below_len {h d : List UInt8} (m : belowB h d = true) : d.length < h.length ∧ h.getD (h.length - d.length - 1) 0 = 46 ∧ h.drop (h.length - d.length) = d := by
  unfold belowB at m
  simp only [Bool.and_eq_true, beq_iff_eq, decide_eq_true_iff] at m
  exact ⟨m.1.1, m.1.2, m.2⟩
theorem name_labels {s : List UInt8} (h : nameB s = true) : s.length ≤ 256 ∧ quadB s = false ∧ (splitL s 46).all labelB = true := by
  unfold nameB at h
  simp only [Bool.and_eq_true, decide_eq_true_iff, Bool.not_eq_true'] at h
  exact ⟨h.1.1, h.1.2, h.2⟩
theorem smallC (x : UInt8) (w : World) : Calls Tryz.prog 242 #[.int .u8 (x.toNat : Int)] w fun e w' => e = .returned (.int .u8 ((low x).toNat : Int)) ∧ w = w' := by
  have h0 := u8_lt x
  by_cases h : 65 ≤ x.toNat ∧ x.toNat ≤ 90
  · obtain ⟨h1, h2⟩ := h
    rw [low_up ⟨h1, h2⟩]
    generalize x.toNat = n at *
    go_enter Tryz.func242, Tryz.ntmps242
    go_wp2
    go_ret
    simp
    omega
  · rw [low_not h]
    generalize x.toNat = n at *
    go_enter Tryz.func242, Tryz.ntmps242
    go_wp2
    all_goals (go_ret; simp)
theorem isBlankC (x : UInt8) (w : World) : Calls Tryz.prog 236 #[.int .u8 (x.toNat : Int)] w fun e w' => e = .returned (.bool (blank x)) ∧ w = w' := by
  have h0 := u8_lt x
  unfold blank
  generalize x.toNat = n at *
  go_enter Tryz.func236, Tryz.ntmps236
  go_wp2
  all_goals (go_ret; first | done | (simp; done) | (simp; omega) | (refine ⟨?_, rfl⟩; congr 2; rw [Bool.eq_iff_iff]; simp; omega) | (simp; rw [Bool.eq_iff_iff]; simp; omega))
theorem isControlC (x : UInt8) (w : World) : Calls Tryz.prog 235 #[.int .u8 (x.toNat : Int)] w fun e w' => e = .returned (.bool (ctl x)) ∧ w = w' := by
  have h0 := u8_lt x
  unfold ctl
  generalize x.toNat = n at *
  go_enter Tryz.func235, Tryz.ntmps235
  go_wp2
  all_goals (go_ret; first | done | (simp; done) | (simp; omega) | (refine ⟨?_, rfl⟩; congr 2; rw [Bool.eq_iff_iff]; simp; omega) | (simp; rw [Bool.eq_iff_iff]; simp; omega))
theorem trimFnC (x : UInt8) (w : World) : Calls Tryz.prog 237 #[.int .u8 (x.toNat : Int)] w fun e w' => e = .returned (.bool (!blank x)) ∧ w = w' := by
  have h0 := u8_lt x
  have H := isBlankC x
  generalize blank x = b at *
  go_enter Tryz.func237, Tryz.ntmps237
  go_wp2_with (go_at_call 236; (with_reducible refine (H _).mono ?_); rintro e w1 ⟨rfl, rfl⟩)
  go_ret
  exact ⟨rfl, rfl⟩
theorem digitFnC (x : UInt8) (w : World) : Calls Tryz.prog 260 #[.int .u8 (x.toNat : Int)] w fun e w' => e = .returned (.bool (!digit x)) ∧ w = w' := by
  have h0 := u8_lt x
  unfold digit
  generalize x.toNat = n at *
  go_enter Tryz.func260, Tryz.ntmps260
  go_wp2
  all_goals (go_ret; first | done | (simp; done) | (simp; omega) | (refine ⟨?_, rfl⟩; congr 2; rw [Bool.eq_iff_iff]; simp; omega) | (simp; rw [Bool.eq_iff_iff]; simp; omega))
set_option maxRecDepth 100000 in
theorem firstTrimC (p : UInt8 → Bool) (l : List UInt8) (n : Nat) (w : World) (hp : ∀ x : UInt8, Calls Tryz.prog 237 #[.int .u8 (x.toNat : Int)] w fun e w' => e = .returned (.bool (p x)) ∧ w = w') (hl : l.length = n) (hm : n ≤ maxLen) :
    Calls Tryz.prog 234 #[.string (str l), .func (.func 237) #[] #[]] w fun e w' => e = .returned (.int .i64 (l.findIdx p : Int)) ∧ w = w' := by
  have hsz : (str l).size = n := by rw [str_size, hl]
  unfold maxLen at hm
  have HL := Lib.hid hl
  clear hl
  go_enter Tryz.func234, Tryz.ntmps234
  go_wp2
  go_step3
  go_wp2
  go_step3
  go_wp2
  go_loopw [5, 11] (fun v i wr => ∃ k : Nat, k ≤ n ∧ v = .int .i64 (n : Int) ∧ i = .int .i64 (k : Int) ∧ Hid (∀ j, j < k → p (l.getD j 0) = false) ∧ w = wr) (fun _ i _ => n - (intOf i).toNat)
  case atStart => exact ⟨0, Nat.zero_le _, rfl, rfl, fun j hj => absurd hj (by omega), rfl⟩
  case round =>
    obtain ⟨k, hk, rfl, rfl, H, rfl⟩ := hrel
    by_cases hlt : k < n
    · have hlt' : (k : Int) < (n : Int) := by omega
      have hi := run_index_str (P := Tryz.prog) w 9 l .i64 k Tryz.underlying9 (by rw [HL.out]; exact hlt)
      have HF := Lib.hid (fun hp => findIdx_at (p := p) H.out (by rw [HL.out]; exact hlt) hp)
      have HN := Lib.hid (fun (hp : p (l.getD k 0) = false) => (fun j hj => by
        rcases Nat.lt_succ_iff_lt_or_eq.1 hj with h | rfl
        · exact H.out j h
        · exact hp : ∀ j, j < k + 1 → p (l.getD j 0) = false))
      have HC := hp (l.getD k 0)
      generalize p (l.getD k 0) = t at HC HF HN
      generalize l.getD k 0 = x at HC hi
      cases t
      · have HN2 := Lib.hid (HN.out rfl)
        clear HN HF
        go_wp2_with (go_at_call 237; (with_reducible refine HC.mono ?_); rintro e w1 ⟨rfl, rfl⟩)
        go_roundw
        case rel => exact ⟨k + 1, by omega, rfl, by go_num, HN2.out, by first | rfl | trivial⟩
        case measure => simp [intOf]; omega
      · have HF2 := Lib.hid (HF.out rfl)
        clear HN HF
        go_wp2_with (go_at_call 237; (with_reducible refine HC.mono ?_); rintro e w1 ⟨rfl, rfl⟩)
        rw [Exit.noGoto_ret]
        go_ret
        exact ⟨by rw [HF2.out]; rfl, rfl⟩
    · obtain rfl : k = n := by omega
      have HE := Lib.hid (findIdx_end (p := p) (by rw [HL.out]; exact H.out))
      rw [HL.out] at HE
      go_wp2
      rw [Exit.noGoto_ret]
      go_ret
      exact ⟨by rw [HE.out]; rfl, rfl⟩
set_option maxRecDepth 100000 in
theorem firstDigitC (p : UInt8 → Bool) (l : List UInt8) (n : Nat) (w : World) (hp : ∀ x : UInt8, Calls Tryz.prog 260 #[.int .u8 (x.toNat : Int)] w fun e w' => e = .returned (.bool (p x)) ∧ w = w') (hl : l.length = n) (hm : n ≤ maxLen) :
    Calls Tryz.prog 234 #[.string (str l), .func (.func 260) #[] #[]] w fun e w' => e = .returned (.int .i64 (l.findIdx p : Int)) ∧ w = w' := by
  have hsz : (str l).size = n := by rw [str_size, hl]
  unfold maxLen at hm
  have HL := Lib.hid hl
  clear hl
  go_enter Tryz.func234, Tryz.ntmps234
  go_wp2
  go_step3
  go_wp2
  go_step3
  go_wp2
  go_loopw [5, 11] (fun v i wr => ∃ k : Nat, k ≤ n ∧ v = .int .i64 (n : Int) ∧ i = .int .i64 (k : Int) ∧ Hid (∀ j, j < k → p (l.getD j 0) = false) ∧ w = wr) (fun _ i _ => n - (intOf i).toNat)
  case atStart => exact ⟨0, Nat.zero_le _, rfl, rfl, fun j hj => absurd hj (by omega), rfl⟩
  case round =>
    obtain ⟨k, hk, rfl, rfl, H, rfl⟩ := hrel
    by_cases hlt : k < n
    · have hlt' : (k : Int) < (n : Int) := by omega
      have hi := run_index_str (P := Tryz.prog) w 9 l .i64 k Tryz.underlying9 (by rw [HL.out]; exact hlt)
      have HF := Lib.hid (fun hp => findIdx_at (p := p) H.out (by rw [HL.out]; exact hlt) hp)
      have HN := Lib.hid (fun (hp : p (l.getD k 0) = false) => (fun j hj => by
        rcases Nat.lt_succ_iff_lt_or_eq.1 hj with h | rfl
        · exact H.out j h
        · exact hp : ∀ j, j < k + 1 → p (l.getD j 0) = false))
      have HC := hp (l.getD k 0)
      generalize p (l.getD k 0) = t at HC HF HN
      generalize l.getD k 0 = x at HC hi
      cases t
      · have HN2 := Lib.hid (HN.out rfl)
        clear HN HF
        go_wp2_with (go_at_call 260; (with_reducible refine HC.mono ?_); rintro e w1 ⟨rfl, rfl⟩)
        go_roundw
        case rel => exact ⟨k + 1, by omega, rfl, by go_num, HN2.out, by first | rfl | trivial⟩
        case measure => simp [intOf]; omega
      · have HF2 := Lib.hid (HF.out rfl)
        clear HN HF
        go_wp2_with (go_at_call 260; (with_reducible refine HC.mono ?_); rintro e w1 ⟨rfl, rfl⟩)
        rw [Exit.noGoto_ret]
        go_ret
        exact ⟨by rw [HF2.out]; rfl, rfl⟩
    · obtain rfl : k = n := by omega
      have HE := Lib.hid (findIdx_end (p := p) (by rw [HL.out]; exact H.out))
      rw [HL.out] at HE
      go_wp2
      rw [Exit.noGoto_ret]
      go_ret
      exact ⟨by rw [HE.out]; rfl, rfl⟩
set_option maxRecDepth 100000 in
theorem firstCtlC (p : UInt8 → Bool) (l : List UInt8) (n : Nat) (w : World) (hp : ∀ x : UInt8, Calls Tryz.prog 235 #[.int .u8 (x.toNat : Int)] w fun e w' => e = .returned (.bool (p x)) ∧ w = w') (hl : l.length = n) (hm : n ≤ maxLen) :
    Calls Tryz.prog 234 #[.string (str l), .func (.func 235) #[] #[]] w fun e w' => e = .returned (.int .i64 (l.findIdx p : Int)) ∧ w = w' := by
  have hsz : (str l).size = n := by rw [str_size, hl]
  unfold maxLen at hm
  have HL := Lib.hid hl
  clear hl
  go_enter Tryz.func234, Tryz.ntmps234
  go_wp2
  go_step3
  go_wp2
  go_step3
  go_wp2
  go_loopw [5, 11] (fun v i wr => ∃ k : Nat, k ≤ n ∧ v = .int .i64 (n : Int) ∧ i = .int .i64 (k : Int) ∧ Hid (∀ j, j < k → p (l.getD j 0) = false) ∧ w = wr) (fun _ i _ => n - (intOf i).toNat)
  case atStart => exact ⟨0, Nat.zero_le _, rfl, rfl, fun j hj => absurd hj (by omega), rfl⟩
  case round =>
    obtain ⟨k, hk, rfl, rfl, H, rfl⟩ := hrel
    by_cases hlt : k < n
    · have hlt' : (k : Int) < (n : Int) := by omega
      have hi := run_index_str (P := Tryz.prog) w 9 l .i64 k Tryz.underlying9 (by rw [HL.out]; exact hlt)
      have HF := Lib.hid (fun hp => findIdx_at (p := p) H.out (by rw [HL.out]; exact hlt) hp)
      have HN := Lib.hid (fun (hp : p (l.getD k 0) = false) => (fun j hj => by
        rcases Nat.lt_succ_iff_lt_or_eq.1 hj with h | rfl
        · exact H.out j h
        · exact hp : ∀ j, j < k + 1 → p (l.getD j 0) = false))
      have HC := hp (l.getD k 0)
      generalize p (l.getD k 0) = t at HC HF HN
      generalize l.getD k 0 = x at HC hi
      cases t
      · have HN2 := Lib.hid (HN.out rfl)
        clear HN HF
        go_wp2_with (go_at_call 235; (with_reducible refine HC.mono ?_); rintro e w1 ⟨rfl, rfl⟩)
        go_roundw
        case rel => exact ⟨k + 1, by omega, rfl, by go_num, HN2.out, by first | rfl | trivial⟩
        case measure => simp [intOf]; omega
      · have HF2 := Lib.hid (HF.out rfl)
        clear HN HF
        go_wp2_with (go_at_call 235; (with_reducible refine HC.mono ?_); rintro e w1 ⟨rfl, rfl⟩)
        rw [Exit.noGoto_ret]
        go_ret
        exact ⟨by rw [HF2.out]; rfl, rfl⟩
    · obtain rfl : k = n := by omega
      have HE := Lib.hid (findIdx_end (p := p) (by rw [HL.out]; exact H.out))
      rw [HL.out] at HE
      go_wp2
      rw [Exit.noGoto_ret]
      go_ret
      exact ⟨by rw [HE.out]; rfl, rfl⟩
def Reads (w : World) (a : Option Addr) (xs : List Value) : Prop :=
  ∀ (i : Nat) (v : Value), xs[i]? = some v → ∃ b off, a = some ⟨b, off, none⟩ ∧ w.cell? ⟨b, off + i, none⟩ = some v
theorem Reads.nil (w : World) (a : Option Addr) : Reads w a [] := fun i v h => by simp at h
theorem cell_lt {w : World} {x : Addr} {v : Value} (h : w.cell? x = some v) : x.block < w.heap.size := by
  by_cases c : x.block < w.heap.size
  · exact c
  · have e : w.heap[x.block]? = none := Array.getElem?_eq_none (by omega)
    simp [World.cell?, e] at h
theorem Reads.below' {w w' : World} {a : Option Addr} {xs : List Value} (h : Reads w a xs) (hb : Below w.heap.size w w') : Reads w' a xs := fun i v hv => by
  obtain ⟨b, off, e, hc⟩ := h i v hv
  exact ⟨b, off, e, (hb.cell (cell_lt hc)).trans hc⟩
theorem owns_reads {w : World} {base : Nat} {e : TypeId} {v : Value} {n : Nat} {xs : List Value} (h : w.ownsRow base e 1 v n xs) :
    ∃ a cap, v = .slice a n cap ∧ Reads w a xs ∧ n ≤ cap ∧ cap ≤ maxLen ∧ (∀ x, a = some x → base ≤ x.block ∧ x.block < w.heap.size) ∧ xs.length = n := by
  have hl := h.1
  rw [Nat.mul_one] at hl
  rcases h.2 with ⟨rfl, rfl⟩ | ⟨g, cap, cur, rfl, hb, hg, hnc, hcm, _, _⟩
  · exact ⟨none, 0, rfl, fun i v hv => by rw [List.length_eq_zero_iff.mp hl] at hv; simp at hv, Nat.le_refl _, by unfold maxLen; omega, by simp, hl⟩
  · refine ⟨some ⟨g, 0, none⟩, cap, rfl, fun i v hv => ⟨g, 0, rfl, ?_⟩, hnc, hcm, fun x hx => ?_, hl⟩
    · have hi : i < xs.length := by
        rcases Nat.lt_or_ge i xs.length with h | h
        · exact h
        · rw [List.getElem?_eq_none h] at hv; cases hv
      rw [Nat.zero_add, h.cellAt i (by omega), hv]
    · cases hx
      refine ⟨hb, ?_⟩
      rcases Nat.lt_or_ge g w.heap.size with h | h
      · exact h
      · rw [Array.getElem?_eq_none h] at hg; cases hg
theorem owns_base {w : World} {base base' : Nat} {e : TypeId} {size : Nat} {v : Value} {n : Nat} {xs : List Value} (h : w.ownsRow base e size v n xs) (hb : base' ≤ base) : w.ownsRow base' e size v n xs := by
  obtain ⟨h1, h2⟩ := h
  refine ⟨h1, ?_⟩
  rcases h2 with h2 | ⟨g, cap, cur, a, b, c⟩
  · exact .inl h2
  · exact .inr ⟨g, cap, cur, a, Nat.le_trans hb b, c⟩
theorem owns_below {w w' : World} {base B : Nat} {e : TypeId} {size : Nat} {v : Value} {n : Nat} {xs : List Value} (h : w.ownsRow base e size v n xs) (hb : Below B w w') (hB : w.heap.size ≤ B) : w'.ownsRow base e size v n xs := by
  obtain ⟨h1, h2⟩ := h
  refine ⟨h1, ?_⟩
  rcases h2 with h2 | ⟨g, cap, cur, a, b, c, d⟩
  · exact .inl h2
  · refine .inr ⟨g, cap, cur, a, b, ?_, d⟩
    have : g < w.heap.size := by
      rcases Nat.lt_or_ge g w.heap.size with h | h
      · exact h
      · rw [Array.getElem?_eq_none h] at c; cases c
    rw [hb.block g (by omega)]; exact c
theorem grown_below {w w' : World} {base : Nat} {e : TypeId} {v : Value} {n size : Nat} {xs : List Value} (hown : w.ownsRow base e size v n xs) (hg : w.grownBy w' v.ownBlock) (hB : base ≤ w.heap.size) : Below base w w' :=
  (Below.refl _ _).grown hg hB fun k hk => (hown.lt k hk).1
theorem wpList_append_one {P : Program} {wr : World} {ops : Array Oper} {rest : List Oper} {o : Oper} {a : Act} {Q : Exit → Act → World → Prop} (hgd : o.guard = none) (s x : Operand) (t : TypeId)
    (ho : o.op = .call { callee := .builtin .append, args := #[s, x], argTypes := #[t, t] })
    (e : TypeId) (i : TypeInfo) (z : Value) (bytes : Nat) (ht : P.underlying t = some (.slice e)) (hi : P.info? e = some i) (hz : i.zero = some z) (hsize : i.size = 1) (hby : i.bytes = bytes) (hzs : z.cells.size = 1)
    {base : Nat} {v : Value} {n : Nat} {xs : List Value} (hown : wr.ownsRow base e 1 v n xs) (hs : a.eval s = v)
    {y : Value} {t' : TypeId} (hx : a.eval x = .slice (some ⟨wr.heap.size, 0, none⟩) 1 1) (h1 : y.oneCell' = true)
    (h63 : n + 1 ≤ maxLen) (hbytes : (n + 1) * bytes ≤ 140737488355328) (hbase : base ≤ wr.heap.size)
    (h : ∀ v' w', w'.ownsRow base e 1 v' (n + 1) (xs ++ [y]) → Below base wr w' → wpList P ops Q rest (a.put o.dst v') w') : wpList P ops Q (o :: rest) a (wr.alloc (.cells #[y] t')) := by
  refine wpList_append_own _ hgd s x t ho base e i z 1 bytes ht hi hz hsize hby hzs (by decide) v n xs hs (hown.alloc _) ⟨wr.heap.size, 0, none⟩ 1 1 [y] hx rfl (cell_one_new _ _ _) (fun u hu => by simp at hu; subst hu; exact h1) h63 hbytes (by simp; omega) (fun v' w' h2 h3 _ => h v' w' h2 ?_)
  exact ((Below.refl _ _).alloc hbase _).grown h3 (by simp; omega) fun k hk => (hown.lt k hk).1
theorem owns_open {w : World} {base : Nat} {e : TypeId} {v : Value} {n : Nat} {xs : List Value} (h : w.ownsRow base e 1 v n xs) :
    ∃ a c, v = .slice a n c ∧ Reads w a xs ∧ (a = none → c = 0) ∧ n ≤ c ∧ c ≤ maxLen ∧ xs.length = n := by
  obtain ⟨a, c, rfl, h1, h2, h3, _, h5⟩ := owns_reads h
  refine ⟨a, c, rfl, h1, fun e0 => ?_, h2, h3, h5⟩
  subst e0
  rcases h.2 with ⟨hv, _⟩ | ⟨g, cap, cur, hv, _⟩
  · cases hv; rfl
  · cases hv
def Owned (base : Nat) (e : TypeId) (a : Option Addr) (n c : Nat) (xs : List Value) (w : World) : Prop :=
  w.ownsRow base e 1 (.slice a n c) n xs ∧ Reads w a xs ∧ (a = none → c = 0) ∧ n ≤ c ∧ c ≤ maxLen ∧ xs.length = n
theorem Owned.reads {base : Nat} {e : TypeId} {a : Option Addr} {n c : Nat} {xs : List Value} {w : World} (h : Owned base e a n c xs w) : Reads w a xs := h.2.1
theorem Owned.len {base : Nat} {e : TypeId} {a : Option Addr} {n c : Nat} {xs : List Value} {w : World} (h : Owned base e a n c xs w) : xs.length = n := h.2.2.2.2.2
theorem Owned.of {w : World} {base : Nat} {e : TypeId} {v : Value} {n : Nat} {xs : List Value} (h : w.ownsRow base e 1 v n xs) : ∃ a c, v = .slice a n c ∧ Owned base e a n c xs w := by
  obtain ⟨a, c, rfl, h1⟩ := owns_open h
  exact ⟨a, c, rfl, h, h1⟩
theorem reads_new (w : World) (xs : List Value) (e : TypeId) : Reads (w.alloc (.cells xs.toArray e)) (some ⟨w.heap.size, 0, none⟩) xs := fun i v hv => by
  refine ⟨w.heap.size, 0, rfl, ?_⟩
  rw [Nat.zero_add, World.cell?_alloc_at _ _ _ _ rfl]
  simpa using hv
theorem below_alloc (w : World) (o : Obj) : Below w.heap.size w (w.alloc o) := (Below.refl _ _).alloc (Nat.le_refl _) _
theorem wpList_guard {P : Program} {w : World} {ops : Array Oper} {rest : List Oper} {o : Oper} {a : Act} {Q : Exit → Act → World → Prop} (hw : Region.wanted o (yielded ops a.tmps) = true)
    (h : wpList P ops Q ({ o with guard := none } :: rest) a w) : wpList P ops Q (o :: rest) a w := by
  unfold wpList at h ⊢
  rw [if_pos hw]
  rw [if_pos (by simp [Region.wanted])] at h
  exact h
def GivesStr (l : List UInt8) (w : World) (e : Ending) (w' : World) : Prop := e = .returned (.string (str l)) ∧ Below w.heap.size w w'
set_option maxRecDepth 100000 in
theorem lowerC (l : List UInt8) (n : Nat) (w : World) (hl : l.length = n) (hm : n ≤ maxLen) :
    Calls Tryz.prog 239 #[.string (str l)] w (GivesStr (l.map low) w) := by
  have hsz : (str l).size = n := by rw [str_size, hl]
  have hcv := fun w : World => Lib.run_convert_string_bytes (P := Tryz.prog) w 9 253 5 (str l) Tryz.underlying9 Tryz.underlying253 Tryz.underlying5
  have hB0 := BRow.new w 5 l
  have hb0 : Below w.heap.size w (Lib.bytesWorld w 5 (str l)) := ⟨rfl, rfl, rfl, by rw [Lib.bytesWorld_size]; omega, fun k hk => Lib.bytesWorld_at_old w 5 (str l) k hk⟩
  unfold maxLen at hm
  have HL := Lib.hid hl
  clear hl
  go_enter Tryz.func239, Tryz.ntmps239
  go_wp2
  generalize Lib.bytesWorld w 5 (str l) = w1 at *
  go_loopw [9] (fun i wr => ∃ k : Nat, k ≤ n ∧ i = .int .i64 (k : Int) ∧ BRow wr w.heap.size ((l.take k).map low ++ l.drop k) ∧ Below w.heap.size w wr) (fun i _ => n - (intOf i).toNat)
  case atStart => exact ⟨0, Nat.zero_le _, rfl, by simpa using hB0, hb0⟩
  case round =>
    obtain ⟨k, hk, rfl, H, hb⟩ := hrel
    clear hcv hB0 hb0
    have hlen : ((l.take k).map low ++ l.drop k).length = n := by have := HL.out; simp; omega
    by_cases hlt : k < n
    · have hlt' : (k : Int) < (n : Int) := by omega
      have hi := run_index_str (P := Tryz.prog) wr 9 l .i64 k Tryz.underlying9 (by rw [HL.out]; exact hlt)
      have HS := Lib.hid (set_low (f := low) (l := l) (k := k) (by rw [HL.out]; exact hlt))
      have HN := Lib.hid (H.set k (low (l.getD k 0)))
      have hc := H.cell k (by omega)
      have hf := H.free k (by omega)
      have hlt2 : w.heap.size < wr.heap.size := H.lt
      have HC := fun w => smallC (l.getD k 0) w
      have HB := Lib.hid hb
      generalize ((List.take k l).map low ++ List.drop k l).getD k 0 = y at hc
      clear H hb
      generalize l.getD k 0 = x at *
      go_wp2_with (go_at_call 242; (with_reducible refine (HC _).mono ?_); rintro e w2 ⟨rfl, rfl⟩)
      go_roundw
      case rel => exact ⟨k + 1, by omega, by go_num, by rw [← HS.out]; exact HN.out, HB.out.setCell (Nat.le_refl _) _⟩
      case measure => simp [intOf]; omega
    · obtain rfl : k = n := by omega
      have e1 : (l.take k).map low ++ l.drop k = l.map low := by rw [← HL.out]; simp
      rw [e1] at H hlen
      have hbk := fun cap => H.back (P := Tryz.prog) 253 9 5 k cap Tryz.underlying253 Tryz.underlying5 Tryz.underlying9 hlen
      have HB := Lib.hid hb
      clear H hb e1
      go_wp2
      go_ret
      exact ⟨rfl, HB.out⟩
set_option maxRecDepth 100000 in
theorem trimC (l : List UInt8) (n : Nat) (w : World) (hl : l.length = n) (hm : n ≤ maxLen) :
    Calls Tryz.prog 228 #[.string (str l)] w fun e w' => e = .returned (.string (str (trimL l))) ∧ w = w' := by
  have hsz : (str l).size = n := by rw [str_size, hl]
  unfold maxLen at hm
  have HL := Lib.hid hl
  clear hl
  go_enter Tryz.func228, Tryz.ntmps228
  go_wp2
  go_loopw [3, 8] (fun v i wr => ∃ k : Nat, k ≤ n ∧ v = .int .i64 (endB l k : Int) ∧ i = .int .i64 (k : Int) ∧ w = wr) (fun _ i _ => n - (intOf i).toNat)
  case atStart => exact ⟨0, Nat.zero_le _, rfl, rfl, rfl⟩
  case round =>
    obtain ⟨k, hk, rfl, rfl, rfl⟩ := hrel
    by_cases hlt : k < n
    · have hlt' : (k : Int) < (n : Int) := by omega
      have hi := run_index_str (P := Tryz.prog) w 9 l .i64 k Tryz.underlying9 (by rw [HL.out]; exact hlt)
      have HC := fun w => isBlankC (l.getD k 0) w
      have HE : Hid (endB l (k + 1) = if blank (l.getD k 0) = true then endB l k else k + 1) := rfl
      generalize blank (l.getD k 0) = t at HC HE
      generalize l.getD k 0 = x at HC hi
      cases t
      · go_wp2_with (go_at_call 236; (with_reducible refine (HC _).mono ?_); rintro e w2 ⟨rfl, rfl⟩)
        go_roundw
        case rel => exact ⟨k + 1, by omega, by rw [HE.out]; simp, by go_num, by first | rfl | trivial⟩
        case measure => simp [intOf]; omega
      · go_wp2_with (go_at_call 236; (with_reducible refine (HC _).mono ?_); rintro e w2 ⟨rfl, rfl⟩)
        go_roundw
        case rel => exact ⟨k + 1, by omega, by rw [HE.out]; simp, by go_num, by first | rfl | trivial⟩
        case measure => simp [intOf]; omega
    · obtain rfl : k = n := by omega
      have he := endB_le l k
      have hf := frontB_le l
      have hx : (str l).extract 0 (endB l k) = str (l.take (endB l k)) := by rw [str_extract]; simp
      have hx2 : (str l).extract (frontB l) (endB l k) = str (trimL l) := by rw [str_extract]; unfold trimL; rw [HL.out]
      have HF := fun w => firstTrimC (fun x => !blank x) (l.take (endB l k)) (endB l k) w (fun x => trimFnC x w) (by rw [List.length_take, HL.out]; omega) (by unfold maxLen; omega)
      have e1 : (l.take (endB l k)).findIdx (fun x => !blank x) = frontB l := by unfold frontB; rw [HL.out]
      rw [HL.out] at hf
      simp only [e1] at HF
      clear e1
      obtain ⟨tl, htl⟩ : ∃ tl, trimL l = tl := ⟨_, rfl⟩
      rw [htl] at hx2
      have HT := Lib.hid htl
      clear htl
      generalize frontB l = f at *
      generalize endB l k = e at *
      generalize l.take e = l2 at *
      go_wp2_with (go_at_call 234; (with_reducible refine (HF _).mono ?_); rintro e w2 ⟨rfl, rfl⟩)
      go_ret
      exact ⟨by rw [HT.out]; rfl, rfl⟩
theorem controlC (l : List UInt8) (n : Nat) (w : World) (hl : l.length = n) (hm : n ≤ maxLen) :
    Calls Tryz.prog 227 #[.string (str l)] w fun e w' => e = .returned (.bool (l.any ctl)) ∧ w = w' := by
  have hsz : (str l).size = n := by rw [str_size, hl]
  have HF := fun w => firstCtlC ctl l n w (fun x => isControlC x w) hl hm
  have e1 : l.any ctl = decide (l.findIdx ctl < n) := by
    rw [Bool.eq_iff_iff, List.any_eq_true, decide_eq_true_iff, ← hl]
    exact (List.findIdx_lt_length (xs := l) (p := ctl)).symm
  rw [e1]
  clear e1
  unfold maxLen at hm
  generalize l.findIdx ctl = f at *
  clear hl
  go_enter Tryz.func227, Tryz.ntmps227
  go_wp2_with (go_at_call 234; (with_reducible refine (HF _).mono ?_); rintro e w2 ⟨rfl, rfl⟩)
  go_ret
  exact ⟨rfl, rfl⟩
theorem digitsC (l : List UInt8) (n : Nat) (w : World) (hl : l.length = n) (hm : n ≤ maxLen) :
    Calls Tryz.prog 257 #[.string (str l)] w fun e w' => e = .returned (.int .i64 (l.findIdx (fun x => !digit x) : Int)) ∧ w = w' := by
  have HF := fun w => firstDigitC (fun x => !digit x) l n w (fun x => digitFnC x w) hl hm
  generalize l.findIdx (fun x => !digit x) = f at *
  clear hl
  go_enter Tryz.func257, Tryz.ntmps257
  go_wp2_with (go_at_call 234; (with_reducible refine (HF _).mono ?_); rintro e w2 ⟨rfl, rfl⟩)
  go_ret
  exact ⟨rfl, rfl⟩
def numB (l : List UInt8) : Bool := (numL l).2 && (decide (0 ≤ (numL l).1) && (decide ((numL l).1 ≤ 255) && (Lib.itoa (numL l).1 == l)))
theorem decDigits_three (v : Nat) (h : v ≤ 255) : (Lib.decDigits v).length ≤ 3 := by
  rw [Lib.decDigits_length]
  have h1 : ∀ u, u < 10 → Lib.nDigits u ≤ 1 := fun u hu => by rw [Lib.nDigits_small hu]; omega
  have h2 : ∀ u, u < 100 → Lib.nDigits u ≤ 2 := fun u hu => by
    by_cases c : u < 10
    · have := h1 u c; omega
    · rw [Lib.nDigits_big c]; have := h1 (u / 10) (by omega); omega
  by_cases c : v < 10
  · have := h1 v c; omega
  · rw [Lib.nDigits_big c]; have := h2 (v / 10) (by omega); omega
theorem num_octet (l : List UInt8) : numB l = octetB l := by
  have hne : ∀ x : List UInt8, signed x = true → lead x = x.length → False := fun x h c => by
    obtain ⟨h1, h2, -⟩ := signed_yes h
    have := lead_all c 0 (by omega)
    omega
  unfold numB octetB numL
  cases hs : signed l with
  | true =>
    obtain ⟨h1, h2, h3⟩ := signed_yes hs
    have e2 : decide (lead l = l.length) = false := decide_eq_false fun c => hne l hs c
    rw [e2]
    simp only [Bool.and_false, Bool.false_and]
    split
    · rfl
    · simp only [if_true, Bool.true_and]
      rw [Bool.eq_false_iff]
      intro c
      simp only [Bool.and_eq_true, decide_eq_true_iff, beq_iff_eq] at c
      obtain ⟨c1, -, c3⟩ := c
      have : (0 : Int) - (numV (body l) : Int) = 0 := by omega
      rw [this] at c3
      have e : Lib.itoa 0 = [48] := by
        unfold Lib.itoa
        rw [if_neg (by omega), Lib.decDigits_one (by decide)]
        rfl
      rw [e] at c3
      rw [← c3] at h2
      exact absurd h2 (by decide)
  | false =>
    obtain ⟨-, hb⟩ := signed_no hs
    rw [hb]
    by_cases hbad : l.length = 0 ∨ lead l < l.length
    · rw [if_pos hbad]
      rcases hbad with h | h
      · have : decide (1 ≤ l.length) = false := decide_eq_false (by omega)
        rw [this]; simp
      · have : decide (lead l = l.length) = false := decide_eq_false (by omega)
        rw [this]; simp
    · rw [if_neg hbad]
      have h1 : decide (1 ≤ l.length) = true := decide_eq_true (by omega)
      have h2 : decide (lead l = l.length) = true := decide_eq_true (by have := lead_le l; omega)
      rw [h1, h2]
      simp only [Bool.false_eq_true, if_false, Bool.true_and, Bool.and_true]
      have e : Lib.itoa (numV l : Int) = Lib.decDigits (numV l) := by
        unfold Lib.itoa
        rw [if_neg (by omega)]
        rfl
      have h0 : decide ((0 : Int) ≤ (numV l : Int)) = true := decide_eq_true (by omega)
      have h3 : decide ((numV l : Int) ≤ 255) = decide (numV l ≤ 255) := by rw [decide_eq_decide]; omega
      rw [e, h0, h3, Bool.true_and]
      by_cases hv : numV l ≤ 255
      · rw [decide_eq_true hv]
        cases hc : (Lib.decDigits (numV l) == l) with
        | false => simp
        | true =>
          have : l.length ≤ 3 := by
            rw [← beq_iff_eq.1 hc]
            exact decDigits_three _ hv
          rw [decide_eq_true this]
          rfl
      · rw [decide_eq_false hv]; simp
theorem octet_len {l : List UInt8} (h : octetB l = true) : l.length ≤ 3 := by
  unfold octetB at h
  simp only [Bool.and_eq_true, decide_eq_true_iff] at h
  exact h.1.1.1.2
theorem quad_len {l : List UInt8} (h : quadB l = true) : l.length ≤ 15 := by
  unfold quadB at h
  simp only [Bool.and_eq_true, decide_eq_true_iff] at h
  obtain ⟨h1, h2⟩ := h
  rw [← joinL_all l 46]
  generalize splitL l 46 = P at *
  obtain ⟨a, b, c, d, rfl⟩ : ∃ a b c d, P = [a, b, c, d] := by
    match P, h1 with
    | [a, b, c, d], _ => exact ⟨a, b, c, d, rfl⟩
  simp only [List.all_cons, List.all_nil, Bool.and_true, Bool.and_eq_true] at h2
  have := octet_len h2.1
  have := octet_len h2.2.1
  have := octet_len h2.2.2.1
  have := octet_len h2.2.2.2
  simp [joinL]
  omega
theorem bracket_parts {l : List UInt8} (h : bracketB l = true) : 4 ≤ l.length ∧ l.length ≤ 47 ∧ l.getD 0 0 = 91 := by
  unfold bracketB at h
  simp only [Bool.and_eq_true, decide_eq_true_iff, beq_iff_eq] at h
  exact ⟨h.1.1.1.1, h.1.1.1.2, h.1.1.2⟩
theorem addr_len {l : List UInt8} (h : addrB l = true) : l.length ≤ 256 := by
  unfold addrB at h
  rw [Bool.or_eq_true] at h
  rcases h with h | h
  · have := quad_len h; omega
  · have := bracket_parts h; omega
theorem name_len {l : List UInt8} (h : nameB l = true) : l.length ≤ 256 := (name_labels h).1
theorem mem_join (c : UInt8) : ∀ (P : List (List UInt8)) (x : UInt8), x ∈ joinL c P → x = c ∨ ∃ p ∈ P, x ∈ p
  | [], x, h => by cases h
  | [p], x, h => .inr ⟨p, by simp, h⟩
  | p :: q :: r, x, h => by
    have h : x ∈ p ++ c :: joinL c (q :: r) := h
    rcases List.mem_append.1 h with h | h
    · exact .inr ⟨p, by simp, h⟩
    · rcases List.mem_cons.1 h with h | h
      · exact .inl h
      · rcases mem_join c (q :: r) x h with h | ⟨p', hp, hx⟩
        · exact .inl h
        · exact .inr ⟨p', List.mem_cons_of_mem _ hp, hx⟩
theorem label_sign {l : List UInt8} (h : labelB l = true) : ∀ x ∈ l, signB x = true := by
  unfold labelB at h
  simp only [Bool.and_eq_true] at h
  exact List.all_eq_true.1 h.2
theorem labels_sign {l : List UInt8} (h : (splitL l 46).all labelB = true) : ∀ x ∈ l, x = 46 ∨ signB x = true := by
  intro x hx
  rw [← joinL_all l 46] at hx
  rcases mem_join 46 _ x hx with h1 | ⟨p, hp, hx⟩
  · exact .inl h1
  · exact .inr (label_sign (List.all_eq_true.1 h p hp) x hx)
theorem labels_bracket {l : List UInt8} (h : (splitL l 46).all labelB = true) : bracketB l = false := by
  rw [Bool.eq_false_iff]
  intro c
  obtain ⟨c1, -, c2⟩ := bracket_parts c
  have hm : l.getD 0 0 ∈ l := by
    have : 0 < l.length := by omega
    simp only [List.getD, List.getElem?_eq_getElem this, Option.getD_some]
    exact List.getElem_mem _
  rcases labels_sign h _ hm with h1 | h1
  · rw [c2] at h1; exact absurd h1 (by decide)
  · rw [c2] at h1; exact absurd h1 (by decide)
def kindN (l : List UInt8) : Nat := if 256 < l.length then 0 else if addrB l = true then 2 else if (splitL l 46).all labelB = true then 1 else 0
theorem kind_two (l : List UInt8) : decide (kindN l = 2) = addrB l := by
  unfold kindN
  by_cases h : 256 < l.length
  · rw [if_pos h]
    cases c : addrB l with
    | false => rfl
    | true => have := addr_len c; omega
  · rw [if_neg h]
    cases c : addrB l with
    | true => simp
    | false => simp only [Bool.false_eq_true, if_false]; split <;> rfl
theorem kind_one (l : List UInt8) : decide (kindN l = 1) = nameB l := by
  unfold kindN nameB
  by_cases h : 256 < l.length
  · rw [if_pos h, decide_eq_false (show ¬ l.length ≤ 256 by omega)]; rfl
  · rw [if_neg h, decide_eq_true (show l.length ≤ 256 by omega)]
    unfold addrB
    cases hq : quadB l with
    | true => simp
    | false =>
      cases ha : (splitL l 46).all labelB with
      | false => simp; split <;> decide
      | true => rw [labels_bracket ha]; simp
theorem kind_zero (l : List UInt8) : decide (kindN l = 0) = !canonB l := by
  have h1 := kind_one l
  have h2 := kind_two l
  have h3 : kindN l = 0 ∨ kindN l = 1 ∨ kindN l = 2 := by
    unfold kindN
    split
    · exact .inl rfl
    · split
      · exact .inr (.inr rfl)
      · split
        · exact .inr (.inl rfl)
        · exact .inl rfl
  have hn := @name_len l
  have ha := @addr_len l
  unfold canonB
  rw [← h1, ← h2] at *
  rcases h3 with h3 | h3 | h3
  · rw [h3]; simp
  · have := hn (by rw [h3]; rfl)
    rw [h3, decide_eq_true this]; rfl
  · have := ha (by rw [h3]; rfl)
    rw [h3, decide_eq_true this]; rfl
theorem kind_le (l : List UInt8) : kindN l ≤ 2 := by
  unfold kindN
  split
  · omega
  · split
    · omega
    · split <;> omega
end Go.Proofs.YtaodjnkjjmhecaaGreatDoor
namespace Go.Proofs.YtaodjnkjjmhecaaGreatDoor
set_option linter.unusedVariables false
structure ItemL where
  name : List UInt8
  dom : List UInt8
  path : List UInt8
  val : List UInt8
  host : Bool
  sec : Bool
  http : Bool
  pers : Bool
  exp : Int
  made : Int
  used : Int
def ItemL.none : ItemL := ⟨[], [], [], [], false, false, false, false, 0, 0, 0⟩
def plainB (s : List UInt8) : Bool := !s.any ctl && (decide (s.findIdx (· == 59) = s.length) && trimL s == s)
def rightX (x : ItemL) : Bool :=
  !(x.name == [] || (decide (256 < x.name.length) || (!plainB x.name || (decide (x.name.findIdx (· == 61) < x.name.length) || (decide (1024 < x.val.length) || !plainB x.val))))) &&
  (!(!canonB x.dom || (x.path == [] || (!(x.path.getD 0 0 == 47) || decide (256 < x.path.length)))) &&
  (decide (-1099511627776 ≤ x.exp) && (decide (x.exp ≤ 1099511627776) && (decide (0 ≤ x.made) && (decide (x.made ≤ 1099511627776) && (decide (0 ≤ x.used) && (decide (x.used ≤ 1099511627776) && (x.pers || x.exp == 1099511627776))))))))
def keyLess (a b : ItemL) : Bool :=
  if a.name ≠ b.name then Op.bytesLess a.name b.name else if a.dom ≠ b.dom then Op.bytesLess a.dom b.dom else Op.bytesLess a.path b.path
def sameKey (a b : ItemL) : Bool := a.name == b.name && (a.dom == b.dom && a.path == b.path)
def ahead (a b : ItemL) : Bool :=
  if a.path.length ≠ b.path.length then decide (b.path.length < a.path.length) else if a.made ≠ b.made then decide (a.made < b.made) else keyLess a b
structure DotN where
  dev : Int
  inc : Int
  seq : Int
theorem DotN.ext' {a b : DotN} (h1 : a.dev = b.dev) (h2 : a.inc = b.inc) (h3 : a.seq = b.seq) : a = b := by
  cases a; cases b
  simp only at h1 h2 h3
  subst h1 h2 h3
  rfl
def actorD (d i : Int) : Bool := decide (0 ≤ d) && (decide (d ≤ 63) && (decide (1 ≤ i) && decide (i ≤ 1048576)))
def rightD (x : DotN) : Bool := actorD x.dev x.inc && (decide (1 ≤ x.seq) && decide (x.seq ≤ 4294967296))
def aheadA (d i e j : Int) : Bool := if d ≠ e then decide (d < e) else decide (i < j)
def lessD (x y : DotN) : Bool := if x.dev = y.dev ∧ x.inc = y.inc then decide (x.seq < y.seq) else aheadA x.dev x.inc y.dev y.inc
def sameD (x y : DotN) : Bool := x.dev == y.dev && (x.inc == y.inc && x.seq == y.seq)
theorem sameD_iff {x y : DotN} : sameD x y = true ↔ x = y := by
  unfold sameD
  simp only [Bool.and_eq_true, beq_iff_eq]
  constructor
  · rintro ⟨h1, h2, h3⟩
    exact DotN.ext' h1 h2 h3
  · rintro rfl
    exact ⟨rfl, rfl, rfl⟩
theorem lessD_irrefl (x : DotN) : lessD x x = false := by
  unfold lessD
  rw [if_pos ⟨rfl, rfl⟩]
  exact decide_eq_false (Int.lt_irrefl _)
theorem lessD_total {x y : DotN} (h : x ≠ y) : lessD x y = !lessD y x := by
  unfold lessD
  by_cases c : x.dev = y.dev ∧ x.inc = y.inc
  · rw [if_pos c, if_pos ⟨c.1.symm, c.2.symm⟩]
    have h3 : x.seq ≠ y.seq := fun e => h (DotN.ext' c.1 c.2 e)
    by_cases e : x.seq < y.seq
    · rw [decide_eq_true e, decide_eq_false (show ¬ y.seq < x.seq by omega)]; rfl
    · rw [decide_eq_false e, decide_eq_true (show y.seq < x.seq by omega)]; rfl
  · rw [if_neg c, if_neg (fun q => c ⟨q.1.symm, q.2.symm⟩)]
    unfold aheadA
    by_cases d : x.dev = y.dev
    · have h3 : x.inc ≠ y.inc := fun e => c ⟨d, e⟩
      rw [if_neg (by simp [d]), if_neg (by simp [d])]
      by_cases e : x.inc < y.inc
      · rw [decide_eq_true e, decide_eq_false (show ¬ y.inc < x.inc by omega)]; rfl
      · rw [decide_eq_false e, decide_eq_true (show y.inc < x.inc by omega)]; rfl
    · rw [if_pos d, if_pos (Ne.symm d)]
      by_cases e : x.dev < y.dev
      · rw [decide_eq_true e, decide_eq_false (show ¬ y.dev < x.dev by omega)]; rfl
      · rw [decide_eq_false e, decide_eq_true (show y.dev < x.dev by omega)]; rfl
def insD (x : DotN) (out : List DotN) : List DotN :=
  if (out[out.findIdx fun y => !lessD y x]?.map fun y => sameD y x).getD false = true then out else out.take (out.findIdx fun y => !lessD y x) ++ x :: out.drop (out.findIdx fun y => !lessD y x)
def sortD (l : List DotN) : List DotN := l.foldl (fun out x => insD x out) []
theorem insD_len (x : DotN) (out : List DotN) : (insD x out).length ≤ out.length + 1 := by
  unfold insD
  split
  · omega
  · rw [List.length_append, List.length_cons, List.length_take, List.length_drop]; omega
theorem sortD_len (l : List DotN) : (sortD l).length ≤ l.length := by
  unfold sortD
  suffices h : ∀ (l : List DotN) (out : List DotN), (l.foldl (fun out x => insD x out) out).length ≤ l.length + out.length from by simpa using h l []
  intro l
  induction l with
  | nil => exact fun out => by simp
  | cons x l ih =>
    intro out
    have h1 := ih (insD x out)
    have h2 := insD_len x out
    rw [List.foldl_cons, List.length_cons]
    omega
def short (n : Nat) : List Int := if h : n < 128 then [(n : Int)] else ((n % 128 + 128 : Nat) : Int) :: short (n / 128)
termination_by n
decreasing_by omega
end Go.Proofs.YtaodjnkjjmhecaaGreatDoor
namespace Go.Proofs.YtaodjnkjjmhecaaGreatDoor
open Go.RowKit
set_option linter.unusedVariables false
def is64 (n : Int) : Prop := -9223372036854775808 ≤ n ∧ n ≤ 9223372036854775807
structure FitD (x : DotN) : Prop where
  dev : is64 x.dev
  inc : is64 x.inc
  seq : is64 x.seq
theorem right_range {x : DotN} (h : rightD x = true) : 0 ≤ x.dev ∧ x.dev ≤ 63 ∧ 1 ≤ x.inc ∧ x.inc ≤ 1048576 ∧ 1 ≤ x.seq ∧ x.seq ≤ 4294967296 := by
  unfold rightD actorD at h
  simp only [Bool.and_eq_true, decide_eq_true_iff] at h
  obtain ⟨⟨a, b, c, d⟩, e, f⟩ := h
  exact ⟨a, b, c, d, e, f⟩
end Go.Proofs.YtaodjnkjjmhecaaGreatDoor
namespace Go.Proofs.YtaodjnkjjmhecaaGreatDoor
set_option linter.unusedVariables false
structure StampN where
  wall : Int
  count : Int
  dev : Int
def rightT (s : StampN) : Bool := decide (0 ≤ s.wall) && (decide (s.wall ≤ 4398046511104) && (decide (0 ≤ s.count) && (decide (s.count ≤ 65535) && (decide (0 ≤ s.dev) && decide (s.dev ≤ 63)))))
def lessT (a b : StampN) : Bool := if a.wall ≠ b.wall then decide (a.wall < b.wall) else if a.count ≠ b.count then decide (a.count < b.count) else decide (a.dev < b.dev)
end Go.Proofs.YtaodjnkjjmhecaaGreatDoor
namespace Go.Proofs.YtaodjnkjjmhecaaGreatDoor
open Go.RowKit
set_option linter.unusedVariables false
def Apart (a : Option Addr) (B : Nat) : Prop := ∀ x, a = some x → x.block ≠ B
def GrownBut (w w' : World) (a : Option Addr) : Prop := w.heap.size ≤ w'.heap.size ∧ ∀ k, k < w.heap.size → Apart a k → w'.heap[k]? = w.heap[k]?
end Go.Proofs.YtaodjnkjjmhecaaGreatDoor
namespace Go.Proofs.YtaodjnkjjmhecaaGreatDoor
set_option linter.unusedVariables false
structure EventN where
  dot : DotN
  stamp : StampN
  kind : Int
  item : ItemL
  over : List DotN
def likeC (x y : ItemL) : Bool := x.val == y.val && (x.host == y.host && (x.sec == y.sec && (x.http == y.http && (x.pers == y.pers && (x.exp == y.exp && (x.made == y.made && (x.used == y.used)))))))
theorem sameKC_iff {x y : ItemL} : (sameKey x y && likeC x y) = true ↔ x = y := by
  unfold sameKey likeC
  simp only [Bool.and_eq_true, beq_iff_eq]
  constructor
  · rintro ⟨⟨h1, h2, h3⟩, h4, h5, h6, h7, h8, h9, h10, h11⟩
    cases x; cases y
    simp only at h1 h2 h3 h4 h5 h6 h7 h8 h9 h10 h11
    subst h1 h2 h3 h4 h5 h6 h7 h8 h9 h10 h11
    rfl
  · rintro rfl
    exact ⟨⟨rfl, rfl, rfl⟩, rfl, rfl, rfl, rfl, rfl, rfl, rfl, rfl⟩
def lightE (e : EventN) : Bool := decide (e.over.length ≤ 100) && (decide (e.item.name.length ≤ 2000) && (decide (e.item.dom.length ≤ 2000) && (decide (e.item.path.length ≤ 2000) && decide (e.item.val.length ≤ 2000))))
def okO (L : List DotN) (d : DotN) (k : Nat) : Bool :=
  rightD (L.getD k ⟨0, 0, 0⟩) && ((k == 0 || lessD (L.getD (k - 1) ⟨0, 0, 0⟩) (L.getD k ⟨0, 0, 0⟩)) && !(((L.getD k ⟨0, 0, 0⟩).dev == d.dev && (L.getD k ⟨0, 0, 0⟩).inc == d.inc) && decide (d.seq ≤ (L.getD k ⟨0, 0, 0⟩).seq)))
def headE (e : EventN) : Bool := rightD e.dot && (rightT e.stamp && (e.stamp.dev == e.dot.dev && decide (e.over.length ≤ 64)))
def kindE (e : EventN) : Bool := if e.kind = 1 then rightX e.item else e.kind == 2 && (sameKey e.item ItemL.none && likeC e.item ItemL.none) && decide (0 < e.over.length)
def rightE (e : EventN) : Bool := headE e && ((List.range e.over.length).all (okO e.over e.dot) && kindE e)
end Go.Proofs.YtaodjnkjjmhecaaGreatDoor
namespace Go.Proofs.YtaodjnkjjmhecaaGreatDoor
open Go.ChangeShapes Go.WideShapes Go.RowKit
set_option linter.unusedVariables false
section
variable {H : Type} {enc : TypeId × Value → H} {P : Program} {w : World} {base : Nat} {spare : Nat → Bool} {held : Bool}
theorem fields_of {e : TypeId} {fs : Array Field} {fuel : Nat} {cs : List Value} {x : DataW H × List MemPlace} (hs : P.underlying e = some (.struct fs)) (hone : Go.Deep.oneCellFields P fs = true) (hC : P.cellsOf e = fs.size)
    (h : DataW.trod enc P w base spare held fuel e cs = some x) : cs.length = fs.size ∧ ∃ n, ∀ (j : Nat) (f : Field) (v : Value), fs[j]? = some f → cs[j]? = some v → ∃ y, DataW.trod enc P w base spare held n f.type [v] = some y := by
  obtain ⟨ys, n, -, -, hlen, hyl, hf⟩ := DataW.trod_struct hs h
  refine ⟨hlen.trans hC, n, fun j f v hj hv => ?_⟩
  obtain ⟨ho, hk⟩ := Go.Deep.hone_of hone j f hj
  have hjl : j < fs.size := (Array.getElem?_eq_some_iff.1 hj).1
  have h1 := hf j f hj
  obtain ⟨hjc, hve⟩ := List.getElem?_eq_some_iff.1 hv
  rw [ho, hk, List.drop_eq_getElem_cons hjc, hve, List.take_succ_cons, List.take_zero, List.getElem?_eq_getElem (by omega)] at h1
  exact ⟨_, h1⟩
theorem fields_with {e : TypeId} {fs : Array Field} {fuel : Nat} {cs : List Value} {x : DataW H × List MemPlace} (hs : P.underlying e = some (.struct fs)) (hone : Go.Deep.oneCellFields P fs = true) (hC : P.cellsOf e = fs.size)
    (h : DataW.trod enc P w base spare held fuel e cs = some x) : cs.length = fs.size ∧ ∃ (n : Nat) (ys : List (DataW H × List MemPlace)), x.1 = .agg (ys.map (·.1)) ∧ ys.length = fs.size ∧ ∀ (j : Nat) (f : Field) (v : Value), fs[j]? = some f → cs[j]? = some v → ∃ y, ys[j]? = some y ∧ DataW.trod enc P w base spare held n f.type [v] = some y := by
  obtain ⟨ys, n, -, hx, hlen, hyl, hf⟩ := DataW.trod_struct hs h
  refine ⟨hlen.trans hC, n, ys, by rw [hx], hyl, fun j f v hj hv => ?_⟩
  obtain ⟨ho, hk⟩ := Go.Deep.hone_of hone j f hj
  have hjl : j < fs.size := (Array.getElem?_eq_some_iff.1 hj).1
  have h1 := hf j f hj
  obtain ⟨hjc, hve⟩ := List.getElem?_eq_some_iff.1 hv
  rw [ho, hk, List.drop_eq_getElem_cons hjc, hve, List.take_succ_cons, List.take_zero, List.getElem?_eq_getElem (by omega)] at h1
  exact ⟨_, List.getElem?_eq_getElem (by omega), h1⟩
theorem elems_of {t e : TypeId} (z : Nat) {fuel : Nat} {cs : List Value} {x : DataW H × List MemPlace} (ht : P.underlying t = some (.slice e)) (hC : P.cellsOf e = z) (hp : 0 < z)
    (h : DataW.trod enc P w base spare held fuel t cs = some x) :
    ∃ (a : Option Addr) (len cap n : Nat), cs = [.slice a len cap] ∧ len ≤ cap ∧ cap ≤ maxLen ∧ (a = none → cap = 0) ∧
      ∀ i, i < len → ∃ (b off : Nat) (cs' : List Value) (y : DataW H × List MemPlace), a = some ⟨b, off, none⟩ ∧ cs'.length = z ∧ (∀ j v, cs'[j]? = some v → w.cell? ⟨b, off + i * z + j, none⟩ = some v) ∧ DataW.trod enc P w base spare held n e cs' = some y := by
  rcases Go.Deep.open_slice ht h with ⟨rfl, -⟩ | ⟨a, len, cap, m, n, D, Pl, rfl, hb, hl, hm, hmm, -, hi⟩
  · exact ⟨none, 0, 0, 0, rfl, Nat.le_refl _, by unfold maxLen; omega, fun _ => rfl, fun i h => by omega⟩
  · refine ⟨some a, len, cap, n, rfl, hl, hm, (fun h => by cases h), fun i hil => ?_⟩
    have him : i < m := by rw [hmm]; split <;> omega
    obtain ⟨cs', hc, hy⟩ := hi i him
    obtain ⟨_, hcl, hat⟩ := World.cells?_some hc
    rw [hC] at hcl hat
    obtain ⟨b, off, spot⟩ := a
    obtain ⟨cs0, hc0, -⟩ := hi 0 (by omega)
    obtain ⟨_, hcl0, hat0⟩ := World.cells?_some hc0
    rw [hC] at hcl0 hat0
    have h0 := hat0 0 hp
    rw [List.getElem?_eq_getElem (by omega)] at h0
    have hspot : spot = none := by simpa [Addr.add] using World.cell?_spot h0
    subst hspot
    refine ⟨b, off, cs', _, rfl, hcl, fun j v hv => ?_, hy⟩
    have hjl : j < z := by
      have := (List.getElem?_eq_some_iff.1 hv).1
      omega
    have h1 := (hat j hjl).trans hv
    rw [Go.Deep.add_add] at h1
    have hA : (⟨b, off, none⟩ : Addr).add (i * z + j) = ⟨b, off + i * z + j, none⟩ := by
      by_cases h0 : i * z + j = 0
      · have e : off + i * z + j = off := by omega
        rw [h0, e]
        simp [Addr.add]
      · simp only [Addr.add, if_neg h0, Nat.add_assoc]
    rw [hA] at h1
    exact h1
end
theorem flags_of {H : Type} {enc : TypeId × Value → H} {P : Program} {w : World} {base : Nat} {held : Bool} {t e : TypeId} {fuel : Nat} {v : Value} {x : DataW H × List MemPlace} (ht : P.underlying t = some (.slice e)) (he : P.underlying e = some .bool) (hc : P.cellsOf e = 1)
    (h : DataW.trod enc P w base (fun _ => true) held fuel t [v] = some x) :
    ∃ (a : Option Addr) (len cap : Nat) (F : List Bool), v = .slice a len cap ∧ F.length = len ∧ len ≤ cap ∧ cap ≤ maxLen ∧ (a = none → cap = 0) ∧ Reads w a (F.map Value.bool) := by
  rcases Go.Deep.open_bools ht he hc h with ⟨hcs, -⟩ | ⟨a, len, cap, B, hcs, hb, hl, hm, -, hcell⟩
  · cases hcs
    exact ⟨none, 0, 0, [], rfl, rfl, Nat.le_refl _, by unfold maxLen; omega, fun _ => rfl, Reads.nil _ _⟩
  · cases hcs
    refine ⟨some a, len, cap, (List.range len).map B, rfl, by simp, hl, hm, (fun h => by cases h), fun i u hu => ?_⟩
    have hil : i < len := by
      have := (List.getElem?_eq_some_iff.1 hu).1
      simpa using this
    obtain ⟨b, off, spot⟩ := a
    have hspot : spot = none := by simpa [Addr.add] using World.cell?_spot (hcell 0 (by omega))
    subst hspot
    have h0 := hcell i (by omega)
    have hA : (⟨b, off, none⟩ : Addr).add i = ⟨b, off + i, none⟩ := by
      by_cases h0 : i = 0
      · subst h0; simp [Addr.add]
      · simp [Addr.add, h0]
    rw [hA] at h0
    simp [hil] at hu
    subst hu
    exact ⟨b, off, rfl, h0⟩
end Go.Proofs.YtaodjnkjjmhecaaGreatDoor
namespace Go.Proofs.YtaodjnkjjmhecaaGreatDoor
open Go.ChangeShapes Go.WideShapes Go.RowKit
set_option linter.unusedVariables false
def flatC {α : Type} (enc : α → List Value) (P : List α) : List Value := P.flatMap enc
theorem flatC_len {α : Type} {enc : α → List Value} {z : Nat} (hz : ∀ x, (enc x).length = z) : ∀ P : List α, (flatC enc P).length = P.length * z
  | [] => by simp [flatC]
  | x :: r => by
    have := flatC_len hz r
    unfold flatC at *
    rw [List.flatMap_cons, List.length_append, this, hz, List.length_cons, Nat.add_mul]
    omega
theorem flatC_app {α : Type} {enc : α → List Value} (P Q : List α) : flatC enc (P ++ Q) = flatC enc P ++ flatC enc Q := by
  unfold flatC
  exact List.flatMap_append
theorem flatC_one {α : Type} {enc : α → List Value} (x : α) : flatC enc [x] = enc x := by simp [flatC]
theorem flatC_at {α : Type} {enc : α → List Value} {z : Nat} (hz : ∀ x, (enc x).length = z) : ∀ (P : List α) (i : Nat) (x : α) (j : Nat) (v : Value), P[i]? = some x → (enc x)[j]? = some v → (flatC enc P)[i * z + j]? = some v
  | [], i, x, j, v, h, hv => by simp at h
  | y :: r, 0, x, j, v, h, hv => by
    simp only [List.getElem?_cons_zero, Option.some.injEq] at h
    subst h
    unfold flatC
    rw [List.flatMap_cons, Nat.zero_mul, Nat.zero_add, List.getElem?_append_left (List.getElem?_eq_some_iff.1 hv).1]
    exact hv
  | y :: r, i + 1, x, j, v, h, hv => by
    have := flatC_at hz r i x j v (by simpa using h) hv
    unfold flatC at *
    have hl := hz y
    rw [List.flatMap_cons, List.getElem?_append_right (by rw [hl, Nat.add_mul]; omega), hl]
    have e : (i + 1) * z + j - z = i * z + j := by rw [Nat.add_mul]; omega
    rw [e]
    exact this
structure RowOf {α : Type} (enc : α → List Value) (z : Nat) (w : World) (a : Option Addr) (len cap : Nat) (P : List α) : Prop where
  leq : P.length = len
  cle : len ≤ cap
  capm : cap ≤ maxLen
  nil0 : a = none → cap = 0
  at_ : ∀ (i : Nat) (x : α), P[i]? = some x → ∃ g off, a = some ⟨g, off, none⟩ ∧ ∀ (j : Nat) (v : Value), (enc x)[j]? = some v → w.cell? ⟨g, off + i * z + j, none⟩ = some v
theorem RowOf.below {α : Type} {enc : α → List Value} {z : Nat} {w w' : World} {a : Option Addr} {len cap : Nat} {P : List α} (h : RowOf enc z w a len cap P) (hb : Below w.heap.size w w') : RowOf enc z w' a len cap P :=
  ⟨h.leq, h.cle, h.capm, h.nil0, fun i x hx => by
    obtain ⟨g, off, e, hc⟩ := h.at_ i x hx
    exact ⟨g, off, e, fun j v hv => (hb.cell (p := ⟨g, off + i * z + j, none⟩) (cell_lt (hc j v hv))).trans (hc j v hv)⟩⟩
theorem RowOf.at {α : Type} {enc : α → List Value} {z : Nat} {w : World} {a : Option Addr} {len cap : Nat} {P : List α} (h : RowOf enc z w a len cap P) (k : Nat) (hk : k < len) :
    ∃ x g off, P[k]? = some x ∧ a = some ⟨g, off, none⟩ ∧ ∀ (j : Nat) (v : Value), (enc x)[j]? = some v → w.cell? ⟨g, off + k * z + j, none⟩ = some v := by
  have hk' : k < P.length := by rw [h.leq]; exact hk
  obtain ⟨g, off, e, hc⟩ := h.at_ k P[k] (List.getElem?_eq_getElem hk')
  exact ⟨P[k], g, off, List.getElem?_eq_getElem hk', e, hc⟩
def OwnZ {α : Type} (enc : α → List Value) (z base : Nat) (e : TypeId) (a : Option Addr) (n c : Nat) (P : List α) (w : World) : Prop :=
  w.ownsRow base e z (.slice a n c) n (flatC enc P) ∧ P.length = n ∧ n ≤ c ∧ c ≤ maxLen
theorem OwnZ.head {α : Type} {enc : α → List Value} {z base : Nat} {e : TypeId} {a : Option Addr} {n c : Nat} {P : List α} {w : World} (h : OwnZ enc z base e a n c P w) : (a = none ∧ n = 0 ∧ c = 0) ∨ ∃ g, a = some ⟨g, 0, none⟩ ∧ base ≤ g ∧ g < w.heap.size := by
  rcases h.1.2 with ⟨hv, hn⟩ | ⟨g, cap, cur, hv, hb, hg, _⟩
  · cases hv; exact .inl ⟨rfl, rfl, rfl⟩
  · cases hv
    refine .inr ⟨g, rfl, hb, ?_⟩
    rcases Nat.lt_or_ge g w.heap.size with h | h
    · exact h
    · rw [Array.getElem?_eq_none h] at hg; cases hg
theorem OwnZ.row {α : Type} {enc : α → List Value} {z base : Nat} {e : TypeId} {a : Option Addr} {n c : Nat} {P : List α} {w : World} (hz : ∀ x, (enc x).length = z) (h : OwnZ enc z base e a n c P w) : RowOf enc z w a n c P := by
  refine ⟨h.2.1, h.2.2.1, h.2.2.2, fun e0 => ?_, fun i x hx => ?_⟩
  · rcases h.head with ⟨-, -, h⟩ | ⟨g, h, -⟩
    · exact h
    · rw [e0] at h; cases h
  · have hi : i < n := by have := (List.getElem?_eq_some_iff.1 hx).1; rw [h.2.1] at this; exact this
    rcases h.head with ⟨-, h, -⟩ | ⟨g, rfl, -⟩
    · omega
    · refine ⟨g, 0, rfl, fun j v hv => ?_⟩
      have hj : j < z := by have := (List.getElem?_eq_some_iff.1 hv).1; rw [hz] at this; exact this
      have h1 : i * z + j < n * z := by
        have : (i + 1) * z ≤ n * z := Nat.mul_le_mul_right z hi
        rw [Nat.add_mul] at this
        omega
      rw [Nat.zero_add, World.ownsRow.cellAt h.1 (i * z + j) h1]
      exact flatC_at hz P i x j v hx hv
theorem OwnZ.below {α : Type} {enc : α → List Value} {z base B : Nat} {e : TypeId} {a : Option Addr} {n c : Nat} {P : List α} {w w' : World} (h : OwnZ enc z base e a n c P w) (hb : Below B w w') (hB : w.heap.size ≤ B) : OwnZ enc z base e a n c P w' :=
  ⟨owns_below h.1 hb hB, h.2⟩
theorem OwnZ.base {α : Type} {enc : α → List Value} {z base base' : Nat} {e : TypeId} {a : Option Addr} {n c : Nat} {P : List α} {w : World} (h : OwnZ enc z base e a n c P w) (hb : base' ≤ base) : OwnZ enc z base' e a n c P w :=
  ⟨owns_base h.1 hb, h.2⟩
theorem OwnZ.none {α : Type} (enc : α → List Value) (z base : Nat) (e : TypeId) (w : World) : OwnZ enc z base e none 0 0 [] w :=
  ⟨⟨by simp [flatC], .inl ⟨rfl, rfl⟩⟩, rfl, Nat.le_refl _, by unfold maxLen; omega⟩
theorem OwnZ.lit {α : Type} (enc : α → List Value) (z : Nat) (e : TypeId) (w : World) : OwnZ enc z w.heap.size e (some ⟨w.heap.size, 0, .none⟩) 0 0 [] (w.alloc (.cells #[] e)) :=
  ⟨World.ownsRow_lit _ #[] 0 (Nat.le_refl _) (by unfold maxLen; omega) (by simp), rfl, Nat.le_refl _, by unfold maxLen; omega⟩
theorem OwnZ.new {α : Type} {enc : α → List Value} {z : Nat} (hz : ∀ x, (enc x).length = z) (P : List α) (C : Array Value) (hC : C.toList = flatC enc P) (n : Nat) (hn : P.length = n) (hm : n ≤ maxLen) (e : TypeId) (w : World) :
    OwnZ enc z w.heap.size e (some ⟨w.heap.size, 0, .none⟩) n n P (w.alloc (.cells C e)) := by
  refine ⟨?_, hn, Nat.le_refl _, hm⟩
  rw [← hC]
  refine World.ownsRow_lit _ C n (Nat.le_refl _) hm ?_
  have := flatC_len hz P
  rw [← hC, hn] at this
  simpa using this
theorem RowOf.cellsOf {α : Type} {enc : α → List Value} {z : Nat} (hz : ∀ x, (enc x).length = z) {w : World} {g off : Nat} {len cap : Nat} {P : List α} (h : RowOf enc z w (some ⟨g, off, none⟩) len cap P) (j : Nat) (u : Value) (hu : (flatC enc P)[j]? = some u) : w.cell? ⟨g, off + j, none⟩ = some u := by
  have hl := flatC_len hz P
  have hj := (List.getElem?_eq_some_iff.1 hu).1
  rw [hl] at hj
  have hz0 : 0 < z := by
    rcases Nat.eq_zero_or_pos z with h0 | h0
    · rw [h0] at hj; omega
    · exact h0
  have hi : j / z < P.length := Nat.div_lt_of_lt_mul (by rw [Nat.mul_comm]; exact hj)
  obtain ⟨g', off', e, hc⟩ := h.at_ (j / z) _ (List.getElem?_eq_getElem hi)
  cases e
  have hm : j % z < (enc P[j / z]).length := by rw [hz]; exact Nat.mod_lt _ hz0
  have h2 := hc (j % z) _ (List.getElem?_eq_getElem hm)
  have h3 := flatC_at hz P (j / z) _ (j % z) _ (List.getElem?_eq_getElem hi) (List.getElem?_eq_getElem hm)
  have e1 : j / z * z + j % z = j := by rw [Nat.mul_comm]; exact Nat.div_add_mod j z
  rw [e1, hu] at h3
  rw [Nat.add_assoc, e1] at h2
  rw [h2, ← h3]
theorem wp_append_rows {α : Type} {enc : α → List Value} {z : Nat} (hz : ∀ x, (enc x).length = z) (hz0 : 0 < z) (hone : ∀ x, ∀ u ∈ enc x, u.oneCell' = true) {P : Program} {w : World} {o : Oper} {a : Act} {K : Act → World → Prop} {Q : Exit → Act → World → Prop} (s x : Operand) (t : TypeId)
    (ho : o.op = .call { callee := .builtin .append, args := #[s, x], argTypes := #[t, t] })
    (e : TypeId) (i : TypeInfo) (z0 : Value) (bytes : Nat) (ht : P.underlying t = some (.slice e)) (hi : P.info? e = some i) (hzz : i.zero = some z0) (hsize : i.size = z) (hby : i.bytes = bytes) (hzs : z0.cells.size = z)
    {base : Nat} {a0 : Option Addr} {n c0 : Nat} {xs : List α} (hown : OwnZ enc z base e a0 n c0 xs w) (hs : a.eval s = .slice a0 n c0)
    {ao : Option Addr} {m c : Nat} {news : List α} (hr : RowOf enc z w ao m c news) (hx : a.eval x = .slice ao m c)
    (N : Nat) (hN : n + m = N) (h63 : N ≤ maxLen) (hbytes : N * bytes ≤ 140737488355328) (hbase : base ≤ w.heap.size)
    (h : ∀ a' c' w', OwnZ enc z base e a' N c' (xs ++ news) w' → Below base w w' → GrownBut w w' a0 → (a' = a0 ∨ ∃ g, a' = some ⟨g, 0, none⟩ ∧ w.heap.size ≤ g) → K (a.put o.dst (.slice a' N c')) w') : Oper.wp P o a w K Q := by
  subst hN
  have h1 : ∀ u ∈ flatC enc news, u.oneCell' = true := fun u hu => by
    obtain ⟨y, -, hy⟩ := List.mem_flatMap.1 hu
    exact hone y u hy
  have hrun : ∃ v' w', (Builtin.append_ #[t, t] o.type #[.slice a0 n c0, .slice ao m c]).run P w = .ok v' w' ∧ w'.ownsRow base e z v' (n + m) (flatC enc (xs ++ news)) ∧ w.grownBy w' (Value.slice a0 n c0).ownBlock ∧ (v'.ownBlock = (Value.slice a0 n c0).ownBlock ∨ v'.ownBlock = some w.heap.size) := by
    rw [flatC_app]
    cases ao with
    | none =>
      have hc0 := hr.nil0 rfl
      have hm0 : m = 0 := by have := hr.cle; omega
      subst hc0
      subst hm0
      have hn : news = [] := List.length_eq_zero_iff.1 hr.leq
      subst hn
      have hrn := run_append_owned_none (P := P) (w := w) base t o.type e i z ht hi _ n (flatC enc xs) hown.1
      exact ⟨_, w, hrn, by simpa [flatC] using hown.1, ⟨rfl, rfl, rfl, Nat.le_refl _, fun _ _ _ => rfl⟩, .inl rfl⟩
    | some ad =>
      by_cases hm : m = 0
      · subst hm
        have hn : news = [] := List.length_eq_zero_iff.1 hr.leq
        subst hn
        obtain ⟨v', w', h2, h3, h4, _, h5⟩ := run_append_own_at (P := P) w base t o.type e i z0 z bytes ht hi hzz hsize hby hzs hz0 _ n (flatC enc xs) hown.1 ad 0 c [] (by simp) (fun j u hu => by simp at hu) (by simp) h63 hbytes hbase
        exact ⟨v', w', h2, by simpa [flatC] using h3, h4, h5⟩
      · obtain ⟨y, g, off, -, e1, -⟩ := hr.at 0 (by omega)
        cases e1
        obtain ⟨v', w', h2, h3, h4, _, h5⟩ := run_append_own_at (P := P) w base t o.type e i z0 z bytes ht hi hzz hsize hby hzs hz0 _ n (flatC enc xs) hown.1 ⟨g, off, none⟩ m c (flatC enc news) (by rw [flatC_len hz, hr.leq]) (fun j u hu => by
          have hc := hr.cellsOf hz j u hu
          have hA : (⟨g, off, none⟩ : Addr).add j = ⟨g, off + j, none⟩ := by
            by_cases h0 : j = 0
            · subst h0; simp [Addr.add]
            · simp [Addr.add, h0]
          rw [hA]
          exact hc) h1 h63 hbytes hbase
        exact ⟨v', w', h2, h3, h4, h5⟩
  obtain ⟨v', w', h2, h3, h4, h5⟩ := hrun
  unfold Oper.wp execOp
  simp only [ho, resolve, invoke, builtin, Sem.run_bind, Sem.run_pure, Result.andThen_ok, List.map_toArray, List.map_cons, List.map_nil, hs, hx, h2]
  have hlen : (xs ++ news).length = n + m := by rw [List.length_append, hown.2.1, hr.leq]
  have hv' : ∃ a' c', v' = .slice a' (n + m) c' ∧ n + m ≤ c' ∧ c' ≤ maxLen := by
    rcases h3.2 with ⟨hv, hn0⟩ | ⟨g, cap, cur, hv, hb, hg, hnc, hcm, _⟩
    · exact ⟨.none, 0, by rw [hv, hn0], by omega, by unfold maxLen; omega⟩
    · exact ⟨_, cap, hv, hnc, hcm⟩
  obtain ⟨a', c', rfl, hle, hcm⟩ := hv'
  have h6 : OwnZ enc z base e a' (n + m) c' (xs ++ news) w' := ⟨h3, hlen, hle, hcm⟩
  refine h a' c' w' h6 (grown_below hown.1 h4 hbase) ⟨h4.size, fun k hk ha => h4.block k hk fun e0 => ?_⟩ ?_
  · cases a0 with
    | none => simp [Value.ownBlock] at e0
    | some x0 => exact ha x0 rfl (by simpa [Value.ownBlock] using e0.symm)
  · rcases h6.1.2 with ⟨hv, hn0⟩ | ⟨g, cap, cur, hv, hb, hg, _⟩
    · simp only [Value.slice.injEq] at hv
      obtain ⟨rfl, -, -⟩ := hv
      rcases h5 with h5 | h5
      · cases a0 with
        | none => exact .inl rfl
        | some x0 => simp [Value.ownBlock] at h5
      · simp [Value.ownBlock] at h5
    · simp only [Value.slice.injEq] at hv
      obtain ⟨rfl, -, -⟩ := hv
      rcases h5 with h5 | h5
      · cases a0 with
        | none => simp [Value.ownBlock] at h5
        | some x0 =>
          rcases hown.1.2 with ⟨hv0, _⟩ | ⟨g0, cap0, cur0, hv0, _⟩
          · cases hv0
          · cases hv0
            simp [Value.ownBlock] at h5
            subst h5
            exact .inl rfl
      · simp [Value.ownBlock] at h5
        exact .inr ⟨g, rfl, by omega⟩
theorem wpList_append_rows {α : Type} {enc : α → List Value} {z : Nat} (hz : ∀ x, (enc x).length = z) (hz0 : 0 < z) (hone : ∀ x, ∀ u ∈ enc x, u.oneCell' = true) {P : Program} {w : World} {ops : Array Oper} {rest : List Oper} {o : Oper} {a : Act} {Q : Exit → Act → World → Prop} (hgd : o.guard = none) (s x : Operand) (t : TypeId)
    (ho : o.op = .call { callee := .builtin .append, args := #[s, x], argTypes := #[t, t] })
    (e : TypeId) (i : TypeInfo) (z0 : Value) (bytes : Nat) (ht : P.underlying t = some (.slice e)) (hi : P.info? e = some i) (hzz : i.zero = some z0) (hsize : i.size = z) (hby : i.bytes = bytes) (hzs : z0.cells.size = z)
    {base : Nat} {a0 : Option Addr} {n c0 : Nat} {xs : List α} (hown : OwnZ enc z base e a0 n c0 xs w) (hs : a.eval s = .slice a0 n c0)
    {ao : Option Addr} {m c : Nat} {news : List α} (hr : RowOf enc z w ao m c news) (hx : a.eval x = .slice ao m c)
    (N : Nat) (hN : n + m = N) (h63 : N ≤ maxLen) (hbytes : N * bytes ≤ 140737488355328) (hbase : base ≤ w.heap.size)
    (h : ∀ a' c' w', OwnZ enc z base e a' N c' (xs ++ news) w' → Below base w w' → GrownBut w w' a0 → (a' = a0 ∨ ∃ g, a' = some ⟨g, 0, none⟩ ∧ w.heap.size ≤ g) → wpList P ops Q rest (a.put o.dst (.slice a' N c')) w') : wpList P ops Q (o :: rest) a w :=
  wpList_plain hgd fun K hK => wp_append_rows hz hz0 hone s x t ho e i z0 bytes ht hi hzz hsize hby hzs hown hs hr hx N hN h63 hbytes hbase fun a' c' w' h1 h2 h3 h4 => hK _ _ (h a' c' w' h1 h2 h3 h4)
theorem step_append_rows {α : Type} {enc : α → List Value} {z : Nat} (hz : ∀ x, (enc x).length = z) (hz0 : 0 < z) (hone : ∀ x, ∀ u ∈ enc x, u.oneCell' = true) {P : Program} {w : World} {ops : Array Oper} {o : Oper} {a : Act} {K : Act → World → Prop} {E : Prop} {Q : Exit → Act → World → Prop} (hgd : o.guard = none) (s x : Operand) (t : TypeId)
    (ho : o.op = .call { callee := .builtin .append, args := #[s, x], argTypes := #[t, t] })
    (e : TypeId) (i : TypeInfo) (z0 : Value) (bytes : Nat) (ht : P.underlying t = some (.slice e)) (hi : P.info? e = some i) (hzz : i.zero = some z0) (hsize : i.size = z) (hby : i.bytes = bytes) (hzs : z0.cells.size = z)
    {base : Nat} {a0 : Option Addr} {n c0 : Nat} {xs : List α} (hown : OwnZ enc z base e a0 n c0 xs w) (hs : a.eval s = .slice a0 n c0)
    {ao : Option Addr} {m c : Nat} {news : List α} (hr : RowOf enc z w ao m c news) (hx : a.eval x = .slice ao m c)
    (N : Nat) (hN : n + m = N) (h63 : N ≤ maxLen) (hbytes : N * bytes ≤ 140737488355328) (hbase : base ≤ w.heap.size)
    (h : ∀ a' c' w', OwnZ enc z base e a' N c' (xs ++ news) w' → Below base w w' → GrownBut w w' a0 → (a' = a0 ∨ ∃ g, a' = some ⟨g, 0, none⟩ ∧ w.heap.size ≤ g) → K (a.put o.dst (.slice a' N c')) w') : if Region.wanted o (yielded ops a.tmps) = true then Oper.wp P o a w K Q else E := by
  rw [if_pos (by simp [Region.wanted, hgd])]
  exact wp_append_rows hz hz0 hone s x t ho e i z0 bytes ht hi hzz hsize hby hzs hown hs hr hx N hN h63 hbytes hbase h
theorem wp_append_row1 {α : Type} {enc : α → List Value} {z : Nat} (hz : ∀ x, (enc x).length = z) (hz0 : 0 < z) (hone : ∀ x, ∀ u ∈ enc x, u.oneCell' = true) {P : Program} {wr : World} {o : Oper} {a : Act} {K : Act → World → Prop} {Q : Exit → Act → World → Prop} (s x : Operand) (t : TypeId)
    (ho : o.op = .call { callee := .builtin .append, args := #[s, x], argTypes := #[t, t] })
    (e : TypeId) (i : TypeInfo) (z0 : Value) (bytes : Nat) (ht : P.underlying t = some (.slice e)) (hi : P.info? e = some i) (hzz : i.zero = some z0) (hsize : i.size = z) (hby : i.bytes = bytes) (hzs : z0.cells.size = z)
    {base : Nat} {a0 : Option Addr} {n c0 : Nat} {xs : List α} (hown : OwnZ enc z base e a0 n c0 xs wr) (hs : a.eval s = .slice a0 n c0)
    {C : Array Value} {t' : TypeId} (y : α) (hC : C.toList = enc y) (hx : a.eval x = .slice (some ⟨wr.heap.size, 0, none⟩) 1 1)
    (N : Nat) (hN : n + 1 = N) (h63 : N ≤ maxLen) (hbytes : N * bytes ≤ 140737488355328) (hbase : base ≤ wr.heap.size)
    (h : ∀ a' c' w', OwnZ enc z base e a' N c' (xs ++ [y]) w' → Below base wr w' → GrownBut wr w' a0 → (a' = a0 ∨ ∃ g, a' = some ⟨g, 0, none⟩ ∧ wr.heap.size ≤ g) → K (a.put o.dst (.slice a' N c')) w') : Oper.wp P o a (wr.alloc (.cells C t')) K Q := by
  have hal := below_alloc wr (.cells C t')
  have hnew := OwnZ.new hz [y] C (by rw [hC, flatC_one]) 1 rfl (by unfold maxLen; omega) t' wr
  refine wp_append_rows hz hz0 hone s x t ho e i z0 bytes ht hi hzz hsize hby hzs (hown.below hal (Nat.le_refl _)) hs (hnew.row hz) hx N hN h63 hbytes (Nat.le_trans hbase hal.size) fun a' c' w' h1 h2 h3 h4 => ?_
  refine h a' c' w' h1 ((hal.mono hbase).trans h2) ⟨Nat.le_trans hal.size h3.1, fun k hk ha => (h3.2 k (Nat.lt_of_lt_of_le hk hal.size) ha).trans (hal.block k hk)⟩ ?_
  rcases h4 with h4 | ⟨g, e1, h4⟩
  · exact .inl h4
  · exact .inr ⟨g, e1, Nat.le_trans hal.size h4⟩
theorem wpList_append_row1 {α : Type} {enc : α → List Value} {z : Nat} (hz : ∀ x, (enc x).length = z) (hz0 : 0 < z) (hone : ∀ x, ∀ u ∈ enc x, u.oneCell' = true) {P : Program} {wr : World} {ops : Array Oper} {rest : List Oper} {o : Oper} {a : Act} {Q : Exit → Act → World → Prop} (hgd : o.guard = none) (s x : Operand) (t : TypeId)
    (ho : o.op = .call { callee := .builtin .append, args := #[s, x], argTypes := #[t, t] })
    (e : TypeId) (i : TypeInfo) (z0 : Value) (bytes : Nat) (ht : P.underlying t = some (.slice e)) (hi : P.info? e = some i) (hzz : i.zero = some z0) (hsize : i.size = z) (hby : i.bytes = bytes) (hzs : z0.cells.size = z)
    {base : Nat} {a0 : Option Addr} {n c0 : Nat} {xs : List α} (hown : OwnZ enc z base e a0 n c0 xs wr) (hs : a.eval s = .slice a0 n c0)
    {C : Array Value} {t' : TypeId} (y : α) (hC : C.toList = enc y) (hx : a.eval x = .slice (some ⟨wr.heap.size, 0, none⟩) 1 1)
    (N : Nat) (hN : n + 1 = N) (h63 : N ≤ maxLen) (hbytes : N * bytes ≤ 140737488355328) (hbase : base ≤ wr.heap.size)
    (h : ∀ a' c' w', OwnZ enc z base e a' N c' (xs ++ [y]) w' → Below base wr w' → GrownBut wr w' a0 → (a' = a0 ∨ ∃ g, a' = some ⟨g, 0, none⟩ ∧ wr.heap.size ≤ g) → wpList P ops Q rest (a.put o.dst (.slice a' N c')) w') : wpList P ops Q (o :: rest) a (wr.alloc (.cells C t')) :=
  wpList_plain hgd fun K hK => wp_append_row1 hz hz0 hone s x t ho e i z0 bytes ht hi hzz hsize hby hzs hown hs y hC hx N hN h63 hbytes hbase fun a' c' w' h1 h2 h3 h4 => hK _ _ (h a' c' w' h1 h2 h3 h4)
theorem step_append_row1 {α : Type} {enc : α → List Value} {z : Nat} (hz : ∀ x, (enc x).length = z) (hz0 : 0 < z) (hone : ∀ x, ∀ u ∈ enc x, u.oneCell' = true) {P : Program} {wr : World} {ops : Array Oper} {o : Oper} {a : Act} {K : Act → World → Prop} {E : Prop} {Q : Exit → Act → World → Prop} (hgd : o.guard = none) (s x : Operand) (t : TypeId)
    (ho : o.op = .call { callee := .builtin .append, args := #[s, x], argTypes := #[t, t] })
    (e : TypeId) (i : TypeInfo) (z0 : Value) (bytes : Nat) (ht : P.underlying t = some (.slice e)) (hi : P.info? e = some i) (hzz : i.zero = some z0) (hsize : i.size = z) (hby : i.bytes = bytes) (hzs : z0.cells.size = z)
    {base : Nat} {a0 : Option Addr} {n c0 : Nat} {xs : List α} (hown : OwnZ enc z base e a0 n c0 xs wr) (hs : a.eval s = .slice a0 n c0)
    {C : Array Value} {t' : TypeId} (y : α) (hC : C.toList = enc y) (hx : a.eval x = .slice (some ⟨wr.heap.size, 0, none⟩) 1 1)
    (N : Nat) (hN : n + 1 = N) (h63 : N ≤ maxLen) (hbytes : N * bytes ≤ 140737488355328) (hbase : base ≤ wr.heap.size)
    (h : ∀ a' c' w', OwnZ enc z base e a' N c' (xs ++ [y]) w' → Below base wr w' → GrownBut wr w' a0 → (a' = a0 ∨ ∃ g, a' = some ⟨g, 0, none⟩ ∧ wr.heap.size ≤ g) → K (a.put o.dst (.slice a' N c')) w') : if Region.wanted o (yielded ops a.tmps) = true then Oper.wp P o a (wr.alloc (.cells C t')) K Q else E := by
  rw [if_pos (by simp [Region.wanted, hgd])]
  exact wp_append_row1 hz hz0 hone s x t ho e i z0 bytes ht hi hzz hsize hby hzs hown hs y hC hx N hN h63 hbytes hbase h
theorem OwnZ.setCell {α : Type} {enc : α → List Value} {z base : Nat} {e : TypeId} {a : Option Addr} {n c : Nat} {P : List α} {w : World} (h : OwnZ enc z base e a n c P w) {p : Addr} (ha : Apart a p.block) (u : Value) : OwnZ enc z base e a n c P (w.setCell p u) := by
  have hne : (Value.slice a n c).ownBlock ≠ some p.block := fun e0 => by
    cases a with
    | none => simp [Value.ownBlock] at e0
    | some x => exact ha x rfl (by simpa [Value.ownBlock] using e0)
  exact ⟨ownsRow_setCell_other h.1 hne u, h.2⟩
def GivesZ {α : Type} (enc : α → List Value) (z : Nat) (e : TypeId) (P : List α) (n : Nat) (w : World) (en : Ending) (w' : World) : Prop :=
  ∃ a c, en = .returned (.slice a n c) ∧ OwnZ enc z w.heap.size e a n c P w' ∧ Below w.heap.size w w'
inductive Leaf where
  | text
  | flag
  | num (k : IntKind)
def Leaf.ok : Leaf → Value → Prop
  | .text, v => ∃ s : List UInt8, v = .string (str s) ∧ s.length ≤ maxLen
  | .flag, v => ∃ b : Bool, v = .bool b
  | .num k, v => ∃ n : Int, v = .int k n ∧ (Lit.int k n).wf = true
def leavesOk : List Leaf → List Value → Prop
  | [], [] => True
  | k :: ks, v :: vs => k.ok v ∧ leavesOk ks vs
  | _, _ => False
theorem leaves_app : ∀ {a b : List Leaf} {u v : List Value}, leavesOk a u → leavesOk b v → leavesOk (a ++ b) (u ++ v)
  | [], b, [], v, _, h => h
  | k :: ks, b, x :: xs, v, h, h2 => ⟨h.1, leaves_app h.2 h2⟩
  | [], b, x :: xs, v, h, _ => h.elim
  | k :: ks, b, [], v, h, _ => h.elim
theorem leaves_cons {k : Leaf} {ks : List Leaf} {cs : List Value} (h : leavesOk (k :: ks) cs) : ∃ v vs, cs = v :: vs ∧ k.ok v ∧ leavesOk ks vs := by
  cases cs with
  | nil => exact h.elim
  | cons v vs => exact ⟨v, vs, rfl, h.1, h.2⟩
theorem leaves_nil {cs : List Value} (h : leavesOk [] cs) : cs = [] := by
  cases cs with
  | nil => rfl
  | cons v vs => exact h.elim
def flatK (P : Program) : Nat → TypeId → Option (List Leaf)
  | 0, _ => none
  | n + 1, t => match P.underlying t with
    | some .bool => some [.flag]
    | some .string => some [.text]
    | some (.int k) => some [.num k]
    | some (.struct fs) => (fs.toList.foldl (fun acc f => acc.bind fun l => (flatK P n f.type).bind fun a => if f.offset = l.length ∧ a.length = P.cellsOf f.type then some (l ++ a) else none) (some [])).bind fun l => if l.length = P.cellsOf t then some l else none
    | _ => none
section
variable {H : Type} {enc : TypeId × Value → H} {P : Program} {w : World} {base : Nat} {spare : Nat → Bool} {held : Bool}
theorem flat_fields (n : Nat) (cs : List Value) (ih : ∀ (t : TypeId) (ks : List Leaf) (fuel : Nat) (cs : List Value) (x : DataW H × List MemPlace), flatK P n t = some ks → DataW.trod enc P w base spare held fuel t cs = some x → leavesOk ks cs)
    (fuel : Nat) : ∀ (fs : List Field) (l ks : List Leaf), (∀ f ∈ fs, ∃ x, DataW.trod enc P w base spare held fuel f.type ((cs.drop f.offset).take (P.cellsOf f.type)) = some x) → leavesOk l (cs.take l.length) →
      fs.foldl (fun acc f => acc.bind fun l => (flatK P n f.type).bind fun a => if f.offset = l.length ∧ a.length = P.cellsOf f.type then some (l ++ a) else none) (some l) = some ks → leavesOk ks (cs.take ks.length)
  | [], l, ks, hf, hl, h => by
    simp only [List.foldl_nil, Option.some.injEq] at h
    subst h
    exact hl
  | f :: fs, l, ks, hf, hl, h => by
    rw [List.foldl_cons] at h
    have hnone : ∀ gs : List Field, gs.foldl (fun acc f => acc.bind fun l => (flatK P n f.type).bind fun a => if f.offset = l.length ∧ a.length = P.cellsOf f.type then some (l ++ a) else none) (none : Option (List Leaf)) = none := by
      intro gs
      induction gs with
      | nil => rfl
      | cons g gs ih => rw [List.foldl_cons]; exact ih
    cases ha : flatK P n f.type with
    | none =>
      simp only [Option.bind_some, ha, Option.bind_none] at h
      rw [hnone] at h
      cases h
    | some a =>
      by_cases hc : f.offset = l.length ∧ a.length = P.cellsOf f.type
      · simp only [Option.bind_some, ha, if_pos hc] at h
        refine flat_fields n cs ih fuel fs (l ++ a) ks (fun g hg => hf g (List.mem_cons_of_mem _ hg)) ?_ h
        obtain ⟨x, hx⟩ := hf f List.mem_cons_self
        have h1 := ih f.type a fuel _ x ha hx
        rw [hc.1, ← hc.2] at h1
        rw [List.length_append, List.take_add]
        exact leaves_app hl h1
      · simp only [Option.bind_some, ha, if_neg hc] at h
        rw [hnone] at h
        cases h
theorem leaves_of : ∀ (n : Nat) (t : TypeId) (ks : List Leaf) (fuel : Nat) (cs : List Value) (x : DataW H × List MemPlace), flatK P n t = some ks → DataW.trod enc P w base spare held fuel t cs = some x → leavesOk ks cs
  | 0, t, ks, fuel, cs, x, h, _ => by cases h
  | n + 1, t, ks, fuel, cs, x, h, hx => by
    unfold flatK at h
    split at h
    · rename_i hu
      cases h
      obtain ⟨b, rfl, -⟩ := DataW.trod_bool hu hx
      exact ⟨⟨b, rfl⟩, trivial⟩
    · rename_i hu
      cases h
      obtain ⟨s, rfl, -, hs⟩ := DataW.trod_string hu hx
      exact ⟨⟨s.data.toList, by rw [← str_of], by simpa [← str_size, ← str_of] using hs⟩, trivial⟩
    · rename_i k hu
      cases h
      obtain ⟨v, rfl, -, hv⟩ := DataW.trod_int hu hx
      exact ⟨⟨v, rfl, hv⟩, trivial⟩
    · rename_i fs hu
      obtain ⟨xs, m, -, -, hl, hxl, hf⟩ := DataW.trod_struct hu hx
      rw [Option.bind_eq_some_iff] at h
      obtain ⟨l, h1, h2⟩ := h
      split at h2
      · rename_i hlen
        cases h2
        have := flat_fields n cs (fun t ks fuel cs x => leaves_of n t ks fuel cs x) m fs.toList [] ks (fun f hfm => by
          obtain ⟨i, hi, e⟩ := List.getElem_of_mem hfm
          have hi2 : i < fs.size := by simpa using hi
          have e2 : fs[i]? = some f := by rw [Array.getElem?_eq_getElem hi2]; simpa using e
          have h3 := hf i f e2
          rw [List.getElem?_eq_getElem (by omega)] at h3
          exact ⟨_, h3⟩) (by simp [leavesOk]) h1
        rw [hlen, ← hl, List.take_length] at this
        exact this
      · cases h2
    · cases h
theorem open_rows_of {α : Type} [Inhabited α] (en : α → List Value) (ok : α → Prop) {t e : TypeId} (z n : Nat) (ks : List Leaf) {r : Reach} {b0 : Nat} {v : Value} {d : DataW H} {p : List MemPlace} (ht : P.underlying t = some (.slice e)) (hC : P.cellsOf e = z) (hp : 0 < z)
    (hk : flatK P n e = some ks) (hD : ∀ cs, leavesOk ks cs → ∃ x, cs = en x ∧ ok x)
    (hv : Value.okWide P w r b0 t v) (h : DataW.Trod enc P w 0 (fun _ => true) held t v d p) :
    ∃ a len cap, ∃ Q : List α, v = .slice a len cap ∧ RowOf en z w a len cap Q ∧ ∀ x ∈ Q, ok x := by
  obtain ⟨a, len, cap, rfl⟩ := okWide_slice ht hv
  obtain ⟨fuel, hf⟩ := h
  obtain ⟨a', len', cap', m, hcs, h1, h2, h3, hall⟩ := elems_of z ht hC hp hf
  simp [Value.cells] at hcs
  obtain ⟨rfl, rfl, rfl⟩ := hcs
  have hq : ∀ i, ∃ x : α, i < len → ok x ∧ ∃ g off, a = some ⟨g, off, none⟩ ∧ ∀ (j : Nat) (v : Value), (en x)[j]? = some v → w.cell? ⟨g, off + i * z + j, none⟩ = some v := fun i => by
    by_cases hi : i < len
    · obtain ⟨b, off, cs', y, ha, hl, hc, hy⟩ := hall i hi
      obtain ⟨x, rfl, hx⟩ := hD cs' (leaves_of n e ks m cs' y hk hy)
      exact ⟨x, fun _ => ⟨hx, b, off, ha, hc⟩⟩
    · exact ⟨default, fun h => absurd h hi⟩
  refine ⟨a, len, cap, (List.range len).map fun i => Classical.choose (hq i), rfl, ⟨by simp, h1, h2, h3, fun i x hx => ?_⟩, fun x hx => ?_⟩
  · have hi : i < len := by have := (List.getElem?_eq_some_iff.1 hx).1; simpa using this
    rw [List.getElem?_map, List.getElem?_range hi] at hx
    cases hx
    exact (Classical.choose_spec (hq i) hi).2
  · obtain ⟨i, hi, rfl⟩ := List.mem_map.1 hx
    exact (Classical.choose_spec (hq i) (List.mem_range.1 hi)).1
theorem open_flat {t : TypeId} {fs : Array Field} (n : Nat) (ks : List Leaf) {r : Reach} {b0 : Nat} {v : Value} {d : DataW H} {p : List MemPlace} (ht : P.underlying t = some (.struct fs)) (hk : flatK P n t = some ks)
    (hv : Value.okWide P w r b0 t v) (h : DataW.Trod enc P w base spare held t v d p) : ∃ cs : Array Value, v = .agg cs ∧ leavesOk ks cs.toList := by
  obtain ⟨cs, rfl, -⟩ := okWide_struct ht hv
  obtain ⟨fuel, hf⟩ := h
  have := leaves_of n t ks fuel _ _ hk hf
  exact ⟨cs, rfl, by simpa [Value.cells] using this⟩
end
end Go.Proofs.YtaodjnkjjmhecaaGreatDoor
namespace Go.Proofs.YtaodjnkjjmhecaaGreatDoor
open Go.RowKit
set_option linter.unusedVariables false
structure ObjAt (w : World) (b : Nat) (vs : List Value) : Prop where
  heap : ∃ e, w.heap[b]? = some (.cells vs.toArray e (0, 0))
theorem ObjAt.lt {w : World} {b : Nat} {vs : List Value} (h : ObjAt w b vs) : b < w.heap.size := by
  obtain ⟨e, h⟩ := h.heap
  rcases Nat.lt_or_ge b w.heap.size with h1 | h1
  · exact h1
  · rw [Array.getElem?_eq_none h1] at h
    cases h
theorem ObjAt.cell {w : World} {b : Nat} {vs : List Value} (h : ObjAt w b vs) (i : Nat) {v : Value} (hv : vs[i]? = some v) : w.cell? ⟨b, i, none⟩ = some v := by
  obtain ⟨e, h⟩ := h.heap
  simp [World.cell?, h, hv]
theorem ObjAt.free {w : World} {b : Nat} {vs : List Value} (h : ObjAt w b vs) (i : Nat) : w.frozen? ⟨b, i, none⟩ = false := by
  obtain ⟨e, h⟩ := h.heap
  simp [World.frozen?, h]
theorem ObjAt.new (w : World) (vs : Array Value) (e : TypeId) : ObjAt (w.alloc (.cells vs e)) w.heap.size vs.toList := by
  refine ⟨e, ?_⟩
  unfold World.alloc
  simp
theorem ObjAt.below {w w' : World} {b K : Nat} {vs : List Value} (h : ObjAt w b vs) (hb : Below K w w') (hlt : b < K) : ObjAt w' b vs := by
  obtain ⟨e, h⟩ := h.heap
  exact ⟨e, (hb.block b hlt).trans h⟩
theorem ObjAt.set {w : World} {b : Nat} {vs : List Value} (h : ObjAt w b vs) (i : Nat) (v : Value) : ObjAt (w.setCell ⟨b, i, none⟩ v) b (vs.set i v) := by
  obtain ⟨e, h⟩ := h.heap
  refine ⟨e, ?_⟩
  have := heap_setCell_same w b i vs.toArray e v h
  rw [this, List.setIfInBounds_toArray]
theorem ObjAt.other {w : World} {b : Nat} {vs : List Value} (h : ObjAt w b vs) {p : Addr} (hne : p.block ≠ b) (v : Value) : ObjAt (w.setCell p v) b vs := by
  obtain ⟨e, h⟩ := h.heap
  refine ⟨e, ?_⟩
  rw [heap_setCell_other w p b v (Ne.symm hne)]
  exact h
theorem ObjAt.drew {w : World} {b : Nat} {vs : List Value} (h : ObjAt w b vs) : ObjAt w.drew b vs := by
  obtain ⟨e, h⟩ := h.heap
  exact ⟨e, h⟩
def At (a : Option Addr) (k : Nat) : Prop := ∃ x, a = some x ∧ x.block = k
theorem at_none (k : Nat) : ¬ At none k := by rintro ⟨x, h, _⟩; cases h
theorem at_some {x : Addr} {k : Nat} : At (some x) k ↔ x.block = k := ⟨by rintro ⟨y, h, e⟩; cases h; exact e, fun e => ⟨x, rfl, e⟩⟩
theorem apart_iff {a : Option Addr} {k : Nat} : Apart a k ↔ ¬ At a k := ⟨fun h ⟨x, e, q⟩ => h x e q, fun h x e q => h ⟨x, e, q⟩⟩
structure Keeps (F : Nat → Prop) (w w' : World) : Prop where
  os : w'.os = w.os
  tape : w'.tape = w.tape
  output : w'.output = w.output
  size : w.heap.size ≤ w'.heap.size
  block : ∀ k, k < w.heap.size → ¬ F k → w'.heap[k]? = w.heap[k]?
theorem Keeps.refl (F : Nat → Prop) (w : World) : Keeps F w w := ⟨rfl, rfl, rfl, Nat.le_refl _, fun _ _ _ => rfl⟩
theorem Keeps.trans {F G : Nat → Prop} {w w1 w2 : World} (h : Keeps F w w1) (h1 : Keeps G w1 w2) (hs : ∀ k, k < w.heap.size → G k → F k) : Keeps F w w2 :=
  ⟨h1.os.trans h.os, h1.tape.trans h.tape, h1.output.trans h.output, Nat.le_trans h.size h1.size, fun k hk hF => (h1.block k (Nat.lt_of_lt_of_le hk h.size) fun hG => hF (hs k hk hG)).trans (h.block k hk hF)⟩
theorem Keeps.mono {F G : Nat → Prop} {w w' : World} (h : Keeps F w w') (hs : ∀ k, k < w.heap.size → F k → G k) : Keeps G w w' :=
  ⟨h.os, h.tape, h.output, h.size, fun k hk hG => h.block k hk fun hF => hG (hs k hk hF)⟩
theorem Keeps.new {F : Nat → Prop} {w w' : World} (h : Below w.heap.size w w') : Keeps F w w' :=
  ⟨h.os, h.tape, h.output, h.size, fun k hk _ => h.block k hk⟩
theorem Keeps.below {F : Nat → Prop} {B : Nat} {w w' : World} (h : Keeps F w w') (hB : B ≤ w.heap.size) (hF : ∀ k, k < w.heap.size → F k → B ≤ k) : Below B w w' :=
  ⟨h.os, h.tape, h.output, h.size, fun k hk => h.block k (Nat.lt_of_lt_of_le hk hB) fun c => by have := hF k (Nat.lt_of_lt_of_le hk hB) c; omega⟩
theorem Keeps.ofGrown {B : Nat} {a : Option Addr} {w w' : World} (hb : Below B w w') (h : GrownBut w w' a) : Keeps (At a) w w' :=
  ⟨hb.os, hb.tape, hb.output, h.1, fun k hk hF => h.2 k hk (apart_iff.2 hF)⟩
theorem Keeps.cell {F : Nat → Prop} {w w' : World} (h : Keeps F w w') {x : Addr} {v : Value} (hc : w.cell? x = some v) (hF : ¬ F x.block) : w'.cell? x = some v :=
  (World.cell?_of_block (h.block x.block (cell_lt hc) hF)).trans hc
theorem Keeps.setCell {F : Nat → Prop} {w w' : World} (h : Keeps F w w') {x : Addr} (hF : F x.block) (u : Value) : Keeps F w (w'.setCell x u) :=
  ⟨h.os, h.tape, h.output, by simpa using h.size, fun k hk hn => (Below.heap_setCell w' x u k (fun e => hn (e ▸ hF))).trans (h.block k hk hn)⟩
theorem ownsRow_keeps {F : Nat → Prop} {w w' : World} {base : Nat} {e : TypeId} {z : Nat} {q : Option Addr} {n c : Nat} {m : Nat} {xs : List Value} (h : w.ownsRow base e z (.slice q n c) m xs) (hk : Keeps F w w') (hq : ∀ k, At q k → ¬ F k) : w'.ownsRow base e z (.slice q n c) m xs := by
  refine ⟨h.1, ?_⟩
  rcases h.2 with h2 | ⟨g, cap, cur, hv, hb, hg, d⟩
  · exact .inl h2
  · refine .inr ⟨g, cap, cur, hv, hb, ?_, d⟩
    have hlt : g < w.heap.size := by
      rcases Nat.lt_or_ge g w.heap.size with h | h
      · exact h
      · rw [Array.getElem?_eq_none h] at hg; cases hg
    cases hv
    rw [hk.block g hlt (hq _ (at_some.2 rfl))]
    exact hg
theorem OwnZ.keeps {F : Nat → Prop} {α : Type} {enc : α → List Value} {z base : Nat} {e : TypeId} {q : Option Addr} {n c : Nat} {P : List α} {w w' : World} (h : OwnZ enc z base e q n c P w) (hk : Keeps F w w') (hq : ∀ k, At q k → ¬ F k) : OwnZ enc z base e q n c P w' :=
  ⟨ownsRow_keeps h.1 hk hq, h.2⟩
theorem OwnZ.lt' {α : Type} {enc : α → List Value} {z base : Nat} {e : TypeId} {a : Option Addr} {n c : Nat} {P : List α} {w : World} (h : OwnZ enc z base e a n c P w) : ∀ k, At a k → base ≤ k ∧ k < w.heap.size := by
  rintro k ⟨x, rfl, rfl⟩
  rcases h.head with ⟨c, _⟩ | ⟨g, e, h1, h2⟩
  · cases c
  · cases e
    exact ⟨h1, h2⟩
theorem RowOf.keeps {F : Nat → Prop} {α : Type} {enc : α → List Value} {z : Nat} {w w' : World} {a : Option Addr} {len cap : Nat} {P : List α} (h : RowOf enc z w a len cap P) (hk : Keeps F w w') (ha : ∀ k, At a k → ¬ F k) : RowOf enc z w' a len cap P := by
  refine ⟨h.leq, h.cle, h.capm, h.nil0, fun i x hx => ?_⟩
  obtain ⟨g, off, e, hc⟩ := h.at_ i x hx
  exact ⟨g, off, e, fun j v hv => hk.cell (hc j v hv) (ha _ (e ▸ at_some.2 rfl))⟩
theorem ObjAt.keeps {F : Nat → Prop} {w w' : World} {b : Nat} {vs : List Value} (h : ObjAt w b vs) (hk : Keeps F w w') (hb : ¬ F b) : ObjAt w' b vs := by
  have hlt := h.lt
  obtain ⟨e, he⟩ := h.heap
  exact ⟨e, (hk.block b hlt hb).trans he⟩
end Go.Proofs.YtaodjnkjjmhecaaGreatDoor
namespace Go.Proofs.YtaodjnkjjmhecaaGreatDoor
open Go.ChangeShapes Go.WideShapes Go.ChangeAt Go.RowKit
set_option linter.unusedVariables false
theorem own : ownKnob Tryz.prog.godebug = none := by kernel_rfl
theorem laidOut : laidOutB Tryz.prog = true := by kernel_rfl
end Go.Proofs.YtaodjnkjjmhecaaGreatDoor
namespace Go.Proofs.YtaodjnkjjmhecaaGreatDoor
open Go.RowKit
set_option linter.unusedVariables false
def encD (x : DotN) : List Value := [.int .i64 x.dev, .int .i64 x.inc, .int .i64 x.seq]
theorem encD_len (x : DotN) : (encD x).length = 3 := rfl
theorem encD_one (x : DotN) : ∀ u ∈ encD x, u.oneCell' = true := by
  intro u hu
  simp only [encD, List.mem_cons, List.not_mem_nil, or_false] at hu
  rcases hu with rfl | rfl | rfl <;> rfl
theorem dot_at {w : World} {a : Option Addr} {n c : Nat} {L : List DotN} (h : RowOf encD 3 w a n c L) (k : Nat) (hk : k < n) :
    ∃ x g off, L[k]? = some x ∧ a = some ⟨g, off, none⟩ ∧ w.cell? ⟨g, off + k * 3, none⟩ = some (.int .i64 x.dev) ∧ w.cell? ⟨g, off + k * 3 + 1, none⟩ = some (.int .i64 x.inc) ∧ w.cell? ⟨g, off + k * 3 + 2, none⟩ = some (.int .i64 x.seq) := by
  obtain ⟨x, g, off, h1, h2, h3⟩ := h.at k hk
  exact ⟨x, g, off, h1, h2, h3 0 _ rfl, h3 1 _ rfl, h3 2 _ rfl⟩
theorem two_objs (w : World) (A B : Array Value) (a b : TypeId) :
    ObjAt ((w.alloc (.cells A a)).alloc (.cells B b)) w.heap.size A.toList ∧ ObjAt ((w.alloc (.cells A a)).alloc (.cells B b)) (w.heap.size + 1) B.toList ∧ Below w.heap.size w ((w.alloc (.cells A a)).alloc (.cells B b)) := by
  have s1 : (w.alloc (.cells A a)).heap.size = w.heap.size + 1 := by simp
  have o1 := ObjAt.new w A a
  have o2 := ObjAt.new (w.alloc (.cells A a)) B b
  have b1 := below_alloc w (.cells A a)
  have b2 := below_alloc (w.alloc (.cells A a)) (.cells B b)
  have o1' := o1.below b2 o1.lt
  rw [s1] at o2
  exact ⟨o1', o2, b1.trans (b2.mono b1.size)⟩
theorem eqActor (d i e j : Int) (w : World) : Sem.run Tryz.prog (Op.equalIn 10000 33 (.agg #[.int .i64 d, .int .i64 i]) (.agg #[.int .i64 e, .int .i64 j])) w = Result.ok (d == e && i == j) w := by
  cases h1 : d == e <;> cases h2 : i == j <;> simp [go_sem, h1, h2]
end Go.Proofs.YtaodjnkjjmhecaaGreatDoor
namespace Go.Proofs.YtaodjnkjjmhecaaGreatDoor
open Go.RowKit
set_option linter.unusedVariables false
set_option linter.unusedSimpArgs false
theorem ObjAt.loads {P : Program} {w : World} {b : Nat} {vs : List Value} (h : ObjAt w b vs) {n : Nat} (hn : vs.length = n) : (loadCellsFrom ⟨b, 0, none⟩ 0 n #[]).run P w = .ok vs.toArray w := by
  subst hn
  have := run_loadCells_list (P := P) w ⟨b, 0, none⟩ vs (fun j v hv => by
    have hadd : (⟨b, 0, none⟩ : Addr).add j = ⟨b, j, none⟩ := by unfold Addr.add; split <;> simp_all
    rw [hadd]
    exact h.cell j hv)
  simpa [loadCells] using this
theorem wpList_loadObj {P : Program} {ops : Array Oper} {rest : List Oper} {o : Oper} {a : Act} {w : World} {Q : Exit → Act → World → Prop} (hgd : o.guard = none) (ty : TypeId) (x : Operand) (ho : o.op = .load ty x) (g : Nat) (vs : List Value)
    (hx : a.eval x = .pointer (some ⟨g, 0, none⟩)) (hg : ObjAt w g vs) (ha : ∀ w, (isAgg ty).run P w = .ok true w) (hs : ∀ w, (sizeOf ty).run P w = .ok vs.length w)
    (h : wpList P ops Q rest (a.put o.dst (.agg vs.toArray)) w) : wpList P ops Q (o :: rest) a w := by
  refine wpList_plain hgd fun K hK => ?_
  have hl := hg.loads (P := P) rfl
  unfold Oper.wp execOp
  simp only [ho, hx, Instr.loadAt, Instr.sureAddr, loadVar, loadCells, Sem.run_bind, Sem.run_pure, Result.andThen, ha, hs, hl, if_true]
  exact hK _ _ h
theorem ObjAt.loadsAt {P : Program} {w : World} {b : Nat} {vs : List Value} (h : ObjAt w b vs) (off : Nat) (us : List Value) {n : Nat} (hu : (vs.drop off).take n = us) (hn : us.length = n) : (loadCellsFrom ⟨b, off, none⟩ 0 n #[]).run P w = .ok us.toArray w := by
  subst hn
  have := run_loadCells_list (P := P) w ⟨b, off, none⟩ us (fun j v hv => by
    have hadd : (⟨b, off, none⟩ : Addr).add j = ⟨b, off + j, none⟩ := by unfold Addr.add; split <;> simp_all
    rw [hadd]
    refine h.cell (off + j) ?_
    have hj : j < us.length := (List.getElem?_eq_some_iff.1 hv).1
    rw [← hu, List.getElem?_take_of_lt hj, List.getElem?_drop] at hv
    exact hv)
  simpa [loadCells] using this
theorem execLoadAll {P : Program} {o : Oper} {a : Act} {w : World} (ty : TypeId) (x : Operand) (ho : o.op = .load ty x) (g n : Nat) (A : Array Value) (hx : a.eval x = .pointer (some ⟨g, 0, none⟩)) (hg : ObjAt w g A.toList)
    (ha : ∀ w, (isAgg ty).run P w = .ok true w) (hs : ∀ w, (sizeOf ty).run P w = .ok n w) (hn : A.size = n) : (execOp a.eval o).run P w = .ok (.value (.agg A)) w := by
  have hl := hg.loads (P := P) (n := n) (by simpa using hn)
  rw [Array.toArray_toList] at hl
  unfold execOp
  simp only [ho, hx, Instr.loadAt, Instr.sureAddr, loadVar, loadCells, Sem.run_bind, Sem.run_pure, Result.andThen, ha, hs, hl, if_true]
theorem execLoadPart {P : Program} {o : Oper} {a : Act} {w : World} (ty : TypeId) (x : Operand) (ho : o.op = .load ty x) (g off n : Nat) (A : Array Value) (us : List Value) (hx : a.eval x = .pointer (some ⟨g, off, none⟩)) (hg : ObjAt w g A.toList)
    (ha : ∀ w, (isAgg ty).run P w = .ok true w) (hs : ∀ w, (sizeOf ty).run P w = .ok n w) (hu : (A.toList.drop off).take n = us) (hn : us.length = n) : (execOp a.eval o).run P w = .ok (.value (.agg us.toArray)) w := by
  have hl := hg.loadsAt (P := P) off us hu hn
  unfold execOp
  simp only [ho, hx, Instr.loadAt, Instr.sureAddr, loadVar, loadCells, Sem.run_bind, Sem.run_pure, Result.andThen, ha, hs, hl, if_true]
theorem wpList_loadAll {P : Program} {ops : Array Oper} {rest : List Oper} {o : Oper} {a : Act} {w : World} {Q : Exit → Act → World → Prop} (hgd : o.guard = none) (ty : TypeId) (x : Operand) (ho : o.op = .load ty x) (g n : Nat) (A : Array Value)
    (hx : a.eval x = .pointer (some ⟨g, 0, none⟩)) (hg : ObjAt w g A.toList) (ha : ∀ w, (isAgg ty).run P w = .ok true w) (hs : ∀ w, (sizeOf ty).run P w = .ok n w) (hn : A.size = n)
    (h : wpList P ops Q rest (a.put o.dst (.agg A)) w) : wpList P ops Q (o :: rest) a w := by
  have := wpList_loadObj (P := P) (ops := ops) (rest := rest) (w := w) (Q := Q) hgd ty x ho g A.toList hx hg ha (by intro w; rw [hs, Array.length_toList, hn]) (by rw [Array.toArray_toList]; exact h)
  exact this
theorem wpList_storeAll {P : Program} {ops : Array Oper} {rest : List Oper} {o : Oper} {a : Act} {w : World} {Q : Exit → Act → World → Prop} (hgd : o.guard = none) (ty : TypeId) (x y : Operand) (ho : o.op = .store ty x y) (old A : Array Value) (n : Nat)
    (hx : a.eval x = .pointer (some ⟨w.heap.size, 0, none⟩)) (hy : a.eval y = .agg A) (hi : (P.info? ty).map (·.size) = some n) (hold : old.size = n) (hn : A.size = n) (h1 : A.all (·.oneCell') = true)
    (h : wpList P ops Q rest (a.put o.dst undef) (w.alloc (.cells A ty))) : wpList P ops Q (o :: rest) a (w.alloc (.cells old ty)) := by
  refine wpList_store_row hgd ty x y ho w.heap.size A hx hy ty old (heap_alloc_last w _) (by rw [hi, hn]) (by rw [hold, hn]) h1 ?_
  rw [World.setRow_alloc_new]
  exact h
def CellsAt (w : World) (g o : Nat) (vs : List Value) : Prop := ∀ (j : Nat) (v : Value), vs[j]? = some v → w.cell? ⟨g, o + j, none⟩ = some v
theorem CellsAt.loadsAt {P : Program} {w : World} {g o : Nat} {vs : List Value} (h : CellsAt w g o vs) (d : Nat) (us : List Value) {n : Nat} (hu : (vs.drop d).take n = us) (hn : us.length = n) : (loadCellsFrom ⟨g, o + d, none⟩ 0 n #[]).run P w = .ok us.toArray w := by
  subst hn
  have := run_loadCells_list (P := P) w ⟨g, o + d, none⟩ us (fun j v hv => by
    have hadd : (⟨g, o + d, none⟩ : Addr).add j = ⟨g, o + (d + j), none⟩ := by unfold Addr.add; split <;> simp_all [Nat.add_assoc]
    rw [hadd]
    refine h (d + j) v ?_
    have hj : j < us.length := (List.getElem?_eq_some_iff.1 hv).1
    rw [← hu, List.getElem?_take_of_lt hj, List.getElem?_drop] at hv
    exact hv)
  simpa [loadCells] using this
theorem execLoadRow {P : Program} {o : Oper} {a : Act} {w : World} (ty : TypeId) (x : Operand) (ho : o.op = .load ty x) (g q n : Nat) (A : Array Value) (hx : a.eval x = .pointer (some ⟨g, q, none⟩)) (hg : CellsAt w g q A.toList)
    (ha : ∀ w, (isAgg ty).run P w = .ok true w) (hs : ∀ w, (sizeOf ty).run P w = .ok n w) (hn : A.size = n) : (execOp a.eval o).run P w = .ok (.value (.agg A)) w := by
  have hl := hg.loadsAt (P := P) 0 A.toList (n := n) (by rw [List.drop_zero, List.take_of_length_le (by rw [Array.length_toList]; omega)]) (by rw [Array.length_toList]; exact hn)
  rw [Array.toArray_toList, Nat.add_zero] at hl
  unfold execOp
  simp only [ho, hx, Instr.loadAt, Instr.sureAddr, loadVar, loadCells, Sem.run_bind, Sem.run_pure, Result.andThen, ha, hs, hl, if_true]
end Go.Proofs.YtaodjnkjjmhecaaGreatDoor
namespace Go.Proofs.YtaodjnkjjmhecaaGreatDoor
open Go.RowKit
set_option linter.unusedVariables false
structure EvR where
  e : EventN
  a : Option Addr
  c : Nat
def encE (r : EvR) : List Value := [.int .i64 r.e.dot.dev, .int .i64 r.e.dot.inc, .int .i64 r.e.dot.seq, .int .i64 r.e.stamp.wall, .int .i64 r.e.stamp.count, .int .i64 r.e.stamp.dev, .int .i64 r.e.kind, .string (str r.e.item.name), .string (str r.e.item.dom), .string (str r.e.item.path), .string (str r.e.item.val), .bool r.e.item.host, .bool r.e.item.sec, .bool r.e.item.http, .bool r.e.item.pers, .int .i64 r.e.item.exp, .int .i64 r.e.item.made, .int .i64 r.e.item.used, .slice r.a r.e.over.length r.c]
theorem encE_len (r : EvR) : (encE r).length = 19 := rfl
theorem encE_one (r : EvR) : ∀ u ∈ encE r, u.oneCell' = true := by
  have h : (encE r).all (·.oneCell') = true := rfl
  exact fun u hu => List.all_eq_true.1 h u hu
def OversAt (w : World) (P : List EvR) : Prop := ∀ r ∈ P, RowOf encD 3 w r.a r.e.over.length r.c r.e.over
theorem OversAt.below {w w' : World} {P : List EvR} (h : OversAt w P) (hb : Below w.heap.size w w') : OversAt w' P := fun r hr => (h r hr).below hb
theorem OversAt.nil (w : World) : OversAt w [] := fun r hr => absurd hr List.not_mem_nil
structure RowE (w : World) (a : Option Addr) (n c : Nat) (L : List EventN) : Prop where
  ex : ∃ P : List EvR, P.map (·.e) = L ∧ RowOf encE 19 w a n c P ∧ OversAt w P
theorem RowE.leq {w : World} {a : Option Addr} {n c : Nat} {L : List EventN} (h : RowE w a n c L) : L.length = n := by
  obtain ⟨P, h1, h2, h3⟩ := h
  rw [← h1, List.length_map]
  exact h2.leq
theorem evr_at {w : World} {a : Option Addr} {n c : Nat} {P : List EvR} (h : RowOf encE 19 w a n c P) (k : Nat) (hk : k < n) :
    ∃ (r : EvR) (g off : Nat) (A : Array Value), P[k]? = some r ∧ a = some ⟨g, off, none⟩ ∧ (encE r).toArray = A ∧ A.size = 19 ∧ A.toList = encE r ∧ CellsAt w g (off + k * 19) A.toList ∧ ∀ w', Below w.heap.size w w' → CellsAt w' g (off + k * 19) A.toList := by
  obtain ⟨r, g, off, h1, h2, h3⟩ := h.at k hk
  exact ⟨r, g, off, _, h1, h2, rfl, rfl, rfl, fun j v hv => h3 j v (by simpa using hv), fun w' hb j v hv => by
    have h4 := h3 j v (by simpa using hv)
    exact (hb.cell (cell_lt h4)).trans h4⟩
theorem take_snocI {α : Type} {L : List α} {k : Nat} {x : α} (h : L[k]? = some x) : L.take (k + 1) = L.take k ++ [x] := by
  obtain ⟨h1, e1⟩ := List.getElem?_eq_some_iff.1 h
  rw [List.take_succ_eq_append_getElem h1, e1]
theorem infoDot : (Tryz.prog.info? 35).map (fun i => (i.zero, i.size, i.bytes)) = some (some (.agg #[.int .i64 0, .int .i64 0, .int .i64 0]), 3, 24) := by kernel_rfl
theorem objsE2 (w : World) (A B : Array Value) (a b : TypeId) : ObjAt ((w.alloc (.cells A a)).alloc (.cells B b)) w.heap.size A.toList ∧ ObjAt ((w.alloc (.cells A a)).alloc (.cells B b)) (w.heap.size + 1) B.toList ∧ Below w.heap.size w ((w.alloc (.cells A a)).alloc (.cells B b)) := by
  have h1 := below_alloc w (.cells A a)
  have h2 := below_alloc (w.alloc (.cells A a)) (.cells B b)
  have o1 := ObjAt.new w A a
  have o2 := ObjAt.new (w.alloc (.cells A a)) B b
  rw [World.size_alloc] at o2
  exact ⟨o1.below h2 o1.lt, o2, h1.trans (h2.mono h1.size)⟩
set_option maxHeartbeats 2000000 in
set_option maxRecDepth 100000 in
theorem refELightC (e : EventN) (a : Option Addr) (n c : Nat) (w : World) (hn : e.over.length = n) (h1 : e.item.name.length ≤ maxLen) (h2 : e.item.dom.length ≤ maxLen) (h3 : e.item.path.length ≤ maxLen) (h4 : e.item.val.length ≤ maxLen) :
    Calls Tryz.prog 41 #[.agg #[.int .i64 e.dot.dev, .int .i64 e.dot.inc, .int .i64 e.dot.seq, .int .i64 e.stamp.wall, .int .i64 e.stamp.count, .int .i64 e.stamp.dev, .int .i64 e.kind, .string (str e.item.name), .string (str e.item.dom), .string (str e.item.path), .string (str e.item.val), .bool e.item.host, .bool e.item.sec, .bool e.item.http, .bool e.item.pers, .int .i64 e.item.exp, .int .i64 e.item.made, .int .i64 e.item.used, .slice a n c]] w fun en w' => en = .returned (.bool (lightE e)) ∧ Below w.heap.size w w' := by
  have hb := below_alloc w (.cells #[.int .i64 e.dot.dev, .int .i64 e.dot.inc, .int .i64 e.dot.seq, .int .i64 e.stamp.wall, .int .i64 e.stamp.count, .int .i64 e.stamp.dev, .int .i64 e.kind, .string (str e.item.name), .string (str e.item.dom), .string (str e.item.path), .string (str e.item.val), .bool e.item.host, .bool e.item.sec, .bool e.item.http, .bool e.item.pers, .int .i64 e.item.exp, .int .i64 e.item.made, .int .i64 e.item.used, .slice a n c] 43)
  have o1 := ObjAt.new w #[.int .i64 e.dot.dev, .int .i64 e.dot.inc, .int .i64 e.dot.seq, .int .i64 e.stamp.wall, .int .i64 e.stamp.count, .int .i64 e.stamp.dev, .int .i64 e.kind, .string (str e.item.name), .string (str e.item.dom), .string (str e.item.path), .string (str e.item.val), .bool e.item.host, .bool e.item.sec, .bool e.item.http, .bool e.item.pers, .int .i64 e.item.exp, .int .i64 e.item.made, .int .i64 e.item.used, .slice a n c] 43
  generalize hv : w.alloc (.cells #[.int .i64 e.dot.dev, .int .i64 e.dot.inc, .int .i64 e.dot.seq, .int .i64 e.stamp.wall, .int .i64 e.stamp.count, .int .i64 e.stamp.dev, .int .i64 e.kind, .string (str e.item.name), .string (str e.item.dom), .string (str e.item.path), .string (str e.item.val), .bool e.item.host, .bool e.item.sec, .bool e.item.http, .bool e.item.pers, .int .i64 e.item.exp, .int .i64 e.item.made, .int .i64 e.item.used, .slice a n c] 43) = v at *
  have u0 := o1.cell 0 rfl; have u1 := o1.cell 1 rfl; have u2 := o1.cell 2 rfl; have u3 := o1.cell 3 rfl; have u4 := o1.cell 4 rfl; have u5 := o1.cell 5 rfl; have u6 := o1.cell 6 rfl; have u7 := o1.cell 7 rfl; have u8 := o1.cell 8 rfl; have u9 := o1.cell 9 rfl; have u10 := o1.cell 10 rfl; have u11 := o1.cell 11 rfl; have u12 := o1.cell 12 rfl; have u13 := o1.cell 13 rfl; have u14 := o1.cell 14 rfl; have u15 := o1.cell 15 rfl; have u16 := o1.cell 16 rfl; have u17 := o1.cell 17 rfl; have u18 := o1.cell 18 rfl
  unfold maxLen at *
  obtain ⟨m1, hm1⟩ : ∃ m, e.item.name.length = m := ⟨_, rfl⟩
  obtain ⟨m2, hm2⟩ : ∃ m, e.item.dom.length = m := ⟨_, rfl⟩
  obtain ⟨m3, hm3⟩ : ∃ m, e.item.path.length = m := ⟨_, rfl⟩
  obtain ⟨m4, hm4⟩ : ∃ m, e.item.val.length = m := ⟨_, rfl⟩
  have z1 : (str e.item.name).size = m1 := by rw [str_size, hm1]
  have z2 : (str e.item.dom).size = m2 := by rw [str_size, hm2]
  have z3 : (str e.item.path).size = m3 := by rw [str_size, hm3]
  have z4 : (str e.item.val).size = m4 := by rw [str_size, hm4]
  have hsh : Hid (lightE e = (decide (n ≤ 100) && (decide (m1 ≤ 2000) && (decide (m2 ≤ 2000) && (decide (m3 ≤ 2000) && decide (m4 ≤ 2000)))))) := by unfold Hid lightE; rw [hn, hm1, hm2, hm3, hm4]
  rw [hm1] at h1; rw [hm2] at h2; rw [hm3] at h3; rw [hm4] at h4
  clear hm1 hm2 hm3 hm4 hn o1
  by_cases q0 : 100 < n
  · have E : lightE e = false := by rw [hsh.out]; simp; omega
    have t0 : ¬ (n : Int) ≤ 100 := by omega
    rw [E]
    clear hsh E
    go_enter Tryz.func41, Tryz.ntmps41
    go_wp2
    go_ret
    exact ⟨rfl, hb⟩
  by_cases q1 : 2000 < m1
  · have E : lightE e = false := by rw [hsh.out]; simp; omega
    have t0 : (n : Int) ≤ 100 := by omega
    have t1 : ¬ (m1 : Int) ≤ 2000 := by omega
    rw [E]
    clear hsh E
    go_enter Tryz.func41, Tryz.ntmps41
    go_wp2
    go_ret
    exact ⟨rfl, hb⟩
  by_cases q2 : 2000 < m2
  · have E : lightE e = false := by rw [hsh.out]; simp; omega
    have t0 : (n : Int) ≤ 100 := by omega
    have t1 : (m1 : Int) ≤ 2000 := by omega
    have t2 : ¬ (m2 : Int) ≤ 2000 := by omega
    rw [E]
    clear hsh E
    go_enter Tryz.func41, Tryz.ntmps41
    go_wp2
    go_ret
    exact ⟨rfl, hb⟩
  by_cases q3 : 2000 < m3
  · have E : lightE e = false := by rw [hsh.out]; simp; omega
    have t0 : (n : Int) ≤ 100 := by omega
    have t1 : (m1 : Int) ≤ 2000 := by omega
    have t2 : (m2 : Int) ≤ 2000 := by omega
    have t3 : ¬ (m3 : Int) ≤ 2000 := by omega
    rw [E]
    clear hsh E
    go_enter Tryz.func41, Tryz.ntmps41
    go_wp2
    go_ret
    exact ⟨rfl, hb⟩
  by_cases q4 : 2000 < m4
  · have E : lightE e = false := by rw [hsh.out]; simp; omega
    have t0 : (n : Int) ≤ 100 := by omega
    have t1 : (m1 : Int) ≤ 2000 := by omega
    have t2 : (m2 : Int) ≤ 2000 := by omega
    have t3 : (m3 : Int) ≤ 2000 := by omega
    have t4 : ¬ (m4 : Int) ≤ 2000 := by omega
    rw [E]
    clear hsh E
    go_enter Tryz.func41, Tryz.ntmps41
    go_wp2
    go_ret
    exact ⟨rfl, hb⟩
  have E : lightE e = true := by rw [hsh.out]; simp; omega
  have t0 : (n : Int) ≤ 100 := by omega
  have t1 : (m1 : Int) ≤ 2000 := by omega
  have t2 : (m2 : Int) ≤ 2000 := by omega
  have t3 : (m3 : Int) ≤ 2000 := by omega
  have t4 : (m4 : Int) ≤ 2000 := by omega
  rw [E]
  clear hsh E
  go_enter Tryz.func41, Tryz.ntmps41
  go_wp2
  go_ret
  exact ⟨rfl, hb⟩
theorem lessD_iff {x y : DotN} : lessD x y = true ↔ x.dev < y.dev ∨ (x.dev = y.dev ∧ (x.inc < y.inc ∨ (x.inc = y.inc ∧ x.seq < y.seq))) := by
  unfold lessD aheadA
  by_cases h1 : x.dev = y.dev
  · by_cases h2 : x.inc = y.inc
    · rw [if_pos ⟨h1, h2⟩, decide_eq_true_iff]
      omega
    · rw [if_neg (fun c => h2 c.2), if_neg (fun c => c h1), decide_eq_true_iff]
      omega
  · rw [if_neg (fun c => h1 c.1), if_pos h1, decide_eq_true_iff]
    omega
theorem lessD_no {x y : DotN} : lessD x y = false ↔ ¬ (x.dev < y.dev ∨ (x.dev = y.dev ∧ (x.inc < y.inc ∨ (x.inc = y.inc ∧ x.seq < y.seq)))) := by
  rw [← lessD_iff, Bool.not_eq_true]
theorem lessD_trans {x y z : DotN} (h1 : lessD x y = true) (h2 : lessD y z = true) : lessD x z = true := by
  rw [lessD_iff] at *
  omega
theorem lessD_ntrans {x y z : DotN} (h1 : lessD x y = false) (h2 : lessD y z = false) : lessD x z = false := by
  rw [lessD_no] at *
  omega
theorem lessD_asymm {x y : DotN} (h : lessD x y = true) : lessD y x = false := by
  rw [lessD_iff] at h
  rw [lessD_no]
  omega
theorem lessD_eq {x y : DotN} (h1 : lessD x y = false) (h2 : lessD y x = false) : x = y := by
  rw [lessD_no] at *
  exact DotN.ext' (by omega) (by omega) (by omega)
def SortedD (l : List DotN) : Prop := l.Pairwise fun x y => lessD x y = true
theorem sorted_unique : ∀ {a b : List DotN}, SortedD a → SortedD b → (∀ x, x ∈ a ↔ x ∈ b) → a = b
  | [], [], _, _, _ => rfl
  | [], y :: b, _, _, h => absurd ((h y).2 (List.mem_cons_self ..)) (by simp)
  | x :: a, [], _, _, h => absurd ((h x).1 (List.mem_cons_self ..)) (by simp)
  | x :: a, y :: b, ha, hb, h => by
    obtain ⟨ha1, ha2⟩ := List.pairwise_cons.1 ha
    obtain ⟨hb1, hb2⟩ := List.pairwise_cons.1 hb
    have hxy : x = y := by
      rcases List.mem_cons.1 ((h x).1 (List.mem_cons_self ..)) with e | e
      · exact e
      · rcases List.mem_cons.1 ((h y).2 (List.mem_cons_self ..)) with e2 | e2
        · exact e2.symm
        · have := lessD_asymm (hb1 x e)
          rw [ha1 y e2] at this
          cases this
    subst hxy
    rw [sorted_unique ha2 hb2 fun z => ?_]
    constructor
    · intro hz
      rcases List.mem_cons.1 ((h z).1 (List.mem_cons_of_mem _ hz)) with e | e
      · subst e
        have := ha1 z hz
        rw [lessD_irrefl] at this
        cases this
      · exact e
    · intro hz
      rcases List.mem_cons.1 ((h z).2 (List.mem_cons_of_mem _ hz)) with e | e
      · subst e
        have := hb1 z hz
        rw [lessD_irrefl] at this
        cases this
      · exact e
theorem front_less {x : DotN} {out : List DotN} : ∀ y ∈ out.take (out.findIdx fun y => !lessD y x), lessD y x = true := by
  intro y hy
  obtain ⟨i, hi, rfl⟩ := List.mem_take_iff_getElem.1 hy
  have := List.not_of_lt_findIdx (p := fun y => !lessD y x) (xs := out) (i := i) (by omega)
  simpa using this
theorem back_not {x : DotN} {out : List DotN} (h : SortedD out) : ∀ y ∈ out.drop (out.findIdx fun y => !lessD y x), lessD y x = false := by
  intro y hy
  obtain ⟨i, hi, rfl⟩ := List.mem_drop_iff_getElem.1 hy
  generalize hk : (out.findIdx fun y => !lessD y x) = k at *
  have hlt : k < out.length := by omega
  have h0 : lessD out[k] x = false := by
    have := List.findIdx_getElem (p := fun y => !lessD y x) (xs := out) (w := by rw [hk]; exact hlt)
    simp only [hk] at this
    simpa using this
  rcases Nat.eq_zero_or_pos i with rfl | h1
  · exact h0
  · have hs := List.pairwise_iff_getElem.1 h k (k + i) hlt (by omega) (by omega)
    have h2 := lessD_asymm hs
    have : out[i + k] = out[k + i] := by congr 1; omega
    first
      | exact lessD_ntrans h2 h0
      | (rw [this]; exact lessD_ntrans h2 h0)
theorem insD_sorted {x : DotN} {out : List DotN} (h : SortedD out) : SortedD (insD x out) := by
  unfold insD
  generalize hk : (out.findIdx fun y => !lessD y x) = k
  split
  · exact h
  · rename_i hn
    have hf := front_less (x := x) (out := out)
    have hb := back_not (x := x) h
    rw [hk] at hf hb
    have hp : SortedD (out.take k ++ out.drop k) := by rw [List.take_append_drop]; exact h
    obtain ⟨p1, p2, p3⟩ := List.pairwise_append.1 hp
    refine List.pairwise_append.2 ⟨p1, List.pairwise_cons.2 ⟨fun y hy => ?_, p2⟩, fun a ha b hb2 => ?_⟩
    · cases hxy : lessD x y with
      | true => rfl
      | false =>
        have e := lessD_eq hxy (hb y hy)
        subst e
        exfalso
        apply hn
        obtain ⟨i, hi, he⟩ := List.mem_drop_iff_getElem.1 hy
        have hlt : k < out.length := by omega
        rw [List.getElem?_eq_getElem hlt]
        rcases Nat.eq_zero_or_pos i with rfl | h1
        · have : out[k] = x := by simpa using he
          rw [this]
          show sameD x x = true
          exact sameD_iff.2 rfl
        · have hs := List.pairwise_iff_getElem.1 h k (k + i) hlt (by omega) (by omega)
          have he2 : out[k + i] = x := by first | exact he | (rw [← he]; congr 1; omega)
          rw [he2] at hs
          have h0 := hb out[k] (List.mem_drop_iff_getElem.2 ⟨0, by omega, by simp⟩)
          rw [hs] at h0
          cases h0
    · rcases List.mem_cons.1 hb2 with rfl | hb2
      · exact hf a ha
      · exact p3 a ha b hb2
theorem insD_mem {x : DotN} {out : List DotN} (y : DotN) : y ∈ insD x out ↔ y = x ∨ y ∈ out := by
  unfold insD
  generalize hk : (out.findIdx fun y => !lessD y x) = k
  split
  · rename_i h
    constructor
    · exact .inr
    · rintro (rfl | h2)
      · cases hg : out[k]? with
        | none => rw [hg] at h; cases h
        | some z =>
          rw [hg] at h
          have e : z = y := sameD_iff.1 h
          subst e
          exact List.mem_of_getElem? hg
      · exact h2
  · have e : y ∈ out ↔ y ∈ out.take k ∨ y ∈ out.drop k := by rw [← List.mem_append, List.take_append_drop]
    rw [List.mem_append, List.mem_cons, e]
    constructor
    · rintro (a | b | c)
      · exact .inr (.inl a)
      · exact .inl b
      · exact .inr (.inr c)
    · rintro (b | a | c)
      · exact .inr (.inl b)
      · exact .inl a
      · exact .inr (.inr c)
theorem sortD_fold (l : List DotN) : ∀ out, SortedD out → SortedD (l.foldl (fun out x => insD x out) out) ∧ ∀ y, y ∈ l.foldl (fun out x => insD x out) out ↔ y ∈ out ∨ y ∈ l := by
  induction l with
  | nil => exact fun out h => ⟨h, fun y => by simp⟩
  | cons x t ih =>
    intro out h
    obtain ⟨a, b⟩ := ih (insD x out) (insD_sorted h)
    refine ⟨a, fun y => ?_⟩
    rw [List.foldl_cons, b y, insD_mem, List.mem_cons]
    constructor
    · rintro ((h | h) | h)
      · exact .inr (.inl h)
      · exact .inl h
      · exact .inr (.inr h)
    · rintro (h | h | h)
      · exact .inl (.inr h)
      · exact .inl (.inl h)
      · exact .inr h
theorem sortD_sorted (l : List DotN) : SortedD (sortD l) := (sortD_fold l [] List.Pairwise.nil).1
theorem sortD_mem (l : List DotN) (y : DotN) : y ∈ sortD l ↔ y ∈ l := by
  have := (sortD_fold l [] List.Pairwise.nil).2 y
  exact this.trans ⟨fun h => h.elim (fun c => by cases c) id, .inr⟩
def dedD (l : List DotN) : List DotN := l.foldl (fun out x => if out.any (sameD x) then out else out ++ [x]) []
theorem dedD_snoc (l : List DotN) (x : DotN) : dedD (l ++ [x]) = if (dedD l).any (sameD x) then dedD l else dedD l ++ [x] := by unfold dedD; simp
theorem any_same {l : List DotN} {x : DotN} : l.any (sameD x) = true ↔ x ∈ l := by
  rw [List.any_eq_true]
  constructor
  · rintro ⟨y, h, e⟩
    rw [sameD_iff.1 e]
    exact h
  · intro h
    exact ⟨x, h, sameD_iff.2 rfl⟩
theorem dedD_fold (l : List DotN) : ∀ out : List DotN, out.Nodup → (l.foldl (fun out x => if out.any (sameD x) then out else out ++ [x]) out).Nodup ∧ ∀ y, y ∈ l.foldl (fun out x => if out.any (sameD x) then out else out ++ [x]) out ↔ y ∈ out ∨ y ∈ l := by
  induction l with
  | nil => exact fun out h => ⟨h, fun y => by simp⟩
  | cons x t ih =>
    intro out h
    rw [List.foldl_cons]
    by_cases hx : out.any (sameD x) = true
    · rw [if_pos hx]
      obtain ⟨a, b⟩ := ih out h
      refine ⟨a, fun y => ?_⟩
      rw [b y, List.mem_cons]
      have hm := any_same.1 hx
      constructor
      · rintro (h | h)
        · exact .inl h
        · exact .inr (.inr h)
      · rintro (h | rfl | h)
        · exact .inl h
        · exact .inl hm
        · exact .inr h
    · rw [if_neg hx]
      have hn : x ∉ out := fun c => hx (any_same.2 c)
      obtain ⟨a, b⟩ := ih (out ++ [x]) (by
        rw [List.nodup_append]
        exact ⟨h, by simp, fun a ha b hb e => hn (by rw [List.mem_singleton] at hb; rw [← hb, ← e]; exact ha)⟩)
      refine ⟨a, fun y => ?_⟩
      rw [b y, List.mem_append, List.mem_singleton, List.mem_cons]
      constructor
      · rintro ((h | h) | h)
        · exact .inl h
        · exact .inr (.inl h)
        · exact .inr (.inr h)
      · rintro (h | h | h)
        · exact .inl (.inl h)
        · exact .inl (.inr h)
        · exact .inr h
theorem dedD_nodup (l : List DotN) : (dedD l).Nodup := (dedD_fold l [] List.nodup_nil).1
theorem dedD_mem (l : List DotN) (y : DotN) : y ∈ dedD l ↔ y ∈ l := by
  have := (dedD_fold l [] List.nodup_nil).2 y
  exact this.trans ⟨fun h => h.elim (fun c => by cases c) id, .inr⟩
theorem sortD_is {l a : List DotN} (h1 : a.Perm (dedD l)) (h2 : a.Pairwise fun x y => lessD y x = false) : a = sortD l := by
  have hn : a.Nodup := h1.nodup_iff.2 (dedD_nodup l)
  refine sorted_unique ?_ (sortD_sorted l) fun x => by rw [h1.mem_iff, dedD_mem, sortD_mem]
  refine List.Pairwise.imp₂ ?_ h2 hn
  intro x y hxy hne
  cases h : lessD x y with
  | true => rfl
  | false => exact absurd (lessD_eq h hxy) hne
def sameA (x y : DotN) : Bool := x.dev == y.dev && x.inc == y.inc
def aheadD (x y : DotN) : Bool := aheadA x.dev x.inc y.dev y.inc
theorem sameA_iff {x y : DotN} : sameA x y = true ↔ x.dev = y.dev ∧ x.inc = y.inc := by unfold sameA; rw [Bool.and_eq_true, beq_iff_eq, beq_iff_eq]
theorem aheadD_iff {x y : DotN} : aheadD x y = true ↔ x.dev < y.dev ∨ (x.dev = y.dev ∧ x.inc < y.inc) := by
  unfold aheadD aheadA
  by_cases h : x.dev = y.dev
  · rw [if_neg (fun c => c h), decide_eq_true_iff]
    omega
  · rw [if_pos h, decide_eq_true_iff]
    omega
theorem aheadD_no {x y : DotN} : aheadD x y = false ↔ ¬ (x.dev < y.dev ∨ (x.dev = y.dev ∧ x.inc < y.inc)) := by rw [← aheadD_iff, Bool.not_eq_true]
theorem sameA_no {x y : DotN} : sameA x y = false ↔ ¬ (x.dev = y.dev ∧ x.inc = y.inc) := by rw [← sameA_iff, Bool.not_eq_true]
def OrdV (l : List DotN) : Prop := l.Pairwise fun x y => aheadD x y = true
structure OkV (l : List DotN) : Prop where
  ord : OrdV l
  right : ∀ x ∈ l, rightD x = true
theorem OrdV.sorted {l : List DotN} (h : OrdV l) : SortedD l := List.Pairwise.imp (fun {x y} h => by rw [lessD_iff]; rw [aheadD_iff] at h; omega) h
def getV : List DotN → Int → Int → Int
  | [], _, _ => 0
  | y :: t, d, i => if y.dev = d ∧ y.inc = i then y.seq else getV t d i
theorem getV_none {l : List DotN} {d i : Int} (h : ∀ y ∈ l, ¬ (y.dev = d ∧ y.inc = i)) : getV l d i = 0 := by
  induction l with
  | nil => rfl
  | cons y t ih =>
    unfold getV
    rw [if_neg (h y (List.mem_cons_self ..))]
    exact ih fun z hz => h z (List.mem_cons_of_mem _ hz)
theorem getV_app {a b : List DotN} {d i : Int} (h : ∀ y ∈ a, ¬ (y.dev = d ∧ y.inc = i)) : getV (a ++ b) d i = getV b d i := by
  induction a with
  | nil => rfl
  | cons y t ih =>
    rw [List.cons_append, getV, if_neg (h y (List.mem_cons_self ..))]
    exact ih fun z hz => h z (List.mem_cons_of_mem _ hz)
theorem getV_mem {l : List DotN} (h : OrdV l) {x : DotN} (hx : x ∈ l) : getV l x.dev x.inc = x.seq := by
  induction l with
  | nil => cases hx
  | cons y t ih =>
    obtain ⟨h1, h2⟩ := List.pairwise_cons.1 h
    unfold getV
    rcases List.mem_cons.1 hx with rfl | hx
    · rw [if_pos ⟨rfl, rfl⟩]
    · have := h1 x hx
      rw [aheadD_iff] at this
      rw [if_neg (by omega)]
      exact ih h2 hx
theorem getV_some {l : List DotN} {d i : Int} (h : getV l d i ≠ 0) : ∃ x ∈ l, x.dev = d ∧ x.inc = i ∧ x.seq = getV l d i := by
  induction l with
  | nil => exact absurd rfl h
  | cons y t ih =>
    unfold getV at h ⊢
    by_cases c : y.dev = d ∧ y.inc = i
    · rw [if_pos c]
      exact ⟨y, List.mem_cons_self .., c.1, c.2, rfl⟩
    · rw [if_neg c] at h ⊢
      obtain ⟨x, hx, e⟩ := ih h
      exact ⟨x, List.mem_cons_of_mem _ hx, e⟩
theorem getV_range {l : List DotN} (h : OkV l) (d i : Int) : 0 ≤ getV l d i ∧ getV l d i ≤ 4294967296 := by
  by_cases c : getV l d i = 0
  · rw [c]; omega
  · obtain ⟨x, hx, _, _, e⟩ := getV_some c
    have := right_range (h.right x hx)
    rw [← e]
    omega
theorem okV_ext {l m : List DotN} (hl : OkV l) (hm : OkV m) (h : ∀ d i, getV l d i = getV m d i) : l = m := by
  have key : ∀ {a b : List DotN}, OkV a → OkV b → (∀ d i, getV a d i = getV b d i) → ∀ x ∈ a, x ∈ b := by
    intro a b ha hb hab x hx
    have e := getV_mem ha.ord hx
    have hr := right_range (ha.right x hx)
    have hne : getV b x.dev x.inc ≠ 0 := by rw [← hab, e]; omega
    obtain ⟨y, hy, e1, e2, e3⟩ := getV_some hne
    rw [← hab, e] at e3
    have : y = x := DotN.ext' e1 e2 e3
    rw [← this]
    exact hy
  exact sorted_unique hl.ord.sorted hm.ord.sorted fun x => ⟨key hl hm h x, key hm hl (fun d i => (h d i).symm) x⟩
def setStep (x : DotN) (s : List DotN × Bool) (y : DotN) : List DotN × Bool :=
  let s1 := if (!s.2 && !aheadD y x) = true then (s.1 ++ [x], true) else s
  if sameA y x = true then s1 else (s1.1 ++ [y], s1.2)
def setV (l : List DotN) (x : DotN) : List DotN := if (l.foldl (setStep x) ([], false)).2 = true then (l.foldl (setStep x) ([], false)).1 else (l.foldl (setStep x) ([], false)).1 ++ [x]
theorem set_true (x : DotN) : ∀ (t o : List DotN), t.foldl (setStep x) (o, true) = (o ++ t.filter (fun y => !sameA y x), true)
  | [], o => by simp
  | y :: t, o => by
    rw [List.foldl_cons]
    cases h : sameA y x with
    | true =>
      have e : setStep x (o, true) y = (o, true) := by simp [setStep, h]
      rw [e, set_true x t o, List.filter_cons_of_neg (by simp [h])]
    | false =>
      have e : setStep x (o, true) y = (o ++ [y], true) := by simp [setStep, h]
      rw [e, set_true x t, List.filter_cons_of_pos (by simp [h])]
      simp
theorem set_is {l : List DotN} (hl : OrdV l) (x : DotN) : setV l x = l.filter (fun y => aheadD y x) ++ x :: l.filter (fun y => aheadD x y) := by
  have key : ∀ (l out : List DotN), OrdV l → (l.foldl (setStep x) (out, false) = (out ++ l, false) ∧ l.filter (fun y => aheadD y x) = l ∧ l.filter (fun y => aheadD x y) = []) ∨ l.foldl (setStep x) (out, false) = (out ++ l.filter (fun y => aheadD y x) ++ x :: l.filter (fun y => aheadD x y), true) := by
    intro l
    induction l with
    | nil => exact fun out _ => .inl ⟨by simp, rfl, rfl⟩
    | cons y t ih =>
      intro out h
      obtain ⟨h1, h2⟩ := List.pairwise_cons.1 h
      rw [List.foldl_cons]
      cases hy : aheadD y x with
      | true =>
        have hs : sameA y x = false := by rw [sameA_no]; rw [aheadD_iff] at hy; omega
        have hn : aheadD x y = false := by rw [aheadD_no]; rw [aheadD_iff] at hy; omega
        have e : setStep x (out, false) y = (out ++ [y], false) := by simp [setStep, hy, hs]
        rw [e, List.filter_cons_of_pos (p := fun y => aheadD y x) hy, List.filter_cons_of_neg (p := fun y => aheadD x y) (by rw [hn]; exact Bool.false_ne_true)]
        rcases ih (out ++ [y]) h2 with ⟨a, b, c⟩ | a
        · exact .inl ⟨by rw [a]; simp, by rw [b], c⟩
        · exact .inr (by rw [a]; simp)
      | false =>
        have hall : ∀ z ∈ t, aheadD x z = true ∧ aheadD z x = false ∧ sameA z x = false := by
          intro z hz
          have := h1 z hz
          rw [aheadD_iff] at this
          rw [aheadD_no] at hy
          refine ⟨?_, ?_, ?_⟩
          · rw [aheadD_iff]; omega
          · rw [aheadD_no]; omega
          · rw [sameA_no]; omega
        have f1 : t.filter (fun y => aheadD y x) = [] := by
          rw [List.filter_eq_nil_iff]
          intro z hz
          rw [(hall z hz).2.1]
          exact Bool.false_ne_true
        have f2 : t.filter (fun y => aheadD x y) = t := by
          rw [List.filter_eq_self]
          intro z hz
          exact (hall z hz).1
        have f3 : t.filter (fun y => !sameA y x) = t := by
          rw [List.filter_eq_self]
          intro z hz
          rw [(hall z hz).2.2]
          rfl
        right
        rw [List.filter_cons_of_neg (p := fun y => aheadD y x) (by rw [hy]; exact Bool.false_ne_true), f1]
        cases hs : sameA y x with
        | true =>
          have hn : aheadD x y = false := by rw [aheadD_no]; rw [sameA_iff] at hs; omega
          have e : setStep x (out, false) y = (out ++ [x], true) := by simp [setStep, hy, hs]
          rw [e, set_true, f3, List.filter_cons_of_neg (p := fun y => aheadD x y) (by rw [hn]; exact Bool.false_ne_true), f2]
          simp
        | false =>
          have hn : aheadD x y = true := by
            rw [aheadD_no] at hy
            rw [sameA_no] at hs
            rw [aheadD_iff]
            omega
          have e : setStep x (out, false) y = (out ++ [x] ++ [y], true) := by simp [setStep, hy, hs]
          rw [e, set_true, f3, List.filter_cons_of_pos (p := fun y => aheadD x y) hn, f2]
          simp
  unfold setV
  rcases key l [] hl with ⟨a, b, c⟩ | a
  · rw [a, b, c]
    simp
  · rw [a]
    simp
theorem set_ok {l : List DotN} (hl : OkV l) {x : DotN} (hx : rightD x = true) : OkV (setV l x) := by
  rw [set_is hl.ord]
  constructor
  · refine List.pairwise_append.2 ⟨hl.ord.filter _, List.pairwise_cons.2 ⟨fun y hy => (List.mem_filter.1 hy).2, hl.ord.filter _⟩, fun a ha b hb => ?_⟩
    have h1 := (List.mem_filter.1 ha).2
    rcases List.mem_cons.1 hb with rfl | hb
    · exact h1
    · have h2 := (List.mem_filter.1 hb).2
      rw [aheadD_iff] at *
      omega
  · intro y hy
    rcases List.mem_append.1 hy with h | h
    · exact hl.right y (List.mem_filter.1 h).1
    · rcases List.mem_cons.1 h with rfl | h
      · exact hx
      · exact hl.right y (List.mem_filter.1 h).1
theorem getV_filter {l : List DotN} (p : DotN → Bool) {d i : Int} (h : ∀ y ∈ l, y.dev = d → y.inc = i → p y = true) : getV (l.filter p) d i = getV l d i := by
  induction l with
  | nil => rfl
  | cons y t ih =>
    have ht := ih fun z hz => h z (List.mem_cons_of_mem _ hz)
    by_cases c : y.dev = d ∧ y.inc = i
    · rw [List.filter_cons_of_pos (h y (List.mem_cons_self ..) c.1 c.2), getV, getV, if_pos c, if_pos c]
    · cases hp : p y with
      | true => rw [List.filter_cons_of_pos hp, getV, getV, if_neg c, if_neg c, ht]
      | false => rw [List.filter_cons_of_neg (by rw [hp]; exact Bool.false_ne_true), getV, if_neg c, ht]
theorem getV_set {l : List DotN} (hl : OrdV l) (x : DotN) (d i : Int) : getV (setV l x) d i = if x.dev = d ∧ x.inc = i then x.seq else getV l d i := by
  rw [set_is hl]
  by_cases c : x.dev = d ∧ x.inc = i
  · rw [if_pos c, getV_app, getV, if_pos c]
    intro y hy e
    have := (List.mem_filter.1 hy).2
    rw [aheadD_iff] at this
    omega
  · rw [if_neg c]
    by_cases c2 : x.dev < d ∨ (x.dev = d ∧ x.inc < i)
    · rw [getV_app, getV, if_neg c]
      · exact getV_filter _ fun y _ e1 e2 => by rw [aheadD_iff]; omega
      · intro y hy e
        have := (List.mem_filter.1 hy).2
        rw [aheadD_iff] at this
        omega
    · have e1 : getV (l.filter fun y => aheadD y x) d i = getV l d i := getV_filter _ fun y _ e1 e2 => by rw [aheadD_iff]; omega
      rw [← e1]
      generalize (l.filter fun y => aheadD y x) = A
      have hB : getV (x :: l.filter fun y => aheadD x y) d i = 0 := by
        rw [getV, if_neg c]
        refine getV_none fun y hy e => ?_
        have := (List.mem_filter.1 hy).2
        rw [aheadD_iff] at this
        omega
      generalize (x :: l.filter fun y => aheadD x y) = B at *
      induction A with
      | nil => exact hB
      | cons y t ih =>
        rw [List.cons_append, getV, getV]
        split
        · rfl
        · exact ih
def raiseV (l : List DotN) (x : DotN) : List DotN × Bool := if rightD x = true ∧ getV l x.dev x.inc < x.seq then (setV l x, true) else (l, false)
def takeV (l : List DotN) (x : DotN) : List DotN × Bool := if rightD x = true ∧ getV l x.dev x.inc + 1 = x.seq then (setV l x, true) else (l, false)
def hasV (l : List DotN) (x : DotN) : Bool := rightD x && decide (x.seq ≤ getV l x.dev x.inc)
def joinV (l m : List DotN) : List DotN := m.foldl (fun l x => (raiseV l x).1) l
theorem nil_ok : OkV [] := ⟨List.Pairwise.nil, fun x h => by cases h⟩
theorem raise_ok {l : List DotN} (hl : OkV l) (x : DotN) : OkV (raiseV l x).1 := by
  unfold raiseV
  split
  · rename_i h
    exact set_ok hl h.1
  · exact hl
theorem getV_raise {l : List DotN} (hl : OkV l) {x : DotN} (hx : rightD x = true) (d i : Int) : getV (raiseV l x).1 d i = if x.dev = d ∧ x.inc = i then max (getV l d i) x.seq else getV l d i := by
  unfold raiseV
  by_cases c : getV l x.dev x.inc < x.seq
  · rw [if_pos ⟨hx, c⟩, getV_set hl.ord]
    by_cases e : x.dev = d ∧ x.inc = i
    · rw [if_pos e, if_pos e]
      obtain ⟨rfl, rfl⟩ := e
      omega
    · rw [if_neg e, if_neg e]
  · rw [if_neg (fun h => c h.2)]
    by_cases e : x.dev = d ∧ x.inc = i
    · rw [if_pos e]
      obtain ⟨rfl, rfl⟩ := e
      show getV l x.dev x.inc = _
      omega
    · rw [if_neg e]
theorem join_all {m : List DotN} : ∀ {l : List DotN}, OkV l → OkV m → OkV (joinV l m) ∧ ∀ d i, getV (joinV l m) d i = max (getV l d i) (getV m d i) := by
  induction m with
  | nil =>
    intro l hl _
    refine ⟨hl, fun d i => ?_⟩
    have := getV_range hl d i
    show getV l d i = max (getV l d i) 0
    omega
  | cons x t ih =>
    intro l hl hm
    obtain ⟨h1, h2⟩ := List.pairwise_cons.1 hm.ord
    have hx := hm.right x (List.mem_cons_self ..)
    have ht : OkV t := ⟨h2, fun y hy => hm.right y (List.mem_cons_of_mem _ hy)⟩
    obtain ⟨a, b⟩ := ih (raise_ok hl x) ht
    refine ⟨a, fun d i => ?_⟩
    show getV (joinV (raiseV l x).1 t) d i = _
    rw [b, getV_raise hl hx, getV]
    by_cases e : x.dev = d ∧ x.inc = i
    · rw [if_pos e, if_pos e]
      have e0 : getV t d i = 0 := getV_none fun y hy c => by
        have := h1 y hy
        rw [aheadD_iff] at this
        omega
      have := right_range hx
      have := getV_range hl d i
      rw [e0]
      omega
    · rw [if_neg e, if_neg e]
end Go.Proofs.YtaodjnkjjmhecaaGreatDoor
namespace Go.Proofs.YtaodjnkjjmhecaaGreatDoor
set_option linter.unusedVariables false
def hasD (l : List DotN) (x : DotN) : Bool := l.any fun y => sameD y x
theorem hasD_iff {l : List DotN} {x : DotN} : hasD l x = true ↔ x ∈ l := by
  unfold hasD
  rw [List.any_eq_true]
  constructor
  · rintro ⟨y, hy, h⟩
    rw [sameD_iff] at h
    exact h ▸ hy
  · intro h
    exact ⟨x, h, sameD_iff.2 rfl⟩
theorem hasD_no {l : List DotN} {x : DotN} : hasD l x = false ↔ x ∉ l := by
  rw [← hasD_iff, Bool.not_eq_true]
end Go.Proofs.YtaodjnkjjmhecaaGreatDoor
namespace Go.Proofs.YtaodjnkjjmhecaaGreatDoor
open Go.RowKit
set_option linter.unusedVariables false
structure MapN where
  ctx : List DotN
  kept : List EventN
  dead : List DotN
def MapN.none : MapN := ⟨[], [], []⟩
def frontE (l : List EventN) (d : DotN) : Nat := l.findIdx fun y => !lessD y.dot d
def insE (l : List EventN) (e : EventN) : List EventN := l.take (frontE l e.dot) ++ e :: l.drop (frontE l e.dot)
def applyM (m : MapN) (e : EventN) : MapN × Bool × Int :=
  if rightE e = false then (m, false, 1)
  else if hasV m.ctx e.dot = true then (m, false, 0)
  else if ¬ getV m.ctx e.dot.dev e.dot.inc + 1 = e.dot.seq then (m, false, 6)
  else if 2048 ≤ m.kept.length then (m, false, 9)
  else (⟨setV m.ctx e.dot, insE m.kept e, sortD (m.dead ++ e.over)⟩, true, 0)
def turned (l : List Int) (i : Nat) : List Int :=
  (List.range l.length).map fun p => if p < i ∨ l.length - i ≤ p then l.getD (l.length - 1 - p) 0 else l.getD p 0
theorem infoMark : (Tryz.prog.info? 149).map (fun i => (i.zero, i.size, i.bytes)) = some (some (.agg #[.int .i64 0, .int .i64 0, .int .i64 0]), 3, 24) := by kernel_rfl
theorem foldl_set_at : ∀ (l : List Value) (k : Nat) (Z : Array Value), k + l.length ≤ Z.size → ((l.zipIdx k).foldl (fun cs x => cs.setIfInBounds x.snd x.fst) Z).size = Z.size ∧ ∀ i, ((l.zipIdx k).foldl (fun cs x => cs.setIfInBounds x.snd x.fst) Z)[i]? = if k ≤ i ∧ i < k + l.length then l[i - k]? else Z[i]?
  | [], k, Z, _ => ⟨rfl, fun i => by rw [if_neg (by simp only [List.length_nil]; omega)]; rfl⟩
  | v :: t, k, Z, h => by
    rw [List.length_cons] at h
    have ih := foldl_set_at t (k + 1) (Z.setIfInBounds k v) (by rw [Array.size_setIfInBounds]; omega)
    rw [List.zipIdx_cons, List.foldl_cons]
    refine ⟨by rw [ih.1, Array.size_setIfInBounds], fun i => ?_⟩
    rw [ih.2 i, List.length_cons]
    by_cases c : k = i
    · subst c
      rw [if_neg (by omega), if_pos (by omega), Nat.sub_self, Array.getElem?_setIfInBounds]
      simp
      omega
    · by_cases c2 : k + 1 ≤ i ∧ i < k + 1 + t.length
      · rw [if_pos c2, if_pos (by omega)]
        have : i - k = (i - (k + 1)) + 1 := by omega
        rw [this, List.getElem?_cons_succ]
      · rw [if_neg c2, if_neg (by omega), Array.getElem?_setIfInBounds, if_neg c]
theorem foldSet (A Z : Array Value) (n : Nat) (hA : A.size = n) (hZ : Z.size = n) : Array.foldl (fun cs x => cs.setIfInBounds x.snd x.fst) Z A.zipIdx 0 n = A := by
  have e : n = A.zipIdx.size := by rw [Array.size_zipIdx, hA]
  have h1 : Array.foldl (fun (cs : Array Value) (x : Value × Nat) => cs.setIfInBounds x.snd x.fst) Z A.zipIdx 0 A.zipIdx.size = (A.toList.zipIdx 0).foldl (fun cs x => cs.setIfInBounds x.snd x.fst) Z := by
    rw [← Array.foldl_toList, Array.toList_zipIdx]
  rw [e, h1]
  obtain ⟨s1, s2⟩ := foldl_set_at A.toList 0 Z (by rw [Array.length_toList]; omega)
  apply Array.ext_getElem?
  intro i
  rw [s2 i]
  by_cases c : i < A.size
  · rw [if_pos (by rw [Array.length_toList]; omega), Nat.sub_zero, Array.getElem?_toList]
  · rw [if_neg (by rw [Array.length_toList]; omega), Array.getElem?_eq_none (by omega), Array.getElem?_eq_none (by omega)]
theorem infoEvent : (Tryz.prog.info? 43).map (fun i => (i.zero, i.size, i.bytes)) = some (some (.agg #[.int .i64 0, .int .i64 0, .int .i64 0, .int .i64 0, .int .i64 0, .int .i64 0, .int .i64 0, .string ⟨#[]⟩, .string ⟨#[]⟩, .string ⟨#[]⟩, .string ⟨#[]⟩, .bool false, .bool false, .bool false, .bool false, .int .i64 0, .int .i64 0, .int .i64 0, .slice none 0 0]), 19, 176) := by kernel_rfl
theorem right_dotE {e : EventN} (h : rightE e = true) : rightD e.dot = true := by
  unfold rightE headE at h
  simp only [Bool.and_eq_true] at h
  exact h.1.1
def SortedE (l : List EventN) : Prop := l.Pairwise fun x y => lessD x.dot y.dot = true
theorem insE_cons (y : EventN) (t : List EventN) (e : EventN) : insE (y :: t) e = if lessD y.dot e.dot = true then y :: insE t e else e :: y :: t := by
  unfold insE frontE
  rw [List.findIdx_cons]
  cases h : lessD y.dot e.dot with
  | true => simp
  | false => simp
theorem insE_mem (l : List EventN) (e x : EventN) : x ∈ insE l e ↔ x = e ∨ x ∈ l := by
  have h : x ∈ l ↔ x ∈ l.take (frontE l e.dot) ∨ x ∈ l.drop (frontE l e.dot) := by
    rw [← List.mem_append, List.take_append_drop]
  unfold insE
  rw [List.mem_append, List.mem_cons, h]
  constructor
  · rintro (h | h | h)
    · exact .inr (.inl h)
    · exact .inl h
    · exact .inr (.inr h)
  · rintro (h | h | h)
    · exact .inr (.inl h)
    · exact .inl h
    · exact .inr (.inr h)
theorem insE_length (l : List EventN) (e : EventN) : (insE l e).length = l.length + 1 := by
  have h : l.length = (l.take (frontE l e.dot)).length + (l.drop (frontE l e.dot)).length := by
    rw [← List.length_append, List.take_append_drop]
  unfold insE
  rw [List.length_append, List.length_cons]
  omega
theorem insE_sorted : ∀ {l : List EventN} {e : EventN}, SortedE l → (∀ y ∈ l, y.dot ≠ e.dot) → SortedE (insE l e)
  | [], e, _, _ => List.pairwise_singleton _ _
  | y :: t, e, h, hn => by
    obtain ⟨h1, h2⟩ := List.pairwise_cons.1 h
    rw [insE_cons]
    split
    · rename_i hl
      refine List.pairwise_cons.2 ⟨fun z hz => ?_, insE_sorted h2 fun z hz => hn z (List.mem_cons_of_mem _ hz)⟩
      rcases (insE_mem _ _ _).1 hz with rfl | hz
      · exact hl
      · exact h1 z hz
    · rename_i hl
      have hl2 : lessD e.dot y.dot = true := by
        rw [lessD_total (fun c => hn y (List.mem_cons_self ..) c.symm), Bool.not_eq_true'] 
        simpa using hl
      refine List.pairwise_cons.2 ⟨fun z hz => ?_, h⟩
      rcases List.mem_cons.1 hz with rfl | hz
      · exact hl2
      · exact lessD_trans hl2 (h1 z hz)
structure OkMp (m : MapN) : Prop where
  ctx : OkV m.ctx
  kept : SortedE m.kept
  dots : ∀ e ∈ m.kept, e.dot.seq ≤ getV m.ctx e.dot.dev e.dot.inc
theorem okMp_none : OkMp MapN.none := ⟨nil_ok, List.Pairwise.nil, fun e h => by cases h⟩
end Go.Proofs.YtaodjnkjjmhecaaGreatDoor
namespace Go.Proofs.YtaodjnkjjmhecaaGreatDoor
open Go.RowKit
set_option linter.unusedVariables false
set_option linter.unusedSimpArgs false
def frontR (l : List EvR) (d : DotN) : Nat := l.findIdx fun y => !lessD y.e.dot d
def insR (l : List EvR) (r : EvR) : List EvR := l.take (frontR l r.e.dot) ++ r :: l.drop (frontR l r.e.dot)
theorem ins_map (l : List EvR) (r : EvR) : (insR l r).map (·.e) = insE (l.map (·.e)) r.e := by
  have h : frontE (l.map (·.e)) r.e.dot = frontR l r.e.dot := by unfold frontE frontR; rw [List.findIdx_map]; rfl
  unfold insR insE
  rw [h, List.map_append, List.map_cons, List.map_take, List.map_drop]
end Go.Proofs.YtaodjnkjjmhecaaGreatDoor
namespace Go.Proofs.YtaodjnkjjmhecaaGreatDoor
open Go.RowKit
set_option linter.unusedVariables false
def valT (s : StampN) : Value := .agg #[.int .i64 s.wall, .int .i64 s.count, .int .i64 s.dev]
theorem RowOf.none {α : Type} (enc : α → List Value) (z : Nat) (w : World) : RowOf enc z w .none 0 0 ([] : List α) :=
  ⟨rfl, Nat.le_refl _, by unfold maxLen; omega, fun _ => rfl, fun i x h => by simp at h⟩
theorem textC (n : Int) (w : World) (h0 : -9223372036854775808 ≤ n) (h1 : n ≤ 9223372036854775807) (hT : PTab Tryz.prog w) :
    Calls Tryz.prog 253 #[.int .i64 n] w (GivesStr (Lib.itoa n) w) := by
  have HI := Tryz.strconv_Itoa n h0 h1 w hT.tab
  go_enter Tryz.func253, Tryz.ntmps253
  go_wp2_with (go_at_call 258; (with_reducible refine HI.mono ?_); rintro e w1 ⟨rfl, k, os, rfl⟩)
  go_ret
  exact ⟨rfl, Lib.below_grow _ w (Nat.le_refl _) k os⟩
end Go.Proofs.YtaodjnkjjmhecaaGreatDoor
namespace Go.Proofs.YtaodjnkjjmhecaaGreatDoor
open Go.RowKit
set_option linter.unusedVariables false
set_option linter.unusedSimpArgs false
theorem insR_len (l : List EvR) (r : EvR) : (insR l r).length = l.length + 1 := by
  unfold insR
  rw [List.length_append, List.length_cons, List.length_take, List.length_drop]
  omega
end Go.Proofs.YtaodjnkjjmhecaaGreatDoor
namespace Go.Proofs.YtaodjnkjjmhecaaGreatDoor
open Go.RowKit
set_option linter.unusedVariables false
structure OkMs (m : MapN) : Prop where
  ok : OkMp m
  right : ∀ e ∈ m.kept, rightE e = true
  dead : SortedD m.dead
  rdead : ∀ d ∈ m.dead, rightD d = true
theorem okMs_none : OkMs MapN.none := ⟨okMp_none, fun e h => (by cases h), List.Pairwise.nil, fun d h => (by cases h)⟩
theorem right_overE {e : EventN} (h : rightE e = true) : ∀ x ∈ e.over, rightD x = true := by
  unfold rightE at h
  simp only [Bool.and_eq_true] at h
  intro x hx
  obtain ⟨i, hi, rfl⟩ := List.mem_iff_getElem.1 hx
  have := List.all_eq_true.1 h.2.1 i (List.mem_range.2 hi)
  unfold okO at this
  simp only [Bool.and_eq_true] at this
  have h1 := this.1
  rwa [List.getD_eq_getElem?_getD, List.getElem?_eq_getElem hi, Option.getD_some] at h1
end Go.Proofs.YtaodjnkjjmhecaaGreatDoor
namespace Go.Proofs.YtaodjnkjjmhecaaGreatDoor
open Go.RowKit
open Go.Maps (Keyed)
set_option linter.unusedVariables false
def heldElem (v : Value) : Option (DataW Value × List MemPlace) := some (.held v, [])
theorem held_inv {v : Value} {d : DataW Value} {ps : List MemPlace} (h : heldElem v = some (d, ps)) : d = .held v := by
  unfold heldElem at h
  cases h
  rfl
structure HeldAt (D : DataW Value) (kl : Lit) (o : Option Value) : Prop where
  has : Go.Maps.has D kl = o.isSome
  at_ : ∀ v, o = some v → ∀ zd, D.atKey kl zd = .held v
theorem HeldAt.empty (kl : Lit) : HeldAt (.map []) kl none := ⟨rfl, fun _ h => by cases h⟩
theorem HeldAt.put {D : DataW Value} {kl : Lit} (hD : Go.Maps.IsMap D) (hk : WideAt.IsKeyLit kl) (v : Value) : HeldAt (D.put kl (.held v)) kl (some v) :=
  ⟨Go.Maps.has_put_same hD hk _, fun u h zd => by cases h; exact Go.Maps.atKey_put_same hD hk _ _⟩
theorem HeldAt.other {D : DataW Value} {kl kl' : Lit} {o : Option Value} (h : HeldAt D kl' o) (hne : kl' ≠ kl) (d : DataW Value) : HeldAt (D.put kl d) kl' o :=
  ⟨(Go.Maps.has_put_other hne d).trans h.has, fun v e zd => (Go.Maps.atKey_put_other hne _ _).trans (h.at_ v e zd)⟩
theorem HeldAt.gone {D : DataW Value} {kl : Lit} : HeldAt (D.del kl) kl none := ⟨Go.Maps.has_del_same, fun _ h => by cases h⟩
theorem HeldAt.but {D : DataW Value} {kl kl' : Lit} {o : Option Value} (h : HeldAt D kl' o) (hne : kl' ≠ kl) : HeldAt (D.del kl) kl' o :=
  ⟨(Go.Maps.has_del_other hne).trans h.has, fun v e zd => (Go.Maps.atKey_del_other hne _).trans (h.at_ v e zd)⟩
theorem held_store {v : Value} : heldElem v = some (.held v, []) := rfl
end Go.Proofs.YtaodjnkjjmhecaaGreatDoor
