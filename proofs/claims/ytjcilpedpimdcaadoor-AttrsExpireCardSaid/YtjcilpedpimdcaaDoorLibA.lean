/- Contracts and plain words that the laws' proofs stand on, put together. -/
import Derived.Laws.Strings3
import Derived.Laws.DeepStrings4
import Derived.Laws.Concat
import Derived.ProofKit
import Derived.OpenShut
import Derived.Lib.ConvBytes
import Derived.Laws.IdiomStrings
import Derived.WalkKit
import Derived.Shelf.Small.Wraps
import Derived.Lib.ItoaLen
import Derived.Lib.AppendIntMem
import Derived.WalkLawsBesides
import Derived.WalkSpells
import Derived.Lib.Hide
import Derived.Test.YtjcilpedpimdcaaDoorRows
import Derived.BigQuiet
import Derived.Deep.QuietTactic
import Derived.Deep.RegionHeld3
import Derived.Laws.AppendOwnNone
import Derived.Below
import Derived.Shelf.Strings.Prefix
import Derived.Test.YtjcilpedpimdcaaDoorProg
import Derived.Maps.AppendAt
import Derived.Deep.Slices
import Derived.Deep.Fields
import Derived.Deep.Grids
import Derived.ChangeSame
import Derived.Laws.Rows
import Derived.KernelRfl
import Derived.Laws.EntriesVeiled
import Derived.ShutString
import Derived.ChangeOld
import Derived.JoinedCond
/- Strings as lists of bytes: what a walk is told of them. No program in it. -/
namespace Go.Proofs.YtjcilpedpimdcaaDoor
open Go.RowKit
set_option linter.unusedVariables false

/-- The string of these bytes. -/
def str (l : List UInt8) : ByteArray := ⟨l.toArray⟩

theorem str_of (s : ByteArray) : s = str s.data.toList := by cases s; simp [str]
theorem str_size (l : List UInt8) : (str l).size = l.length := by simp [str, ByteArray.size]
theorem str_toList (l : List UInt8) : (str l).toList = l := ByteArray.toList_mk l
theorem str_data (l : List UInt8) : (str l).data.toList = l := by simp [str]
theorem str_extract (l : List UInt8) (a b : Nat) : (str l).extract a b = str ((l.drop a).take (b - a)) := ByteArray.extract_mk l a b
theorem str_append (a b : List UInt8) : str a ++ str b = str (a ++ b) := by
  apply ByteArray.ext
  simp [str, ByteArray.data_append]
theorem str_inj {a b : List UInt8} (h : str a = str b) : a = b := by
  have := congrArg ByteArray.toList h
  rwa [str_toList, str_toList] at this
theorem str_get (l : List UInt8) (k : Nat) (h : k < (str l).size) : (str l)[k] = l.getD k 0 := by
  have h' : k < l.length := by rw [← str_size]; exact h
  show l.toArray[k]'(by simpa using h') = l.getD k 0
  simp [List.getD, h']
theorem getD_map {α β : Type} (f : α → β) (l : List α) (d : α) (k : Nat) : (l.map f).getD k (f d) = f (l.getD k d) := by
  simp [List.getD, List.getElem?_map]

theorem findIdx_at {l : List UInt8} {p : UInt8 → Bool} {k : Nat} (h : ∀ j, j < k → p (l.getD j 0) = false) (hk : k < l.length) (hp : p (l.getD k 0) = true) : l.findIdx p = k := by
  have e : ∀ j (hj : j < l.length), l.getD j 0 = l[j] := fun j hj => by simp [List.getD, hj]
  refine (List.findIdx_eq hk).2 ⟨by rw [← e k hk]; exact hp, fun j hj => ?_⟩
  rw [← e j (by omega)]
  exact h j hj
theorem findIdx_end {l : List UInt8} {p : UInt8 → Bool} (h : ∀ j, j < l.length → p (l.getD j 0) = false) : l.findIdx p = l.length := by
  rw [List.findIdx_eq_length]
  intro x hx
  obtain ⟨j, hj, rfl⟩ := List.getElem_of_mem hx
  have e : l.getD j 0 = l[j] := by simp [List.getD, hj]
  rw [← e]
  exact h j hj

section
variable {P : Program}
/-- A byte of a string. -/
theorem run_index_str (w : World) (t : TypeId) (l : List UInt8) (K : IntKind) (k : Nat) (ht : P.underlying t = some .string) (h : k < l.length) :
    (Instr.index t (.string (str l)) (.int K (k : Int))).run P w = .ok (.int .u8 ((l.getD k 0).toNat : Int)) w := by
  have hs : k < (str l).size := by rw [str_size]; exact h
  rw [run_index_string w t (str l) K k ht, dif_pos ⟨by omega, by omega⟩]
  have := str_get l k hs
  simp only [Int.toNat_natCast, this]
theorem run_add_str (w : World) (a b : List UInt8) (h : a.length + b.length ≤ 9223372036854775807) : (Op.stringOp .add (str a) (str b)).run P w = .ok (.string (str (a ++ b))) w := by
  rw [run_string_add_sum w _ _ (by rw [str_size, str_size]; exact h), str_append]
end

/-- The row of bytes that a conversion of a string made, as long as the string at least. -/
def BRow (w : World) (g : Nat) (l : List UInt8) : Prop :=
  ∃ cur e fz, w.heap[g]? = some (.cells cur e fz) ∧ l.length ≤ cur.size ∧ cur.size ≤ fz.1 ∧ ∀ i, i < l.length → cur[i]? = some (.int .u8 ((l.getD i 0).toNat : Int))

theorem BRow.new (w : World) (e : TypeId) (l : List UInt8) : BRow (Lib.bytesWorld w e (str l)) w.heap.size l := by
  have hsz : l.length ≤ (Lib.bytesCells w e (str l)).size := by
    unfold Lib.bytesCells
    simp [str]
  refine ⟨_, _, _, Lib.bytesWorld_at_new w e (str l), hsz, Nat.le_refl _, fun i hi => ?_⟩
  have h := Lib.bytesWorld_cell w e (str l) i (by rw [str_size]; exact hi)
  rw [cell_of_row _ _ _ _ _ _ (Lib.bytesWorld_at_new w e (str l)), str_data] at h
  exact h
theorem BRow.lt {w : World} {g : Nat} {l : List UInt8} (h : BRow w g l) : g < w.heap.size := by
  obtain ⟨cur, e, fz, hg, _⟩ := h
  rcases Nat.lt_or_ge g w.heap.size with hlt | hge
  · exact hlt
  · rw [Array.getElem?_eq_none hge] at hg
    cases hg
theorem BRow.cell {w : World} {g : Nat} {l : List UInt8} (h : BRow w g l) (i : Nat) (hi : i < l.length) : w.cell? ⟨g, i, none⟩ = some (.int .u8 ((l.getD i 0).toNat : Int)) := by
  obtain ⟨cur, e, fz, hg, _, _, hc⟩ := h
  rw [cell_of_row _ _ _ _ _ _ hg]
  exact hc i hi
theorem BRow.free {w : World} {g : Nat} {l : List UInt8} (h : BRow w g l) (i : Nat) (hi : i < l.length) : w.frozen? ⟨g, i, none⟩ = false := by
  obtain ⟨cur, e, ⟨f1, f2⟩, hg, h1, h2, _⟩ := h
  simp only [World.frozen?, hg]
  have : ¬ f1 ≤ i := by simp only [] at h2; omega
  simp [this]
theorem BRow.set {w : World} {g : Nat} {l : List UInt8} (h : BRow w g l) (i : Nat) (x : UInt8) : BRow (w.setCell ⟨g, i, none⟩ (.int .u8 (x.toNat : Int))) g (l.set i x) := by
  obtain ⟨cur, e, fz, hg, h1, h2, hc⟩ := h
  refine ⟨cur.setIfInBounds i (.int .u8 (x.toNat : Int)), e, fz, by simp [World.setCell, Array.getElem?_modify, hg], by simpa using h1, by simpa using h2, fun j hj => ?_⟩
  rw [List.length_set] at hj
  rw [Array.getElem?_setIfInBounds]
  by_cases hij : i = j
  · subst hij
    have : i < cur.size := by omega
    simp [this, List.getD, hj]
  · simp only [hij, if_false]
    rw [hc j hj]
    simp [List.getD, hij]
theorem BRow.back {P : Program} {w : World} {g : Nat} {l : List UInt8} (h : BRow w g l) (src dst e : TypeId) (n cap : Nat) (hs : P.underlying src = some (.slice e)) (he : P.underlying e = some (.int .u8)) (hd : P.underlying dst = some .string) (hn : l.length = n) :
    (convert src dst (.slice (some ⟨g, 0, none⟩) n cap)).run P w = .ok (.string (str l)) w := by
  subst hn
  refine run_convert_bytes_back w src dst e ⟨g, 0, none⟩ cap l hs he hd fun j hj => ?_
  have := h.cell j hj
  simp only [List.getD, List.getElem?_eq_getElem hj, Option.getD_some] at this
  rw [← this]
  congr 1
  simp [Addr.add]
  exact fun h => h.symm
theorem one_back {P : Program} (w : World) (src dst e : TypeId) (x : UInt8) (v : Int) (hv : v = (x.toNat : Int)) (hs : P.underlying src = some (.slice e)) (he : P.underlying e = some (.int .u8)) (hd : P.underlying dst = some .string) :
    (convert src dst (.slice (some ⟨w.heap.size, 0, none⟩) 1 1)).run P (w.alloc (.cells #[.int .u8 v] e)) = .ok (.string (str [x])) (w.alloc (.cells #[.int .u8 v] e)) := by
  subst hv
  refine run_convert_bytes_back (w.alloc (.cells #[.int .u8 (x.toNat : Int)] e)) src dst e ⟨w.heap.size, 0, none⟩ 1 [x] hs he hd fun j hj => ?_
  have : j = 0 := by simp at hj; exact hj
  subst this
  simp [Addr.add]
theorem take_snoc {l : List UInt8} {k : Nat} (hk : k < l.length) : l.take (k + 1) = l.take k ++ [l.getD k 0] := by
  rw [List.take_succ_eq_append_getElem hk]
  simp [List.getD, hk]
theorem cut_one {l : List UInt8} {k : Nat} (hk : k < l.length) : (l.drop k).take (k + 1 - k) = [l.getD k 0] := by
  have e : k + 1 - k = 1 := by omega
  rw [e, List.drop_eq_getElem_cons hk]
  show [l[k]] = _
  simp [List.getD, hk]
theorem set_low {l : List UInt8} {f : UInt8 → UInt8} {k : Nat} (hk : k < l.length) : ((l.take k).map f ++ l.drop k).set k (f (l.getD k 0)) = (l.take (k + 1)).map f ++ l.drop (k + 1) := by
  have hd : l.drop k = l.getD k 0 :: l.drop (k + 1) := by
    rw [List.drop_eq_getElem_cons hk]
    simp [List.getD, hk]
  have ht : l.take (k + 1) = l.take k ++ [l.getD k 0] := by
    rw [List.take_succ_eq_append_getElem hk]
    simp [List.getD, hk]
  rw [hd, ht, List.set_append_right _ _ (by simp; omega)]
  have : (List.map f (List.take k l)).length = k := by simp; omega
  rw [this]
  simp
end Go.Proofs.YtjcilpedpimdcaaDoor

/- Layer 6 in plain words: letters, blanks, parts of a list of bytes. -/
namespace Go.Proofs.YtjcilpedpimdcaaDoor
set_option linter.unusedVariables false

/-- A byte made small. -/
def low (x : UInt8) : UInt8 := if 65 ≤ x.toNat ∧ x.toNat ≤ 90 then UInt8.ofNat (x.toNat + 32) else x
def blank (x : UInt8) : Bool := decide (x.toNat = 32) || decide (x.toNat = 9)
def ctl (x : UInt8) : Bool := decide (x.toNat < 32) && !decide (x.toNat = 9) || decide (x.toNat = 127)
def digit (x : UInt8) : Bool := decide (48 ≤ x.toNat) && decide (x.toNat ≤ 57)

theorem u8_lt (x : UInt8) : x.toNat < 256 := x.toNat_lt
theorem low_up {x : UInt8} (h : 65 ≤ x.toNat ∧ x.toNat ≤ 90) : (low x).toNat = x.toNat + 32 := by
  unfold low
  rw [if_pos h, UInt8.toNat_ofNat']
  omega
theorem low_not {x : UInt8} (h : ¬ (65 ≤ x.toNat ∧ x.toNat ≤ 90)) : low x = x := by
  unfold low
  rw [if_neg h]
theorem low_low (x : UInt8) : low (low x) = low x := by
  by_cases h : 65 ≤ x.toNat ∧ x.toNat ≤ 90
  · refine low_not (fun h2 => ?_)
    rw [low_up h] at h2
    omega
  · rw [low_not h, low_not h]
/-- Behind the last of the first k bytes that is no blank. -/
def endB (l : List UInt8) : Nat → Nat
  | 0 => 0
  | k + 1 => if blank (l.getD k 0) = true then endB l k else k + 1
theorem endB_le (l : List UInt8) : ∀ k, endB l k ≤ k
  | 0 => Nat.le_refl _
  | k + 1 => by
    unfold endB
    have := endB_le l k
    split <;> omega
def frontB (l : List UInt8) : Nat := (l.take (endB l l.length)).findIdx (fun x => !blank x)
def trimL (l : List UInt8) : List UInt8 := (l.drop (frontB l)).take (endB l l.length - frontB l)
theorem frontB_le (l : List UInt8) : frontB l ≤ endB l l.length := by
  unfold frontB
  refine Nat.le_trans List.findIdx_le_length ?_
  rw [List.length_take]
  exact Nat.min_le_left _ _
/-- The number of these digits, 2^40 at most. -/
def numV (l : List UInt8) : Nat := l.foldl (fun n x => min (10 * n + (x.toNat - 48)) 1099511627776) 0
theorem numV_nil : numV [] = 0 := rfl
theorem numV_le (l : List UInt8) : numV l ≤ 1099511627776 := by
  unfold numV
  suffices h : ∀ (l : List UInt8) (n : Nat), n ≤ 1099511627776 → l.foldl (fun n x => min (10 * n + (x.toNat - 48)) 1099511627776) n ≤ 1099511627776 from h l 0 (by omega)
  intro l
  induction l with
  | nil => intro n h; exact h
  | cons x xs ih => intro n h; exact ih _ (Nat.min_le_right _ _)
theorem numV_take {l : List UInt8} {k : Nat} (h : k < l.length) : numV (l.take (k + 1)) = min (10 * numV (l.take k) + ((l.getD k 0).toNat - 48)) 1099511627776 := by
  unfold numV
  rw [List.take_succ_eq_append_getElem h, List.foldl_append]
  simp [List.getD, h]
def signed (l : List UInt8) : Bool := Lib.hasPrefix l [45]
def body (l : List UInt8) : List UInt8 := Lib.trimPrefix l [45]
theorem body_le (l : List UInt8) : (body l).length ≤ l.length := by
  unfold body Lib.trimPrefix
  split
  · simp
  · exact Nat.le_refl _
/-- How many digits it begins with. -/
def lead (l : List UInt8) : Nat := l.findIdx (fun x => !digit x)
theorem lead_le (l : List UInt8) : lead l ≤ l.length := List.findIdx_le_length
theorem lead_all {l : List UInt8} (h : lead l = l.length) (k : Nat) (hk : k < l.length) : 48 ≤ (l.getD k 0).toNat ∧ (l.getD k 0).toNat ≤ 57 := by
  have := List.findIdx_eq_length.1 h (l[k]) (List.getElem_mem hk)
  have e : l.getD k 0 = l[k] := by simp [List.getD, hk]
  rw [e]
  unfold digit at this
  simpa using this
def numL (l : List UInt8) : Int × Bool :=
  if (body l).length = 0 ∨ lead (body l) < (body l).length then (0, false) else (if signed l = true then 0 - (numV (body l) : Int) else (numV (body l) : Int), true)
/-- The parts that end ahead of place k, and where the next one begins. -/
def splitK (l : List UInt8) (c : UInt8) : Nat → List (List UInt8) × Nat
  | 0 => ([], 0)
  | k + 1 => if (l.getD k 0 == c) = true then ((splitK l c k).1 ++ [(l.drop (splitK l c k).2).take (k - (splitK l c k).2)], k + 1) else splitK l c k
theorem splitK_le (l : List UInt8) (c : UInt8) : ∀ k, (splitK l c k).1.length ≤ k ∧ (splitK l c k).2 ≤ k
  | 0 => ⟨Nat.le_refl _, Nat.le_refl _⟩
  | k + 1 => by
    unfold splitK
    have := splitK_le l c k
    split
    · simp
      omega
    · omega
/-- The parts between bytes c. -/
def splitL (l : List UInt8) (c : UInt8) : List (List UInt8) := (splitK l c l.length).1 ++ [l.drop (splitK l c l.length).2]
/-- Parts with the byte between them. -/
def joinL (c : UInt8) : List (List UInt8) → List UInt8
  | [] => []
  | [x] => x
  | x :: y :: r => x ++ c :: joinL c (y :: r)
theorem joinL_snoc (c : UInt8) : ∀ (p : List (List UInt8)) (x : List UInt8), p ≠ [] → joinL c (p ++ [x]) = joinL c p ++ c :: x
  | [], _, h => absurd rfl h
  | [a], x, _ => rfl
  | a :: b :: r, x, _ => by
    show a ++ c :: joinL c ((b :: r) ++ [x]) = _
    rw [joinL_snoc c (b :: r) x (by simp)]
    simp [joinL]
theorem joinL_split (l : List UInt8) (c : UInt8) : ∀ k, k ≤ l.length → joinL c ((splitK l c k).1 ++ [(l.drop (splitK l c k).2).take (k - (splitK l c k).2)]) = l.take k
  | 0, _ => by simp [splitK, joinL]
  | k + 1, hk => by
    have ih := joinL_split l c k (by omega)
    have hle := splitK_le l c k
    have ht : l.take (k + 1) = l.take k ++ [l.getD k 0] := by
      rw [List.take_succ_eq_append_getElem (by omega)]
      simp [List.getD, show k < l.length by omega]
    by_cases h : (l.getD k 0 == c) = true
    · have e : splitK l c (k + 1) = ((splitK l c k).1 ++ [(l.drop (splitK l c k).2).take (k - (splitK l c k).2)], k + 1) := by
        show (if _ then _ else _) = _
        rw [if_pos h]
      rw [e]
      simp only []
      rw [joinL_snoc c _ _ (by simp), ih, ht]
      have : l.getD k 0 = c := by simpa using h
      simp only [Nat.sub_self, List.take_zero]
      rw [this]
    · have e : splitK l c (k + 1) = splitK l c k := by
        show (if _ then _ else _) = _
        rw [if_neg h]
      rw [e, ht, ← ih]
      generalize splitK l c k = q at *
      obtain ⟨p, s⟩ := q
      simp only at *
      have e2 : (l.drop s).take (k + 1 - s) = (l.drop s).take (k - s) ++ [l.getD k 0] := by
        have : k + 1 - s = (k - s) + 1 := by omega
        rw [this, List.take_succ_eq_append_getElem (by simp; omega)]
        congr 2
        simp [List.getD, show k < l.length by omega, show s + (k - s) = k by omega]
      rw [e2]
      cases p with
      | nil => rfl
      | cons a r => rw [joinL_snoc c _ _ (by simp), joinL_snoc c _ _ (by simp)]; simp
theorem joinL_all (l : List UInt8) (c : UInt8) : joinL c (splitL l c) = l := by
  have h := joinL_split l c l.length (Nat.le_refl _)
  have hle := splitK_le l c l.length
  rw [List.take_of_length_le (by simp)] at h
  unfold splitL
  rw [h, List.take_of_length_le (Nat.le_refl _)]
theorem endB_blank {l : List UInt8} : ∀ {k : Nat}, endB l k = 0 → ∀ j, j < k → blank (l.getD j 0) = true
  | 0, _, j, hj => absurd hj (by omega)
  | k + 1, h, j, hj => by
    unfold endB at h
    split at h
    · rename_i hb
      rcases Nat.lt_succ_iff_lt_or_eq.1 hj with h2 | rfl
      · exact endB_blank h j h2
      · exact hb
    · omega
theorem endB_at {l : List UInt8} : ∀ {k e : Nat}, endB l k = e + 1 → blank (l.getD e 0) = false
  | 0, e, h => by unfold endB at h; omega
  | k + 1, e, h => by
    unfold endB at h
    split at h
    · exact endB_at h
    · rename_i hb
      obtain rfl : k = e := by omega
      simpa using hb
/-- Where the first byte that is no blank stands. -/
def nb (l : List UInt8) : Nat := l.findIdx (fun x => !blank x)
theorem nb_le (l : List UInt8) : nb l ≤ l.length := List.findIdx_le_length
theorem nb_lt {l : List UInt8} {k : Nat} (h : k < nb l) : blank (l.getD k 0) = true := by
  have h2 : k < l.length := Nat.lt_of_lt_of_le h (nb_le l)
  have := List.not_of_lt_findIdx h
  simp only [List.getD, List.getElem?_eq_getElem h2, Option.getD_some]
  simpa using this
theorem nb_at {l : List UInt8} (h : nb l < l.length) : blank (l.getD (nb l) 0) = false := by
  have : (!blank (l[nb l]'h)) = true := List.findIdx_getElem (xs := l) (p := fun x => !blank x) (w := h)
  have e : l.getD (nb l) 0 = l[nb l] := by simp [List.getD, h]
  rw [e]
  simpa using this
/-- What the reference cuts out. -/
theorem trimL_max (l : List UInt8) : (l.drop (nb l)).take (max (nb l) (endB l l.length) - nb l) = trimL l := by
  have hle := endB_le l l.length
  have hn := nb_le l
  rcases Nat.eq_zero_or_pos (endB l l.length) with h0 | h0
  · have e1 : nb l = l.length := by
      rcases Nat.lt_or_ge (nb l) l.length with h1 | h1
      · have h2 := nb_at h1
        rw [endB_blank h0 _ h1] at h2
        cases h2
      · omega
    unfold trimL
    rw [h0, e1]
    simp
  · obtain ⟨e, he⟩ : ∃ e, endB l l.length = e + 1 := ⟨endB l l.length - 1, by omega⟩
    have hb := endB_at he
    have hlt : nb l < e + 1 := by
      rcases Nat.lt_or_ge (nb l) (e + 1) with h1 | h1
      · exact h1
      · rw [nb_lt (show e < nb l by omega)] at hb
        cases hb
    have hf : frontB l = nb l := by
      unfold frontB
      rw [he]
      refine findIdx_at (fun j hj => ?_) (by rw [List.length_take]; omega) ?_
      · have e2 : (l.take (e + 1)).getD j 0 = l.getD j 0 := by simp [List.getD, show j < e + 1 by omega]
        rw [e2, nb_lt hj]
        rfl
      · have e2 : (l.take (e + 1)).getD (nb l) 0 = l.getD (nb l) 0 := by simp [List.getD, hlt]
        rw [e2, nb_at (by omega)]
        rfl
    unfold trimL
    rw [hf, he, Nat.max_eq_right (by omega)]
theorem endB_step {l : List UInt8} {t : Nat} (h : blank (l.getD t 0) = true) : endB l (t + 1) = endB l t := by
  show (if _ then _ else _) = _
  rw [if_pos h]
theorem endB_stop {l : List UInt8} {t : Nat} (h : blank (l.getD t 0) = false) : endB l (t + 1) = t + 1 := by
  show (if _ then _ else _) = _
  rw [if_neg (by rw [h]; decide)]
theorem lead_lt {l : List UInt8} {k : Nat} (h : k < lead l) : 48 ≤ (l.getD k 0).toNat ∧ (l.getD k 0).toNat ≤ 57 := by
  have h2 : k < l.length := Nat.lt_of_lt_of_le h (lead_le l)
  have := List.not_of_lt_findIdx h
  simp only [List.getD, List.getElem?_eq_getElem h2, Option.getD_some]
  unfold digit at this
  simpa using this
theorem lead_at {l : List UInt8} (h : lead l < l.length) : ¬ (48 ≤ (l.getD (lead l) 0).toNat ∧ (l.getD (lead l) 0).toNat ≤ 57) := by
  have : (!digit (l[lead l]'h)) = true := List.findIdx_getElem (xs := l) (p := fun x => !digit x) (w := h)
  have e : l.getD (lead l) 0 = l[lead l] := by simp [List.getD, h]
  rw [e]
  unfold digit at this
  simp at this
  omega
theorem signed_yes {l : List UInt8} (h : signed l = true) : 1 ≤ l.length ∧ (l.getD 0 0).toNat = 45 ∧ body l = l.drop 1 := by
  unfold signed Lib.hasPrefix at h
  cases l with
  | nil => simp at h
  | cons x xs =>
    simp at h
    subst h
    exact ⟨by simp, rfl, rfl⟩
theorem signed_no {l : List UInt8} (h : signed l = false) : (l.length = 0 ∨ (l.getD 0 0).toNat ≠ 45) ∧ body l = l := by
  unfold body Lib.trimPrefix
  unfold signed at h
  rw [h]
  refine ⟨?_, rfl⟩
  unfold Lib.hasPrefix at h
  cases l with
  | nil => exact .inl rfl
  | cons x xs =>
    right
    intro hx
    have : x = 45 := UInt8.toNat_inj.1 hx
    subst this
    simp at h
theorem joinL_le (c : UInt8) : ∀ (p q : List (List UInt8)), (joinL c p).length ≤ (joinL c (p ++ q)).length
  | [], q => by simp [joinL]
  | [x], [] => Nat.le_refl _
  | [x], y :: r => by
    show x.length ≤ (x ++ c :: joinL c (y :: r)).length
    simp
  | x :: y :: r, q => by
    have h := joinL_le c (y :: r) q
    show (x ++ c :: joinL c (y :: r)).length ≤ (x ++ c :: joinL c ((y :: r) ++ q)).length
    simp only [List.length_append, List.length_cons]
    omega
theorem joinL_take (c : UInt8) (p : List (List UInt8)) (i : Nat) (hi : i < p.length) : joinL c (p.take (i + 1)) = if i = 0 then p.getD 0 [] else joinL c (p.take i) ++ c :: p.getD i [] := by
  have ht : p.take (i + 1) = p.take i ++ [p.getD i []] := by
    rw [List.take_succ_eq_append_getElem hi]
    simp [List.getD, hi]
  rw [ht]
  by_cases h : i = 0
  · subst h
    rw [if_pos rfl]
    rfl
  · rw [if_neg h, joinL_snoc]
    intro h2
    have := congrArg List.length h2
    rw [List.length_take, List.length_nil] at this
    omega
theorem joinL_take_le (c : UInt8) (p : List (List UInt8)) (i : Nat) : (joinL c (p.take i)).length ≤ (joinL c p).length := by
  have := joinL_le c (p.take i) (p.drop i)
  rwa [List.take_append_drop] at this
theorem splitL_pos (l : List UInt8) (c : UInt8) : 1 ≤ (splitL l c).length := by unfold splitL; simp
theorem splitL_le (l : List UInt8) (c : UInt8) : (splitL l c).length ≤ l.length + 1 := by
  unfold splitL
  have := (splitK_le l c l.length).1
  simp
  omega
theorem mem_join_le (c : UInt8) : ∀ (p : List (List UInt8)) (x : List UInt8), x ∈ p → x.length ≤ (joinL c p).length
  | [], x, h => by cases h
  | [y], x, h => by simp at h; subst h; exact Nat.le_refl _
  | y :: z :: r, x, h => by
    show x.length ≤ (y ++ c :: joinL c (z :: r)).length
    simp only [List.length_append, List.length_cons]
    rcases List.mem_cons.1 h with rfl | h2
    · omega
    · have := mem_join_le c (z :: r) x h2
      omega
end Go.Proofs.YtjcilpedpimdcaaDoor

/- Blanks at the ends of a text: what is left without them. No program in it. -/
namespace Go.Proofs.YtjcilpedpimdcaaDoor
set_option linter.unusedVariables false

/-- A text without blanks at its ends. -/
def trimmed (t : List UInt8) : Prop := t = [] ∨ (blank (t.getD 0 0) = false ∧ blank (t.getD (t.length - 1) 0) = false)

theorem endB_run (l : List UInt8) (e : Nat) : ∀ j, (∀ i, e ≤ i → i < e + j → blank (l.getD i 0) = true) → endB l (e + j) = endB l e
  | 0, _ => rfl
  | j + 1, h => by
    rw [← Nat.add_assoc, endB_step (h (e + j) (by omega) (by omega))]
    exact endB_run l e j fun i h1 h2 => h i h1 (by omega)

theorem getD_left {a b : List UInt8} {i : Nat} (h : i < a.length) : (a ++ b).getD i 0 = a.getD i 0 := by
  simp only [List.getD]
  rw [List.getElem?_append_left h]

theorem getD_right {a b : List UInt8} (i : Nat) : (a ++ b).getD (a.length + i) 0 = b.getD i 0 := by
  simp only [List.getD]
  rw [List.getElem?_append_right (by omega), Nat.add_sub_cancel_left]

theorem all_getD {u : List UInt8} (h : u.all blank = true) {i : Nat} (hi : i < u.length) : blank (u.getD i 0) = true := by
  have := List.all_eq_true.1 h u[i] (List.getElem_mem hi)
  simpa [List.getD, List.getElem?_eq_getElem hi] using this

/-- What is left, told by what stands around it. -/
theorem trim_is {u t v : List UInt8} (hu : u.all blank = true) (hv : v.all blank = true) (ht : trimmed t) : trimL (u ++ (t ++ v)) = t := by
  have hlen : (u ++ (t ++ v)).length = u.length + t.length + v.length := by simp; omega
  have hrun : endB (u ++ (t ++ v)) (u ++ (t ++ v)).length = endB (u ++ (t ++ v)) (u.length + t.length) := by
    rw [hlen]
    refine endB_run _ _ _ fun i h1 h2 => ?_
    obtain ⟨j, rfl⟩ : ∃ j, i = u.length + (t.length + j) := ⟨i - u.length - t.length, by omega⟩
    rw [getD_right, getD_right]
    exact all_getD hv (by omega)
  unfold trimL frontB
  have ht' : t = [] ∨ (t ≠ [] ∧ blank (t.getD 0 0) = false ∧ blank (t.getD (t.length - 1) 0) = false) := by
    by_cases e : t = []
    · exact .inl e
    · rcases ht with h | h
      · exact .inl h
      · exact .inr ⟨e, h⟩
  rcases ht' with rfl | ⟨h0, h1, h2⟩
  · have h0 : endB (u ++ ([] ++ v)) (u.length + 0) = 0 := by
      have := endB_run (u ++ ([] ++ v)) 0 u.length (fun i _ h => by
        rw [getD_left (by omega)]
        exact all_getD hu (by omega))
      rw [Nat.zero_add] at this
      exact this
    simp only [List.length_nil] at hrun
    rw [hrun, h0]
    simp
  · have hpos : 0 < t.length := List.length_pos_iff.2 h0
    have h0 : endB (u ++ (t ++ v)) (u.length + t.length) = u.length + t.length := by
      obtain ⟨m, hm⟩ : ∃ m, t.length = m + 1 := ⟨t.length - 1, by omega⟩
      rw [hm, ← Nat.add_assoc]
      refine endB_stop ?_
      rw [getD_right, getD_left (by omega)]
      rw [hm, Nat.add_sub_cancel] at h2
      exact h2
    rw [hrun, h0]
    have htake : (u ++ (t ++ v)).take (u.length + t.length) = u ++ t := by
      rw [← List.append_assoc, ← List.length_append, List.take_left]
    have hfront : (u ++ t).findIdx (fun x => !blank x) = u.length := by
      refine findIdx_at (fun j hj => ?_) (by rw [List.length_append]; omega) ?_
      · rw [getD_left hj, all_getD hu hj]; rfl
      · have := getD_right (a := u) (b := t) 0
        rw [Nat.add_zero] at this
        rw [this, h1]; rfl
    rw [htake, hfront, List.drop_left, Nat.add_sub_cancel_left, List.take_left]

theorem trim_self {t : List UInt8} (ht : trimmed t) : trimL t = t := by
  have := trim_is (u := []) (v := []) rfl rfl ht
  simpa using this

theorem trim_space {t : List UInt8} (ht : trimmed t) : trimL (32 :: t) = t := by
  have := trim_is (u := [32]) (v := []) rfl rfl ht
  simpa using this

theorem endB_blanks {l : List UInt8} : ∀ {k : Nat}, ∀ i, endB l k ≤ i → i < k → blank (l.getD i 0) = true
  | 0, i, _, h => by omega
  | k + 1, i, h1, h2 => by
    by_cases hb : blank (l.getD k 0) = true
    · by_cases e : i = k
      · rw [e]; exact hb
      · rw [endB_step hb] at h1
        exact endB_blanks i h1 (by omega)
    · rw [endB_stop (by simpa using hb)] at h1
      omega

/-- A text is what is left of it, with blanks around. -/
theorem trim_parts (l : List UInt8) : ∃ u v : List UInt8, u.all blank = true ∧ v.all blank = true ∧ l = u ++ (trimL l ++ v) ∧ trimmed (trimL l) := by
  have hle := endB_le l l.length
  have hfl := frontB_le l
  refine ⟨l.take (frontB l), l.drop (endB l l.length), ?_, ?_, ?_, ?_⟩
  · rw [List.all_eq_true]
    intro x hx
    obtain ⟨i, hi, rfl⟩ := List.getElem_of_mem hx
    rw [List.length_take] at hi
    have h1 : i < (l.take (endB l l.length)).findIdx (fun x => !blank x) := by unfold frontB at hi; omega
    have h2 := List.not_of_lt_findIdx h1
    simp only [Bool.not_eq_false'] at h2
    rw [List.getElem_take] at h2 ⊢
    simpa using h2
  · rw [List.all_eq_true]
    intro x hx
    obtain ⟨i, hi, rfl⟩ := List.getElem_of_mem hx
    rw [List.length_drop] at hi
    have := endB_blanks (l := l) (k := l.length) (endB l l.length + i) (by omega) (by omega)
    rw [List.getElem_drop]
    simpa [List.getD, show endB l l.length + i < l.length by omega] using this
  · unfold trimL
    have e1 : l.drop (endB l l.length) = (l.drop (frontB l)).drop (endB l l.length - frontB l) := by
      rw [List.drop_drop]
      congr 1
      omega
    rw [e1, List.take_append_drop, List.take_append_drop]
  · by_cases h0 : frontB l < endB l l.length
    · right
      have ht : (trimL l).length = endB l l.length - frontB l := by
        unfold trimL
        rw [List.length_take, List.length_drop]
        omega
      have hat : ∀ i, i < endB l l.length - frontB l → (trimL l).getD i 0 = l.getD (frontB l + i) 0 := fun i hi => by
        unfold trimL
        simp only [List.getD]
        rw [List.getElem?_take_of_lt hi, List.getElem?_drop]
      constructor
      · rw [hat 0 (by omega), Nat.add_zero]
        have hlt : frontB l < (l.take (endB l l.length)).length := by rw [List.length_take]; omega
        have h3 : (!blank ((l.take (endB l l.length))[frontB l]'hlt)) = true := List.findIdx_getElem (p := fun x => !blank x) (xs := l.take (endB l l.length)) (w := hlt)
        rw [List.getElem_take] at h3
        have h4 : frontB l < l.length := by omega
        simp only [List.getD, List.getElem?_eq_getElem h4, Option.getD_some]
        simpa using h3
      · rw [ht, hat _ (by omega)]
        have e : frontB l + (endB l l.length - frontB l - 1) = endB l l.length - 1 := by omega
        rw [e]
        obtain ⟨m, hm⟩ : ∃ m, endB l l.length = m + 1 := ⟨endB l l.length - 1, by omega⟩
        have := endB_at hm
        rw [hm, Nat.add_sub_cancel]
        exact this
    · left
      unfold trimL
      have : endB l l.length - frontB l = 0 := by omega
      rw [this]; rfl

theorem trim_trimmed (l : List UInt8) : trimmed (trimL l) := by
  obtain ⟨_, _, _, _, _, h⟩ := trim_parts l
  exact h

theorem trim_mem {l : List UInt8} {x : UInt8} (h : x ∈ trimL l) : x ∈ l := by
  obtain ⟨u, v, -, -, e, -⟩ := trim_parts l
  rw [e]
  simp [h]

theorem trim_length (l : List UInt8) : (trimL l).length ≤ l.length := by
  obtain ⟨u, v, -, -, e, -⟩ := trim_parts l
  have := congrArg List.length e
  simp at this
  omega
end Go.Proofs.YtjcilpedpimdcaaDoor

/- Decimal digits of a number: plain, with no program in it. -/
namespace Go.Proofs.YtjcilpedpimdcaaDoor
open Go.RowKit
set_option linter.unusedVariables false

/-- What the library's functions read of its variables: the table that numerals are written by; the number that a search asks for. -/
structure PTab (P : Program) (w : World) : Prop where
  tab : Lib.TabIs P w "internal/strconv.uint64pow10" .u64 Lib.pow10Tab
  most : ∀ g, P.globalNamed "internal/bytealg.MaxLen" = some g → ∃ m, w.cell? ⟨g, 0, none⟩ = some (.int .i64 m)
theorem PTab.below {P : Program} {w w' : World} (h : PTab P w) (hb : Below w.heap.size w w') : PTab P w' := by
  refine ⟨?_, fun g hg => ?_⟩
  · have h := h.tab
    unfold Lib.TabIs at h ⊢
    unfold World.var? at h ⊢
    cases hg : P.globalNamed "internal/strconv.uint64pow10" with
    | none => rw [hg] at h; cases h
    | some g =>
      rw [hg] at h
      simp only [Option.bind_some] at h ⊢
      have hlt : g < w.heap.size := by
        rcases Nat.lt_or_ge g w.heap.size with h1 | h1
        · exact h1
        · rw [Array.getElem?_eq_none h1] at h; cases h
      rw [hb.block g hlt]
      exact h
  · obtain ⟨m, hm⟩ := h.most g hg
    have hlt : g < w.heap.size := by
      rcases Nat.lt_or_ge g w.heap.size with h1 | h1
      · exact h1
      · unfold World.cell? at hm
        rw [Array.getElem?_eq_none h1] at hm; cases hm
    exact ⟨m, (hb.cell hlt).trans hm⟩

theorem decDigits_snoc (u : Nat) (h : ¬ u < 10) : Lib.decDigits u = Lib.decDigits (u / 10) ++ [UInt8.ofNat (48 + u % 10)] := by
  rw [Lib.decDigits, dif_neg h]
theorem digit_toNat (d : Nat) (h : d < 10) : (UInt8.ofNat (48 + d)).toNat = 48 + d := by
  rw [UInt8.toNat_ofNat']
  omega
theorem decDigits_digits (u : Nat) : ∀ x ∈ Lib.decDigits u, 48 ≤ x.toNat ∧ x.toNat ≤ 57 := by
  induction u using Nat.strongRecOn with
  | ind u ih =>
    by_cases h : u < 10
    · rw [Lib.decDigits_one h]
      intro x hx
      simp only [List.mem_singleton] at hx
      subst hx
      rw [digit_toNat u h]
      omega
    · rw [decDigits_snoc u h]
      intro x hx
      rcases List.mem_append.1 hx with h1 | h1
      · exact ih (u / 10) (by omega) x h1
      · simp only [List.mem_singleton] at h1
        subst h1
        rw [digit_toNat _ (by omega)]
        omega
theorem decDigits_pos (u : Nat) : 1 ≤ (Lib.decDigits u).length := by
  rw [Lib.decDigits_length]
  exact Lib.nDigits_pos u
theorem numV_snoc (l : List UInt8) (x : UInt8) : numV (l ++ [x]) = min (10 * numV l + (x.toNat - 48)) 1099511627776 := by
  unfold numV
  rw [List.foldl_append]
  rfl
theorem numV_decDigits (u : Nat) : numV (Lib.decDigits u) = min u 1099511627776 := by
  induction u using Nat.strongRecOn with
  | ind u ih =>
    by_cases h : u < 10
    · rw [Lib.decDigits_one h, ← List.nil_append [UInt8.ofNat (48 + u)], numV_snoc, numV_nil, digit_toNat u h]
      omega
    · rw [decDigits_snoc u h, numV_snoc, ih (u / 10) (by omega), digit_toNat _ (by omega)]
      omega
theorem lead_decDigits (u : Nat) : lead (Lib.decDigits u) = (Lib.decDigits u).length := by
  unfold lead
  rw [List.findIdx_eq_length]
  intro x hx
  have := decDigits_digits u x hx
  unfold digit
  simp
  omega
/-- A number, 2^40 at most, -2^40 at least. -/
def sat (n : Int) : Int := if n < -1099511627776 then -1099511627776 else if 1099511627776 < n then 1099511627776 else n
theorem signed_digits (u : Nat) : signed (Lib.decDigits u) = false ∧ body (Lib.decDigits u) = Lib.decDigits u := by
  have hs : signed (Lib.decDigits u) = false := by
    have h1 := decDigits_pos u
    have h2 := decDigits_digits u
    cases hb : signed (Lib.decDigits u) with
    | false => rfl
    | true =>
      have h3 := (signed_yes hb).2.1
      have h4 : (Lib.decDigits u).getD 0 0 ∈ Lib.decDigits u := by
        simp only [List.getD, List.getElem?_eq_getElem (show 0 < (Lib.decDigits u).length by omega), Option.getD_some]
        exact List.getElem_mem _
      have := h2 _ h4
      omega
  exact ⟨hs, (signed_no hs).2⟩
theorem numL_itoa (n : Int) : numL (Lib.itoa n) = (sat n, true) := by
  unfold numL Lib.itoa
  by_cases h : n < 0
  · rw [if_pos h]
    have hs : signed (45 :: Lib.decDigits n.natAbs) = true := by unfold signed Lib.hasPrefix; simp
    have hb := (signed_yes hs).2.2
    rw [hb, hs]
    have e : List.drop 1 (45 :: Lib.decDigits n.natAbs) = Lib.decDigits n.natAbs := rfl
    have hp := decDigits_pos n.natAbs
    rw [e, lead_decDigits, if_neg (by omega), numV_decDigits, if_pos rfl]
    unfold sat
    congr 1
    split
    · omega
    · split <;> omega
  · rw [if_neg h]
    obtain ⟨hs, hb⟩ := signed_digits n.toNat
    have hp := decDigits_pos n.toNat
    rw [hb, hs, lead_decDigits, if_neg (by omega), numV_decDigits, if_neg (by decide)]
    unfold sat
    congr 1
    split
    · omega
    · split <;> omega
end Go.Proofs.YtjcilpedpimdcaaDoor

/- Names of hosts in plain words: labels, addresses, which domains a host matches. No program in it. -/
namespace Go.Proofs.YtjcilpedpimdcaaDoor
open Go.RowKit
set_option linter.unusedVariables false

def signB (x : UInt8) : Bool := (decide (97 ≤ x.toNat) && decide (x.toNat ≤ 122)) || (decide (48 ≤ x.toNat) && decide (x.toNat ≤ 57)) || decide (x.toNat = 45) || decide (x.toNat = 95)
def labelB (l : List UInt8) : Bool := decide (1 ≤ l.length) && decide (l.length ≤ 63) && !(l.getD 0 0 == 45) && !(l.getD (l.length - 1) 0 == 45) && l.all signB
def octetB (l : List UInt8) : Bool := decide (1 ≤ l.length) && decide (l.length ≤ 3) && decide (lead l = l.length) && decide (numV l ≤ 255) && (Lib.decDigits (numV l) == l)
/-- Four numbers, points between. -/
def quadB (l : List UInt8) : Bool := decide ((splitL l 46).length = 4) && (splitL l 46).all octetB
def hexB (x : UInt8) : Bool := (decide (48 ≤ x.toNat) && decide (x.toNat ≤ 57)) || (decide (97 ≤ x.toNat) && decide (x.toNat ≤ 102)) || decide (x.toNat = 58) || decide (x.toNat = 46)
def bracketB (l : List UInt8) : Bool := decide (4 ≤ l.length) && decide (l.length ≤ 47) && (l.getD 0 0 == 91) && (l.getD (l.length - 1) 0 == 93) && ((l.drop 1).take (l.length - 2)).all hexB
def addrB (l : List UInt8) : Bool := quadB l || bracketB l
def nameB (l : List UInt8) : Bool := decide (l.length ≤ 256) && !quadB l && (splitL l 46).all labelB
def canonB (l : List UInt8) : Bool := decide (l.length ≤ 256) && (nameB l || addrB l)
def belowB (h d : List UInt8) : Bool := decide (d.length < h.length) && (h.getD (h.length - d.length - 1) 0 == 46) && (h.drop (h.length - d.length) == d)
def matchB (h d : List UInt8) : Bool := canonB h && canonB d && (h == d || (nameB h && belowB h d))

theorem match_refl (a : List UInt8) : matchB a a = canonB a := by
  unfold matchB
  cases canonB a <;> simp

theorem match_cases {h d : List UInt8} (m : matchB h d = true) : canonB h = true ∧ canonB d = true ∧ (h = d ∨ (nameB h = true ∧ belowB h d = true)) := by
  unfold matchB at m
  simp only [Bool.and_eq_true, Bool.or_eq_true, beq_iff_eq] at m
  exact ⟨m.1.1, m.1.2, m.2⟩
theorem below_len {h d : List UInt8} (m : belowB h d = true) : d.length < h.length ∧ h.getD (h.length - d.length - 1) 0 = 46 ∧ h.drop (h.length - d.length) = d := by
  unfold belowB at m
  simp only [Bool.and_eq_true, beq_iff_eq, decide_eq_true_iff] at m
  exact ⟨m.1.1, m.1.2, m.2⟩

theorem match_anti {a b : List UInt8} (h1 : matchB a b = true) (h2 : matchB b a = true) : a = b := by
  obtain ⟨-, -, h1⟩ := match_cases h1
  obtain ⟨-, -, h2⟩ := match_cases h2
  rcases h1 with h1 | ⟨-, h1⟩
  · exact h1
  · rcases h2 with h2 | ⟨-, h2⟩
    · exact h2.symm
    · have := (below_len h1).1
      have := (below_len h2).1
      omega

theorem below_trans {a b c : List UInt8} (h1 : belowB a b = true) (h2 : belowB b c = true) : belowB a c = true := by
  obtain ⟨l1, p1, d1⟩ := below_len h1
  obtain ⟨l2, p2, d2⟩ := below_len h2
  unfold belowB
  simp only [Bool.and_eq_true, beq_iff_eq, decide_eq_true_iff]
  refine ⟨⟨by omega, ?_⟩, ?_⟩
  · rw [← d1] at p2
    simp only [List.getD, List.getElem?_drop] at p2
    have e : a.length - b.length + ((List.drop (a.length - b.length) a).length - c.length - 1) = a.length - c.length - 1 := by
      rw [List.length_drop]; omega
    rw [e] at p2
    simpa [List.getD] using p2
  · have key : a.length - c.length = (a.length - b.length) + (b.length - c.length) := by omega
    rw [key, ← List.drop_drop, d1, d2]

theorem match_trans {a b c : List UInt8} (h1 : matchB a b = true) (h2 : matchB b c = true) : matchB a c = true := by
  obtain ⟨c1, c2, h1⟩ := match_cases h1
  obtain ⟨c3, c4, h2⟩ := match_cases h2
  unfold matchB
  rw [c1, c4]
  rcases h1 with rfl | ⟨n1, h1⟩
  · rcases h2 with rfl | ⟨n2, h2⟩
    · simp
    · rw [n2, h2]; simp
  · rcases h2 with rfl | ⟨n2, h2⟩
    · rw [n1, h1]; simp
    · rw [n1, below_trans h1 h2]; simp

/-- Parts behind the first one. -/
theorem splitK_shift (x r : List UInt8) (c : UInt8) (hx : ∀ y ∈ x, (y == c) = false) : ∀ k, k ≤ r.length → splitK (x ++ c :: r) c (x.length + 1 + k) = (x :: (splitK r c k).1, x.length + 1 + (splitK r c k).2) := by
  have h0 : ∀ j, j ≤ x.length → splitK (x ++ c :: r) c j = ([], 0) := by
    intro j
    induction j with
    | zero => intro _; rfl
    | succ j ih =>
      intro hj
      have hlt : j < x.length := by omega
      have e : (x ++ c :: r).getD j 0 = x[j] := by simp [List.getD, List.getElem?_append_left hlt, hlt]
      show (if ((x ++ c :: r).getD j 0 == c) = true then _ else splitK (x ++ c :: r) c j) = _
      rw [e, hx _ (List.getElem_mem hlt)]
      simpa using ih (by omega)
  intro k
  induction k with
  | zero =>
    intro _
    have e : (x ++ c :: r).getD x.length 0 = c := by simp [List.getD]
    show (if ((x ++ c :: r).getD x.length 0 == c) = true then ((splitK (x ++ c :: r) c x.length).1 ++ [((x ++ c :: r).drop (splitK (x ++ c :: r) c x.length).2).take (x.length - (splitK (x ++ c :: r) c x.length).2)], x.length + 1) else _) = _
    rw [e, h0 _ (Nat.le_refl _)]
    simp [splitK]
  | succ k ih =>
    intro hk
    have e : (x ++ c :: r).getD (x.length + 1 + k) 0 = r.getD k 0 := by
      have : x.length + 1 + k = x.length + (k + 1) := by omega
      rw [this]
      simp [List.getD, List.getElem?_append_right]
    have ih' := ih (by omega)
    have hle := (splitK_le r c k).2
    show (if ((x ++ c :: r).getD (x.length + 1 + k) 0 == c) = true then ((splitK (x ++ c :: r) c (x.length + 1 + k)).1 ++ [((x ++ c :: r).drop (splitK (x ++ c :: r) c (x.length + 1 + k)).2).take (x.length + 1 + k - (splitK (x ++ c :: r) c (x.length + 1 + k)).2)], x.length + 1 + k + 1) else splitK (x ++ c :: r) c (x.length + 1 + k)) = (x :: (if (r.getD k 0 == c) = true then ((splitK r c k).1 ++ [(r.drop (splitK r c k).2).take (k - (splitK r c k).2)], k + 1) else splitK r c k).1, x.length + 1 + (if (r.getD k 0 == c) = true then ((splitK r c k).1 ++ [(r.drop (splitK r c k).2).take (k - (splitK r c k).2)], k + 1) else splitK r c k).2)
    rw [e, ih']
    have hd : (x ++ c :: r).drop (x.length + 1 + (splitK r c k).2) = r.drop (splitK r c k).2 := by
      have : x ++ c :: r = (x ++ [c]) ++ r := by simp
      rw [this, show x.length + 1 + (splitK r c k).2 = (x ++ [c]).length + (splitK r c k).2 by simp, List.drop_append]
      simp
    by_cases hc : (r.getD k 0 == c) = true
    · rw [if_pos hc, if_pos hc]
      simp only [hd]
      have : x.length + 1 + k - (x.length + 1 + (splitK r c k).2) = k - (splitK r c k).2 := by omega
      rw [this]
      simp; omega
    · rw [if_neg hc, if_neg hc]
theorem split_cons (x r : List UInt8) (c : UInt8) (hx : ∀ y ∈ x, (y == c) = false) : splitL (x ++ c :: r) c = x :: splitL r c := by
  have h := splitK_shift x r c hx r.length (Nat.le_refl _)
  have e : (x ++ c :: r).length = x.length + 1 + r.length := by simp; omega
  unfold splitL
  rw [e, h]
  have hd : (x ++ c :: r).drop (x.length + 1 + (splitK r c r.length).2) = r.drop (splitK r c r.length).2 := by
    have : x ++ c :: r = (x ++ [c]) ++ r := by simp
    rw [this, show x.length + 1 + (splitK r c r.length).2 = (x ++ [c]).length + (splitK r c r.length).2 by simp, List.drop_append]
    simp
  simp [hd]
theorem split_one (x : List UInt8) (c : UInt8) (hx : ∀ y ∈ x, (y == c) = false) : splitL x c = [x] := by
  have h0 : ∀ j, j ≤ x.length → splitK x c j = ([], 0) := by
    intro j
    induction j with
    | zero => intro _; rfl
    | succ j ih =>
      intro hj
      have hlt : j < x.length := by omega
      have e : x.getD j 0 = x[j] := by simp [List.getD, hlt]
      show (if (x.getD j 0 == c) = true then _ else splitK x c j) = _
      rw [e, hx _ (List.getElem_mem hlt)]
      simpa using ih (by omega)
  unfold splitL
  rw [h0 _ (Nat.le_refl _)]
  rfl

theorem split_join (c : UInt8) : ∀ (P : List (List UInt8)), P ≠ [] → (∀ x ∈ P, ∀ y ∈ x, (y == c) = false) → splitL (joinL c P) c = P
  | [], h, _ => absurd rfl h
  | [x], _, h => split_one x c (h x (by simp))
  | x :: y :: r, _, h => by
    show splitL (x ++ c :: joinL c (y :: r)) c = _
    rw [split_cons x _ c (h x (by simp)), split_join c (y :: r) (by simp) (fun z hz => h z (List.mem_cons_of_mem _ hz))]
theorem join_parts (c : UInt8) : ∀ (P Q : List (List UInt8)), P ≠ [] → Q ≠ [] → joinL c (P ++ Q) = joinL c P ++ c :: joinL c Q
  | [], _, h, _ => absurd rfl h
  | [x], q :: Q, _, _ => rfl
  | [x], [], _, h => absurd rfl h
  | x :: y :: r, Q, _, hq => by
    show x ++ c :: joinL c ((y :: r) ++ Q) = (x ++ c :: joinL c (y :: r)) ++ c :: joinL c Q
    rw [join_parts c (y :: r) Q (by simp) hq]
    simp

theorem label_dot {x : List UInt8} (h : labelB x = true) : ∀ y ∈ x, (y == 46) = false := by
  unfold labelB at h
  simp only [Bool.and_eq_true] at h
  intro y hy
  have hs := List.all_eq_true.1 h.2 y hy
  rw [beq_eq_false_iff_ne]
  rintro rfl
  exact absurd hs (by decide)

/-- What is behind a name's first i labels. -/
def tailL (s : List UInt8) (i : Nat) : List UInt8 := joinL 46 ((splitL s 46).drop i)
theorem tail_zero (s : List UInt8) : tailL s 0 = s := by
  unfold tailL
  rw [List.drop_zero, joinL_all]
theorem name_labels {s : List UInt8} (h : nameB s = true) : s.length ≤ 256 ∧ quadB s = false ∧ (splitL s 46).all labelB = true := by
  unfold nameB at h
  simp only [Bool.and_eq_true, decide_eq_true_iff, Bool.not_eq_true'] at h
  exact ⟨h.1.1, h.1.2, h.2⟩
theorem tail_split {s : List UInt8} (h : (splitL s 46).all labelB = true) (i : Nat) (hi : i < (splitL s 46).length) : splitL (tailL s i) 46 = (splitL s 46).drop i := by
  refine split_join 46 _ (fun c => ?_) (fun x hx => label_dot (List.all_eq_true.1 h x (List.mem_of_mem_drop hx)))
  have := congrArg List.length c
  rw [List.length_drop, List.length_nil] at this
  omega
theorem tail_at {s : List UInt8} (i : Nat) (h0 : 0 < i) (hi : i < (splitL s 46).length) : s = joinL 46 ((splitL s 46).take i) ++ 46 :: tailL s i := by
  unfold tailL
  rw [← join_parts 46 _ _ (fun c => ?_) (fun c => ?_), List.take_append_drop, joinL_all]
  · have := congrArg List.length c
    rw [List.length_take, List.length_nil] at this
    omega
  · have := congrArg List.length c
    rw [List.length_drop, List.length_nil] at this
    omega
theorem tail_below {s : List UInt8} (i : Nat) (h0 : 0 < i) (hi : i < (splitL s 46).length) : belowB s (tailL s i) = true := by
  have e := tail_at i h0 hi
  generalize tailL s i = t at *
  generalize joinL 46 ((splitL s 46).take i) = p at *
  clear hi h0
  subst e
  unfold belowB
  have h1 : (p ++ 46 :: t).length = p.length + 1 + t.length := by simp; omega
  rw [h1]
  have h2 : p.length + 1 + t.length - t.length - 1 = p.length := by omega
  have h3 : p.length + 1 + t.length - t.length = p.length + 1 := by omega
  rw [h2, h3]
  have h4 : (p ++ 46 :: t).getD p.length 0 = 46 := by simp [List.getD]
  have h5 : (p ++ 46 :: t).drop (p.length + 1) = t := by
    have : p ++ 46 :: t = (p ++ [46]) ++ t := by simp
    rw [this, show p.length + 1 = (p ++ [46]).length by simp, List.drop_left]
  rw [h4, h5]
  simp
theorem tail_canon {s : List UInt8} (h : nameB s = true) (i : Nat) (hi : i < (splitL s 46).length) : canonB (tailL s i) = true := by
  obtain ⟨h1, h2, h3⟩ := name_labels h
  have hlen : (tailL s i).length ≤ 256 := by
    rcases Nat.eq_zero_or_pos i with rfl | h0
    · rw [tail_zero]; exact h1
    · have := (below_len (tail_below i h0 hi)).1; omega
  have hs := tail_split h3 i hi
  unfold canonB addrB nameB
  rw [hs, decide_eq_true hlen]
  have : ((splitL s 46).drop i).all labelB = true := List.all_eq_true.2 fun x hx => List.all_eq_true.1 h3 x (List.mem_of_mem_drop hx)
  rw [this]
  cases quadB (tailL s i) <;> simp
theorem tail_match {s : List UInt8} (h : nameB s = true) (i : Nat) (hi : i < (splitL s 46).length) : matchB s (tailL s i) = true := by
  have hc : canonB s = true := by
    have := tail_canon h 0 (by omega)
    rwa [tail_zero] at this
  unfold matchB
  rw [hc, tail_canon h i hi]
  rcases Nat.eq_zero_or_pos i with rfl | h0
  · rw [tail_zero]; simp
  · rw [h, tail_below i h0 hi]; simp
/-- The next domain is the one ahead without its first label. -/
theorem tail_next {s : List UInt8} (i : Nat) (hi : i + 1 < (splitL s 46).length) : tailL s i = (splitL s 46).getD i [] ++ 46 :: tailL s (i + 1) := by
  unfold tailL
  have e : (splitL s 46).drop i = (splitL s 46).getD i [] :: (splitL s 46).drop (i + 1) := by
    rw [List.drop_eq_getElem_cons (by omega)]
    simp [List.getD, show i < (splitL s 46).length by omega]
  rw [e]
  cases c : (splitL s 46).drop (i + 1) with
  | nil =>
    have := congrArg List.length c
    rw [List.length_drop, List.length_nil] at this
    omega
  | cons y r => rfl
end Go.Proofs.YtjcilpedpimdcaaDoor

/- Headers in plain words: the pair, the attributes, the text that is parted so. No program in it. -/
namespace Go.Proofs.YtjcilpedpimdcaaDoor
set_option linter.unusedVariables false

/-- A text's name and value. -/
def pairL (s : List UInt8) : List UInt8 × List UInt8 :=
  if s.findIdx (· == 61) = s.length then (trimL s, []) else (trimL (s.take (s.findIdx (· == 61))), trimL (s.drop (s.findIdx (· == 61) + 1)))

/-- A header, parted. -/
def parseH (s : List UInt8) : (List UInt8 × List UInt8) × List (List UInt8 × List UInt8) × Int :=
  if 4096 < s.length then (([], []), [], 3)
  else if s.any ctl = true then (([], []), [], 1)
  else if ((splitL s 59).getD 0 []).findIdx (· == 61) = ((splitL s 59).getD 0 []).length ∨ (pairL ((splitL s 59).getD 0 [])).1 = [] then (([], []), [], 1)
  else if 256 < (pairL ((splitL s 59).getD 0 [])).1.length ∨ 1024 < (pairL ((splitL s 59).getD 0 [])).2.length then (([], []), [], 3)
  else (pairL ((splitL s 59).getD 0 []), ((splitL s 59).drop 1).map pairL, 0)

/-- The last attribute of a name. -/
def findH (L : List (List UInt8 × List UInt8)) (name : List UInt8) : List UInt8 × Bool :=
  L.foldl (fun a x => if (x.1.map low == name.map low) = true then (x.2, true) else a) ([], false)

def attrT (x : List UInt8 × List UInt8) : List UInt8 := 32 :: (x.1 ++ (if x.2 = [] then [] else 61 :: x.2))
def pairT (p : List UInt8 × List UInt8) : List UInt8 := p.1 ++ 61 :: p.2
def textH (p : List UInt8 × List UInt8) (L : List (List UInt8 × List UInt8)) : List UInt8 := joinL 59 (pairT p :: L.map attrT)

def printH (p : List UInt8 × List UInt8) (L : List (List UInt8 × List UInt8)) : List UInt8 × Int :=
  if parseH (textH p L) = (p, L, 0) then (textH p L, 0) else ([], 1)

theorem findH_take {L : List (List UInt8 × List UInt8)} {name : List UInt8} {k : Nat} (hk : k < L.length) : findH (L.take (k + 1)) name = if (L[k].1.map low == name.map low) = true then (L[k].2, true) else findH (L.take k) name := by
  unfold findH
  rw [List.take_succ_eq_append_getElem hk, List.foldl_append]
  rfl

theorem textH_zero (p : List UInt8 × List UInt8) : textH p [] = pairT p := rfl

theorem textH_take {p : List UInt8 × List UInt8} {L : List (List UInt8 × List UInt8)} {k : Nat} (hk : k < L.length) : textH p (L.take (k + 1)) = textH p (L.take k) ++ 59 :: attrT L[k] := by
  unfold textH
  rw [List.take_succ_eq_append_getElem hk, List.map_append]
  have := joinL_snoc 59 (pairT p :: (L.take k).map attrT) (attrT L[k]) (by simp)
  simpa using this

theorem text_le (p : List UInt8 × List UInt8) (L : List (List UInt8 × List UInt8)) (k : Nat) : (textH p (L.take k)).length ≤ (textH p L).length := by
  have := joinL_le 59 (pairT p :: (L.take k).map attrT) ((L.drop k).map attrT)
  unfold textH
  have e : pairT p :: L.map attrT = (pairT p :: (L.take k).map attrT) ++ (L.drop k).map attrT := by
    rw [List.cons_append, ← List.map_append, List.take_append_drop]
  rw [e]
  exact this

/-- How long a text of few and short parts is. -/
theorem text_len (p : List UInt8 × List UInt8) (hp : p.1.length ≤ 300 ∧ p.2.length ≤ 1100) : ∀ (L : List (List UInt8 × List UInt8)), (∀ x ∈ L, x.1.length ≤ 300 ∧ x.2.length ≤ 1100) → (textH p L).length ≤ 1401 + L.length * 1403 := by
  have key : ∀ (L : List (List UInt8 × List UInt8)), (∀ x ∈ L, x.1.length ≤ 300 ∧ x.2.length ≤ 1100) → ∀ q : List UInt8, (joinL 59 (q :: L.map attrT)).length ≤ q.length + L.length * 1403 := by
    intro L
    induction L with
    | nil => intro _ q; simp [joinL]
    | cons x r ih =>
      intro h q
      have h1 := ih (fun y hy => h y (List.mem_cons_of_mem _ hy)) (attrT x)
      have h2 := h x List.mem_cons_self
      have h3 : (attrT x).length ≤ 1402 := by
        unfold attrT
        split <;> simp <;> omega
      have e : joinL 59 (q :: (x :: r).map attrT) = q ++ 59 :: joinL 59 (attrT x :: r.map attrT) := rfl
      rw [e, List.length_append, List.length_cons, List.length_cons]
      omega
  intro L h
  have := key L h (pairT p)
  have h2 : (pairT p).length ≤ 1401 := by unfold pairT; simp; omega
  unfold textH
  omega

/-- The parts of a text hold no sign that they are parted by. -/
theorem split_no (c : UInt8) : ∀ (n : Nat) (l : List UInt8), l.length ≤ n → ∀ x ∈ splitL l c, ∀ y ∈ x, (y == c) = false
  | n, l, hn => by
    by_cases h : c ∈ l
    · obtain ⟨x, r, rfl, hx⟩ := List.eq_append_cons_of_mem h
      have hx' : ∀ y ∈ x, (y == c) = false := fun y hy => beq_eq_false_iff_ne.2 fun e => hx (e ▸ hy)
      match n, hn with
      | n + 1, hn =>
        rw [split_cons x _ c hx']
        intro z hz
        rcases List.mem_cons.1 hz with rfl | hz
        · exact hx'
        · exact split_no c n r (by simp at hn; omega) z hz
      | 0, hn => simp at hn
    · have hx' : ∀ y ∈ l, (y == c) = false := fun y hy => beq_eq_false_iff_ne.2 fun e => h (e ▸ hy)
      rw [split_one l c hx']
      intro z hz
      rw [List.mem_singleton.1 hz]
      exact hx'

theorem part_len (l : List UInt8) (c : UInt8) (k : Nat) (hk : k < (splitL l c).length) : ((splitL l c).getD k []).length ≤ l.length := by
  have h : (splitL l c).getD k [] ∈ splitL l c := by
    simp only [List.getD, List.getElem?_eq_getElem hk, Option.getD_some]
    exact List.getElem_mem _
  have := mem_join_le c _ _ h
  rw [joinL_all] at this
  exact this

theorem split_mem {c : UInt8} {l x : List UInt8} (h : x ∈ splitL l c) {y : UInt8} (hy : y ∈ x) : y ∈ l := by
  have := joinL_all l c
  rw [← this]
  have key : ∀ (P : List (List UInt8)), x ∈ P → y ∈ joinL c P := by
    intro P
    induction P with
    | nil => intro h; cases h
    | cons q r ih =>
      intro h
      cases r with
      | nil =>
        rw [List.mem_singleton.1 h] at hy
        exact hy
      | cons z r =>
        show y ∈ q ++ c :: joinL c (z :: r)
        rcases List.mem_cons.1 h with rfl | h
        · exact List.mem_append_left _ hy
        · exact List.mem_append_right _ (List.mem_cons_of_mem _ (ih h))
  exact key _ h

theorem find_none {l : List UInt8} {c : UInt8} (h : ∀ y ∈ l, (y == c) = false) : l.findIdx (· == c) = l.length := by
  rw [List.findIdx_eq_length]
  exact h

theorem find_first {a b : List UInt8} {c : UInt8} (h : ∀ y ∈ a, (y == c) = false) : (a ++ c :: b).findIdx (· == c) = a.length := by
  refine findIdx_at (fun j hj => ?_) (by simp) ?_
  · rw [getD_left hj]
    simp only [List.getD, List.getElem?_eq_getElem hj, Option.getD_some]
    exact h _ (List.getElem_mem hj)
  · have := getD_right (a := a) (b := c :: b) 0
    rw [Nat.add_zero] at this
    rw [this]
    simp [List.getD]

/-- A pair that may be printed. -/
structure Fine (x : List UInt8 × List UInt8) : Prop where
  name : trimmed x.1
  value : trimmed x.2
  eq1 : ∀ y ∈ x.1, (y == 61) = false
  semi1 : ∀ y ∈ x.1, (y == 59) = false
  semi2 : ∀ y ∈ x.2, (y == 59) = false
  ctl1 : ∀ y ∈ x.1, ctl y = false
  ctl2 : ∀ y ∈ x.2, ctl y = false

theorem pair_fine {s : List UInt8} (h1 : ∀ y ∈ s, (y == 59) = false) (h2 : ∀ y ∈ s, ctl y = false) : Fine (pairL s) := by
  unfold pairL
  split
  · rename_i h
    have hn : ∀ y ∈ s, (y == 61) = false := by
      have := List.findIdx_eq_length.1 h
      exact this
    exact ⟨trim_trimmed _, .inl rfl, fun y hy => hn y (trim_mem hy), fun y hy => h1 y (trim_mem hy), fun y hy => absurd hy (by simp), fun y hy => h2 y (trim_mem hy), fun y hy => absurd hy (by simp)⟩
  · have hn : ∀ y ∈ s.take (s.findIdx (· == 61)), (y == 61) = false := fun y hy => by
      obtain ⟨i, hi, rfl⟩ := List.getElem_of_mem hy
      rw [List.length_take] at hi
      rw [List.getElem_take]
      have := List.not_of_lt_findIdx (p := (· == 61)) (xs := s) (i := i) (by omega)
      simpa using this
    exact ⟨trim_trimmed _, trim_trimmed _, fun y hy => hn y (trim_mem hy), fun y hy => h1 y (List.mem_of_mem_take (trim_mem hy)), fun y hy => h1 y (List.mem_of_mem_drop (trim_mem hy)), fun y hy => h2 y (List.mem_of_mem_take (trim_mem hy)), fun y hy => h2 y (List.mem_of_mem_drop (trim_mem hy))⟩

theorem pair_pairT {p : List UInt8 × List UInt8} (h : Fine p) : pairL (pairT p) = p ∧ (pairT p).findIdx (· == 61) ≠ (pairT p).length := by
  have hf : (pairT p).findIdx (· == 61) = p.1.length := find_first h.eq1
  have hl : (pairT p).length = p.1.length + p.2.length + 1 := by unfold pairT; simp; omega
  refine ⟨?_, by rw [hf, hl]; omega⟩
  unfold pairL
  rw [hf, if_neg (by rw [hl]; omega)]
  unfold pairT
  have e : p.1 ++ 61 :: p.2 = (p.1 ++ [61]) ++ p.2 := by simp
  have e2 : p.1.length + 1 = (p.1 ++ [61]).length := by simp
  rw [List.take_left, e2, e, List.drop_left, trim_self h.name, trim_self h.value]

theorem pair_attrT {x : List UInt8 × List UInt8} (h : Fine x) : pairL (attrT x) = x := by
  unfold attrT
  by_cases hv : x.2 = []
  · rw [if_pos hv, List.append_nil]
    have hf : (32 :: x.1).findIdx (· == 61) = (32 :: x.1).length := find_none fun y hy => by
      rcases List.mem_cons.1 hy with rfl | hy
      · rfl
      · exact h.eq1 y hy
    unfold pairL
    rw [if_pos hf, trim_space h.name, ← hv]
  · rw [if_neg hv]
    have h0 : ∀ y ∈ 32 :: x.1, (y == 61) = false := fun y hy => by
      rcases List.mem_cons.1 hy with rfl | hy
      · rfl
      · exact h.eq1 y hy
    have hf : ((32 :: x.1) ++ 61 :: x.2).findIdx (· == 61) = (32 :: x.1).length := find_first h0
    rw [← List.cons_append]
    unfold pairL
    rw [hf, if_neg (by simp)]
    have e : (32 :: x.1) ++ 61 :: x.2 = ((32 :: x.1) ++ [61]) ++ x.2 := by simp
    have e2 : (32 :: x.1).length + 1 = ((32 :: x.1) ++ [61]).length := by simp
    rw [List.take_left, e2, e, List.drop_left, trim_space h.name, trim_self h.value]

theorem pairT_mem {p : List UInt8 × List UInt8} {y : UInt8} (h : y ∈ pairT p) : y ∈ p.1 ∨ y = 61 ∨ y ∈ p.2 := by
  unfold pairT at h
  rcases List.mem_append.1 h with h | h
  · exact .inl h
  · rcases List.mem_cons.1 h with h | h
    · exact .inr (.inl h)
    · exact .inr (.inr h)

theorem attrT_mem {p : List UInt8 × List UInt8} {y : UInt8} (h : y ∈ attrT p) : y = 32 ∨ y ∈ p.1 ∨ y = 61 ∨ y ∈ p.2 := by
  unfold attrT at h
  rcases List.mem_cons.1 h with h | h
  · exact .inl h
  · rcases List.mem_append.1 h with h | h
    · exact .inr (.inl h)
    · split at h
      · cases h
      · rcases List.mem_cons.1 h with h | h
        · exact .inr (.inr (.inl h))
        · exact .inr (.inr (.inr h))

theorem mem_joined (c : UInt8) : ∀ (P : List (List UInt8)) (x : UInt8), x ∈ joinL c P → x = c ∨ ∃ p ∈ P, x ∈ p
  | [], x, h => by cases h
  | [q], x, h => .inr ⟨q, by simp, h⟩
  | q :: r :: s, x, h => by
    have h : x ∈ q ++ c :: joinL c (r :: s) := h
    rcases List.mem_append.1 h with h | h
    · exact .inr ⟨q, by simp, h⟩
    · rcases List.mem_cons.1 h with h | h
      · exact .inl h
      · rcases mem_joined c (r :: s) x h with h | ⟨p, hp, h⟩
        · exact .inl h
        · exact .inr ⟨p, List.mem_cons_of_mem _ hp, h⟩

/-- Fine parts are parted as they were. -/
theorem parse_text {p : List UInt8 × List UInt8} {L : List (List UInt8 × List UInt8)} (hp : Fine p) (hL : ∀ x ∈ L, Fine x) (h0 : p.1 ≠ []) (h1 : p.1.length ≤ 256) (h2 : p.2.length ≤ 1024) (hlen : (textH p L).length ≤ 4096) : parseH (textH p L) = (p, L, 0) := by
  have hs : splitL (textH p L) 59 = pairT p :: L.map attrT := by
    unfold textH
    refine split_join 59 _ (by simp) ?_
    intro x hx y hy
    rcases List.mem_cons.1 hx with rfl | hx
    · rcases pairT_mem hy with h | rfl | h
      · exact hp.semi1 y h
      · rfl
      · exact hp.semi2 y h
    · obtain ⟨a, ha, rfl⟩ := List.mem_map.1 hx
      rcases attrT_mem hy with rfl | h | rfl | h
      · rfl
      · exact (hL a ha).semi1 y h
      · rfl
      · exact (hL a ha).semi2 y h
  have hc : (textH p L).any ctl = false := by
    rw [List.any_eq_false]
    intro y hy
    unfold textH at hy
    have := mem_joined 59 _ y hy
    rcases this with rfl | ⟨x, hx, hy⟩
    · decide
    · rcases List.mem_cons.1 hx with rfl | hx
      · rcases pairT_mem hy with h | rfl | h
        · rw [hp.ctl1 y h]; decide
        · decide
        · rw [hp.ctl2 y h]; decide
      · obtain ⟨a, ha, rfl⟩ := List.mem_map.1 hx
        rcases attrT_mem hy with rfl | h | rfl | h
        · decide
        · rw [(hL a ha).ctl1 y h]; decide
        · decide
        · rw [(hL a ha).ctl2 y h]; decide
  obtain ⟨e1, e2⟩ := pair_pairT hp
  unfold parseH
  rw [if_neg (by omega), if_neg (by rw [hc]; decide), hs]
  have e3 : (pairT p :: L.map attrT).getD 0 [] = pairT p := rfl
  rw [e3, e1, if_neg (fun h => h.elim e2 h0), if_neg (by omega)]
  have e4 : ((pairT p :: L.map attrT).drop 1).map pairL = L := by
    rw [List.drop_one, List.tail_cons, List.map_map]
    have : ∀ x ∈ L, (pairL ∘ attrT) x = id x := fun x hx => pair_attrT (hL x hx)
    rw [List.map_congr_left this, List.map_id]
  rw [e4]

/-- What was parted may be printed. -/
theorem parse_fine {s : List UInt8} (h : (parseH s).2.2 = 0) : Fine (parseH s).1 ∧ (∀ x ∈ (parseH s).2.1, Fine x) ∧ (parseH s).1.1 ≠ [] ∧ (parseH s).1.1.length ≤ 256 ∧ (parseH s).1.2.length ≤ 1024 := by
  unfold parseH at h ⊢
  split at h
  · cases h
  · rename_i h1
    rw [if_neg h1]
    split at h
    · cases h
    · rename_i h2
      rw [if_neg h2]
      split at h
      · cases h
      · rename_i h3
        rw [if_neg h3]
        split at h
        · cases h
        · rename_i h4
          rw [if_neg h4]
          have hc : ∀ y ∈ s, ctl y = false := by simpa using h2
          have hf : ∀ x ∈ splitL s 59, Fine (pairL x) := fun x hx => pair_fine (split_no 59 s.length s (Nat.le_refl _) x hx) fun y hy => hc y (split_mem hx hy)
          refine ⟨hf _ ?_, fun x hx => ?_, fun e => h3 (.inr e), by dsimp only; omega, by dsimp only; omega⟩
          · have := splitL_pos s 59
            simp only [List.getD, List.getElem?_eq_getElem (show 0 < (splitL s 59).length by omega), Option.getD_some]
            exact List.getElem_mem _
          · obtain ⟨y, hy, rfl⟩ := List.mem_map.1 hx
            exact hf y (List.mem_of_mem_drop hy)

theorem print_back {s : List UInt8} (h : (parseH s).2.2 = 0) (hlen : (textH (parseH s).1 (parseH s).2.1).length ≤ 4096) :
    printH (parseH s).1 (parseH s).2.1 = (textH (parseH s).1 (parseH s).2.1, 0) ∧ parseH (textH (parseH s).1 (parseH s).2.1) = ((parseH s).1, (parseH s).2.1, 0) := by
  obtain ⟨a, b, c, d, e⟩ := parse_fine h
  have := parse_text a b c d e hlen
  exact ⟨by unfold printH; rw [if_pos this], this⟩

theorem parse_err (s : List UInt8) : ((parseH s).2.2 = 0 ∨ (parseH s).2.2 = 1 ∨ (parseH s).2.2 = 3) ∧ ((parseH s).2.2 ≠ 0 → (parseH s).1 = ([], []) ∧ (parseH s).2.1 = []) := by
  unfold parseH
  split
  · exact ⟨.inr (.inr rfl), fun _ => ⟨rfl, rfl⟩⟩
  · split
    · exact ⟨.inr (.inl rfl), fun _ => ⟨rfl, rfl⟩⟩
    · split
      · exact ⟨.inr (.inl rfl), fun _ => ⟨rfl, rfl⟩⟩
      · split
        · exact ⟨.inr (.inr rfl), fun _ => ⟨rfl, rfl⟩⟩
        · exact ⟨.inl rfl, fun h => absurd rfl h⟩
end Go.Proofs.YtjcilpedpimdcaaDoor

/- The calendar in plain words: leap years, a day's number, the day of a number. No program in it. -/
namespace Go.Proofs.YtjcilpedpimdcaaDoor
open Go.RowKit
set_option linter.unusedVariables false

def leapB (y : Int) : Bool := (y.tmod 4 == 0 && !(y.tmod 100 == 0)) || y.tmod 400 == 0

def mlen : List Int := [31, 28, 31, 30, 31, 30, 31, 31, 30, 31, 30, 31]

/-- How many days month M + 1 has. -/
def longI (y : Int) (M : Nat) : Int := if M = 1 ∧ leapB y = true then 29 else mlen.getD M 0

/-- How many days the first M months have. -/
def mdays (y : Int) : Nat → Int
  | 0 => 0
  | M + 1 => mdays y M + longI y M

/-- How many days the years from 1 on ahead of y have. -/
def aheadI (y : Int) : Int := (y - 1) * 365 + (y - 1) / 4 - (y - 1) / 100 + (y - 1) / 400

def startI (y : Int) : Int := aheadI y - 719162

def daysI (y : Int) (M : Nat) (d : Int) : Int := startI y + mdays y M + d - 1

theorem leap_iff (y : Int) (h : 0 ≤ y) : leapB y = decide ((y % 4 = 0 ∧ y % 100 ≠ 0) ∨ y % 400 = 0) := by
  unfold leapB
  rw [Int.tmod_eq_emod_of_nonneg h, Int.tmod_eq_emod_of_nonneg h, Int.tmod_eq_emod_of_nonneg h]
  rw [Bool.eq_iff_iff]
  simp

theorem longI_le (y : Int) (M : Nat) (h : M < 12) : 28 ≤ longI y M ∧ longI y M ≤ 31 := by
  unfold longI
  by_cases c : M = 1 ∧ leapB y = true
  · rw [if_pos c]; omega
  · rw [if_neg c]
    have : ∀ M, M < 12 → 28 ≤ mlen.getD M 0 ∧ mlen.getD M 0 ≤ 31 := by decide
    exact this M h

theorem mdays_le (y : Int) (k : Nat) : ∀ j, j ≤ 12 → k < j → mdays y k + longI y k ≤ mdays y j := by
  intro j
  induction j with
  | zero => intro _ h; omega
  | succ j ih =>
    intro h1 h2
    show _ ≤ mdays y j + longI y j
    have := (longI_le y j (by omega)).1
    by_cases c : k = j
    · subst c; omega
    · have := ih (by omega) (by omega); omega

theorem mdays_pos (y : Int) (M : Nat) (h : M ≤ 12) : 28 * (M : Int) ≤ mdays y M ∧ mdays y M ≤ 31 * (M : Int) := by
  induction M with
  | zero => simp [mdays]
  | succ k ih =>
    have h1 := ih (by omega)
    have h2 := longI_le y k (by omega)
    show _ ≤ mdays y k + longI y k ∧ mdays y k + longI y k ≤ _
    push_cast
    omega

theorem mdays12 (y : Int) : mdays y 12 = if leapB y = true then 366 else 365 := by
  simp only [mdays, longI]
  cases leapB y <;> decide

theorem start_succ (y : Int) (h : 1 ≤ y) : startI (y + 1) = startI y + mdays y 12 := by
  rw [mdays12, leap_iff y (by omega)]
  unfold startI aheadI
  by_cases c : (y % 4 = 0 ∧ y % 100 ≠ 0) ∨ y % 400 = 0
  · simp only [c, decide_true, if_true]
    omega
  · simp only [c, decide_false]
    simp
    omega

theorem start_le (y : Int) (k : Nat) (h : 1 ≤ y) : startI y + 365 * k ≤ startI (y + k) ∧ startI (y + k) ≤ startI y + 366 * k := by
  induction k with
  | zero => simp
  | succ k ih =>
    have e : y + ((k + 1 : Nat) : Int) = (y + (k : Int)) + 1 := by push_cast; omega
    rw [e, start_succ _ (by omega), mdays12]
    push_cast
    split <;> omega

theorem start_lt (y z : Int) (h : 1 ≤ y) (hz : y < z) : startI y + mdays y 12 ≤ startI z := by
  obtain ⟨k, rfl⟩ : ∃ k : Nat, z = (y + 1) + (k : Int) := ⟨(z - y - 1).toNat, by omega⟩
  have h1 := (start_le (y + 1) k (by omega)).1
  rw [start_succ y h] at h1
  omega

theorem year_of (n : Int) : ∀ K : Nat, startI 1601 ≤ n → n < startI (1601 + (K : Int)) → ∃ k : Nat, k < K ∧ startI (1601 + (k : Int)) ≤ n ∧ n < startI (1601 + (k : Int) + 1) := by
  intro K
  induction K with
  | zero => intro h1 h2; simp at h2; omega
  | succ K ih =>
    intro h1 h2
    by_cases c : n < startI (1601 + (K : Int))
    · obtain ⟨k, hk, h3, h4⟩ := ih h1 c
      exact ⟨k, by omega, h3, h4⟩
    · refine ⟨K, by omega, by omega, ?_⟩
      have e : (1601 + (K : Int) + 1) = 1601 + ((K + 1 : Nat) : Int) := by push_cast; omega
      rw [e]
      exact h2

theorem month_of (y r : Int) : ∀ K : Nat, 0 ≤ r → r < mdays y K → ∃ k : Nat, k < K ∧ mdays y k ≤ r ∧ r < mdays y (k + 1) := by
  intro K
  induction K with
  | zero => intro h1 h2; simp [mdays] at h2; omega
  | succ K ih =>
    intro h1 h2
    by_cases c : r < mdays y K
    · obtain ⟨k, hk, h3, h4⟩ := ih h1 c
      exact ⟨k, by omega, h3, h4⟩
    · exact ⟨K, by omega, by omega, h2⟩

/-- There is such a day. -/
structure RightI (y : Int) (M : Nat) (d : Int) : Prop where
  y0 : 1601 ≤ y
  y1 : y ≤ 9999
  m : M < 12
  d0 : 1 ≤ d
  d1 : d ≤ longI y M

theorem start1601 : startI 1601 = -134774 := by decide
theorem start10000 : startI 10000 = 2932897 := by decide

theorem civil_ex (n : Int) (h0 : -134774 ≤ n) (h1 : n < 2932897) : ∃ y M d, RightI y M d ∧ n = daysI y M d := by
  have e : (1601 + ((8399 : Nat) : Int)) = 10000 := by decide
  obtain ⟨k, hk, h2, h3⟩ := year_of n 8399 (by rw [start1601]; exact h0) (by rw [e, start10000]; exact h1)
  rw [start_succ _ (by omega)] at h3
  obtain ⟨M, hM, h4, h5⟩ := month_of (1601 + (k : Int)) (n - startI (1601 + (k : Int))) 12 (by omega) (by omega)
  have h6 : n - startI (1601 + (k : Int)) < mdays (1601 + (k : Int)) M + longI (1601 + (k : Int)) M := h5
  exact ⟨1601 + (k : Int), M, n - startI (1601 + (k : Int)) - mdays (1601 + (k : Int)) M + 1, ⟨by omega, by omega, hM, by omega, by omega⟩, by unfold daysI; omega⟩

theorem days_in {y : Int} {M : Nat} {d : Int} (h : RightI y M d) : startI y ≤ daysI y M d ∧ daysI y M d < startI (y + 1) ∧ -134774 ≤ daysI y M d ∧ daysI y M d < 2932897 := by
  obtain ⟨h1, h2, h3, h4, h5⟩ := h
  have a := mdays_le y M 12 (by omega) h3
  have b := (mdays_pos y M (by omega)).1
  have c := start_succ y (by omega)
  have lo : startI 1601 ≤ startI y := by
    rcases Int.lt_or_eq_of_le h1 with h | h
    · have := start_lt 1601 y (by omega) h
      have := (mdays_pos 1601 12 (by omega)).1
      omega
    · rw [h]; omega
  have hi : startI (y + 1) ≤ startI 10000 := by
    rcases Int.lt_or_eq_of_le (show y + 1 ≤ 10000 by omega) with h | h
    · have := start_lt (y + 1) 10000 (by omega) h
      have := (mdays_pos (y + 1) 12 (by omega)).1
      omega
    · rw [h]; omega
  rw [start1601] at lo
  rw [start10000] at hi
  unfold daysI
  omega

/-- The next day. -/
theorem next_day (y : Int) (M : Nat) (d : Int) : daysI y M d + 1 = daysI y M (d + 1) := by unfold daysI; omega
theorem next_month (y : Int) (M : Nat) : daysI y M (longI y M) + 1 = daysI y (M + 1) 1 := by
  unfold daysI
  show _ = startI y + (mdays y M + longI y M) + 1 - 1
  omega
theorem next_year (y : Int) (h : 1 ≤ y) : daysI y 11 (longI y 11) + 1 = daysI (y + 1) 0 1 := by
  rw [next_month]
  unfold daysI
  rw [start_succ y h]
  show startI y + mdays y 12 + 1 - 1 = startI y + mdays y 12 + 0 + 1 - 1
  omega
end Go.Proofs.YtjcilpedpimdcaaDoor

/- A cookie's date in plain words: tokens, what each tells, what all tell. No program in it. -/
namespace Go.Proofs.YtjcilpedpimdcaaDoor
open Go.RowKit
set_option linter.unusedVariables false

def delim (x : UInt8) : Bool := decide (x.toNat = 9) || (decide (32 ≤ x.toNat) && decide (x.toNat ≤ 47)) || (decide (59 ≤ x.toNat) && decide (x.toNat ≤ 64)) || (decide (91 ≤ x.toNat) && decide (x.toNat ≤ 96)) || (decide (123 ≤ x.toNat) && decide (x.toNat ≤ 126))

/-- The tokens of t, in which there is no delimiter, and what comes behind it. -/
def tok : List UInt8 → List UInt8 → List (List UInt8)
  | t, [] => if t.isEmpty then [] else [t]
  | t, x :: r => if delim x then (if t.isEmpty then tok [] r else t :: tok [] r) else tok (t ++ [x]) r

def skipD (l : List UInt8) : List UInt8 := l.drop (l.findIdx fun x => !delim x)
def wordD (l : List UInt8) : List UInt8 := (skipD l).take ((skipD l).findIdx delim)
def restD (l : List UInt8) : List UInt8 := (skipD l).drop ((skipD l).findIdx delim)

theorem tok_run : ∀ (r t : List UInt8), t ≠ [] → tok t r = (t ++ r.take (r.findIdx delim)) :: tok [] (r.drop (r.findIdx delim)) := by
  intro r
  induction r with
  | nil => intro t ht; simp [tok, ht]
  | cons x r ih =>
    intro t ht
    by_cases c : delim x = true
    · simp [tok, c, ht, List.findIdx_cons]
    · have c' : delim x = false := by simpa using c
      rw [tok, if_neg c, ih _ (by simp)]
      simp [List.findIdx_cons, c']

theorem tok_next (l : List UInt8) : tok [] l = if wordD l = [] then [] else wordD l :: tok [] (restD l) := by
  induction l with
  | nil => simp [tok, wordD, skipD]
  | cons x r ih =>
    by_cases c : delim x = true
    · have e : skipD (x :: r) = skipD r := by simp [skipD, List.findIdx_cons, c]
      have e1 : tok [] (x :: r) = tok [] r := by simp [tok, c]
      rw [e1, ih]
      unfold wordD restD
      rw [e]
    · have c' : delim x = false := by simpa using c
      have e : skipD (x :: r) = x :: r := by simp [skipD, List.findIdx_cons, c']
      have e1 : tok [] (x :: r) = tok [x] r := by simp [tok, c']
      rw [e1, tok_run r [x] (by simp)]
      unfold wordD restD
      rw [e]
      simp [List.findIdx_cons, c']

theorem word_rest (l : List UInt8) : (wordD l).length + (restD l).length ≤ l.length := by
  unfold wordD restD
  simp only [List.length_take, List.length_drop]
  have : (skipD l).length ≤ l.length := by unfold skipD; simp
  omega

/-- A text begins with at least a and at most b digits. -/
def dig (a b : Nat) (l : List UInt8) : Bool := decide (a ≤ lead l) && decide (lead l ≤ b)
/-- The number of the digits that a text begins with. -/
def valL (l : List UInt8) : Nat := numV (l.take (lead l))
/-- What is behind the colon that a text begins with. -/
def colon (l : List UInt8) : List UInt8 := if Lib.hasPrefix l [58] then Lib.trimPrefix l [58] else []
def timeB (l : List UInt8) : List UInt8 := colon (l.drop (lead l))
def isTimeB (l : List UInt8) : Bool := dig 1 2 l && (dig 1 2 (timeB l) && dig 1 2 (timeB (timeB l)))
def monTab : List (List UInt8) := [[106, 97, 110], [102, 101, 98], [109, 97, 114], [97, 112, 114], [109, 97, 121], [106, 117, 110], [106, 117, 108], [97, 117, 103], [115, 101, 112], [111, 99, 116], [110, 111, 118], [100, 101, 99]]
def monTop : List (List UInt8) := [[74, 97, 110], [70, 101, 98], [77, 97, 114], [65, 112, 114], [77, 97, 121], [74, 117, 110], [74, 117, 108], [65, 117, 103], [83, 101, 112], [79, 99, 116], [78, 111, 118], [68, 101, 99]]
def wdTop : List (List UInt8) := [[83, 117, 110], [77, 111, 110], [84, 117, 101], [87, 101, 100], [84, 104, 117], [70, 114, 105], [83, 97, 116]]
def monK (l : List UInt8) : Nat := monTab.findIdx (· == (l.take 3).map low)
/-- A month's number; 0: it is none. -/
def monL (l : List UInt8) : Nat := if l.length < 3 then 0 else if monK l < 12 then monK l + 1 else 0

structure St where
  time : Option (Nat × Nat × Nat)
  day : Option Nat
  month : Option Nat
  year : Option Nat

def St.none : St := ⟨Option.none, Option.none, Option.none, Option.none⟩

def stepD (s : St) (t : List UInt8) : St :=
  if s.time.isNone && isTimeB t then { s with time := some (valL t, valL (timeB t), valL (timeB (timeB t))) }
  else if s.day.isNone && dig 1 2 t then { s with day := some (valL t) }
  else if s.month.isNone && decide (0 < monL t) then { s with month := some (monL t) }
  else if s.year.isNone && dig 2 4 t then { s with year := some (valL t) }
  else s

def yearUp (y : Nat) : Nat := if y < 70 then y + 2000 else if y < 100 then y + 1900 else y

def tells (h mi se d m y : Nat) : Int × Bool :=
  if h ≤ 23 ∧ mi ≤ 59 ∧ se ≤ 59 ∧ 1601 ≤ yearUp y ∧ yearUp y ≤ 9999 ∧ 1 ≤ d ∧ (d : Int) ≤ longI (yearUp y) (m - 1)
  then (daysI (yearUp y) (m - 1) d * 86400 + (h : Int) * 3600 + (mi : Int) * 60 + (se : Int), true) else (0, false)

def St.tells (s : St) : Int × Bool :=
  match s.time, s.day, s.month, s.year with
  | some (h, mi, se), some d, some m, some y => Go.Proofs.YtjcilpedpimdcaaDoor.tells h mi se d m y
  | _, _, _, _ => (0, false)

def parseL (l : List UInt8) : Int × Bool := ((tok [] l).foldl stepD St.none).tells

/-- The numbers of a state are none that a machine could not hold. -/
structure St.Ok (s : St) : Prop where
  t : ∀ h mi se, s.time = some (h, mi, se) → h ≤ 1099511627776 ∧ mi ≤ 1099511627776 ∧ se ≤ 1099511627776
  d : ∀ d, s.day = some d → d ≤ 1099511627776
  m : ∀ m, s.month = some m → 1 ≤ m ∧ m ≤ 12
  y : ∀ y, s.year = some y → y ≤ 1099511627776

theorem monL_le (l : List UInt8) : monL l ≤ 12 := by
  unfold monL
  split
  · omega
  · split <;> omega
theorem valL_le (l : List UInt8) : valL l ≤ 1099511627776 := numV_le _
theorem St.none_ok : St.none.Ok := ⟨(fun _ _ _ h => by cases h), (fun _ h => by cases h), (fun _ h => by cases h), (fun _ h => by cases h)⟩
theorem stepD_ok (s : St) (t : List UInt8) (h : s.Ok) : (stepD s t).Ok := by
  obtain ⟨h1, h2, h3, h4⟩ := h
  unfold stepD
  split
  · refine ⟨?_, h2, h3, h4⟩
    intro a b c e
    cases e
    exact ⟨valL_le _, valL_le _, valL_le _⟩
  · split
    · refine ⟨h1, ?_, h3, h4⟩
      intro a e
      cases e
      exact valL_le _
    · split
      · rename_i c
        refine ⟨h1, h2, ?_, h4⟩
        intro a e
        cases e
        simp only [Bool.and_eq_true, decide_eq_true_iff] at c
        exact ⟨c.2, monL_le _⟩
      · split
        · refine ⟨h1, h2, h3, ?_⟩
          intro a e
          cases e
          exact valL_le _
        · exact ⟨h1, h2, h3, h4⟩
theorem foldD_ok (L : List (List UInt8)) : ∀ s : St, s.Ok → (L.foldl stepD s).Ok := by
  induction L with
  | nil => intro s h; exact h
  | cons t L ih => intro s h; exact ih _ (stepD_ok s t h)

theorem colon_le (l : List UInt8) : (colon l).length ≤ l.length := by
  unfold colon Lib.trimPrefix
  split
  · simp
  · simp
theorem timeB_le (l : List UInt8) : (timeB l).length ≤ l.length := by
  unfold timeB
  have := colon_le (l.drop (lead l))
  simp only [List.length_drop] at this
  omega
theorem dig_nil (a b : Nat) (h : 1 ≤ a) : dig a b [] = false := by
  have : lead [] = 0 := rfl
  simp [dig, this]
  omega
/-- The digits that a text begins with are a number. -/
theorem num_lead (l : List UInt8) (h : 1 ≤ lead l) : numL (l.take (lead l)) = ((valL l : Int), true) := by
  have hle := lead_le l
  have hlen : (l.take (lead l)).length = lead l := by simp; omega
  have hg : ∀ k, k < lead l → (l.take (lead l)).getD k 0 = l.getD k 0 := fun k hk => by simp [List.getD, hk]
  have hall : ∀ k, k < lead l → 48 ≤ ((l.take (lead l)).getD k 0).toNat ∧ ((l.take (lead l)).getD k 0).toNat ≤ 57 := fun k hk => by
    rw [hg k hk]; exact lead_lt hk
  have hs : signed (l.take (lead l)) = false := by
    cases c : signed (l.take (lead l)) with
    | false => rfl
    | true =>
      have := (signed_yes c).2.1
      have := hall 0 (by omega)
      omega
  have hb := (signed_no hs).2
  have hl : lead (l.take (lead l)) = lead l := by
    have := findIdx_end (l := l.take (lead l)) (p := fun x => !digit x) (fun j hj => by
      rw [hlen] at hj
      have := hall j hj
      unfold digit
      rw [decide_eq_true this.1, decide_eq_true this.2]
      rfl)
    unfold lead at this ⊢
    rw [this]
    exact hlen
  unfold numL
  rw [hb, hlen, hl, hs, if_neg (by omega)]
  rfl
/-- A time's further part is there if a colon is behind the digits. -/
theorem timeB_yes (l : List UInt8) (h : lead l < l.length) (hc : (l.getD (lead l) 0).toNat = 58) : timeB l = l.drop (lead l + 1) := by
  have e : l.drop (lead l) = 58 :: l.drop (lead l + 1) := by
    rw [List.drop_eq_getElem_cons h]
    congr 1
    have e1 : l.getD (lead l) 0 = l[lead l] := by simp [List.getD, h]
    rw [e1] at hc
    exact UInt8.toNat_inj.1 hc
  unfold timeB colon
  rw [e]
  simp [Lib.hasPrefix, Lib.trimPrefix, List.isPrefixOf]
theorem timeB_no (l : List UInt8) (h : lead l < l.length → (l.getD (lead l) 0).toNat ≠ 58) : timeB l = [] := by
  unfold timeB colon
  have hle := lead_le l
  rcases Nat.lt_or_ge (lead l) l.length with c | c
  · have e : l.drop (lead l) = l.getD (lead l) 0 :: l.drop (lead l + 1) := by
      rw [List.drop_eq_getElem_cons c]
      simp [List.getD, c]
    have hx := h c
    rw [e]
    have : (58 == l.getD (lead l) 0) = false := by
      rw [beq_eq_false_iff_ne]
      intro hh
      rw [← hh] at hx
      exact hx rfl
    generalize l.getD (lead l) 0 = z at *
    simp [Lib.hasPrefix, List.isPrefixOf, this]
  · rw [List.drop_eq_nil_of_le (by omega)]
    simp [Lib.hasPrefix, List.isPrefixOf]
end Go.Proofs.YtjcilpedpimdcaaDoor

/- What attributes say, in plain words. No program in it. -/
namespace Go.Proofs.YtjcilpedpimdcaaDoor
set_option linter.unusedVariables false

/-- What attributes say. -/
structure FieldsL where
  hexp : Bool
  hage : Bool
  hdom : Bool
  hpath : Bool
  exp : Int
  age : Int
  dom : List UInt8
  path : List UInt8
  sec : Bool
  http : Bool

def FieldsL.none : FieldsL := ⟨false, false, false, false, 0, 0, [], [], false, false⟩

def nExpires : List UInt8 := [101, 120, 112, 105, 114, 101, 115]
def nAge : List UInt8 := [109, 97, 120, 45, 97, 103, 101]
def nDomain : List UInt8 := [100, 111, 109, 97, 105, 110]
def nPath : List UInt8 := [112, 97, 116, 104]
def nSecure : List UInt8 := [115, 101, 99, 117, 114, 101]
def nHttp : List UInt8 := [104, 116, 116, 112, 111, 110, 108, 121]

def domL (v : List UInt8) : List UInt8 := if (v.getD 0 0 == 46) = true then (v.map low).drop 1 else v.map low
def pathB (v : List UInt8) : Bool := !(v == []) && (v.getD 0 0 == 47)

/-- What one attribute of a name (made small) and a value says. -/
def sayA (f : FieldsL) (nm v : List UInt8) : FieldsL :=
  if nm = nExpires then (if (parseL v).2 = true then { f with hexp := true, exp := (parseL v).1 } else f)
  else if nm = nAge then (if (numL v).2 = true then { f with hage := true, age := (numL v).1 } else f)
  else if nm = nDomain then (if v = [] then f else { f with hdom := true, dom := domL v })
  else if nm = nPath then { f with hpath := pathB v, path := if pathB v = true then v else [] }
  else if nm = nSecure then { f with sec := true }
  else if nm = nHttp then { f with http := true }
  else f

def stepA (f : FieldsL) (x : List UInt8 × List UInt8) : FieldsL := sayA f (x.1.map low) x.2
def readA (L : List (List UInt8 × List UInt8)) : FieldsL := L.foldl stepA FieldsL.none

theorem readA_take {L : List (List UInt8 × List UInt8)} {k : Nat} {x : List UInt8 × List UInt8} (h : L[k]? = some x) : readA (L.take (k + 1)) = stepA (readA (L.take k)) x := by
  obtain ⟨hk, rfl⟩ := List.getElem?_eq_some_iff.1 h
  unfold readA
  rw [List.take_succ_eq_append_getElem hk, List.foldl_append]
  rfl

/-- Names may be in small or capital letters. -/
theorem read_small (L : List (List UInt8 × List UInt8)) : readA (L.map fun x => (x.1.map low, x.2)) = readA L := by
  unfold readA
  rw [List.foldl_map]
  congr 1
  funext f x
  unfold stepA
  have : (x.1.map low).map low = x.1.map low := by rw [List.map_map]; congr 1; funext y; exact low_low y
  rw [this]

theorem fold_proj {β : Type} (π : FieldsL → β) (g : List UInt8 × List UInt8 → Option β) (h : ∀ f x, π (stepA f x) = (g x).getD (π f)) : ∀ (L : List (List UInt8 × List UInt8)) (f : FieldsL), π (L.foldl stepA f) = L.foldl (fun a x => (g x).getD a) (π f)
  | [], f => rfl
  | x :: L, f => by rw [List.foldl_cons, List.foldl_cons, fold_proj π g h L (stepA f x), h]

theorem fold_same {α β : Type} (g : α → Option β) : ∀ L : List α, (∀ a b : β, L.foldl (fun a x => (g x).getD a) a = L.foldl (fun a x => (g x).getD a) b) ∨ (∀ a : β, L.foldl (fun a x => (g x).getD a) a = a)
  | [] => .inr fun a => rfl
  | x :: L => by
    rcases fold_same g L with h | h
    · exact .inl fun a b => by rw [List.foldl_cons, List.foldl_cons]; exact h _ _
    · cases hx : g x with
      | none => exact .inr fun a => by rw [List.foldl_cons, h, hx]; rfl
      | some y => exact .inl fun a b => by rw [List.foldl_cons, List.foldl_cons, h, h, hx]; rfl

/-- What is said once, and said so again, is what was said. -/
theorem fold_twice {α β : Type} (g : α → Option β) (L : List α) (i : β) : L.foldl (fun a x => (g x).getD a) (L.foldl (fun a x => (g x).getD a) i) = L.foldl (fun a x => (g x).getD a) i := by
  rcases fold_same g L with h | h
  · exact h _ _
  · rw [h]

theorem read_proj {β : Type} (π : FieldsL → β) (g : List UInt8 × List UInt8 → Option β) (h : ∀ f x, π (stepA f x) = (g x).getD (π f)) (L : List (List UInt8 × List UInt8)) : π (readA (L ++ L)) = π (readA L) := by
  unfold readA
  rw [List.foldl_append, fold_proj π g h L, fold_proj π g h L, fold_twice]

/-- Of attributes that are said twice the second ones alone count. -/
theorem read_twice (L : List (List UInt8 × List UInt8)) : readA (L ++ L) = readA L := by
  have e1 := read_proj (fun f => (f.hexp, f.exp)) (fun x => if x.1.map low = nExpires ∧ (parseL x.2).2 = true then some (true, (parseL x.2).1) else none) (fun f x => by
    unfold stepA sayA
    by_cases h1 : x.1.map low = nExpires
    · by_cases h2 : (parseL x.2).2 = true
      · simp [h1, h2]
      · simp [h1, h2]
    · rw [if_neg h1, if_neg (show ¬ (x.1.map low = nExpires ∧ (parseL x.2).2 = true) from fun h => h1 h.1)]
      (repeat' split) <;> rfl) L
  have e2 := read_proj (fun f => (f.hage, f.age)) (fun x => if x.1.map low = nAge ∧ (numL x.2).2 = true then some (true, (numL x.2).1) else none) (fun f x => by
    unfold stepA sayA
    by_cases h1 : x.1.map low = nAge
    · have h3 : ¬ x.1.map low = nExpires := by rw [h1]; decide
      by_cases h2 : (numL x.2).2 = true
      · rw [if_neg h3, if_pos h1, if_pos h2, if_pos ⟨h1, h2⟩]; rfl
      · rw [if_neg h3, if_pos h1, if_neg h2, if_neg (fun h => h2 h.2)]; rfl
    · rw [if_neg (show ¬ (x.1.map low = nAge ∧ (numL x.2).2 = true) from fun h => h1 h.1), if_neg h1]
      (repeat' split) <;> rfl) L
  have e3 := read_proj (fun f => (f.hdom, f.dom)) (fun x => if x.1.map low = nDomain ∧ x.2 ≠ [] then some (true, domL x.2) else none) (fun f x => by
    unfold stepA sayA
    by_cases h1 : x.1.map low = nDomain
    · have h3 : ¬ x.1.map low = nExpires := by rw [h1]; decide
      have h4 : ¬ x.1.map low = nAge := by rw [h1]; decide
      by_cases h2 : x.2 = []
      · rw [if_neg h3, if_neg h4, if_pos h1, if_pos h2, if_neg (fun h => h.2 h2)]; rfl
      · rw [if_neg h3, if_neg h4, if_pos h1, if_neg h2, if_pos ⟨h1, h2⟩]; rfl
    · rw [if_neg (show ¬ (x.1.map low = nDomain ∧ x.2 ≠ []) from fun h => h1 h.1), if_neg h1]
      (repeat' split) <;> rfl) L
  have e4 := read_proj (fun f => (f.hpath, f.path)) (fun x => if x.1.map low = nPath then some (pathB x.2, if pathB x.2 = true then x.2 else []) else none) (fun f x => by
    unfold stepA sayA
    by_cases h1 : x.1.map low = nPath
    · have h3 : ¬ x.1.map low = nExpires := by rw [h1]; decide
      have h4 : ¬ x.1.map low = nAge := by rw [h1]; decide
      have h5 : ¬ x.1.map low = nDomain := by rw [h1]; decide
      rw [if_neg h3, if_neg h4, if_neg h5, if_pos h1, if_pos h1]; rfl
    · rw [if_neg h1, if_neg h1]
      (repeat' split) <;> rfl) L
  have e5 := read_proj (fun f => f.sec) (fun x => if x.1.map low = nSecure then some true else none) (fun f x => by
    unfold stepA sayA
    by_cases h1 : x.1.map low = nSecure
    · have h3 : ¬ x.1.map low = nExpires := by rw [h1]; decide
      have h4 : ¬ x.1.map low = nAge := by rw [h1]; decide
      have h5 : ¬ x.1.map low = nDomain := by rw [h1]; decide
      have h6 : ¬ x.1.map low = nPath := by rw [h1]; decide
      rw [if_neg h3, if_neg h4, if_neg h5, if_neg h6, if_pos h1, if_pos h1]; rfl
    · rw [if_neg h1, if_neg h1]
      (repeat' split) <;> rfl) L
  have e6 := read_proj (fun f => f.http) (fun x => if x.1.map low = nHttp then some true else none) (fun f x => by
    unfold stepA sayA
    by_cases h1 : x.1.map low = nHttp
    · have h3 : ¬ x.1.map low = nExpires := by rw [h1]; decide
      have h4 : ¬ x.1.map low = nAge := by rw [h1]; decide
      have h5 : ¬ x.1.map low = nDomain := by rw [h1]; decide
      have h6 : ¬ x.1.map low = nPath := by rw [h1]; decide
      have h7 : ¬ x.1.map low = nSecure := by rw [h1]; decide
      rw [if_neg h3, if_neg h4, if_neg h5, if_neg h6, if_neg h7, if_pos h1, if_pos h1]; rfl
    · rw [if_neg h1, if_neg h1]
      (repeat' split) <;> rfl) L
  generalize readA (L ++ L) = a at *
  generalize readA L = b at *
  obtain ⟨a0, a1, a2, a3, a4, a5, a6, a7, a8, a9⟩ := a
  obtain ⟨b0, b1, b2, b3, b4, b5, b6, b7, b8, b9⟩ := b
  simp only [Prod.mk.injEq] at e1 e2 e3 e4 e5 e6
  obtain ⟨rfl, rfl⟩ := e1
  obtain ⟨rfl, rfl⟩ := e2
  obtain ⟨rfl, rfl⟩ := e3
  obtain ⟨rfl, rfl⟩ := e4
  subst e5
  subst e6
  rfl

/-- A time, between 0 and the last one. -/
def clampA (now : Int) : Int := if now < 0 then 0 else if 1099511627776 < now then 1099511627776 else now

/-- When what is said ends. -/
def expiryA (f : FieldsL) (now : Int) : Int × Bool :=
  if f.hage = true then (if f.age ≤ 0 then (-1099511627776, true) else if 1099511627776 - clampA now < f.age then (1099511627776, true) else (clampA now + f.age, true))
  else if f.hexp = true then (f.exp, true) else (1099511627776, false)
end Go.Proofs.YtjcilpedpimdcaaDoor

/- Plain facts on whole numbers and their bits, with no program in them. -/
namespace Go.Proofs.YtjcilpedpimdcaaDoor
open Go.RowKit
set_option linter.unusedVariables false

theorem ret_int {k : IntKind} {a b : Int} (h : a = b) : Ending.returned (.int k a) = .returned (.int k b) := by rw [h]
theorem ret2 {k l : IntKind} {a b c d : Int} (h : a = b) (h' : c = d) : Ending.returned (.tuple #[.int k a, .int l c]) = .returned (.tuple #[.int k b, .int l d]) := by rw [h, h']
theorem ret_bool {a b : Bool} (h : a = b) : Ending.returned (.bool a) = .returned (.bool b) := by rw [h]

theorem xor_ones (x : Nat) (hx : x < 18446744073709551616) : x ^^^ 18446744073709551615 = 18446744073709551615 - x := by
  have h : (BitVec.ofNat 64 x ^^^ BitVec.allOnes 64).toNat = (~~~ (BitVec.ofNat 64 x)).toNat := by rw [BitVec.xor_allOnes]
  rw [BitVec.toNat_xor, BitVec.toNat_not, BitVec.toNat_allOnes, BitVec.toNat_ofNat, Nat.mod_eq_of_lt (by omega)] at h
  omega

def foldI (n : Int) : Int := if 0 ≤ n then 2 * n else -2 * n - 1
def unfoldI (n : Int) : Int := if n % 2 = 0 then n / 2 else -(n / 2) - 1

theorem fold_math (n : Int) (h0 : -9223372036854775808 ≤ n) (h1 : n ≤ 9223372036854775807) :
    bits BinOp.xor IntKind.u64 (IntKind.u64.wrap (wrap64 (n * 2))) (IntKind.u64.wrap (n / 9223372036854775808)) = foldI n := by
  unfold wrap64 foldI
  rw [IntKind.wrap_u64, IntKind.wrap_u64]
  rw [u64_xor _ _ (by omega) (by omega) (by omega) (by omega)]
  split
  · have e1 : n / 9223372036854775808 % 18446744073709551616 = 0 := by omega
    rw [e1]
    simp only [Int.toNat_zero, Nat.xor_zero]
    omega
  · have e1 : (n / 9223372036854775808 % 18446744073709551616).toNat = 18446744073709551615 := by omega
    rw [e1, xor_ones _ (by omega)]
    omega

theorem i64_xor (a b : Int) : bits BinOp.xor IntKind.i64 a b = wrap64 (((a % 18446744073709551616).toNat ^^^ (b % 18446744073709551616).toNat : Nat) : Int) := by
  unfold bits wrap64
  simp only []
  rw [BitVec.toNat_xor, BitVec.toNat_ofInt, BitVec.toNat_ofInt]
  show IntKind.wrap .i64 _ = _
  rw [IntKind.wrap_i64]
  rfl

theorem unfold_math (n : Int) (h0 : 0 ≤ n) (h1 : n ≤ 18446744073709551615) :
    bits BinOp.xor IntKind.i64 (n / 2) (wrap64 (-wrap64 (bits BinOp.and IntKind.u64 n 1))) = unfoldI n := by
  unfold unfoldI
  have ha : bits BinOp.and IntKind.u64 n 1 = n % 2 := by
    rw [u64_and _ _ (by omega) (by omega) (by omega) (by omega)]
    have : n.toNat &&& (1 : Int).toNat = n.toNat % 2 := by simp [Nat.and_one_is_mod]
    rw [this]; omega
  rw [ha, i64_xor]
  unfold wrap64
  split
  · rename_i h
    rw [h]
    simp only [Int.reduceAdd, Int.reduceMod, Int.reduceSub, Int.reduceNeg, Int.toNat_zero, Nat.xor_zero]
    omega
  · have h : n % 2 = 1 := by omega
    rw [h]
    have e : ((((-(((1 : Int) + 9223372036854775808) % 18446744073709551616 - 9223372036854775808)) + 9223372036854775808) % 18446744073709551616 - 9223372036854775808) % 18446744073709551616).toNat = 18446744073709551615 := by decide
    rw [e, xor_ones _ (by omega)]
    omega

/-- A number's bit. -/
def bitI (n : Int) (i : Nat) : Bool := n.toNat.testBit i

theorem bitI_nat (N i : Nat) : (((N / 2 ^ i : Nat) : Int) % 2 == 1) = bitI (N : Int) i := by
  unfold bitI
  rw [Int.toNat_natCast, Nat.testBit_eq_decide_div_mod_eq]
  generalize N / 2 ^ i = M
  rw [Bool.eq_iff_iff]
  simp only [beq_iff_eq, decide_eq_true_eq]
  omega

/-- A word of 32 bits, turned. -/
def turnI (n b : Int) : Int := (((n.toNat <<< (b % 32).toNat) % 4294967296 ||| n.toNat >>> (32 - (b % 32).toNat) : Nat) : Int)

theorem and31 (b : Int) : bits BinOp.and IntKind.u32 (b % 4294967296) 31 = b % 32 := by
  rw [u32_and _ _ (by omega) (by omega) (by omega) (by omega)]
  have : (b % 4294967296).toNat &&& (31 : Int).toNat = (b % 4294967296).toNat % 32 := Nat.and_two_pow_sub_one_eq_mod _ 5
  rw [this]; omega

theorem turn_math (n b : Int) (h0 : 0 ≤ n) (h1 : n ≤ 4294967295) :
    bits BinOp.or IntKind.u32 (IntKind.u32.wrap (n * 2 ^ (b % 32).toNat)) (n / 2 ^ (32 - b % 32).toNat) = turnI n b := by
  obtain ⟨N, rfl⟩ := Int.eq_ofNat_of_zero_le h0
  have e1 : (N : Int) * 2 ^ (b % 32).toNat = ((N * 2 ^ (b % 32).toNat : Nat) : Int) := by push_cast; rfl
  have e2 : (N : Int) / 2 ^ (32 - b % 32).toNat = ((N / 2 ^ (32 - b % 32).toNat : Nat) : Int) := by push_cast; rfl
  have e3 : N / 2 ^ (32 - b % 32).toNat ≤ N := Nat.div_le_self _ _
  have e4 : (32 - b % 32).toNat = 32 - (b % 32).toNat := by omega
  rw [e1, e2, IntKind.wrap_u32]
  have e5 : ((N * 2 ^ (b % 32).toNat : Nat) : Int) % 4294967296 = ((N * 2 ^ (b % 32).toNat % 4294967296 : Nat) : Int) := by
    generalize N * 2 ^ (b % 32).toNat = X
    omega
  rw [e5, u32_or_nat _ _ (by omega) (by omega)]
  unfold turnI
  rw [Int.toNat_natCast, Nat.shiftLeft_eq, Nat.shiftRight_eq_div_pow, e4]

theorem turn_bit (n b : Int) (h0 : 0 ≤ n) (h1 : n ≤ 4294967295) (i k : Nat) (hi : i < 32) (hk : (k : Int) = b % 32) :
    bitI (turnI n b) ((i + k) % 32) = bitI n i := by
  obtain ⟨N, rfl⟩ := Int.eq_ofNat_of_zero_le h0
  unfold bitI turnI
  rw [Int.toNat_natCast, Int.toNat_natCast]
  have hk' : (b % 32).toNat = k := by omega
  rw [hk']
  have hk2 : k < 32 := by omega
  have hN : N < 2 ^ 32 := by omega
  rw [Nat.testBit_or, show (4294967296 : Nat) = 2 ^ 32 from rfl, Nat.testBit_mod_two_pow, Nat.testBit_shiftLeft, Nat.testBit_shiftRight]
  by_cases h : i + k < 32
  · rw [Nat.mod_eq_of_lt h]
    have e32 : 32 ≤ 32 - k + (i + k) := by omega
    have z : N.testBit (32 - k + (i + k)) = false := Nat.testBit_lt_two_pow (Nat.lt_of_lt_of_le hN (Nat.pow_le_pow_right Nat.zero_lt_two e32))
    rw [z]
    have : i + k - k = i := by omega
    simp [this, h]
  · have e : (i + k) % 32 = i + k - 32 := by omega
    rw [e]
    have h2 : ¬ (i + k - 32 ≥ k) := by omega
    have h3 : 32 - k + (i + k - 32) = i := by omega
    simp [h2, h3]

/-- Has a number room in so many bits? -/
def roomI (n k : Int) : Bool := decide (64 ≤ k) || decide (n < ((2 ^ k.toNat : Nat) : Int))
theorem room_big (n k : Int) (h : 64 ≤ k) : roomI n k = true := by simp [roomI, h]
theorem room_small (n k : Int) (h : ¬ 64 ≤ k) : decide (n < ((2 ^ k.toNat : Nat) : Int)) = roomI n k := by simp [roomI, h]
theorem room_shift (n k : Int) (h0 : 0 ≤ n) (h1 : n ≤ 18446744073709551615) (h2 : 0 ≤ k) : (n / 2 ^ min k.toNat 64 == 0) = roomI n k := by
  obtain ⟨N, rfl⟩ := Int.eq_ofNat_of_zero_le h0
  have e : (N : Int) / 2 ^ min k.toNat 64 = ((N / 2 ^ min k.toNat 64 : Nat) : Int) := by push_cast; rfl
  rw [e, Bool.eq_iff_iff]
  by_cases h : 64 ≤ k
  · have : min k.toNat 64 = 64 := by omega
    rw [this, room_big _ _ h]
    have : N / 2 ^ 64 = 0 := by omega
    simp [this]
  · have : min k.toNat 64 = k.toNat := by omega
    rw [this]
    have hp : 0 < 2 ^ k.toNat := Nat.two_pow_pos _
    unfold roomI
    simp only [h, decide_false, Bool.false_or, beq_iff_eq, decide_eq_true_eq]
    have := Nat.div_eq_zero_iff_lt hp (x := N)
    omega

def fieldI (n a k : Int) : Int := (((n.toNat >>> a.toNat) &&& (18446744073709551615 >>> (64 - k.toNat)) : Nat) : Int)
def withI (n a k v : Int) : Int := (((n.toNat &&& (18446744073709551615 - ((18446744073709551615 >>> (64 - k.toNat)) <<< a.toNat) % 18446744073709551616)) ||| ((v.toNat <<< a.toNat) % 18446744073709551616) : Nat) : Int)

theorem nat_shr_int (N j : Nat) : (N : Int) / 2 ^ j = ((N >>> j : Nat) : Int) := by rw [Nat.shiftRight_eq_div_pow]; push_cast; rfl
theorem shr_le (N j : Nat) : N >>> j ≤ N := by rw [Nat.shiftRight_eq_div_pow]; exact Nat.div_le_self _ _
theorem nat_shl_wrap (N j : Nat) : IntKind.u64.wrap ((N : Int) * 2 ^ j) = (((N <<< j) % 18446744073709551616 : Nat) : Int) := by
  have e : (N : Int) * 2 ^ j = ((N <<< j : Nat) : Int) := by rw [Nat.shiftLeft_eq]; push_cast; rfl
  rw [e, IntKind.wrap_u64]
  generalize N <<< j = X
  omega
theorem ones_shr (j : Nat) : (18446744073709551615 : Int) / (2 : Int) ^ j = ((18446744073709551615 >>> j : Nat) : Int) := nat_shr_int 18446744073709551615 j

theorem field_math (n a k : Int) (h4 : 0 ≤ n) (h5 : n ≤ 18446744073709551615) (h2 : 0 ≤ k) (h3 : k ≤ 64) :
    bits BinOp.and IntKind.u64 (n / 2 ^ a.toNat) (18446744073709551615 / 2 ^ (64 - k).toNat) = fieldI n a k := by
  obtain ⟨N, rfl⟩ := Int.eq_ofNat_of_zero_le h4
  have e : (64 - k).toNat = 64 - k.toNat := by omega
  have h1 := shr_le N a.toNat
  have h2 := shr_le 18446744073709551615 (64 - k.toNat)
  rw [nat_shr_int, ones_shr, e, u64_and_nat _ _ (by omega) (by omega)]
  rfl

theorem with_math (n a k v : Int) (h4 : 0 ≤ n) (h5 : n ≤ 18446744073709551615) (h6 : 0 ≤ v) (h7 : v ≤ 18446744073709551615) (h2 : 0 ≤ k) (h3 : k ≤ 64) :
    bits BinOp.or IntKind.u64 (bits BinOp.andNot IntKind.u64 n (IntKind.u64.wrap (18446744073709551615 / 2 ^ (64 - k).toNat * 2 ^ a.toNat))) (IntKind.u64.wrap (v * 2 ^ a.toNat)) = withI n a k v := by
  obtain ⟨N, rfl⟩ := Int.eq_ofNat_of_zero_le h4
  obtain ⟨V, rfl⟩ := Int.eq_ofNat_of_zero_le h6
  have e : (64 - k).toNat = 64 - k.toNat := by omega
  rw [ones_shr, nat_shl_wrap, nat_shl_wrap, e, u64_andNot_nat _ _ (by omega) (Nat.mod_lt _ (by decide)), u64_or_nat _ _ (Nat.lt_of_le_of_lt Nat.and_le_left (by omega)) (Nat.mod_lt _ (by decide))]
  rfl

theorem ones_bit (k i : Nat) (hk : k ≤ 64) : (18446744073709551615 >>> (64 - k)).testBit i = decide (i < k) := by
  rw [Nat.testBit_shiftRight, show (18446744073709551615 : Nat) = 2 ^ 64 - 1 from rfl, Nat.testBit_two_pow_sub_one]
  rw [Bool.eq_iff_iff]
  simp only [decide_eq_true_eq]
  omega

theorem field_bit (n a k : Int) (h3 : k ≤ 64) (i : Nat) :
    bitI (fieldI n a k) i = (decide (i < k.toNat) && bitI n (a.toNat + i)) := by
  unfold bitI fieldI
  rw [Int.toNat_natCast, Nat.testBit_and, ones_bit _ _ (by omega), Nat.testBit_shiftRight, Bool.and_comm]

theorem not_bit (x i : Nat) (hx : x < 18446744073709551616) (hi : i < 64) : (18446744073709551615 - x).testBit i = !x.testBit i := by
  have := @Nat.testBit_two_pow_sub_succ x 64 hx i
  have e : 2 ^ 64 - (x + 1) = 18446744073709551615 - x := by omega
  rw [e] at this
  rw [this]
  simp [hi]

theorem with_bit (n a k v : Int) (h0 : 0 ≤ a) (h2 : 0 ≤ k) (h3 : k ≤ 64 - a) (hv : v < ((2 ^ k.toNat : Nat) : Int)) (i : Nat) (hi : i < 64) :
    bitI (withI n a k v) i = if a.toNat ≤ i ∧ i < a.toNat + k.toNat then bitI v (i - a.toNat) else bitI n i := by
  unfold bitI withI
  have hm : (18446744073709551615 >>> (64 - k.toNat)) <<< a.toNat % 18446744073709551616 < 18446744073709551616 := Nat.mod_lt _ (by decide)
  rw [Int.toNat_natCast, Nat.testBit_or, Nat.testBit_and, not_bit _ _ hm hi, show (18446744073709551616 : Nat) = 2 ^ 64 from rfl, Nat.testBit_mod_two_pow, Nat.testBit_mod_two_pow, Nat.testBit_shiftLeft, Nat.testBit_shiftLeft, ones_bit _ _ (by omega)]
  simp only [hi, decide_true, Bool.true_and, ge_iff_le]
  by_cases c1 : a.toNat ≤ i
  · by_cases c2 : i < a.toNat + k.toNat
    · have c3 : i - a.toNat < k.toNat := by omega
      simp [c1, c2, c3]
    · have c3 : ¬ i - a.toNat < k.toNat := by omega
      have e64 : 2 ^ k.toNat ≤ 2 ^ (i - a.toNat) := Nat.pow_le_pow_right Nat.zero_lt_two (by omega)
      have z : v.toNat.testBit (i - a.toNat) = false := by
        apply Nat.testBit_lt_two_pow
        have hp := Nat.two_pow_pos k.toNat
        generalize 2 ^ k.toNat = P at hv e64 hp
        generalize 2 ^ (i - a.toNat) = Q at e64
        omega
      simp [c1, c2, c3, z]
  · simp [c1]

/-- How many bits a number has, by the first k shifts. -/
def widthTo (N : Nat) : Nat → Int
  | 0 => 0
  | k + 1 => if N / 2 ^ k = 0 then widthTo N k else ((k + 1 : Nat) : Int)
def widthI (n : Int) : Int := widthTo n.toNat 64
/-- The same, by the bits themselves. -/
def widthRef (N : Nat) : Nat → Int
  | 0 => 0
  | k + 1 => if bitI N k = true then ((k + 1 : Nat) : Int) else widthRef N k
theorem width_same (N k : Nat) (h : N / 2 ^ k = 0) : widthTo N (k + 1) = widthTo N k := by simp [widthTo, h]
theorem width_next (N k : Nat) (h : ¬ N / 2 ^ k = 0) : widthTo N (k + 1) = ((k + 1 : Nat) : Int) := by simp [widthTo, h]
theorem shr_zero (N k : Nat) : ((N : Int) / 2 ^ k == 0) = decide (N / 2 ^ k = 0) := by
  rw [nat_shr_int, Nat.shiftRight_eq_div_pow, Bool.eq_iff_iff]
  simp only [beq_iff_eq, decide_eq_true_eq]
  omega

theorem widthRef_eq_of (N : Nat) : ∀ k, N < 2 ^ k → widthRef N k = widthTo N k
  | 0, _ => rfl
  | k + 1, h => by
    have hb : bitI N k = decide (N / 2 ^ k % 2 = 1) := by
      unfold bitI; rw [Int.toNat_natCast, Nat.testBit_eq_decide_div_mod_eq]
    have hp := Nat.two_pow_pos k
    rw [Nat.pow_succ] at h
    by_cases hz : N / 2 ^ k = 0
    · have h1 := (Nat.div_eq_zero_iff_lt hp).mp hz
      rw [width_same N k hz, widthRef, hb, hz]
      simpa using widthRef_eq_of N k h1
    · have h1 : N / 2 ^ k < 2 := (Nat.div_lt_iff_lt_mul hp).mpr (by omega)
      have h2 : N / 2 ^ k = 1 := Nat.le_antisymm (Nat.lt_succ_iff.mp h1) (Nat.pos_of_ne_zero hz)
      rw [width_next N k hz, widthRef, hb, h2]
      rfl
theorem widthRef_eq (N : Nat) (h : N < 18446744073709551616) : widthRef N 64 = widthI N := widthRef_eq_of N 64 h

/-- The number whose bytes, the lowest first, a list is. -/
def leNum : List Int → Int
  | [] => 0
  | x :: l => x + 256 * leNum l
def IsBytes (l : List Int) : Prop := ∀ x ∈ l, 0 ≤ x ∧ x ≤ 255
theorem IsBytes.getD {l : List Int} (h : IsBytes l) (i : Nat) : 0 ≤ l.getD i 0 ∧ l.getD i 0 ≤ 255 := by
  rw [List.getD_eq_getElem?_getD]
  rcases Nat.lt_or_ge i l.length with hi | hi
  · rw [List.getElem?_eq_getElem hi]; exact h _ (List.getElem_mem hi)
  · rw [List.getElem?_eq_none hi]; simp
theorem leNum_bd : ∀ (l : List Int), IsBytes l → 0 ≤ leNum l ∧ leNum l < 256 ^ l.length
  | [], _ => by simp [leNum]
  | x :: l, h => by
    have h1 := leNum_bd l (fun y hy => h y (List.mem_cons_of_mem _ hy))
    have h2 := h x List.mem_cons_self
    rw [List.length_cons, Int.pow_succ, leNum]
    generalize (256 : Int) ^ l.length = P at h1 ⊢
    omega
theorem leNum_snoc : ∀ (l : List Int) (x : Int), leNum (l ++ [x]) = leNum l + x * 256 ^ l.length
  | [], x => by simp [leNum]
  | y :: l, x => by
    rw [List.cons_append, leNum, leNum_snoc l x, leNum, List.length_cons, Int.pow_succ, Int.mul_add, Int.add_assoc, ← Int.mul_assoc, Int.mul_comm 256 x, Int.mul_assoc, Int.mul_comm 256 (256 ^ _)]
theorem getD_of_lt (l : List Int) (k : Nat) (h : k < l.length) : l.getD k 0 = l[k] := by simp [List.getD_eq_getElem?_getD, h]
theorem leNum_take (l : List Int) (k : Nat) (h : k < l.length) : leNum (l.take (k + 1)) = leNum (l.take k) + l.getD k 0 * 256 ^ k := by
  rw [List.take_succ_eq_append_getElem h, leNum_snoc, List.length_take_of_le (by omega), getD_of_lt l k h]
theorem leNum_drop (l : List Int) (k : Nat) (h : k < l.length) : leNum (l.drop k) = l.getD k 0 + 256 * leNum (l.drop (k + 1)) := by
  rw [List.drop_eq_getElem_cons h, leNum, getD_of_lt l k h]
theorem IsBytes.take {l : List Int} (h : IsBytes l) (k : Nat) : IsBytes (l.take k) := fun x hx => h x (List.mem_of_mem_take hx)
theorem IsBytes.drop {l : List Int} (h : IsBytes l) (k : Nat) : IsBytes (l.drop k) := fun x hx => h x (List.mem_of_mem_drop hx)
theorem pow256 (k : Nat) : (256 : Int) ^ k = ((2 ^ (8 * k) : Nat) : Int) := by
  rw [Nat.pow_mul, Int.natCast_pow]; rfl
theorem pow256_le (k j : Nat) (h : k ≤ j) : (256 : Int) ^ k ≤ 256 ^ j := by
  rw [pow256, pow256]
  exact Int.ofNat_le.mpr (Nat.pow_le_pow_right (by decide) (by omega))
theorem leNum_le (l : List Int) (h : IsBytes l) (hl : l.length ≤ 8) : 0 ≤ leNum l ∧ leNum l ≤ 18446744073709551615 := by
  have h1 := leNum_bd l h
  have h2 := pow256_le _ _ hl
  have h3 : (256 : Int) ^ 8 = 18446744073709551616 := by decide
  omega
theorem or_join (n x : Int) (k : Nat) (h0 : 0 ≤ n) (h1 : n < 256 ^ k) (h2 : 0 ≤ x) (h3 : x ≤ 255) (hk : k ≤ 7) :
    bits BinOp.or IntKind.u64 n (IntKind.u64.wrap (x * 2 ^ (8 * k))) = n + x * 256 ^ k := by
  obtain ⟨N, rfl⟩ := Int.eq_ofNat_of_zero_le h0
  obtain ⟨X, rfl⟩ := Int.eq_ofNat_of_zero_le h2
  rw [pow256] at h1 ⊢
  have e1 : (X : Int) * 2 ^ (8 * k) = ((X * 2 ^ (8 * k) : Nat) : Int) := by push_cast; rfl
  have e7 : 2 ^ (8 * k) ≤ 2 ^ 56 := Nat.pow_le_pow_right (by decide) (by omega)
  have e8 : X * 2 ^ (8 * k) ≤ 255 * 2 ^ 56 := Nat.mul_le_mul (by omega) e7
  have e9 : N < 2 ^ (8 * k) := by omega
  rw [e1, IntKind.wrap_u64]
  have e2 : ((X * 2 ^ (8 * k) : Nat) : Int) % 18446744073709551616 = ((X * 2 ^ (8 * k) : Nat) : Int) := by omega
  rw [e2, u64_or_nat _ _ (by omega) (by omega), Nat.or_comm, nat_join (8 * k) (X * 2 ^ (8 * k)) N (Nat.mul_mod_left _ _) e9]
  push_cast
  omega
end Go.Proofs.YtjcilpedpimdcaaDoor

/- Contracts of layer 6: single bytes. -/
namespace Go.Proofs.YtjcilpedpimdcaaDoor
open Go.RowKit
set_option linter.unusedVariables false

theorem smallC (x : UInt8) (w : World) : Calls Tryd.prog 39 #[.int .u8 (x.toNat : Int)] w fun e w' => e = .returned (.int .u8 ((low x).toNat : Int)) ∧ w = w' := by
  have h0 := u8_lt x
  by_cases h : 65 ≤ x.toNat ∧ x.toNat ≤ 90
  · obtain ⟨h1, h2⟩ := h
    rw [low_up ⟨h1, h2⟩]
    generalize x.toNat = n at *
    go_enter Tryd.func39, Tryd.ntmps39
    go_wp2
    go_ret
    simp
    omega
  · rw [low_not h]
    generalize x.toNat = n at *
    go_enter Tryd.func39, Tryd.ntmps39
    go_wp2
    all_goals (go_ret; simp)

/-- BEGIN first -/
theorem first_begin : True := trivial

theorem digitFnC (x : UInt8) (w : World) : Calls Tryd.prog 58 #[.int .u8 (x.toNat : Int)] w fun e w' => e = .returned (.bool (!digit x)) ∧ w = w' := by
  have h0 := u8_lt x
  unfold digit
  generalize x.toNat = n at *
  go_enter Tryd.func58, Tryd.ntmps58
  go_wp2
  all_goals (go_ret; first | done | (simp; done) | (simp; omega) | (refine ⟨?_, rfl⟩; congr 2; rw [Bool.eq_iff_iff]; simp; omega) | (simp; rw [Bool.eq_iff_iff]; simp; omega))

set_option maxRecDepth 100000 in
theorem firstDigitC (p : UInt8 → Bool) (l : List UInt8) (n : Nat) (w : World) (hp : ∀ x : UInt8, Calls Tryd.prog 58 #[.int .u8 (x.toNat : Int)] w fun e w' => e = .returned (.bool (p x)) ∧ w = w') (hl : l.length = n) (hm : n ≤ maxLen) :
    Calls Tryd.prog 57 #[.string (str l), .func (.func 58) #[] #[]] w fun e w' => e = .returned (.int .i64 (l.findIdx p : Int)) ∧ w = w' := by
  have hsz : (str l).size = n := by rw [str_size, hl]
  unfold maxLen at hm
  have HL := Lib.hid hl
  clear hl
  go_enter Tryd.func57, Tryd.ntmps57
  go_wp2
  go_step3
  go_wp2
  go_step3
  go_wp2
  go_loopw [5, 11] (fun v i wr => ∃ k : Nat, k ≤ n ∧ v = .int .i64 (n : Int) ∧ i = .int .i64 (k : Int) ∧ Hid (∀ j, j < k → p (l.getD j 0) = false) ∧ w = wr) (fun _ i _ => n - (intOf i).toNat)
  case atStart => exact ⟨0, Nat.zero_le _, rfl, rfl, fun j hj => absurd hj (by omega), rfl⟩
  case round =>
    obtain ⟨k, hk, rfl, rfl, H, rfl⟩ := hrel
    by_cases hlt : k < n
    · have hlt' : (k : Int) < (n : Int) := by omega
      have hi := run_index_str (P := Tryd.prog) w 9 l .i64 k Tryd.underlying9 (by rw [HL.out]; exact hlt)
      have HF := Lib.hid (fun hp => findIdx_at (p := p) H.out (by rw [HL.out]; exact hlt) hp)
      have HN := Lib.hid (fun (hp : p (l.getD k 0) = false) => (fun j hj => by
        rcases Nat.lt_succ_iff_lt_or_eq.1 hj with h | rfl
        · exact H.out j h
        · exact hp : ∀ j, j < k + 1 → p (l.getD j 0) = false))
      have HC := hp (l.getD k 0)
      generalize p (l.getD k 0) = t at HC HF HN
      generalize l.getD k 0 = x at HC hi
      cases t
      · have HN2 := Lib.hid (HN.out rfl)
        clear HN HF
        go_wp2_with (go_at_call 58; (with_reducible refine HC.mono ?_); rintro e w1 ⟨rfl, rfl⟩)
        go_roundw
        case rel => exact ⟨k + 1, by omega, rfl, by go_num, HN2.out, by first | rfl | trivial⟩
        case measure => simp [intOf]; omega
      · have HF2 := Lib.hid (HF.out rfl)
        clear HN HF
        go_wp2_with (go_at_call 58; (with_reducible refine HC.mono ?_); rintro e w1 ⟨rfl, rfl⟩)
        rw [Exit.noGoto_ret]
        go_ret
        exact ⟨by rw [HF2.out]; rfl, rfl⟩
    · obtain rfl : k = n := by omega
      have HE := Lib.hid (findIdx_end (p := p) (by rw [HL.out]; exact H.out))
      rw [HL.out] at HE
      go_wp2
      rw [Exit.noGoto_ret]
      go_ret
      exact ⟨by rw [HE.out]; rfl, rfl⟩

end Go.Proofs.YtjcilpedpimdcaaDoor

/- Facts on slices in memory, with no program in them. -/
namespace Go.Proofs.YtjcilpedpimdcaaDoor
open Go.RowKit
set_option linter.unusedVariables false

/-- The cells from an address on read as these values; where there are none, the address may be any, or nil. -/
def Reads (w : World) (a : Option Addr) (xs : List Value) : Prop :=
  ∀ (i : Nat) (v : Value), xs[i]? = some v → ∃ b off, a = some ⟨b, off, none⟩ ∧ w.cell? ⟨b, off + i, none⟩ = some v

theorem Reads.nil (w : World) (a : Option Addr) : Reads w a [] := fun i v h => by simp at h

theorem Reads.at {w : World} {a : Option Addr} {l : List Int} {k : IntKind} (h : Reads w a (l.map (Value.int k))) (i : Nat) (hi : i < l.length) :
    ∃ b off, a = some ⟨b, off, none⟩ ∧ w.cell? ⟨b, off + i, none⟩ = some (.int k (l.getD i 0)) :=
  h i _ (by simp [hi])

theorem Reads.same {w w' : World} {a : Option Addr} {xs : List Value} (h : Reads w a xs) (hs : ∀ x, w'.cell? x = w.cell? x) : Reads w' a xs := fun i v hv => by
  obtain ⟨b, off, e, hc⟩ := h i v hv
  exact ⟨b, off, e, (hs _).trans hc⟩

theorem Reads.below {w w' : World} {a : Option Addr} {xs : List Value} {B : Nat} (h : Reads w a xs) (hb : Below B w w') (hlt : ∀ x, a = some x → x.block < B) : Reads w' a xs := fun i v hv => by
  obtain ⟨b, off, e, hc⟩ := h i v hv
  exact ⟨b, off, e, (hb.cell (p := ⟨b, off + i, none⟩) (show b < B from hlt _ e)).trans hc⟩

/-- A cell that is read lies in a block that is there. -/
theorem cell_lt {w : World} {x : Addr} {v : Value} (h : w.cell? x = some v) : x.block < w.heap.size := by
  by_cases c : x.block < w.heap.size
  · exact c
  · have e : w.heap[x.block]? = none := Array.getElem?_eq_none (by omega)
    simp [World.cell?, e] at h

theorem Reads.below' {w w' : World} {a : Option Addr} {xs : List Value} (h : Reads w a xs) (hb : Below w.heap.size w w') : Reads w' a xs := fun i v hv => by
  obtain ⟨b, off, e, hc⟩ := h i v hv
  exact ⟨b, off, e, (hb.cell (cell_lt hc)).trans hc⟩

theorem owns_reads {w : World} {base : Nat} {e : TypeId} {v : Value} {n : Nat} {xs : List Value} (h : w.ownsRow base e 1 v n xs) :
    ∃ a cap, v = .slice a n cap ∧ Reads w a xs ∧ n ≤ cap ∧ cap ≤ maxLen ∧ (∀ x, a = some x → base ≤ x.block ∧ x.block < w.heap.size) ∧ xs.length = n := by
  have hl := h.1
  rw [Nat.mul_one] at hl
  rcases h.2 with ⟨rfl, rfl⟩ | ⟨g, cap, cur, rfl, hb, hg, hnc, hcm, _, _⟩
  · exact ⟨none, 0, rfl, fun i v hv => by rw [List.length_eq_zero_iff.mp hl] at hv; simp at hv, Nat.le_refl _, by unfold maxLen; omega, by simp, hl⟩
  · refine ⟨some ⟨g, 0, none⟩, cap, rfl, fun i v hv => ⟨g, 0, rfl, ?_⟩, hnc, hcm, fun x hx => ?_, hl⟩
    · have hi : i < xs.length := by
        rcases Nat.lt_or_ge i xs.length with h | h
        · exact h
        · rw [List.getElem?_eq_none h] at hv; cases hv
      rw [Nat.zero_add, h.cellAt i (by omega), hv]
    · cases hx
      refine ⟨hb, ?_⟩
      rcases Nat.lt_or_ge g w.heap.size with h | h
      · exact h
      · rw [Array.getElem?_eq_none h] at hg; cases hg

theorem owns_base {w : World} {base base' : Nat} {e : TypeId} {size : Nat} {v : Value} {n : Nat} {xs : List Value} (h : w.ownsRow base e size v n xs) (hb : base' ≤ base) : w.ownsRow base' e size v n xs := by
  obtain ⟨h1, h2⟩ := h
  refine ⟨h1, ?_⟩
  rcases h2 with h2 | ⟨g, cap, cur, a, b, c⟩
  · exact .inl h2
  · exact .inr ⟨g, cap, cur, a, Nat.le_trans hb b, c⟩

theorem owns_below {w w' : World} {base B : Nat} {e : TypeId} {size : Nat} {v : Value} {n : Nat} {xs : List Value} (h : w.ownsRow base e size v n xs) (hb : Below B w w') (hB : w.heap.size ≤ B) : w'.ownsRow base e size v n xs := by
  obtain ⟨h1, h2⟩ := h
  refine ⟨h1, ?_⟩
  rcases h2 with h2 | ⟨g, cap, cur, a, b, c, d⟩
  · exact .inl h2
  · refine .inr ⟨g, cap, cur, a, b, ?_, d⟩
    have : g < w.heap.size := by
      rcases Nat.lt_or_ge g w.heap.size with h | h
      · exact h
      · rw [Array.getElem?_eq_none h] at c; cases c
    rw [hb.block g (by omega)]; exact c
end Go.Proofs.YtjcilpedpimdcaaDoor

/- Appending to a row of the call's own, for whatever is appended. No program in it. -/
namespace Go.Proofs.YtjcilpedpimdcaaDoor
open Go.RowKit
set_option linter.unusedVariables false

theorem grown_below {w w' : World} {base : Nat} {e : TypeId} {v : Value} {n size : Nat} {xs : List Value} (hown : w.ownsRow base e size v n xs) (hg : w.grownBy w' v.ownBlock) (hB : base ≤ w.heap.size) : Below base w w' :=
  (Below.refl _ _).grown hg hB fun k hk => (hown.lt k hk).1

theorem wpList_append_reads {P : Program} {w : World} {ops : Array Oper} {rest : List Oper} {o : Oper} {a : Act} {Q : Exit → Act → World → Prop} (hgd : o.guard = none) (s x : Operand) (t : TypeId)
    (ho : o.op = .call { callee := .builtin .append, args := #[s, x], argTypes := #[t, t] })
    (e : TypeId) (i : TypeInfo) (z : Value) (bytes : Nat) (ht : P.underlying t = some (.slice e)) (hi : P.info? e = some i) (hz : i.zero = some z) (hsize : i.size = 1) (hby : i.bytes = bytes) (hzs : z.cells.size = 1)
    {base : Nat} {v : Value} {n : Nat} {xs : List Value} (hown : w.ownsRow base e 1 v n xs) (hs : a.eval s = v)
    {ao : Option Addr} {m c : Nat} {news : List Value} (hr : Reads w ao news) (hx : a.eval x = .slice ao m c) (hm : news.length = m) (hc : ao = none → c = 0) (h1 : ∀ u ∈ news, u.oneCell' = true)
    (h63 : n + m ≤ maxLen) (hbytes : (n + m) * bytes ≤ 140737488355328) (hbase : base ≤ w.heap.size)
    (h : ∀ v' w', w'.ownsRow base e 1 v' (n + m) (xs ++ news) → Below base w w' → wpList P ops Q rest (a.put o.dst v') w') : wpList P ops Q (o :: rest) a w := by
  cases ao with
  | none =>
    have hn : news = [] := by
      cases news with
      | nil => rfl
      | cons y ys => obtain ⟨b, off, e0, _⟩ := hr 0 y rfl; cases e0
    subst hn
    simp only [List.length_nil] at hm
    subst hm
    have hc0 := hc rfl
    subst hc0
    refine wpList_append_own_none hgd s x t ho base e i 1 ht hi v n xs hs hown hx ?_
    exact h _ _ (by simpa using hown) (Below.refl _ _)
  | some ad =>
    refine wpList_append_own _ hgd s x t ho base e i z 1 bytes ht hi hz hsize hby hzs (by decide) v n xs hs hown ad m c news hx (by omega) (fun j u hu => ?_) h1 h63 hbytes hbase (fun v' w' h2 h3 _ => h v' w' h2 (grown_below hown h3 hbase))
    obtain ⟨b, off, e0, hcell⟩ := hr j u hu
    cases e0
    have hA : (⟨b, off, none⟩ : Addr).add j = ⟨b, off + j, none⟩ := by
      by_cases h0 : j = 0
      · subst h0; simp [Addr.add]
      · simp [Addr.add, h0]
    rw [hA]
    exact hcell

/-- One value appended: it lies first in a new block of its own. -/
theorem wpList_append_one {P : Program} {wr : World} {ops : Array Oper} {rest : List Oper} {o : Oper} {a : Act} {Q : Exit → Act → World → Prop} (hgd : o.guard = none) (s x : Operand) (t : TypeId)
    (ho : o.op = .call { callee := .builtin .append, args := #[s, x], argTypes := #[t, t] })
    (e : TypeId) (i : TypeInfo) (z : Value) (bytes : Nat) (ht : P.underlying t = some (.slice e)) (hi : P.info? e = some i) (hz : i.zero = some z) (hsize : i.size = 1) (hby : i.bytes = bytes) (hzs : z.cells.size = 1)
    {base : Nat} {v : Value} {n : Nat} {xs : List Value} (hown : wr.ownsRow base e 1 v n xs) (hs : a.eval s = v)
    {y : Value} {t' : TypeId} (hx : a.eval x = .slice (some ⟨wr.heap.size, 0, none⟩) 1 1) (h1 : y.oneCell' = true)
    (h63 : n + 1 ≤ maxLen) (hbytes : (n + 1) * bytes ≤ 140737488355328) (hbase : base ≤ wr.heap.size)
    (h : ∀ v' w', w'.ownsRow base e 1 v' (n + 1) (xs ++ [y]) → Below base wr w' → wpList P ops Q rest (a.put o.dst v') w') : wpList P ops Q (o :: rest) a (wr.alloc (.cells #[y] t')) := by
  refine wpList_append_own _ hgd s x t ho base e i z 1 bytes ht hi hz hsize hby hzs (by decide) v n xs hs (hown.alloc _) ⟨wr.heap.size, 0, none⟩ 1 1 [y] hx rfl (cell_one_new _ _ _) (fun u hu => by simp at hu; subst hu; exact h1) h63 hbytes (by simp; omega) (fun v' w' h2 h3 _ => h v' w' h2 ?_)
  exact ((Below.refl _ _).alloc hbase _).grown h3 (by simp; omega) fun k hk => (hown.lt k hk).1

theorem bytes_one (l : List Int) (k : IntKind) : ∀ u ∈ l.map (Value.int k), u.oneCell' = true := by
  intro u hu
  obtain ⟨x, _, rfl⟩ := List.mem_map.mp hu
  rfl

theorem Reads.cut {w : World} {b off : Nat} {xs ys : List Value} (h : Reads w (some ⟨b, off, none⟩) (xs ++ ys)) : Reads w (some ⟨b, off + xs.length, none⟩) ys := fun i v hv => by
  obtain ⟨b', off', e, hc⟩ := h (xs.length + i) v (by rw [List.getElem?_append_right (by omega)]; simpa using hv)
  cases e
  exact ⟨b, off + xs.length, rfl, by rw [Nat.add_assoc]; exact hc⟩
/-- What stands behind a cut 's[n:]', as the model writes its address. -/
theorem Reads.cut_if {w : World} {b off c : Nat} {xs ys : List Value} (h : Reads w (some ⟨b, off, none⟩) (xs ++ ys)) (q : Nat) (hq : xs.length = q) (hc : c = q → ys = []) :
    Reads w (if c = q then some ⟨b, off, none⟩ else some ⟨b, off + q, none⟩) ys := by
  subst hq
  by_cases e : c = xs.length
  · rw [hc e]; exact Reads.nil _ _
  · rw [if_neg e]; exact h.cut
theorem Reads.head {w : World} {a : Option Addr} {xs ys : List Value} (h : Reads w a (xs ++ ys)) : Reads w a xs := fun i v hv => by
  have hi : i < xs.length := by
    rcases Nat.lt_or_ge i xs.length with h | h
    · exact h
    · rw [List.getElem?_eq_none h] at hv; cases hv
  exact h i v (by rw [List.getElem?_append_left hi]; exact hv)

/-- A row of the call's own, as a slice that is read. -/
theorem owns_open {w : World} {base : Nat} {e : TypeId} {v : Value} {n : Nat} {xs : List Value} (h : w.ownsRow base e 1 v n xs) :
    ∃ a c, v = .slice a n c ∧ Reads w a xs ∧ (a = none → c = 0) ∧ n ≤ c ∧ c ≤ maxLen ∧ xs.length = n := by
  obtain ⟨a, c, rfl, h1, h2, h3, _, h5⟩ := owns_reads h
  refine ⟨a, c, rfl, h1, fun e0 => ?_, h2, h3, h5⟩
  subst e0
  rcases h.2 with ⟨hv, _⟩ | ⟨g, cap, cur, hv, _⟩
  · cases hv; rfl
  · cases hv

/-- A slice of the call's own, in new memory: its values are xs, N of them. -/
def Owned (base : Nat) (e : TypeId) (a : Option Addr) (n c : Nat) (xs : List Value) (w : World) : Prop :=
  w.ownsRow base e 1 (.slice a n c) n xs ∧ Reads w a xs ∧ (a = none → c = 0) ∧ n ≤ c ∧ c ≤ maxLen ∧ xs.length = n
theorem Owned.reads {base : Nat} {e : TypeId} {a : Option Addr} {n c : Nat} {xs : List Value} {w : World} (h : Owned base e a n c xs w) : Reads w a xs := h.2.1
theorem Owned.nil0 {base : Nat} {e : TypeId} {a : Option Addr} {n c : Nat} {xs : List Value} {w : World} (h : Owned base e a n c xs w) : a = none → c = 0 := h.2.2.1
theorem Owned.len {base : Nat} {e : TypeId} {a : Option Addr} {n c : Nat} {xs : List Value} {w : World} (h : Owned base e a n c xs w) : xs.length = n := h.2.2.2.2.2
theorem Owned.head {base : Nat} {e : TypeId} {a : Option Addr} {n c : Nat} {xs : List Value} {w : World} (h : Owned base e a n c xs w) (hn : 1 ≤ n) : ∃ g, a = some ⟨g, 0, none⟩ ∧ base ≤ g ∧ g < w.heap.size := by
  rcases h.1.2 with ⟨hv, hx⟩ | ⟨g, cap, cur, hv, hb, hg, _⟩
  · cases hv
    omega
  · cases hv
    refine ⟨g, rfl, hb, ?_⟩
    rcases Nat.lt_or_ge g w.heap.size with h | h
    · exact h
    · rw [Array.getElem?_eq_none h] at hg; cases hg
theorem Owned.below {base B : Nat} {e : TypeId} {a : Option Addr} {n c : Nat} {xs : List Value} {w w' : World} (h : Owned base e a n c xs w) (hb : Below B w w') (hB : w.heap.size ≤ B) : Owned base e a n c xs w' :=
  ⟨owns_below h.1 hb hB, h.2.1.below' (hb.mono hB), h.2.2⟩
theorem Owned.base {base base' : Nat} {e : TypeId} {a : Option Addr} {n c : Nat} {xs : List Value} {w : World} (h : Owned base e a n c xs w) (hb : base' ≤ base) : Owned base' e a n c xs w := ⟨owns_base h.1 hb, h.2⟩
theorem Owned.of {w : World} {base : Nat} {e : TypeId} {v : Value} {n : Nat} {xs : List Value} (h : w.ownsRow base e 1 v n xs) : ∃ a c, v = .slice a n c ∧ Owned base e a n c xs w := by
  obtain ⟨a, c, rfl, h1⟩ := owns_open h
  exact ⟨a, c, rfl, h, h1⟩

theorem wpList_append_to {P : Program} {w : World} {ops : Array Oper} {rest : List Oper} {o : Oper} {a : Act} {Q : Exit → Act → World → Prop} (hgd : o.guard = none) (s x : Operand) (t : TypeId)
    (ho : o.op = .call { callee := .builtin .append, args := #[s, x], argTypes := #[t, t] })
    (e : TypeId) (i : TypeInfo) (z : Value) (bytes : Nat) (ht : P.underlying t = some (.slice e)) (hi : P.info? e = some i) (hz : i.zero = some z) (hsize : i.size = 1) (hby : i.bytes = bytes) (hzs : z.cells.size = 1)
    {base : Nat} {a0 : Option Addr} {n c0 : Nat} {xs : List Value} (hown : Owned base e a0 n c0 xs w) (hs : a.eval s = .slice a0 n c0)
    {ao : Option Addr} {m c : Nat} {news : List Value} (hr : Reads w ao news) (hx : a.eval x = .slice ao m c) (hm : news.length = m) (hc : ao = none → c = 0) (h1 : ∀ u ∈ news, u.oneCell' = true)
    (N : Nat) (hN : n + m = N) (h63 : N ≤ maxLen) (hbytes : N * bytes ≤ 140737488355328) (hbase : base ≤ w.heap.size)
    (h : ∀ a' c' w', Owned base e a' N c' (xs ++ news) w' → Below base w w' → wpList P ops Q rest (a.put o.dst (.slice a' N c')) w') : wpList P ops Q (o :: rest) a w := by
  subst hN
  refine wpList_append_reads hgd s x t ho e i z bytes ht hi hz hsize hby hzs hown.1 hs hr hx hm hc h1 h63 hbytes hbase fun v' w' h2 h3 => ?_
  obtain ⟨a', c', rfl, h4⟩ := Owned.of h2
  exact h a' c' w' h4 h3

/-- Appended to the empty literal, which lies in a new block. -/
theorem wpList_append_lit {P : Program} {wr : World} {ops : Array Oper} {rest : List Oper} {o : Oper} {a : Act} {Q : Exit → Act → World → Prop} (hgd : o.guard = none) (s x : Operand) (t : TypeId)
    (ho : o.op = .call { callee := .builtin .append, args := #[s, x], argTypes := #[t, t] })
    (e : TypeId) (i : TypeInfo) (z : Value) (bytes : Nat) (ht : P.underlying t = some (.slice e)) (hi : P.info? e = some i) (hz : i.zero = some z) (hsize : i.size = 1) (hby : i.bytes = bytes) (hzs : z.cells.size = 1)
    (hs : a.eval s = .slice (some ⟨wr.heap.size, 0, none⟩) 0 0)
    {ao : Option Addr} {m c : Nat} {news : List Value} (hr : Reads wr ao news) (hx : a.eval x = .slice ao m c) (hm : news.length = m) (hc : ao = none → c = 0) (h1 : ∀ u ∈ news, u.oneCell' = true)
    (h63 : m ≤ maxLen) (hbytes : m * bytes ≤ 140737488355328)
    (h : ∀ a' c' w', Owned wr.heap.size e a' m c' news w' → Below wr.heap.size wr w' → wpList P ops Q rest (a.put o.dst (.slice a' m c')) w') : wpList P ops Q (o :: rest) a (wr.alloc (.cells #[] e)) := by
  have hlit : (wr.alloc (.cells #[] e)).ownsRow wr.heap.size e 1 (.slice (some ⟨wr.heap.size, 0, none⟩) 0 0) 0 [] := World.ownsRow_lit _ #[] 0 (Nat.le_refl _) (by unfold maxLen; omega) rfl
  have hal : Below wr.heap.size wr (wr.alloc (.cells #[] e)) := (Below.refl _ _).alloc (Nat.le_refl _) _
  refine wpList_append_reads hgd s x t ho e i z bytes ht hi hz hsize hby hzs hlit hs (hr.below' hal) hx hm hc h1 (by omega) (by rw [Nat.zero_add]; exact hbytes) (by simp) fun v' w' h2 h3 => ?_
  rw [Nat.zero_add, List.nil_append] at h2
  obtain ⟨a', c', rfl, h4⟩ := Owned.of h2
  exact h a' c' w' h4 (hal.trans h3)

/-- The empty literal itself. -/
theorem owned_lit (w : World) (e : TypeId) : Owned w.heap.size e (some ⟨w.heap.size, 0, none⟩) 0 0 [] (w.alloc (.cells #[] e)) := by
  have h : (w.alloc (.cells #[] e)).ownsRow w.heap.size e 1 (.slice (some ⟨w.heap.size, 0, none⟩) 0 0) 0 [] := World.ownsRow_lit _ #[] 0 (Nat.le_refl _) (by unfold maxLen; omega) rfl
  obtain ⟨a, c, e1, h1⟩ := owns_open h
  cases e1
  exact ⟨h, h1⟩

/-- A contract's row of values in new memory. -/
def GivesOwned (e : TypeId) (xs : List Value) (n : Nat) (w : World) (en : Ending) (w' : World) : Prop :=
  ∃ a c, en = .returned (.slice a n c) ∧ Owned w.heap.size e a n c xs w' ∧ Below w.heap.size w w'

/-- A literal's values, in a new block. -/
theorem reads_new (w : World) (xs : List Value) (e : TypeId) : Reads (w.alloc (.cells xs.toArray e)) (some ⟨w.heap.size, 0, none⟩) xs := fun i v hv => by
  refine ⟨w.heap.size, 0, rfl, ?_⟩
  rw [Nat.zero_add, World.cell?_alloc_at _ _ _ _ rfl]
  simpa using hv
theorem below_alloc (w : World) (o : Obj) : Below w.heap.size w (w.alloc o) := (Below.refl _ _).alloc (Nat.le_refl _) _

/-- A guarded operation whose guard says yes goes as one without a guard. -/
theorem wpList_guard {P : Program} {w : World} {ops : Array Oper} {rest : List Oper} {o : Oper} {a : Act} {Q : Exit → Act → World → Prop} (hw : Region.wanted o (yielded ops a.tmps) = true)
    (h : wpList P ops Q ({ o with guard := none } :: rest) a w) : wpList P ops Q (o :: rest) a w := by
  unfold wpList at h ⊢
  rw [if_pos hw]
  rw [if_pos (by simp [Region.wanted])] at h
  exact h
theorem Reads.drewN {w : World} {a : Option Addr} {xs : List Value} (h : Reads w a xs) (n : Nat) : Reads (w.drewN n) a xs := h.same (fun x => by simp)
end Go.Proofs.YtjcilpedpimdcaaDoor

/- Contracts of layer 6: texts. -/
namespace Go.Proofs.YtjcilpedpimdcaaDoor
open Go.RowKit
set_option linter.unusedVariables false

/-- A text is answered; what was there is as it was. -/
def GivesStr (l : List UInt8) (w : World) (e : Ending) (w' : World) : Prop := e = .returned (.string (str l)) ∧ Below w.heap.size w w'

set_option maxRecDepth 100000 in
theorem lowerC (l : List UInt8) (n : Nat) (w : World) (hl : l.length = n) (hm : n ≤ maxLen) :
    Calls Tryd.prog 18 #[.string (str l)] w (GivesStr (l.map low) w) := by
  have hsz : (str l).size = n := by rw [str_size, hl]
  have hcv := fun w : World => Lib.run_convert_string_bytes (P := Tryd.prog) w 9 44 5 (str l) Tryd.underlying9 Tryd.underlying44 Tryd.underlying5
  have hB0 := BRow.new w 5 l
  have hb0 : Below w.heap.size w (Lib.bytesWorld w 5 (str l)) := ⟨rfl, rfl, rfl, by rw [Lib.bytesWorld_size]; omega, fun k hk => Lib.bytesWorld_at_old w 5 (str l) k hk⟩
  unfold maxLen at hm
  have HL := Lib.hid hl
  clear hl
  go_enter Tryd.func18, Tryd.ntmps18
  go_wp2
  generalize Lib.bytesWorld w 5 (str l) = w1 at *
  go_loopw [9] (fun i wr => ∃ k : Nat, k ≤ n ∧ i = .int .i64 (k : Int) ∧ BRow wr w.heap.size ((l.take k).map low ++ l.drop k) ∧ Below w.heap.size w wr) (fun i _ => n - (intOf i).toNat)
  case atStart => exact ⟨0, Nat.zero_le _, rfl, by simpa using hB0, hb0⟩
  case round =>
    obtain ⟨k, hk, rfl, H, hb⟩ := hrel
    clear hcv hB0 hb0
    have hlen : ((l.take k).map low ++ l.drop k).length = n := by have := HL.out; simp; omega
    by_cases hlt : k < n
    · have hlt' : (k : Int) < (n : Int) := by omega
      have hi := run_index_str (P := Tryd.prog) wr 9 l .i64 k Tryd.underlying9 (by rw [HL.out]; exact hlt)
      have HS := Lib.hid (set_low (f := low) (l := l) (k := k) (by rw [HL.out]; exact hlt))
      have HN := Lib.hid (H.set k (low (l.getD k 0)))
      have hc := H.cell k (by omega)
      have hf := H.free k (by omega)
      have hlt2 : w.heap.size < wr.heap.size := H.lt
      have HC := fun w => smallC (l.getD k 0) w
      have HB := Lib.hid hb
      generalize ((List.take k l).map low ++ List.drop k l).getD k 0 = y at hc
      clear H hb
      generalize l.getD k 0 = x at *
      go_wp2_with (go_at_call 39; (with_reducible refine (HC _).mono ?_); rintro e w2 ⟨rfl, rfl⟩)
      go_roundw
      case rel => exact ⟨k + 1, by omega, by go_num, by rw [← HS.out]; exact HN.out, HB.out.setCell (Nat.le_refl _) _⟩
      case measure => simp [intOf]; omega
    · obtain rfl : k = n := by omega
      have e1 : (l.take k).map low ++ l.drop k = l.map low := by rw [← HL.out]; simp
      rw [e1] at H hlen
      have hbk := fun cap => H.back (P := Tryd.prog) 44 9 5 k cap Tryd.underlying44 Tryd.underlying5 Tryd.underlying9 hlen
      have HB := Lib.hid hb
      clear H hb e1
      go_wp2
      go_ret
      exact ⟨rfl, HB.out⟩

theorem sameC (a b : List UInt8) (n m : Nat) (w : World) (hl : a.length = n) (hm : n ≤ maxLen) (hl2 : b.length = m) (hm2 : m ≤ maxLen) :
    Calls Tryd.prog 62 #[.string (str a), .string (str b)] w fun e w' => e = .returned (.bool (a.map low == b.map low)) ∧ Below w.heap.size w w' := by
  have H1 := fun w => lowerC a n w hl hm
  have H2 := fun w => lowerC b m w hl2 hm2
  unfold GivesStr at H1 H2
  have hk := str_toList
  go_enter Tryd.func62, Tryd.ntmps62
  go_wp2_with (go_at_call 18; first | ((with_reducible refine (H1 _).mono ?_); rintro e1 w1 ⟨rfl, hb1⟩) | ((with_reducible refine (H2 _).mono ?_); rintro e2 w2 ⟨rfl, hb2⟩))
  go_ret
  exact ⟨rfl, hb1.trans (hb2.mono hb1.size)⟩

theorem digitsC (l : List UInt8) (n : Nat) (w : World) (hl : l.length = n) (hm : n ≤ maxLen) :
    Calls Tryd.prog 43 #[.string (str l)] w fun e w' => e = .returned (.int .i64 (l.findIdx (fun x => !digit x) : Int)) ∧ w = w' := by
  have HF := fun w => firstDigitC (fun x => !digit x) l n w (fun x => digitFnC x w) hl hm
  generalize l.findIdx (fun x => !digit x) = f at *
  clear hl
  go_enter Tryd.func43, Tryd.ntmps43
  go_wp2_with (go_at_call 57; (with_reducible refine (HF _).mono ?_); rintro e w2 ⟨rfl, rfl⟩)
  go_ret
  exact ⟨rfl, rfl⟩

/-- What is ahead of the first byte c, what is behind it, and whether there is one. -/
def cutL (l : List UInt8) (c : UInt8) : List UInt8 × List UInt8 × Bool :=
  if l.findIdx (· == c) = l.length then (l, [], false) else (l.take (l.findIdx (· == c)), l.drop (l.findIdx (· == c) + 1), true)

end Go.Proofs.YtjcilpedpimdcaaDoor

/- What the library's functions that this program calls answer: contracts of the guide's shelf, laid at this program. -/
namespace Go.Proofs
open Go.Shelf
def Tryd.lays103_ren : Go.Shelf.Ren := ⟨fun | 103 => 42 | 210 => 56 | 206 => 45 | n => n, fun | 9 => 9 | 4 => 4 | 24 => 65 | 3 => 3 | n => n, fun | n => n⟩
theorem Tryd.lays103 : Go.Proofs.Lays.n103 Tryd.prog Tryd.lays103_ren := {
  mixed := by kernel_rfl
  f103 := Tryd.func42.trans (congrArg some (by kernel_rfl))
  f206 := Tryd.func45.trans (congrArg some (by kernel_rfl))
  f210 := Tryd.func56.trans (congrArg some (by kernel_rfl))
  t3 := Tryd.underlying3
  a3 := Tryd.isAgg3
  z3 := Tryd.sizeOf3
  v3 := Tryd.zeroValue3
  t4 := Tryd.underlying4
  a4 := Tryd.isAgg4
  z4 := Tryd.sizeOf4
  v4 := Tryd.zeroValue4
  t9 := Tryd.underlying9
  a9 := Tryd.isAgg9
  z9 := Tryd.sizeOf9
  v9 := Tryd.zeroValue9
  t24 := Tryd.underlying65
  a24 := Tryd.isAgg65
  z24 := Tryd.sizeOf65
  v24 := Tryd.zeroValue65 }
open Go.RowKit in
theorem Tryd.strings_CutPrefix (s p : ByteArray) (w : World) :
    Calls Tryd.prog 42 #[.string s, .string p] w fun e w' => e = .returned (.tuple #[.string ⟨(Lib.trimPrefix s.data.toList p.data.toList).toArray⟩, .bool (Lib.hasPrefix s.data.toList p.data.toList)]) ∧ w' = w := Any.strings_CutPrefix Tryd.lays103 s p w
def Tryd.lays99_ren : Go.Shelf.Ren := ⟨fun | 99 => 25 | 206 => 45 | n => n, fun | 9 => 9 | 4 => 4 | 3 => 3 | n => n, fun | n => n⟩
theorem Tryd.lays99 : Go.Proofs.Lays.n99 Tryd.prog Tryd.lays99_ren := {
  mixed := by kernel_rfl
  f99 := Tryd.func25.trans (congrArg some (by kernel_rfl))
  f206 := Tryd.func45.trans (congrArg some (by kernel_rfl))
  t3 := Tryd.underlying3
  a3 := Tryd.isAgg3
  z3 := Tryd.sizeOf3
  v3 := Tryd.zeroValue3
  t4 := Tryd.underlying4
  a4 := Tryd.isAgg4
  z4 := Tryd.sizeOf4
  v4 := Tryd.zeroValue4
  t9 := Tryd.underlying9
  a9 := Tryd.isAgg9
  z9 := Tryd.sizeOf9
  v9 := Tryd.zeroValue9 }
open Go.RowKit Go.Lib in
theorem Tryd.strings_HasPrefix (s p : ByteArray) (w : World) :
    Calls Tryd.prog 25 #[.string s, .string p] w fun e w' => e = .returned (.bool (Lib.hasPrefix s.data.toList p.data.toList)) ∧ w' = w := Any.strings_HasPrefix Tryd.lays99 s p w
def Tryd.lays101_ren : Go.Shelf.Ren := ⟨fun | 101 => 23 | 208 => 44 | 206 => 45 | n => n, fun | 9 => 9 | 4 => 4 | 3 => 3 | n => n, fun | n => n⟩
theorem Tryd.lays101 : Go.Proofs.Lays.n101 Tryd.prog Tryd.lays101_ren := {
  mixed := by kernel_rfl
  f101 := Tryd.func23.trans (congrArg some (by kernel_rfl))
  f206 := Tryd.func45.trans (congrArg some (by kernel_rfl))
  f208 := Tryd.func44.trans (congrArg some (by kernel_rfl))
  t3 := Tryd.underlying3
  a3 := Tryd.isAgg3
  z3 := Tryd.sizeOf3
  v3 := Tryd.zeroValue3
  t4 := Tryd.underlying4
  a4 := Tryd.isAgg4
  z4 := Tryd.sizeOf4
  v4 := Tryd.zeroValue4
  t9 := Tryd.underlying9
  a9 := Tryd.isAgg9
  z9 := Tryd.sizeOf9
  v9 := Tryd.zeroValue9 }
open Go.RowKit Go.Lib in
theorem Tryd.strings_TrimPrefix (s p : ByteArray) (w : World) :
    Calls Tryd.prog 23 #[.string s, .string p] w fun e w' => e = .returned (.string ⟨(Lib.trimPrefix s.data.toList p.data.toList).toArray⟩) ∧ w' = w := Any.strings_TrimPrefix Tryd.lays101 s p w
end Go.Proofs

/- Contracts of layer 6: numbers. -/
namespace Go.Proofs.YtjcilpedpimdcaaDoor
open Go.RowKit
set_option linter.unusedVariables false

theorem cutDashC (l : List UInt8) (w : World) : Calls Tryd.prog 42 #[.string (str l), .string ⟨#[45]⟩] w fun e w' => e = .returned (.tuple #[.string (str (body l)), .bool (signed l)]) ∧ w = w' := by
  refine (Tryd.strings_CutPrefix (str l) ⟨#[45]⟩ w).mono ?_
  rintro e w' ⟨rfl, rfl⟩
  rw [str_data]
  exact ⟨rfl, rfl⟩

set_option maxRecDepth 100000 in
theorem numberC (l : List UInt8) (n : Nat) (w : World) (hl : l.length = n) (hm : n ≤ maxLen) :
    Calls Tryd.prog 21 #[.string (str l)] w fun e w' => e = .returned (.tuple #[.int .i64 (numL l).1, .bool (numL l).2]) ∧ w = w' := by
  have HC := cutDashC l
  have hle := body_le l
  unfold numL
  generalize body l = b at *
  generalize signed l = g at *
  obtain ⟨m, hb⟩ : ∃ m, b.length = m := ⟨_, rfl⟩
  have hsz : (str b).size = m := by rw [str_size, hb]
  have HD := fun w => digitsC b m w hb (by omega)
  have hd : lead b ≤ m := by rw [← hb]; exact lead_le b
  have hal := fun h => lead_all (l := b) h
  rw [hb] at hle hal ⊢
  rw [hl] at hle
  clear hl
  change ∀ w, Calls Tryd.prog 43 #[.string (str b)] w fun e w' => e = .returned (.int .i64 (lead b : Int)) ∧ w = w' at HD
  have hk := str_toList b
  have HB := Lib.hid hb
  unfold maxLen at hm
  rcases Nat.eq_zero_or_pos m with hm0 | hm0
  · rw [if_pos (.inl hm0)]
    have : b = [] := List.eq_nil_of_length_eq_zero (hb.trans hm0)
    subst this
    clear hb HB hal HD hd
    go_enter Tryd.func21, Tryd.ntmps21
    go_wp2_with (go_at_call 42; (with_reducible refine (HC _).mono ?_); rintro e w2 ⟨rfl, rfl⟩)
    go_ret2
    exact ⟨rfl, rfl⟩
  · have hbn : (b == []) = false := by
      cases b with
      | nil => simp at hb; omega
      | cons x xs => rfl
    clear hb
    generalize lead b = d at *
    by_cases hlt : d < m
    · rw [if_pos (.inr hlt)]
      have hlt' : (d : Int) < (m : Int) := by omega
      go_enter Tryd.func21, Tryd.ntmps21
      go_wp2_with (first | (go_at_call 42; (with_reducible refine (HC _).mono ?_); rintro e w2 ⟨rfl, rfl⟩) | (go_at_call 43; (with_reducible refine (HD _).mono ?_); rintro e w2 ⟨rfl, rfl⟩))
      go_ret2
      exact ⟨rfl, rfl⟩
    · rw [if_neg (by omega)]
      obtain rfl : d = m := by omega
      have hge : ¬ ((d : Int) < (d : Int)) := by omega
      have HA := Lib.hid (hal rfl)
      clear hal hlt
      go_enter Tryd.func21, Tryd.ntmps21
      go_wp2_with (first | (go_at_call 42; (with_reducible refine (HC _).mono ?_); rintro e w2 ⟨rfl, rfl⟩) | (go_at_call 43; (with_reducible refine (HD _).mono ?_); rintro e w2 ⟨rfl, rfl⟩))
      go_loopw [6, 24] (fun v i wr => ∃ k : Nat, k ≤ d ∧ v = .int .i64 (numV (b.take k) : Int) ∧ i = .int .i64 (k : Int) ∧ w = wr) (fun _ i _ => d - (intOf i).toNat)
      case atStart => exact ⟨0, Nat.zero_le _, rfl, rfl, rfl⟩
      case round =>
        obtain ⟨k, hk2, rfl, rfl, rfl⟩ := hrel
        clear HC HD
        by_cases hlt : k < d
        · have hlt' : (k : Int) < (d : Int) := by omega
          have hi := run_index_str (P := Tryd.prog) w 9 b .i64 k Tryd.underlying9 (by rw [HB.out]; exact hlt)
          obtain ⟨d1, d2⟩ := HA.out k hlt
          have HV := Lib.hid (numV_take (l := b) (k := k) (by rw [HB.out]; exact hlt))
          have hv := numV_le (b.take k)
          generalize numV (b.take k) = V at *
          generalize (b.getD k 0).toNat = x at *
          obtain ⟨y, rfl⟩ : ∃ y, x = y + 48 := ⟨x - 48, by omega⟩
          go_wp2
          go_roundw
          case rel => exact ⟨k + 1, by omega, by rw [HV.out]; congr 1; omega, by go_num, by first | rfl | trivial⟩
          case measure => simp [intOf]; omega
        · obtain rfl : k = d := by omega
          have hv := numV_le b
          have e1 : b.take k = b := List.take_of_length_le (by rw [HB.out]; omega)
          rw [e1]
          obtain ⟨V, hV⟩ : ∃ V, numV b = V := ⟨_, rfl⟩
          rw [hV] at hv ⊢
          have HV := Lib.hid hV
          clear hV e1
          cases g
          · go_wp2
            go_ret2
            exact ⟨by rw [HV.out]; rfl, rfl⟩
          · go_wp2
            go_ret2
            exact ⟨by rw [HV.out]; simp, rfl⟩
end Go.Proofs.YtjcilpedpimdcaaDoor

/- Appending to a slice of the call's own, and where the new slice lies. No program in it. -/
namespace Go.Proofs.YtjcilpedpimdcaaDoor
open Go.RowKit
set_option linter.unusedVariables false

/-- The block that a slice lies in is none of these. -/
def Apart (a : Option Addr) (B : Nat) : Prop := ∀ x, a = some x → x.block ≠ B
theorem Apart.none (B : Nat) : Apart none B := fun x h => by cases h

/-- All that was there stays, but for the row of the slice itself. -/
def GrownBut (w w' : World) (a : Option Addr) : Prop := w.heap.size ≤ w'.heap.size ∧ ∀ k, k < w.heap.size → Apart a k → w'.heap[k]? = w.heap[k]?
theorem GrownBut.cell {w w' : World} {a : Option Addr} (h : GrownBut w w' a) {x : Addr} {v : Value} (hc : w.cell? x = some v) (ha : Apart a x.block) : w'.cell? x = some v :=
  (World.cell?_of_block (h.2 x.block (cell_lt hc) ha)).trans hc
theorem GrownBut.frozen {w w' : World} {a : Option Addr} (h : GrownBut w w' a) {x : Addr} (hx : x.block < w.heap.size) (ha : Apart a x.block) : w'.frozen? x = w.frozen? x :=
  World.frozen?_of_block (h.2 x.block hx ha)

theorem wpList_append_where {P : Program} {w : World} {ops : Array Oper} {rest : List Oper} {o : Oper} {a : Act} {Q : Exit → Act → World → Prop} (hgd : o.guard = none) (s x : Operand) (t : TypeId)
    (ho : o.op = .call { callee := .builtin .append, args := #[s, x], argTypes := #[t, t] })
    (e : TypeId) (i : TypeInfo) (z : Value) (bytes : Nat) (ht : P.underlying t = some (.slice e)) (hi : P.info? e = some i) (hz : i.zero = some z) (hsize : i.size = 1) (hby : i.bytes = bytes) (hzs : z.cells.size = 1)
    {base : Nat} {a0 : Option Addr} {n c0 : Nat} {xs : List Value} (hown : Owned base e a0 n c0 xs w) (hs : a.eval s = .slice a0 n c0)
    {ao : Option Addr} {m c : Nat} {news : List Value} (hr : Reads w ao news) (hx : a.eval x = .slice ao m c) (hm : news.length = m) (hc : ao = none → c = 0) (h1 : ∀ u ∈ news, u.oneCell' = true)
    (N : Nat) (hN : n + m = N) (h63 : N ≤ maxLen) (hbytes : N * bytes ≤ 140737488355328) (hbase : base ≤ w.heap.size)
    (h : ∀ a' c' w', Owned base e a' N c' (xs ++ news) w' → Below base w w' → GrownBut w w' a0 → (a' = a0 ∨ ∃ g, a' = some ⟨g, 0, none⟩ ∧ w.heap.size ≤ g) → wpList P ops Q rest (a.put o.dst (.slice a' N c')) w') : wpList P ops Q (o :: rest) a w := by
  subst hN
  refine wpList_plain hgd fun K hK => ?_
  have hrun : ∃ v' w', (Builtin.append_ #[t, t] o.type #[.slice a0 n c0, .slice ao m c]).run P w = .ok v' w' ∧ w'.ownsRow base e 1 v' (n + m) (xs ++ news) ∧ w.grownBy w' (Value.slice a0 n c0).ownBlock ∧ (v'.ownBlock = (Value.slice a0 n c0).ownBlock ∨ v'.ownBlock = some w.heap.size) := by
    cases ao with
    | none =>
      have hn : news = [] := by
        cases news with
        | nil => rfl
        | cons y ys => obtain ⟨b, off, e0, _⟩ := hr 0 y rfl; cases e0
      subst hn
      simp only [List.length_nil] at hm
      subst hm
      have hc0 := hc rfl
      subst hc0
      have hrn := run_append_owned_none (P := P) (w := w) base t o.type e i 1 ht hi _ n xs hown.1
      exact ⟨_, w, hrn, by simpa using hown.1, ⟨rfl, rfl, rfl, Nat.le_refl _, fun _ _ _ => rfl⟩, .inl rfl⟩
    | some ad =>
      obtain ⟨v', w', h2, h3, h4, _, h5⟩ := run_append_own_at (P := P) w base t o.type e i z 1 bytes ht hi hz hsize hby hzs (by decide) _ n xs hown.1 ad m c news (by omega) (fun j u hu => by
        obtain ⟨b, off, e0, hcell⟩ := hr j u hu
        cases e0
        have hA : (⟨b, off, none⟩ : Addr).add j = ⟨b, off + j, none⟩ := by
          by_cases h0 : j = 0
          · subst h0; simp [Addr.add]
          · simp [Addr.add, h0]
        rw [hA]
        exact hcell) h1 h63 hbytes hbase
      exact ⟨v', w', h2, h3, h4, h5⟩
  obtain ⟨v', w', h2, h3, h4, h5⟩ := hrun
  unfold Oper.wp execOp
  simp only [ho, resolve, invoke, builtin, Sem.run_bind, Sem.run_pure, Result.andThen_ok, List.map_toArray, List.map_cons, List.map_nil, hs, hx, h2]
  obtain ⟨a', c', rfl, h6⟩ := Owned.of h3
  refine hK _ _ (h a' c' w' h6 (grown_below hown.1 h4 hbase) ⟨h4.size, fun k hk ha => h4.block k hk fun e0 => ?_⟩ ?_)
  · cases a0 with
    | none => simp [Value.ownBlock] at e0
    | some x0 => exact ha x0 rfl (by simpa [Value.ownBlock] using e0.symm)
  · rcases h6.1.2 with ⟨hv, hn0⟩ | ⟨g, cap, cur, hv, hb, hg, _⟩
    · simp only [Value.slice.injEq] at hv
      obtain ⟨rfl, -, -⟩ := hv
      rcases h5 with h5 | h5
      · cases a0 with
        | none => exact .inl rfl
        | some x0 => simp [Value.ownBlock] at h5
      · simp [Value.ownBlock] at h5
    · simp only [Value.slice.injEq] at hv
      obtain ⟨rfl, -, -⟩ := hv
      rcases h5 with h5 | h5
      · cases a0 with
        | none => simp [Value.ownBlock] at h5
        | some x0 =>
          rcases hown.1.2 with ⟨hv0, _⟩ | ⟨g0, cap0, cur0, hv0, _⟩
          · cases hv0
          · cases hv0
            simp [Value.ownBlock] at h5
            subst h5
            exact .inl rfl
      · simp [Value.ownBlock] at h5
        exact .inr ⟨g, rfl, by omega⟩

theorem Owned.setCell {base : Nat} {e : TypeId} {a : Option Addr} {n c : Nat} {xs : List Value} {w : World} (h : Owned base e a n c xs w) {p : Addr} (ha : Apart a p.block) (u : Value) : Owned base e a n c xs (w.setCell p u) := by
  have hne : (Value.slice a n c).ownBlock ≠ some p.block := fun e0 => by
    cases a with
    | none => simp [Value.ownBlock] at e0
    | some x => exact ha x rfl (by simpa [Value.ownBlock] using e0)
  obtain ⟨a', c', he, h2⟩ := Owned.of (ownsRow_setCell_other h.1 hne u)
  cases he
  exact h2
end Go.Proofs.YtjcilpedpimdcaaDoor

/- Contracts of layer 6: parts; the reference's. -/
namespace Go.Proofs.YtjcilpedpimdcaaDoor
open Go.RowKit
set_option linter.unusedVariables false

theorem infoStr : (Tryd.prog.info? 9).map (fun i => (i.zero, i.size, i.bytes)) = some (some (.string ⟨#[]⟩), 1, 16) := by kernel_rfl
/-- Strings of these bytes. -/
def strs (p : List (List UInt8)) : List Value := p.map fun l => Value.string (str l)
theorem strs_length (p : List (List UInt8)) : (strs p).length = p.length := by unfold strs; rw [List.length_map]
theorem strs_snoc (p : List (List UInt8)) (x : List UInt8) : strs p ++ [.string (str x)] = strs (p ++ [x]) := by unfold strs; rw [List.map_append]; rfl

/-- Texts in new memory. -/
def GivesStrs (p : List (List UInt8)) (w : World) (en : Ending) (w' : World) : Prop :=
  ∃ a c, en = .returned (.slice a p.length c) ∧ Owned w.heap.size 9 a p.length c (strs p) w' ∧ Below w.heap.size w w'

end Go.Proofs.YtjcilpedpimdcaaDoor

/- Contracts of the reference of layer 6. -/
namespace Go.Proofs.YtjcilpedpimdcaaDoor
open Go.RowKit
set_option linter.unusedVariables false

set_option maxRecDepth 100000 in
theorem refLowerC (l : List UInt8) (n : Nat) (w : World) (hl : l.length = n) (hm : n ≤ maxLen) :
    Calls Tryd.prog 14 #[.string (str l)] w (GivesStr (l.map low) w) := by
  have hsz : (str l).size = n := by rw [str_size, hl]
  have hx := str_extract l
  unfold maxLen at hm
  have HL := Lib.hid hl
  clear hl
  go_enter Tryd.func14, Tryd.ntmps14
  go_wp2
  go_loopw [3, 4] (fun v i wr => ∃ k : Nat, k ≤ n ∧ v = .string (str ((l.take k).map low)) ∧ i = .int .i64 (k : Int) ∧ Below w.heap.size w wr) (fun _ i _ => n - (intOf i).toNat)
  case atStart => exact ⟨0, Nat.zero_le _, rfl, rfl, Below.refl _ _⟩
  case round =>
    obtain ⟨k, hk, rfl, rfl, hb⟩ := hrel
    have HB := Lib.hid hb
    have hbs := hb.size
    clear hb
    by_cases hlt : k < n
    · have hlt' : (k : Int) < (n : Int) := by omega
      have hkl : k < l.length := by rw [HL.out]; exact hlt
      have hi := run_index_str (P := Tryd.prog) wr 9 l .i64 k Tryd.underlying9 hkl
      have hxk := hx k (k + 1)
      rw [cut_one hkl] at hxk
      have hmap : Hid ((l.take (k + 1)).map low = (l.take k).map low ++ [low (l.getD k 0)]) := by unfold Hid; rw [take_snoc hkl, List.map_append]; rfl
      have hlen : ((l.take k).map low).length = k := by simp; omega
      have ha := fun (w : World) (y : UInt8) => run_add_str (P := Tryd.prog) w ((l.take k).map low) [y] (by rw [hlen]; simp; omega)
      have hone := fun (w : World) v (hv : v = ((low (l.getD k 0)).toNat : Int)) => one_back (P := Tryd.prog) w 44 9 5 (low (l.getD k 0)) v hv Tryd.underlying44 Tryd.underlying5 Tryd.underlying9
      have hb0 := u8_lt (l.getD k 0)
      clear hx hkl
      by_cases h : 65 ≤ (l.getD k 0).toNat ∧ (l.getD k 0).toNat ≤ 90
      · have h1 := hone wr (((l.getD k 0).toNat : Int) + 32) (by rw [low_up h]; push_cast; rfl)
        obtain ⟨h2, h3⟩ := h
        clear hone hxk
        generalize low (l.getD k 0) = y at *
        have ha1 := fun w => ha w y
        clear ha hlen
        generalize (l.take k).map low = z at *
        generalize (l.getD k 0).toNat = x at *
        have h2' : (65 : Int) ≤ (x : Int) := by omega
        have h3' : (x : Int) ≤ 90 := by omega
        go_wp2
        go_roundw
        case rel => exact ⟨k + 1, by omega, by rw [hmap.out], by go_num, HB.out.alloc hbs _⟩
        case measure => simp [intOf]; omega
      · have e := low_not h
        rw [e] at hmap
        have ha1 := fun w => ha w (l.getD k 0)
        clear hone e ha hlen
        generalize (l.take k).map low = z at *
        generalize l.getD k 0 = y at *
        generalize y.toNat = x at *
        go_wp2
        all_goals (go_roundw; (case rel => exact ⟨k + 1, by omega, by rw [hmap.out], by go_num, HB.out⟩); (case measure => simp [intOf]; omega))
    · obtain rfl : k = n := by omega
      have e1 : l.take k = l := List.take_of_length_le (by rw [HL.out]; omega)
      rw [e1]
      go_wp2
      go_ret
      exact ⟨rfl, HB.out⟩
/-- BEGIN trim -/
theorem refBegin : True := trivial

end Go.Proofs.YtjcilpedpimdcaaDoor

/- Contracts of the reference of layer 6: places, digits, controls, numbers. -/
namespace Go.Proofs.YtjcilpedpimdcaaDoor
open Go.RowKit
set_option linter.unusedVariables false

/-- Where the first byte c stands; -1: nowhere. -/
def findL (l : List UInt8) (c : UInt8) : Int := if l.findIdx (· == c) = l.length then -1 else (l.findIdx (· == c) : Int)

set_option maxRecDepth 100000 in
theorem refDigitsC (l : List UInt8) (n : Nat) (w : World) (hl : l.length = n) (hm : n ≤ maxLen) :
    Calls Tryd.prog 38 #[.string (str l)] w fun e w' => e = .returned (.int .i64 (lead l : Int)) ∧ w = w' := by
  have hsz : (str l).size = n := by rw [str_size, hl]
  unfold maxLen at hm
  have HL := Lib.hid hl
  have hle := lead_le l
  have HB := Lib.hid (fun k => @lead_lt l k)
  have HA := Lib.hid (@lead_at l)
  rw [hl] at hle
  clear hl
  obtain ⟨D, hD⟩ : ∃ D, lead l = D := ⟨_, rfl⟩
  rw [hD] at hle HB HA ⊢
  clear hD
  go_enter Tryd.func38, Tryd.ntmps38
  go_wp2
  go_loopw [3, 4] (fun v i wr => ∃ k : Nat, k ≤ n ∧ v = .int .i64 ((min k D : Nat) : Int) ∧ i = .int .i64 (k : Int) ∧ w = wr) (fun _ i _ => n - (intOf i).toNat)
  case atStart => exact ⟨0, Nat.zero_le _, by simp, rfl, rfl⟩
  case round =>
    obtain ⟨k, hk, rfl, rfl, rfl⟩ := hrel
    rcases (show k < D ∨ (k = D ∧ D < n) ∨ (D < k ∧ k < n) ∨ k = n by omega) with hlt | ⟨rfl, hlt⟩ | ⟨hgt, hlt⟩ | rfl
    · have hlt' : (k : Int) < (n : Int) := by omega
      have hi := run_index_str (P := Tryd.prog) w 9 l .i64 k Tryd.underlying9 (by rw [HL.out]; omega)
      obtain ⟨d1, d2⟩ := HB.out k hlt
      have e1 : min k D = k := by omega
      rw [e1]
      clear HA HB
      generalize (l.getD k 0).toNat = x at *
      have d1' : (48 : Int) ≤ (x : Int) := by omega
      have d2' : (x : Int) ≤ 57 := by omega
      go_wp2
      go_roundw
      case rel => exact ⟨k + 1, by omega, by rw [show min (k + 1) D = k + 1 by omega]; go_num, by go_num, by first | rfl | trivial⟩
      case measure => simp [intOf]; omega
    · have hlt' : (k : Int) < (n : Int) := by omega
      have hi := run_index_str (P := Tryd.prog) w 9 l .i64 k Tryd.underlying9 (by rw [HL.out]; omega)
      have hd := HA.out (by rw [HL.out]; exact hlt)
      rw [Nat.min_self]
      clear HA HB
      generalize (l.getD k 0).toNat = x at *
      by_cases d1 : 48 ≤ x
      · have d2 : ¬ (x : Int) ≤ 57 := by omega
        have d1' : (48 : Int) ≤ (x : Int) := by omega
        clear hd
        go_wp2
        go_roundw
        case rel => exact ⟨k + 1, by omega, by rw [show min (k + 1) k = k by omega], by go_num, by first | rfl | trivial⟩
        case measure => simp [intOf]; omega
      · have d1' : ¬ (48 : Int) ≤ (x : Int) := by omega
        clear hd
        go_wp2
        go_roundw
        case rel => exact ⟨k + 1, by omega, by rw [show min (k + 1) k = k by omega], by go_num, by first | rfl | trivial⟩
        case measure => simp [intOf]; omega
    · have hlt' : (k : Int) < (n : Int) := by omega
      have e1 : min k D = D := by omega
      rw [e1]
      have hne : ¬ (D : Int) = (k : Int) := by omega
      have hne2 : ((D : Int) == (k : Int)) = false := by simp; omega
      clear HA HB
      go_wp2
      go_roundw
      case rel => exact ⟨k + 1, by omega, by rw [show min (k + 1) D = D by omega], by go_num, by first | rfl | trivial⟩
      case measure => simp [intOf]; omega
    · have e1 : min k D = D := by omega
      rw [e1]
      go_wp2
      go_ret
      exact ⟨rfl, rfl⟩

end Go.Proofs.YtjcilpedpimdcaaDoor

/- The reference's numbers. -/
namespace Go.Proofs.YtjcilpedpimdcaaDoor
open Go.RowKit
set_option linter.unusedVariables false

theorem getD_drop (l : List UInt8) (F j : Nat) : (l.drop F).getD j 0 = l.getD (F + j) 0 := by simp [List.getD]

set_option maxRecDepth 100000 in
theorem refNumberC (l : List UInt8) (n : Nat) (w : World) (hl : l.length = n) (hm : n ≤ maxLen) :
    Calls Tryd.prog 17 #[.string (str l)] w fun e w' => e = .returned (.tuple #[.int .i64 (numL l).1, .bool (numL l).2]) ∧ w = w' := by
  have hsz : (str l).size = n := by rw [str_size, hl]
  have HL := Lib.hid hl
  unfold maxLen at hm
  unfold numL
  obtain ⟨b, hbb⟩ : ∃ b, body l = b := ⟨_, rfl⟩
  rw [hbb]
  obtain ⟨g, hg⟩ : ∃ g, signed l = g := ⟨_, rfl⟩
  cases g
  · rw [hg]
    obtain ⟨h0, h1⟩ := signed_no hg
    rw [hbb] at h1
    subst h1
    clear hg hbb hl
    obtain ⟨m, hmn⟩ : ∃ m, m = n := ⟨n, rfl⟩
    subst hmn
    have HB := HL
    have hb := HB.out
    have hex : (str b).extract 0 m = str b := by rw [str_extract, ← hb]; simp
    clear hb
    have hd := lead_le b
    rw [HB.out] at hd ⊢
    have HD := fun w => refDigitsC b m w HB.out (by unfold maxLen; omega)
    have hal := fun h => lead_all (l := b) h
    rw [HB.out] at hal
    rcases Nat.eq_zero_or_pos m with hm0 | hm0
    · rw [if_pos (.inl hm0)]
      subst hm0
      clear HD hal hd
      go_enter Tryd.func17, Tryd.ntmps17
      go_wp2
      go_ret2
      exact ⟨rfl, rfl⟩
    · skip
      have hi0 : (Instr.index 9 (.string (str b)) (.int .i64 0)).run Tryd.prog w = .ok (.int .u8 ((b.getD 0 0).toNat : Int)) w := run_index_str (P := Tryd.prog) w 9 b .i64 0 Tryd.underlying9 (by rw [HB.out]; omega)
      have hne0 : (b.getD 0 0).toNat ≠ 45 := by rcases h0 with h | h; exact absurd h (by rw [HB.out]; omega); exact h
      generalize (b.getD 0 0).toNat = x0 at hi0 hne0
      have hne1 : ((x0 : Int) == 45) = false := by simp; omega
      have hm1 : (0 : Int) < (m : Int) := by omega
      clear hne0 h0
      have hmne : ((m : Nat) : Int) ≠ 0 := by omega
      have hmne2 : (((m : Nat) : Int) == 0) = false := by simp; omega
      push_cast at hmne2
      generalize lead b = d at *
      by_cases hlt : d < m
      · rw [if_pos (.inr hlt)]
        have hlt' : (d : Int) < (m : Int) := by omega
        clear hal hmne
        go_enter Tryd.func17, Tryd.ntmps17
        go_wp2_with (go_at_call 38; (with_reducible refine (HD _).mono ?_); rintro e w2 ⟨rfl, rfl⟩)
        go_ret2
        exact ⟨rfl, rfl⟩
      · rw [if_neg (by omega)]
        obtain rfl : d = m := by omega
        have HA := Lib.hid (hal rfl)
        clear hal hlt hmne
        go_enter Tryd.func17, Tryd.ntmps17
        go_wp2_with (go_at_call 38; (with_reducible refine (HD _).mono ?_); rintro e w2 ⟨rfl, rfl⟩)
        go_loopw [5, 6] (fun v i wr => ∃ j : Nat, j ≤ d ∧ v = .int .i64 (numV (b.take j) : Int) ∧ i = .int .i64 (j : Int) ∧ w = wr) (fun _ i _ => d - (intOf i).toNat)
        case atStart => exact ⟨0, Nat.zero_le _, rfl, by simp, rfl⟩
        case round =>
          obtain ⟨j, hj, rfl, rfl, rfl⟩ := hrel
          clear HD
          by_cases hlt : j < d
          · have hlt' : (j : Int) < (d : Int) := by omega
            have hi : (Instr.index 9 (.string (str b)) (.int .i64 (j : Int))).run Tryd.prog w = .ok (.int .u8 ((b.getD j 0).toNat : Int)) w := run_index_str (P := Tryd.prog) w 9 b .i64 j Tryd.underlying9 (by rw [HL.out]; omega)
            obtain ⟨d1, d2⟩ := HA.out j hlt
            have HV := Lib.hid (numV_take (l := b) (k := j) (by rw [HB.out]; exact hlt))
            have hv := numV_le (b.take j)
            generalize numV (b.take j) = V at *
            generalize (b.getD j 0).toNat = x at *
            by_cases hc : V * 10 + x - 48 ≤ 1099511627776
            · have hc' : ¬ (1099511627776 : Int) < (V : Int) * 10 + (x : Int) - 48 := by omega
              go_wp2
              go_roundw
              case rel => exact ⟨j + 1, by omega, by rw [HV.out]; congr 1; omega, by go_num, by first | rfl | trivial⟩
              case measure => simp [intOf]; omega
            · have hc' : (1099511627776 : Int) < (V : Int) * 10 + (x : Int) - 48 := by omega
              go_wp2
              go_roundw
              case rel => exact ⟨j + 1, by omega, by rw [HV.out]; congr 1; omega, by go_num, by first | rfl | trivial⟩
              case measure => simp [intOf]; omega
          · obtain rfl : j = d := by omega
            have hv := numV_le b
            have e1 : b.take j = b := List.take_of_length_le (by rw [HB.out]; omega)
            rw [e1]
            obtain ⟨V, hV⟩ : ∃ V, numV b = V := ⟨_, rfl⟩
            rw [hV] at hv ⊢
            have HV := Lib.hid hV
            clear hV e1
            go_wp2
            go_ret2
            exact ⟨by rw [HV.out]; simp, rfl⟩
  · rw [hg]
    obtain ⟨h0, h1, h2⟩ := signed_yes hg
    rw [hbb] at h2
    subst h2
    obtain ⟨m, rfl⟩ : ∃ m, n = m + 1 := ⟨n - 1, by omega⟩
    have hex : (str l).extract 1 (m + 1) = str (l.drop 1) := by rw [str_extract, List.take_of_length_le]; simp; omega
    have hb : (l.drop 1).length = m := by simp; omega
    have HB := Lib.hid hb
    have HG : Hid (∀ j, (l.drop 1).getD j 0 = l.getD (j + 1) 0) := fun j => by rw [getD_drop, Nat.add_comm]
    have hi0 : (Instr.index 9 (.string (str l)) (.int .i64 0)).run Tryd.prog w = .ok (.int .u8 ((l.getD 0 0).toNat : Int)) w := run_index_str (P := Tryd.prog) w 9 l .i64 0 Tryd.underlying9 (by rw [HL.out]; omega)
    rw [h1] at hi0
    have hm1 : (0 : Int) < (m : Int) + 1 := by omega
    clear hl h0 hbb hg h1
    generalize l.drop 1 = b at *
    clear hb
    have hd := lead_le b
    rw [HB.out] at hd ⊢
    have HD := fun w => refDigitsC b m w HB.out (by unfold maxLen; omega)
    have hal := fun h => lead_all (l := b) h
    rw [HB.out] at hal
    rcases Nat.eq_zero_or_pos m with hm0 | hm0
    · rw [if_pos (.inl hm0)]
      subst hm0
      clear HD hal hd
      go_enter Tryd.func17, Tryd.ntmps17
      go_wp2
      go_ret2
      exact ⟨rfl, rfl⟩
    · skip
      have hmne : ((m + 1 : Nat) : Int) ≠ 1 := by omega
      have hmne2 : (((m + 1 : Nat) : Int) == 1) = false := by simp; omega
      push_cast at hmne2
      generalize lead b = d at *
      by_cases hlt : d < m
      · rw [if_pos (.inr hlt)]
        have hlt' : (d : Int) < (m : Int) := by omega
        clear hal hmne
        go_enter Tryd.func17, Tryd.ntmps17
        go_wp2_with (go_at_call 38; (with_reducible refine (HD _).mono ?_); rintro e w2 ⟨rfl, rfl⟩)
        go_ret2
        exact ⟨rfl, rfl⟩
      · rw [if_neg (by omega)]
        obtain rfl : d = m := by omega
        have HA := Lib.hid (hal rfl)
        clear hal hlt hmne
        go_enter Tryd.func17, Tryd.ntmps17
        go_wp2_with (go_at_call 38; (with_reducible refine (HD _).mono ?_); rintro e w2 ⟨rfl, rfl⟩)
        go_loopw [5, 6] (fun v i wr => ∃ j : Nat, j ≤ d ∧ v = .int .i64 (numV (b.take j) : Int) ∧ i = .int .i64 ((j : Int) + 1) ∧ w = wr) (fun _ i _ => d + 1 - (intOf i).toNat)
        case atStart => exact ⟨0, Nat.zero_le _, rfl, by simp, rfl⟩
        case round =>
          obtain ⟨j, hj, rfl, rfl, rfl⟩ := hrel
          clear HD
          by_cases hlt : j < d
          · have hlt' : (j : Int) < (d : Int) := by omega
            have hi : (Instr.index 9 (.string (str l)) (.int .i64 ((j : Int) + 1))).run Tryd.prog w = .ok (.int .u8 ((l.getD (j + 1) 0).toNat : Int)) w := run_index_str (P := Tryd.prog) w 9 l .i64 (j + 1) Tryd.underlying9 (by rw [HL.out]; omega)
            rw [← HG.out j] at hi
            obtain ⟨d1, d2⟩ := HA.out j hlt
            have HV := Lib.hid (numV_take (l := b) (k := j) (by rw [HB.out]; exact hlt))
            have hv := numV_le (b.take j)
            generalize numV (b.take j) = V at *
            generalize (b.getD j 0).toNat = x at *
            by_cases hc : V * 10 + x - 48 ≤ 1099511627776
            · have hc' : ¬ (1099511627776 : Int) < (V : Int) * 10 + (x : Int) - 48 := by omega
              go_wp2
              go_roundw
              case rel => exact ⟨j + 1, by omega, by rw [HV.out]; congr 1; omega, by go_num, by first | rfl | trivial⟩
              case measure => simp [intOf]; omega
            · have hc' : (1099511627776 : Int) < (V : Int) * 10 + (x : Int) - 48 := by omega
              go_wp2
              go_roundw
              case rel => exact ⟨j + 1, by omega, by rw [HV.out]; congr 1; omega, by go_num, by first | rfl | trivial⟩
              case measure => simp [intOf]; omega
          · obtain rfl : j = d := by omega
            have hv := numV_le b
            have e1 : b.take j = b := List.take_of_length_le (by rw [HB.out]; omega)
            rw [e1]
            obtain ⟨V, hV⟩ : ∃ V, numV b = V := ⟨_, rfl⟩
            rw [hV] at hv ⊢
            have HV := Lib.hid hV
            clear hV e1
            go_wp2
            go_ret2
            exact ⟨by rw [HV.out]; simp, rfl⟩
end Go.Proofs.YtjcilpedpimdcaaDoor

/- Structs and slices of structs that came in, field by field. No program in it. -/
namespace Go.Proofs.YtjcilpedpimdcaaDoor
open Go.ChangeShapes Go.WideShapes Go.RowKit
set_option linter.unusedVariables false

section
variable {H : Type} {enc : TypeId × Value → H} {P : Program} {w : World} {base : Nat} {spare : Nat → Bool} {held : Bool}

/-- A struct of fields of one cell each: every cell is read by its field's type. -/
theorem fields_of {e : TypeId} {fs : Array Field} {fuel : Nat} {cs : List Value} {x : DataW H × List MemPlace} (hs : P.underlying e = some (.struct fs)) (hone : Go.Deep.oneCellFields P fs = true) (hC : P.cellsOf e = fs.size)
    (h : DataW.trod enc P w base spare held fuel e cs = some x) : cs.length = fs.size ∧ ∃ n, ∀ (j : Nat) (f : Field) (v : Value), fs[j]? = some f → cs[j]? = some v → ∃ y, DataW.trod enc P w base spare held n f.type [v] = some y := by
  obtain ⟨ys, n, -, -, hlen, hyl, hf⟩ := DataW.trod_struct hs h
  refine ⟨hlen.trans hC, n, fun j f v hj hv => ?_⟩
  obtain ⟨ho, hk⟩ := Go.Deep.hone_of hone j f hj
  have hjl : j < fs.size := (Array.getElem?_eq_some_iff.1 hj).1
  have h1 := hf j f hj
  obtain ⟨hjc, hve⟩ := List.getElem?_eq_some_iff.1 hv
  rw [ho, hk, List.drop_eq_getElem_cons hjc, hve, List.take_succ_cons, List.take_zero, List.getElem?_eq_getElem (by omega)] at h1
  exact ⟨_, h1⟩

/-- The same, and the datum of the whole: its fields' data. -/
theorem fields_with {e : TypeId} {fs : Array Field} {fuel : Nat} {cs : List Value} {x : DataW H × List MemPlace} (hs : P.underlying e = some (.struct fs)) (hone : Go.Deep.oneCellFields P fs = true) (hC : P.cellsOf e = fs.size)
    (h : DataW.trod enc P w base spare held fuel e cs = some x) : cs.length = fs.size ∧ ∃ (n : Nat) (ys : List (DataW H × List MemPlace)), x.1 = .agg (ys.map (·.1)) ∧ ys.length = fs.size ∧ ∀ (j : Nat) (f : Field) (v : Value), fs[j]? = some f → cs[j]? = some v → ∃ y, ys[j]? = some y ∧ DataW.trod enc P w base spare held n f.type [v] = some y := by
  obtain ⟨ys, n, -, hx, hlen, hyl, hf⟩ := DataW.trod_struct hs h
  refine ⟨hlen.trans hC, n, ys, by rw [hx], hyl, fun j f v hj hv => ?_⟩
  obtain ⟨ho, hk⟩ := Go.Deep.hone_of hone j f hj
  have hjl : j < fs.size := (Array.getElem?_eq_some_iff.1 hj).1
  have h1 := hf j f hj
  obtain ⟨hjc, hve⟩ := List.getElem?_eq_some_iff.1 hv
  rw [ho, hk, List.drop_eq_getElem_cons hjc, hve, List.take_succ_cons, List.take_zero, List.getElem?_eq_getElem (by omega)] at h1
  exact ⟨_, List.getElem?_eq_getElem (by omega), h1⟩

/-- A slice of structs: where its elements' cells lie, and that each element is read. -/
theorem elems_of {t e : TypeId} (z : Nat) {fuel : Nat} {cs : List Value} {x : DataW H × List MemPlace} (ht : P.underlying t = some (.slice e)) (hC : P.cellsOf e = z) (hp : 0 < z)
    (h : DataW.trod enc P w base spare held fuel t cs = some x) :
    ∃ (a : Option Addr) (len cap n : Nat), cs = [.slice a len cap] ∧ len ≤ cap ∧ cap ≤ maxLen ∧ (a = none → cap = 0) ∧
      ∀ i, i < len → ∃ (b off : Nat) (cs' : List Value) (y : DataW H × List MemPlace), a = some ⟨b, off, none⟩ ∧ cs'.length = z ∧ (∀ j v, cs'[j]? = some v → w.cell? ⟨b, off + i * z + j, none⟩ = some v) ∧ DataW.trod enc P w base spare held n e cs' = some y := by
  rcases Go.Deep.open_slice ht h with ⟨rfl, -⟩ | ⟨a, len, cap, m, n, D, Pl, rfl, hb, hl, hm, hmm, -, hi⟩
  · exact ⟨none, 0, 0, 0, rfl, Nat.le_refl _, by unfold maxLen; omega, fun _ => rfl, fun i h => by omega⟩
  · refine ⟨some a, len, cap, n, rfl, hl, hm, (fun h => by cases h), fun i hil => ?_⟩
    have him : i < m := by rw [hmm]; split <;> omega
    obtain ⟨cs', hc, hy⟩ := hi i him
    obtain ⟨_, hcl, hat⟩ := World.cells?_some hc
    rw [hC] at hcl hat
    obtain ⟨b, off, spot⟩ := a
    obtain ⟨cs0, hc0, -⟩ := hi 0 (by omega)
    obtain ⟨_, hcl0, hat0⟩ := World.cells?_some hc0
    rw [hC] at hcl0 hat0
    have h0 := hat0 0 hp
    rw [List.getElem?_eq_getElem (by omega)] at h0
    have hspot : spot = none := by simpa [Addr.add] using World.cell?_spot h0
    subst hspot
    refine ⟨b, off, cs', _, rfl, hcl, fun j v hv => ?_, hy⟩
    have hjl : j < z := by
      have := (List.getElem?_eq_some_iff.1 hv).1
      omega
    have h1 := (hat j hjl).trans hv
    rw [Go.Deep.add_add] at h1
    have hA : (⟨b, off, none⟩ : Addr).add (i * z + j) = ⟨b, off + i * z + j, none⟩ := by
      by_cases h0 : i * z + j = 0
      · have e : off + i * z + j = off := by omega
        rw [h0, e]
        simp [Addr.add]
      · simp only [Addr.add, if_neg h0, Nat.add_assoc]
    rw [hA] at h1
    exact h1
end

/-- A slice of flags that came in. -/
theorem flags_of {H : Type} {enc : TypeId × Value → H} {P : Program} {w : World} {base : Nat} {held : Bool} {t e : TypeId} {fuel : Nat} {v : Value} {x : DataW H × List MemPlace} (ht : P.underlying t = some (.slice e)) (he : P.underlying e = some .bool) (hc : P.cellsOf e = 1)
    (h : DataW.trod enc P w base (fun _ => true) held fuel t [v] = some x) :
    ∃ (a : Option Addr) (len cap : Nat) (F : List Bool), v = .slice a len cap ∧ F.length = len ∧ len ≤ cap ∧ cap ≤ maxLen ∧ (a = none → cap = 0) ∧ Reads w a (F.map Value.bool) := by
  rcases Go.Deep.open_bools ht he hc h with ⟨hcs, -⟩ | ⟨a, len, cap, B, hcs, hb, hl, hm, -, hcell⟩
  · cases hcs
    exact ⟨none, 0, 0, [], rfl, rfl, Nat.le_refl _, by unfold maxLen; omega, fun _ => rfl, Reads.nil _ _⟩
  · cases hcs
    refine ⟨some a, len, cap, (List.range len).map B, rfl, by simp, hl, hm, (fun h => by cases h), fun i u hu => ?_⟩
    have hil : i < len := by
      have := (List.getElem?_eq_some_iff.1 hu).1
      simpa using this
    obtain ⟨b, off, spot⟩ := a
    have hspot : spot = none := by simpa [Addr.add] using World.cell?_spot (hcell 0 (by omega))
    subst hspot
    have h0 := hcell i (by omega)
    have hA : (⟨b, off, none⟩ : Addr).add i = ⟨b, off + i, none⟩ := by
      by_cases h0 : i = 0
      · subst h0; simp [Addr.add]
      · simp [Addr.add, h0]
    rw [hA] at h0
    simp [hil] at hu
    subst hu
    exact ⟨b, off, rfl, h0⟩
end Go.Proofs.YtjcilpedpimdcaaDoor

/- Objects of known cells: structs behind pointers, rows of structs that the call made itself. No program in it. -/
namespace Go.Proofs.YtjcilpedpimdcaaDoor
open Go.RowKit
set_option linter.unusedVariables false

/-- The block holds these values, and may be written. -/
structure ObjAt (w : World) (b : Nat) (vs : List Value) : Prop where
  heap : ∃ e, w.heap[b]? = some (.cells vs.toArray e (0, 0))

theorem ObjAt.lt {w : World} {b : Nat} {vs : List Value} (h : ObjAt w b vs) : b < w.heap.size := by
  obtain ⟨e, h⟩ := h.heap
  rcases Nat.lt_or_ge b w.heap.size with h1 | h1
  · exact h1
  · rw [Array.getElem?_eq_none h1] at h
    cases h

theorem ObjAt.cell {w : World} {b : Nat} {vs : List Value} (h : ObjAt w b vs) (i : Nat) {v : Value} (hv : vs[i]? = some v) : w.cell? ⟨b, i, none⟩ = some v := by
  obtain ⟨e, h⟩ := h.heap
  simp [World.cell?, h, hv]

theorem ObjAt.free {w : World} {b : Nat} {vs : List Value} (h : ObjAt w b vs) (i : Nat) : w.frozen? ⟨b, i, none⟩ = false := by
  obtain ⟨e, h⟩ := h.heap
  simp [World.frozen?, h]

theorem ObjAt.new (w : World) (vs : Array Value) (e : TypeId) : ObjAt (w.alloc (.cells vs e)) w.heap.size vs.toList := by
  refine ⟨e, ?_⟩
  unfold World.alloc
  simp

theorem ObjAt.below {w w' : World} {b K : Nat} {vs : List Value} (h : ObjAt w b vs) (hb : Below K w w') (hlt : b < K) : ObjAt w' b vs := by
  obtain ⟨e, h⟩ := h.heap
  exact ⟨e, (hb.block b hlt).trans h⟩

theorem ObjAt.set {w : World} {b : Nat} {vs : List Value} (h : ObjAt w b vs) (i : Nat) (v : Value) : ObjAt (w.setCell ⟨b, i, none⟩ v) b (vs.set i v) := by
  obtain ⟨e, h⟩ := h.heap
  refine ⟨e, ?_⟩
  have := heap_setCell_same w b i vs.toArray e v h
  rw [this, List.setIfInBounds_toArray]

theorem ObjAt.other {w : World} {b : Nat} {vs : List Value} (h : ObjAt w b vs) {p : Addr} (hne : p.block ≠ b) (v : Value) : ObjAt (w.setCell p v) b vs := by
  obtain ⟨e, h⟩ := h.heap
  refine ⟨e, ?_⟩
  rw [heap_setCell_other w p b v (Ne.symm hne)]
  exact h

theorem ObjAt.drew {w : World} {b : Nat} {vs : List Value} (h : ObjAt w b vs) : ObjAt w.drew b vs := by
  obtain ⟨e, h⟩ := h.heap
  exact ⟨e, h⟩

theorem ObjAt.drewN {w : World} {b : Nat} {vs : List Value} (h : ObjAt w b vs) (n : Nat) : ObjAt (w.drewN n) b vs := by
  obtain ⟨e, h⟩ := h.heap
  exact ⟨e, by rw [show (w.drewN n).heap = w.heap from by simp]; exact h⟩
end Go.Proofs.YtjcilpedpimdcaaDoor

/- Contracts of layer 7: the calendar. -/
namespace Go.Proofs.YtjcilpedpimdcaaDoor
open Go.RowKit
set_option linter.unusedVariables false

/-- The tables of package date lie there. -/
structure DTab (w : World) : Prop where
  len : ∀ i, i < 12 → w.cell? ⟨1, i, none⟩ = some (.int .i64 (mlen.getD i 0))
  mon : ∀ i, i < 12 → w.cell? ⟨0, i, none⟩ = some (.string (str (monTop.getD i [])))
  wd : ∀ g, Tryd.prog.globalNamed "biscotti/date.weekdays" = some g → ∀ i, i < 7 → w.cell? ⟨g, i, none⟩ = some (.string (str (wdTop.getD i [])))
theorem DTab.below {w w' : World} (h : DTab w) (hb : Below w.heap.size w w') : DTab w' := by
  refine ⟨fun i hi => ?_, fun i hi => ?_, fun g hg i hi => ?_⟩
  · rw [hb.cell (cell_lt (h.len i hi))]; exact h.len i hi
  · rw [hb.cell (cell_lt (h.mon i hi))]; exact h.mon i hi
  · rw [hb.cell (cell_lt (h.wd g hg i hi))]; exact h.wd g hg i hi

theorem leap_400 (y : Int) (h : (y.tmod 4 == 0) = false) : (y.tmod 400 == 0) = false := by
  simp only [beq_eq_false_iff_ne, ne_eq] at h ⊢
  intro c
  apply h
  exact Int.tmod_eq_zero_of_dvd (Int.dvd_trans (by decide : (4 : Int) ∣ 400) (Int.dvd_of_tmod_eq_zero c))

theorem leapC (y : Int) (w : World) (h0 : -9223372036854775808 ≤ y) (h1 : y ≤ 9223372036854775807) :
    Calls Tryd.prog 64 #[.int .i64 y] w fun e w' => e = .returned (.bool (leapB y)) ∧ w = w' := by
  have HL := Lib.hid (show leapB y = ((y.tmod 4 == 0 && !(y.tmod 100 == 0)) || y.tmod 400 == 0) from rfl)
  obtain ⟨a, ha⟩ : ∃ a, (y.tmod 4 == 0) = a := ⟨_, rfl⟩
  obtain ⟨b, hb⟩ : ∃ b, (y.tmod 100 != 0) = b := ⟨_, rfl⟩
  obtain ⟨c, hc⟩ : ∃ c, (y.tmod 400 == 0) = c := ⟨_, rfl⟩
  have HL2 : Hid (leapB y = ((a && b) || c)) := by unfold Hid; rw [HL.out, ha, ← hb, hc]; rfl
  generalize leapB y = z at *
  clear HL
  cases a <;> cases b <;> cases c
  all_goals
    go_enter Tryd.func64, Tryd.ntmps64
    go_wp2
    go_ret
    exact ⟨by rw [HL2.out]; rfl, rfl⟩

theorem refLeapC (y : Int) (w : World) (h0 : -9223372036854775808 ≤ y) (h1 : y ≤ 9223372036854775807) :
    Calls Tryd.prog 59 #[.int .i64 y] w fun e w' => e = .returned (.bool (leapB y)) ∧ w = w' := by
  have HL := Lib.hid (show leapB y = ((y.tmod 4 == 0 && !(y.tmod 100 == 0)) || y.tmod 400 == 0) from rfl)
  have H4 := leap_400 y
  obtain ⟨a, ha⟩ : ∃ a, (y.tmod 4 == 0) = a := ⟨_, rfl⟩
  obtain ⟨b, hb⟩ : ∃ b, (y.tmod 100 != 0) = b := ⟨_, rfl⟩
  obtain ⟨c, hc⟩ : ∃ c, (y.tmod 400 == 0) = c := ⟨_, rfl⟩
  have HL2 : Hid (leapB y = ((a && b) || c)) := by unfold Hid; rw [HL.out, ha, ← hb, hc]; rfl
  rw [ha, hc] at H4
  generalize leapB y = z at *
  clear HL
  cases a <;> cases b <;> cases c
  all_goals first
    | exact absurd (H4 rfl) (by decide)
    | (clear H4
       go_enter Tryd.func59, Tryd.ntmps59
       go_wp2
       go_ret
       exact ⟨by rw [HL2.out]; rfl, rfl⟩)

theorem longI_29 {y : Int} (h : leapB y = true) : longI y 1 = 29 := by unfold longI; rw [if_pos ⟨rfl, h⟩]
theorem longI_no {y : Int} {M : Nat} (h : M = 1 → leapB y = false) : longI y M = mlen.getD M 0 := by
  unfold longI
  rw [if_neg]
  rintro ⟨rfl, h2⟩
  rw [h rfl] at h2
  cases h2

theorem monthDaysC (y v : Int) (M : Nat) (w : World) (hv : v = (M : Int) + 1) (hM : M < 12) (h0 : -9223372036854775808 ≤ y) (h1 : y ≤ 9223372036854775807) (hT : DTab w) :
    Calls Tryd.prog 54 #[.int .i64 y, .int .i64 v] w fun e w' => e = .returned (.int .i64 (longI y M)) ∧ w = w' := by
  subst hv
  have HL := leapC y w h0 h1
  have hc := hT.len M hM
  by_cases c : M = 1
  · subst c
    cases hl : leapB y with
    | true =>
      rw [hl] at HL
      rw [longI_29 hl]
      clear hl
      go_enter Tryd.func54, Tryd.ntmps54
      go_wp2_with (go_at_call 64; (with_reducible refine HL.mono ?_); rintro e w2 ⟨rfl, rfl⟩)
      go_ret
      exact ⟨rfl, rfl⟩
    | false =>
      rw [hl] at HL
      rw [longI_no (fun _ => hl)]
      have e1 : mlen.getD 1 0 = 28 := rfl
      rw [e1] at hc ⊢
      clear hl
      go_enter Tryd.func54, Tryd.ntmps54
      go_wp2_with (go_at_call 64; (with_reducible refine HL.mono ?_); rintro e w2 ⟨rfl, rfl⟩)
      go_ret
      exact ⟨rfl, rfl⟩
  · rw [longI_no (fun h => absurd h c)]
    generalize mlen.getD M 0 = z at *
    have c' : ((M : Int) + 1 == 2) = false := by simp; omega
    go_enter Tryd.func54, Tryd.ntmps54
    go_wp2
    go_ret
    exact ⟨rfl, rfl⟩

theorem yearStartC (y : Int) (w : World) (h0 : 1 ≤ y) (h1 : y ≤ 10000) :
    Calls Tryd.prog 55 #[.int .i64 y] w fun e w' => e = .returned (.int .i64 (startI y)) ∧ w = w' := by
  obtain ⟨k, rfl⟩ : ∃ k : Nat, y = (k : Int) + 1 := ⟨(y - 1).toNat, by omega⟩
  have e : startI ((k : Int) + 1) = (k : Int) * 365 + (k : Int) / 4 - (k : Int) / 100 + (k : Int) / 400 - 719162 := by
    unfold startI aheadI
    rw [show ((k : Int) + 1 - 1) = (k : Int) by omega]
  rw [e]
  clear e
  go_enter Tryd.func55, Tryd.ntmps55
  go_wp2
  go_ret
  exact ⟨rfl, rfl⟩

theorem aheadC (y : Int) (w : World) (h0 : 1 ≤ y) (h1 : y ≤ 10000) :
    Calls Tryd.prog 48 #[.int .i64 y] w fun e w' => e = .returned (.int .i64 (aheadI y)) ∧ w = w' := by
  obtain ⟨k, rfl⟩ : ∃ k : Nat, y = (k : Int) + 1 := ⟨(y - 1).toNat, by omega⟩
  have e : aheadI ((k : Int) + 1) = (k : Int) * 365 + (k : Int) / 4 - (k : Int) / 100 + (k : Int) / 400 := by
    unfold aheadI
    rw [show ((k : Int) + 1 - 1) = (k : Int) by omega]
  rw [e]
  clear e
  go_enter Tryd.func48, Tryd.ntmps48
  go_wp2
  go_ret
  exact ⟨rfl, rfl⟩

theorem tmod_split (n k : Int) (hk : 0 < k) : (0 ≤ n ∧ n.tmod k = n % k ∧ n.tdiv k = n / k) ∨ (n < 0 ∧ n.tmod k = -(-n % k) ∧ n.tdiv k = -(-n / k)) := by
  rcases Int.lt_or_le n 0 with h | h
  · refine .inr ⟨h, ?_, ?_⟩
    · rw [← Int.tmod_eq_emod_of_nonneg (by omega), Int.neg_tmod, Int.neg_neg]
    · rw [← Int.tdiv_eq_ediv_of_nonneg (by omega), Int.neg_tdiv, Int.neg_neg]
  · exact .inl ⟨h, Int.tmod_eq_emod_of_nonneg h, Int.tdiv_eq_ediv_of_nonneg h⟩

end Go.Proofs.YtjcilpedpimdcaaDoor

/- Contracts of layer 6: a number's digits. -/
namespace Go.Proofs.YtjcilpedpimdcaaDoor
open Go.RowKit
set_option linter.unusedVariables false

end Go.Proofs.YtjcilpedpimdcaaDoor

/- Contracts of layer 7: delimiters. -/
namespace Go.Proofs.YtjcilpedpimdcaaDoor
open Go.RowKit
set_option linter.unusedVariables false

set_option maxHeartbeats 1000000 in
theorem delimC (x : UInt8) (w : World) : Calls Tryd.prog 63 #[.int .u8 (x.toNat : Int)] w fun e w' => e = .returned (.bool (delim x)) ∧ w = w' := by
  have hx := u8_lt x
  have HD := Lib.hid (show delim x = (decide (x.toNat = 9) || (decide (32 ≤ x.toNat) && decide (x.toNat ≤ 47)) || (decide (59 ≤ x.toNat) && decide (x.toNat ≤ 64)) || (decide (91 ≤ x.toNat) && decide (x.toNat ≤ 96)) || (decide (123 ≤ x.toNat) && decide (x.toNat ≤ 126))) from rfl)
  generalize delim x = z at *
  generalize x.toNat = n at *
  by_cases h9 : n = 9
  · have hz : z = true := by rw [HD.out]; subst h9; rfl
    subst hz h9
    go_enter Tryd.func63, Tryd.ntmps63
    go_wp2
    go_ret
    exact ⟨rfl, rfl⟩
  have h9' : ((n : Int) == 9) = false := by simp; omega
  rcases (show (0 ≤ n ∧ n ≤ 31) ∨ (32 ≤ n ∧ n ≤ 47) ∨ (48 ≤ n ∧ n ≤ 58) ∨ (59 ≤ n ∧ n ≤ 64) ∨ (65 ≤ n ∧ n ≤ 90) ∨ (91 ≤ n ∧ n ≤ 96) ∨ (97 ≤ n ∧ n ≤ 122) ∨ (123 ≤ n ∧ n ≤ 126) ∨ (127 ≤ n ∧ n ≤ 255) by omega) with h | h | h | h | h | h | h | h | h
  all_goals
    first
    | (have hz : z = true := by rw [HD.out]; simp; omega
       subst hz)
    | (have hz : z = false := by rw [HD.out]; simp; omega
       subst hz)
    clear HD
    obtain ⟨h1, h2⟩ := h
    go_enter Tryd.func63, Tryd.ntmps63
    go_wp2
    go_ret
    first
    | exact ⟨rfl, rfl⟩
    | exact ⟨by simp; omega, rfl⟩

set_option maxHeartbeats 1000000 in
theorem refDelimC (x : UInt8) (w : World) : Calls Tryd.prog 46 #[.int .u8 (x.toNat : Int)] w fun e w' => e = .returned (.bool (delim x)) ∧ w = w' := by
  have hx := u8_lt x
  have HD := Lib.hid (show delim x = (decide (x.toNat = 9) || (decide (32 ≤ x.toNat) && decide (x.toNat ≤ 47)) || (decide (59 ≤ x.toNat) && decide (x.toNat ≤ 64)) || (decide (91 ≤ x.toNat) && decide (x.toNat ≤ 96)) || (decide (123 ≤ x.toNat) && decide (x.toNat ≤ 126))) from rfl)
  generalize delim x = z at *
  generalize x.toNat = n at *
  by_cases h9 : n = 9
  · have hz : z = true := by rw [HD.out]; subst h9; rfl
    subst hz h9
    go_enter Tryd.func46, Tryd.ntmps46
    go_wp2
    go_ret
    exact ⟨rfl, rfl⟩
  have h9' : ((n : Int) == 9) = false := by simp; omega
  rcases (show (0 ≤ n ∧ n ≤ 31) ∨ (32 ≤ n ∧ n ≤ 47) ∨ (48 ≤ n ∧ n ≤ 58) ∨ (59 ≤ n ∧ n ≤ 64) ∨ (65 ≤ n ∧ n ≤ 90) ∨ (91 ≤ n ∧ n ≤ 96) ∨ (97 ≤ n ∧ n ≤ 122) ∨ (123 ≤ n ∧ n ≤ 126) ∨ (127 ≤ n ∧ n ≤ 255) by omega) with h | h | h | h | h | h | h | h | h
  all_goals
    first
    | (have hz : z = true := by rw [HD.out]; simp; omega
       subst hz)
    | (have hz : z = false := by rw [HD.out]; simp; omega
       subst hz)
    clear HD
    obtain ⟨h1, h2⟩ := h
    go_enter Tryd.func46, Tryd.ntmps46
    go_wp2
    go_ret
    first
    | exact ⟨rfl, rfl⟩
    | exact ⟨by simp; omega, rfl⟩
end Go.Proofs.YtjcilpedpimdcaaDoor

/- Contracts of the reference of layer 7: tokens, digits, times, months. -/
namespace Go.Proofs.YtjcilpedpimdcaaDoor
open Go.RowKit
set_option linter.unusedVariables false

theorem tok_len (l : List UInt8) : ∀ T, (tok T l).length ≤ T.length + l.length := by
  induction l with
  | nil =>
    intro T
    unfold tok
    cases T with
    | nil => simp
    | cons x xs => simp
  | cons x r ih =>
    intro T
    unfold tok
    split
    · split
      · have := ih []
        simp at this ⊢
        omega
      · rename_i h
        have := ih []
        have h2 : 1 ≤ T.length := by
          cases T with
          | nil => simp at h
          | cons y ys => simp
        simp at this ⊢
        omega
    · have := ih (T ++ [x])
      simp at this ⊢
      omega

theorem refTokensC (l : List UInt8) (n : Nat) (w : World) (hl : l.length = n) (hm : n ≤ 1000000000000) :
    Calls Tryd.prog 31 #[.string (str l)] w (GivesStrs (tok [] l) w) := by
  have hsz : (str l).size = n := by rw [str_size, hl]
  have hx := str_extract l
  obtain ⟨i0, hi, hz0, hz1, hz2⟩ := info_parts infoStr
  have hown0 := owned_lit w 9
  have hbel0 := below_alloc w (.cells #[] 9)
  have HL := Lib.hid hl
  obtain ⟨G, hG⟩ : ∃ G, GivesStrs (tok [] l) w = G := ⟨_, rfl⟩
  rw [hG]
  have hG' := Lib.hid hG
  have hk := str_toList
  clear hl hG
  go_enter Tryd.func31, Tryd.ntmps31
  go_wp2
  go_loopw [3, 4, 5] (fun v s i wr => ∃ (k N : Nat) (a : Option Addr) (C : Nat) (P : List (List UInt8)) (T : List UInt8), k ≤ n ∧ N ≤ k ∧ T.length ≤ k ∧ v = .slice a N C ∧ s = .string (str T) ∧ i = .int .i64 (k : Int) ∧ Hid (tok [] l = P ++ tok T (l.drop k)) ∧ Owned w.heap.size 9 a N C (strs P) wr ∧ Below w.heap.size w wr) (fun _ _ i _ => n - (intOf i).toNat)
  case atStart => exact ⟨0, 0, _, _, [], [], Nat.zero_le _, Nat.le_refl _, Nat.le_refl _, rfl, rfl, rfl, by unfold Hid; simp, hown0, hbel0⟩
  case round =>
    clear hown0 hbel0
    obtain ⟨k, N, a, C, P, T, hk1, hN, hTl, rfl, rfl, rfl, H, ho, hb⟩ := hrel
    have HO := Lib.hid ho
    have hbs := hb.size
    have HB := Lib.hid hb
    clear ho hb
    by_cases hlt : k < n
    · have hlt' : (k : Int) < (n : Int) := by omega
      have hkl : k < l.length := by rw [HL.out]; exact hlt
      have hix := run_index_str (P := Tryd.prog) wr 9 l .i64 k Tryd.underlying9 hkl
      have HD := fun w => refDelimC (l.getD k 0) w
      have hd : l.drop k = l.getD k 0 :: l.drop (k + 1) := by
        rw [List.drop_eq_getElem_cons hkl]
        simp [List.getD, hkl]
      have hxk := hx k (k + 1)
      rw [cut_one hkl] at hxk
      have H1 := H.out
      rw [hd] at H1
      have ha := fun (w : World) => run_add_str (P := Tryd.prog) w T [l.getD k 0] (by simp; omega)
      cases c : delim (l.getD k 0) with
      | false =>
        rw [c] at HD
        have H2 : Hid (tok [] l = P ++ tok (T ++ [l.getD k 0]) (l.drop (k + 1))) := by
          unfold Hid
          rw [H1, tok, if_neg (by rw [c]; simp)]
        clear H1 hd c H hx
        generalize l.getD k 0 = x at *
        generalize x.toNat = xn at *
        go_wp2_with (go_at_call 46; (with_reducible refine (HD _).mono ?_); rintro e w2 ⟨rfl, rfl⟩)
        go_roundw
        case rel => exact ⟨k + 1, N, a, C, P, T ++ [x], by omega, by omega, by simp; omega, rfl, rfl, by go_num, H2, HO.out, HB.out⟩
        case measure => simp [intOf]; omega
      | true =>
        rw [c] at HD
        clear ha hxk hx
        by_cases hT : T = []
        · subst hT
          have H2 : Hid (tok [] l = P ++ tok [] (l.drop (k + 1))) := by
            unfold Hid
            rw [H1, tok, if_pos c]
            rfl
          clear H1 hd c H
          generalize l.getD k 0 = x at *
          generalize x.toNat = xn at *
          go_wp2_with (go_at_call 46; (with_reducible refine (HD _).mono ?_); rintro e w2 ⟨rfl, rfl⟩)
          go_roundw
          case rel => exact ⟨k + 1, N, a, C, P, [], by omega, by omega, by simp, rfl, rfl, by go_num, H2, HO.out, HB.out⟩
          case measure => simp [intOf]; omega
        · have hbn : (T == []) = false := by
            cases T with
            | nil => exact absurd rfl hT
            | cons y ys => rfl
          have hem : T.isEmpty = false := by
            cases T with
            | nil => exact absurd rfl hT
            | cons y ys => rfl
          have H2 : Hid (tok [] l = (P ++ [T]) ++ tok [] (l.drop (k + 1))) := by
            unfold Hid
            rw [H1, tok, if_pos c, if_neg (by rw [hem]; simp)]
            simp
          clear H1 hd c H hem hT
          generalize l.getD k 0 = x at *
          generalize x.toNat = xn at *
          have hO := HO.out
          go_wp2_with (first
            | (go_at_call 46; (with_reducible refine (HD _).mono ?_); rintro e w2 ⟨rfl, rfl⟩)
            | (at_builtin; refine wpList_append_one rfl (.tmp 27) (.tmp 29) 50 rfl 9 i0 (.string ⟨#[]⟩) 16 Tryd.underlying50 hi hz0 hz1 hz2 rfl hO.1 rfl rfl rfl (by unfold maxLen; omega) (by omega) hbs ?_; intro v2 w2 ho2 hb2; obtain ⟨a2, c2, rfl, ho3⟩ := Owned.of ho2))
          rw [strs_snoc] at ho3
          go_roundw
          case rel => exact ⟨k + 1, N + 1, a2, c2, P ++ [T], [], by omega, by omega, by simp, rfl, rfl, by go_num, H2, ho3, HB.out.trans hb2⟩
          case measure => simp [intOf]; omega
    · obtain rfl : k = n := by omega
      have hO := HO.out
      have H1 := H.out
      rw [List.drop_eq_nil_of_le (by rw [HL.out]; omega)] at H1
      clear hx H
      by_cases hT : T = []
      · subst hT
        have H2 : Hid (tok [] l = P) := by unfold Hid; rw [H1]; simp [tok]
        clear H1
        go_wp2
        rw [← hG'.out, H2.out]
        have e : N = P.length := by rw [← strs_length, ← hO.len]
        subst e
        exact ⟨a, C, rfl, hO, HB.out⟩
      · have hbn : (T == []) = false := by
          cases T with
          | nil => exact absurd rfl hT
          | cons y ys => rfl
        have H2 : Hid (tok [] l = P ++ [T]) := by
          unfold Hid
          rw [H1]
          cases T with
          | nil => exact absurd rfl hT
          | cons y ys => simp [tok]
        clear H1 hT
        go_wp2_with (at_builtin; refine wpList_append_one rfl (.tmp 33) (.tmp 35) 50 rfl 9 i0 (.string ⟨#[]⟩) 16 Tryd.underlying50 hi hz0 hz1 hz2 rfl hO.1 rfl rfl rfl (by unfold maxLen; omega) (by omega) hbs ?_; intro v2 w2 ho2 hb2; obtain ⟨a2, c2, rfl, ho3⟩ := Owned.of ho2)
        rw [strs_snoc] at ho3
        rw [← hG'.out, H2.out]
        have e : N + 1 = (P ++ [T]).length := by rw [← strs_length, ← ho3.len]
        exact ⟨a2, c2, by rw [← e]; rfl, by rw [← e]; exact ho3, HB.out.trans hb2⟩
end Go.Proofs.YtjcilpedpimdcaaDoor

/- Contracts of the reference of layer 7: digits, times, months. -/
namespace Go.Proofs.YtjcilpedpimdcaaDoor
open Go.RowKit
set_option linter.unusedVariables false

theorem refDigC (l : List UInt8) (n : Nat) (a b : Nat) (a' b' : Int) (w : World) (hl : l.length = n) (hm : n ≤ maxLen) (ha : a ≤ 9) (hb : b ≤ 9) (ha' : a' = (a : Int)) (hb' : b' = (b : Int)) :
    Calls Tryd.prog 33 #[.string (str l), .int .i64 a', .int .i64 b'] w fun e w' => e = .returned (.bool (dig a b l)) ∧ w = w' := by
  subst ha' hb'
  have HD := refDigitsC l n w hl hm
  have he : Hid (dig a b l = (decide (a ≤ lead l) && decide (lead l ≤ b))) := rfl
  generalize dig a b l = g at *
  generalize lead l = d at *
  have hi : Hid (g = (decide ((a : Int) ≤ (d : Int)) && decide ((d : Int) ≤ (b : Int)))) := by
    unfold Hid
    rw [he.out, Bool.eq_iff_iff]
    simp
  clear he
  by_cases h1 : (a : Int) ≤ (d : Int)
  · have h1' : ¬ (d : Int) < (a : Int) := by omega
    by_cases h2 : (d : Int) ≤ (b : Int)
    · have e : Hid (g = true) := by unfold Hid; rw [hi.out, decide_eq_true h1, decide_eq_true h2]; rfl
      go_enter Tryd.func33, Tryd.ntmps33
      go_wp2_with (go_at_call 38; (with_reducible refine HD.mono ?_); rintro e w2 ⟨rfl, rfl⟩)
      go_ret
      exact ⟨by rw [e.out]; rfl, rfl⟩
    · have e : Hid (g = false) := by unfold Hid; rw [hi.out, decide_eq_true h1, decide_eq_false h2]; rfl
      go_enter Tryd.func33, Tryd.ntmps33
      go_wp2_with (go_at_call 38; (with_reducible refine HD.mono ?_); rintro e w2 ⟨rfl, rfl⟩)
      go_ret
      exact ⟨by rw [e.out]; show Ending.returned (.bool (decide (d ≤ b))) = _; rw [decide_eq_false (by omega)], rfl⟩
  · have e : Hid (g = false) := by unfold Hid; rw [hi.out, decide_eq_false h1]; rfl
    go_enter Tryd.func33, Tryd.ntmps33
    go_wp2_with (go_at_call 38; (with_reducible refine HD.mono ?_); rintro e w2 ⟨rfl, rfl⟩)
    go_ret
    exact ⟨by rw [e.out]; rfl, rfl⟩

theorem num_lead' (l : List UInt8) : (numL (l.take (lead l))).1 = (valL l : Int) := by
  rcases Nat.eq_zero_or_pos (lead l) with h | h
  · unfold valL
    rw [h]
    rfl
  · rw [num_lead l h]

theorem refValueC (l : List UInt8) (n : Nat) (w : World) (hl : l.length = n) (hm : n ≤ maxLen) :
    Calls Tryd.prog 34 #[.string (str l)] w fun e w' => e = .returned (.int .i64 (valL l : Int)) ∧ w = w' := by
  have hsz : (str l).size = n := by rw [str_size, hl]
  have HD := refDigitsC l n w hl hm
  have hle := lead_le l
  have HN := refNumberC (l.take (lead l)) (lead l) w (by simp; omega) (by omega)
  rw [num_lead' l] at HN
  have hx1 : (str l).extract 0 (lead l) = str (l.take (lead l)) := by rw [str_extract]; simp
  generalize (numL (l.take (lead l))).2 = g at *
  generalize l.take (lead l) = t at *
  have hdn : ((lead l : Nat) : Int) ≤ (n : Int) := by omega
  generalize lead l = d at *
  generalize valL l = v at *
  clear hl
  go_enter Tryd.func34, Tryd.ntmps34
  go_wp2_with (first
    | (go_at_call 38; (with_reducible refine HD.mono ?_); rintro e w2 ⟨rfl, rfl⟩)
    | (go_at_call 17; (with_reducible refine HN.mono ?_); rintro e w2 ⟨rfl, rfl⟩))
  go_ret
  exact ⟨rfl, rfl⟩

/-- The names of the months, one behind the other. -/
theorem names12 (k : Nat) (hk : k < 12) : (⟨#[106, 97, 110, 102, 101, 98, 109, 97, 114, 97, 112, 114, 109, 97, 121, 106, 117, 110, 106, 117, 108, 97, 117, 103, 115, 101, 112, 111, 99, 116, 110, 111, 118, 100, 101, 99]⟩ : ByteArray).extract (3 * (k + 1) - 3) (3 * (k + 1)) = str (monTab.getD k []) := by
  have e : (⟨#[106, 97, 110, 102, 101, 98, 109, 97, 114, 97, 112, 114, 109, 97, 121, 106, 117, 110, 106, 117, 108, 97, 117, 103, 115, 101, 112, 111, 99, 116, 110, 111, 118, 100, 101, 99]⟩ : ByteArray) = str [106, 97, 110, 102, 101, 98, 109, 97, 114, 97, 112, 114, 109, 97, 121, 106, 117, 110, 106, 117, 108, 97, 117, 103, 115, 101, 112, 111, 99, 116, 110, 111, 118, 100, 101, 99] := rfl
  rw [e, str_extract]
  congr 1
  have : ∀ k, k < 12 → (([106, 97, 110, 102, 101, 98, 109, 97, 114, 97, 112, 114, 109, 97, 121, 106, 117, 110, 106, 117, 108, 97, 117, 103, 115, 101, 112, 111, 99, 116, 110, 111, 118, 100, 101, 99] : List UInt8).drop (3 * (k + 1) - 3)).take (3 * (k + 1) - (3 * (k + 1) - 3)) = monTab.getD k [] := by decide +kernel
  exact this k hk

theorem monTab_no (l : List UInt8) (k : Nat) (h : k < monK l) (hk : k < 12) : (monTab.getD k [] == (l.take 3).map low) = false := by
  have h2 : k < monTab.length := hk
  have := List.not_of_lt_findIdx h
  have e : monTab.getD k [] = monTab[k] := by simp [List.getD, h2]
  rw [e, beq_eq_false_iff_ne]
  intro c
  simp [c] at this
theorem monTab_yes (l : List UInt8) (h : monK l < 12) : (monTab.getD (monK l) [] == (l.take 3).map low) = true := by
  have h2 : monK l < monTab.length := h
  have := List.findIdx_getElem (w := h2)
  have e : monTab.getD (monK l) [] = monTab[monK l] := by simp [List.getD, h2]
  rw [e]
  exact this

theorem refMonthC (l : List UInt8) (n : Nat) (w : World) (hl : l.length = n) (hm : n ≤ maxLen) :
    Calls Tryd.prog 35 #[.string (str l)] w fun e w' => e = .returned (.int .i64 (monL l : Int)) ∧ Below w.heap.size w w' := by
  have hsz : (str l).size = n := by rw [str_size, hl]
  by_cases h3 : n < 3
  · have e : monL l = 0 := by unfold monL; rw [if_pos (by omega)]
    rw [e]
    have h3' : (n : Int) < 3 := by omega
    clear e
    go_enter Tryd.func35, Tryd.ntmps35
    go_wp2
    go_ret
    exact ⟨rfl, Below.refl _ _⟩
  · have h3' : ¬ (n : Int) < 3 := by omega
    have hx : (str l).extract 0 3 = str (l.take 3) := by rw [str_extract]; simp
    have HL := fun w => refLowerC (l.take 3) 3 w (by simp; omega) (by omega)
    unfold GivesStr at HL
    have hK1 := Lib.hid (monTab_no l)
    have hK2 := Lib.hid (monTab_yes l)
    have hK3 : Hid (monL l = if monK l < 12 then monK l + 1 else 0) := by unfold Hid monL; rw [if_neg (by omega)]
    have hN := Lib.hid names12
    have hk := str_toList
    generalize monK l = K at *
    generalize (l.take 3).map low = t at *
    generalize l.take 3 = l3 at *
    generalize monL l = L at *
    clear hl
    go_enter Tryd.func35, Tryd.ntmps35
    go_wp2_with (go_at_call 14; (with_reducible refine (HL _).mono ?_); rintro e w2 ⟨rfl, hb⟩)
    go_loopw [5] (fun i wr => ∃ k : Nat, k ≤ 12 ∧ k ≤ K ∧ i = .int .i64 ((k : Int) + 1) ∧ w2 = wr) (fun i _ => 13 - (intOf i).toNat)
    case atStart => exact ⟨0, Nat.zero_le _, Nat.zero_le _, rfl, rfl⟩
    case round =>
      obtain ⟨k, hk1, hkK, rfl, rfl⟩ := hrel
      rcases (show (k < 12 ∧ k < K) ∨ (k < 12 ∧ k = K) ∨ k = 12 by omega) with ⟨hk1, hk2⟩ | ⟨hk1, rfl⟩ | rfl
      · have hn := hN.out k hk1
        have hc := hK1.out k hk2 hk1
        generalize monTab.getD k [] = z at *
        have h12 : (k : Int) < 12 := by omega
        go_wp2
        go_roundw
        case rel => exact ⟨k + 1, by omega, by omega, by go_num, by first | rfl | trivial⟩
        case measure => simp [intOf]; omega
      · have hn := hN.out k hk1
        have hc := hK2.out hk1
        generalize monTab.getD k [] = z at *
        have h12 : (k : Int) < 12 := by omega
        have e : Hid (L = k + 1) := by unfold Hid; rw [hK3.out, if_pos hk1]
        go_wp2
        go_ret
        exact ⟨by rw [e.out]; rfl, hb⟩
      · have e : Hid (L = 0) := by unfold Hid; rw [hK3.out, if_neg (by omega)]
        go_wp2
        go_ret
        exact ⟨by rw [e.out]; rfl, hb⟩
end Go.Proofs.YtjcilpedpimdcaaDoor

/- Contracts of the reference of layer 7: a time. -/
namespace Go.Proofs.YtjcilpedpimdcaaDoor
open Go.RowKit
set_option linter.unusedVariables false

theorem infoInt : (Tryd.prog.info? 3).map (fun i => (i.zero, i.size, i.bytes)) = some (some (.int .i64 0), 1, 8) := by kernel_rfl

def timeK (l : List UInt8) : Nat → List UInt8
  | 0 => l
  | k + 1 => timeB (timeK l k)
def valsT (l : List UInt8) (k : Nat) : List Value := (List.range k).map fun j => .int .i64 (valL (timeK l j) : Int)
theorem valsT_snoc (l : List UInt8) (k : Nat) : valsT l k ++ [.int .i64 (valL (timeK l k) : Int)] = valsT l (k + 1) := by
  unfold valsT
  rw [List.range_succ, List.map_append]
  rfl
theorem timeK_le (l : List UInt8) (k : Nat) : (timeK l k).length ≤ l.length := by
  induction k with
  | zero => exact Nat.le_refl _
  | succ k ih => exact Nat.le_trans (timeB_le _) ih
theorem isTime_no (l : List UInt8) (k : Nat) (hk : k ≤ 2) (h : dig 1 2 (timeK l k) = false) : isTimeB l = false := by
  unfold isTimeB
  rcases (show k = 0 ∨ k = 1 ∨ k = 2 by omega) with rfl | rfl | rfl
  · change dig 1 2 l = false at h
    rw [h]; rfl
  · change dig 1 2 (timeB l) = false at h
    rw [h]; simp
  · change dig 1 2 (timeB (timeB l)) = false at h
    rw [h]; simp
theorem isTime_yes (l : List UInt8) (h : ∀ j, j < 3 → dig 1 2 (timeK l j) = true) : isTimeB l = true := by
  have h0 : dig 1 2 l = true := h 0 (by omega)
  have h1 : dig 1 2 (timeB l) = true := h 1 (by omega)
  have h2 : dig 1 2 (timeB (timeB l)) = true := h 2 (by omega)
  unfold isTimeB
  rw [h0, h1, h2]
  rfl

def TimeIs (l : List UInt8) (w : World) (e : Ending) (w' : World) : Prop :=
  Below w.heap.size w w' ∧ ((isTimeB l = false ∧ e = .returned (.tuple #[.slice none 0 0, .bool false])) ∨
    (isTimeB l = true ∧ ∃ a c, e = .returned (.tuple #[.slice a 3 c, .bool true]) ∧ Owned w.heap.size 3 a 3 c (valsT l 3) w'))

set_option maxHeartbeats 1000000 in
theorem refTimeC (l : List UInt8) (n : Nat) (w : World) (hl : l.length = n) (hm : n ≤ 1000000000000) :
    Calls Tryd.prog 32 #[.string (str l)] w (TimeIs l w) := by
  obtain ⟨i0, hi, hz0, hz1, hz2⟩ := info_parts infoInt
  have hown0 := owned_lit w 3
  have hbel0 := below_alloc w (.cells #[] 3)
  have hm' : n ≤ maxLen := by unfold maxLen; omega
  have HD := Lib.hid (fun (k : Nat) (w : World) => refDigC (timeK l k) (timeK l k).length 1 2 1 2 w rfl (by have := timeK_le l k; omega) (by omega) (by omega) rfl rfl)
  have HG := Lib.hid (fun (k : Nat) (w : World) => refDigitsC (timeK l k) (timeK l k).length w rfl (by have := timeK_le l k; omega))
  have HV := Lib.hid (fun (k : Nat) (w : World) => refValueC (timeK l k) (timeK l k).length w rfl (by have := timeK_le l k; omega))
  have HN := Lib.hid (isTime_no l)
  have HY := Lib.hid (isTime_yes l)
  have hle := Lib.hid (timeK_le l)
  obtain ⟨G, hG⟩ : ∃ G, TimeIs l w = G := ⟨_, rfl⟩
  rw [hG]
  have hG' := Lib.hid hG
  have HL := Lib.hid hl
  clear hl hG
  have hl0 : timeK l 0 = l := rfl
  rw [← hl0]
  clear hl0
  go_enter Tryd.func32, Tryd.ntmps32
  go_wp2
  go_loopw [0, 4, 5] (fun s v i wr => ∃ (k : Nat) (a : Option Addr) (C : Nat), k ≤ 2 ∧ s = .string (str (timeK l k)) ∧ v = .slice a k C ∧ i = .int .i64 (k : Int) ∧ Hid (∀ j, j < k → dig 1 2 (timeK l j) = true) ∧ Owned w.heap.size 3 a k C (valsT l k) wr ∧ Below w.heap.size w wr) (fun _ _ i _ => 3 - (intOf i).toNat)
  case atStart => exact ⟨0, _, _, by omega, rfl, rfl, rfl, fun j hj => absurd hj (by omega), hown0, hbel0⟩
  case round =>
    clear hown0 hbel0
    obtain ⟨k, a, C, hk, rfl, rfl, rfl, HJ, ho, hb⟩ := hrel
    have hHD := HD.out k
    have hHG := HG.out k
    have hHV := HV.out k
    have hsz : (str (timeK l k)).size = (timeK l k).length := str_size _
    have hlen := hle.out k
    have hll := lead_le (timeK l k)
    have hk3 : (k : Int) < 3 := by omega
    have HO := Lib.hid ho
    have hbs := hb.size
    have HB := Lib.hid hb
    clear ho hb
    rw [HL.out] at hlen
    cases c : dig 1 2 (timeK l k) with
    | false =>
      have hn := Lib.hid (HN.out k hk c)
      rw [c] at hHD
      clear c
      generalize timeK l k = t at *
      go_wp2_with (go_at_call 33; (with_reducible refine (hHD _).mono ?_); rintro e w2 ⟨rfl, rfl⟩)
      rw [← hG'.out]
      exact ⟨HB.out, .inl ⟨hn.out, rfl⟩⟩
    | true =>
      have hJ2 : Hid (∀ j, j < k + 1 → dig 1 2 (timeK l j) = true) := fun j hj => by
        rcases Nat.lt_succ_iff_lt_or_eq.1 hj with h1 | rfl
        · exact HJ.out j h1
        · exact c
      rw [c] at hHD
      have hvs := Lib.hid (valsT_snoc l k)
      have hO := HO.out
      have tno := Lib.hid (fun h => HN.out (k + 1) h)
      have hno := Lib.hid (timeB_no (timeK l k))
      have hye := Lib.hid (timeB_yes (timeK l k))
      have hkk : Hid (timeK l (k + 1) = timeB (timeK l k)) := rfl
      have hix := Lib.hid (fun (w : World) (h : lead (timeK l k) < (timeK l k).length) => run_index_str (P := Tryd.prog) w 9 (timeK l k) .i64 (lead (timeK l k)) Tryd.underlying9 h)
      have hex := Lib.hid (str_extract (timeK l k))
      have hv := valL_le (timeK l k)
      clear c
      by_cases hk2 : k = 2
      · subst hk2
        have hy := Lib.hid (HY.out hJ2.out)
        generalize timeK l 2 = t at *
        generalize valL t = vv at *
        generalize lead t = d at *
        generalize t.length = tn at *
        go_wp2_with (first
          | (go_at_call 33; (with_reducible refine (hHD _).mono ?_); rintro e w2 ⟨rfl, rfl⟩)
          | (go_at_call 38; (with_reducible refine (hHG _).mono ?_); rintro e w2 ⟨rfl, rfl⟩)
          | (go_at_call 34; (with_reducible refine (hHV _).mono ?_); rintro e w2 ⟨rfl, rfl⟩)
          | (at_builtin; refine wpList_append_one rfl (.tmp 17) (.tmp 20) 52 rfl 3 i0 (.int .i64 0) 8 Tryd.underlying52 hi hz0 hz1 hz2 rfl hO.1 rfl rfl rfl (by unfold maxLen; omega) (by omega) hbs ?_; intro v2 w2 ho2 hb2; obtain ⟨a2, c2, rfl, ho3⟩ := Owned.of ho2))
        rw [hvs.out] at ho3
        rw [← hG'.out]
        exact ⟨HB.out.trans hb2, .inr ⟨hy.out, a2, c2, rfl, ho3⟩⟩
      · have hk1 : k ≤ 1 := by omega
        have hne : ((k : Int) == 2) = false := by simp; omega
        by_cases hlt : lead (timeK l k) < (timeK l k).length
        · have hxx := fun w => hix.out w hlt
          by_cases hc : ((timeK l k).getD (lead (timeK l k)) 0).toNat = 58
          · have e1 := hye.out hlt hc
            have hx2 := hex.out (lead (timeK l k) + 1) (timeK l k).length
            rw [List.take_of_length_le (by rw [List.length_drop]; omega), ← e1, ← hkk.out] at hx2
            have hne2 : (((timeK l k).length : Int) == (lead (timeK l k) : Int)) = false := by simp; omega
            rw [hc] at hxx
            obtain ⟨t', ht'⟩ : ∃ t', timeK l (k + 1) = t' := ⟨_, rfl⟩
            rw [ht'] at hx2
            have HT := Lib.hid ht'
            clear hno hye hkk hix hex e1 hc tno ht'
            generalize timeK l k = t at *
            generalize valL t = vv at *
            generalize lead t = d at *
            generalize t.length = tn at *
            go_wp2_with (first
              | (go_at_call 33; (with_reducible refine (hHD _).mono ?_); rintro e w2 ⟨rfl, rfl⟩)
              | (go_at_call 38; (with_reducible refine (hHG _).mono ?_); rintro e w2 ⟨rfl, rfl⟩)
              | (go_at_call 34; (with_reducible refine (hHV _).mono ?_); rintro e w2 ⟨rfl, rfl⟩)
              | (at_builtin; refine wpList_append_one rfl (.tmp 17) (.tmp 20) 52 rfl 3 i0 (.int .i64 0) 8 Tryd.underlying52 hi hz0 hz1 hz2 rfl hO.1 rfl rfl rfl (by unfold maxLen; omega) (by omega) hbs ?_; intro v2 w2 ho2 hb2; obtain ⟨a2, c2, rfl, ho3⟩ := Owned.of ho2))
            rw [hvs.out] at ho3
            go_roundw
            case rel => exact ⟨k + 1, a2, c2, by omega, by rw [HT.out], rfl, by go_num, hJ2.out, ho3, HB.out.trans hb2⟩
            case measure => simp [intOf]; omega
          · have e1 : Hid (isTimeB l = false) := by
              refine tno.out (by omega) ?_
              rw [hkk.out, hno.out (fun _ => hc)]
              exact dig_nil 1 2 (by omega)
            have hne2 : (((timeK l k).length : Int) == (lead (timeK l k) : Int)) = false := by simp; omega
            generalize ((timeK l k).getD (lead (timeK l k)) 0).toNat = xb at *
            have hc' : ((xb : Int) == 58) = false := by simp; omega
            have hc2 : ((xb : Int) != 58) = true := by simp; omega
            clear hno hye hkk hix hex hc tno
            generalize timeK l k = t at *
            generalize valL t = vv at *
            generalize lead t = d at *
            generalize t.length = tn at *
            go_wp2_with (first
              | (go_at_call 33; (with_reducible refine (hHD _).mono ?_); rintro e w2 ⟨rfl, rfl⟩)
              | (go_at_call 38; (with_reducible refine (hHG _).mono ?_); rintro e w2 ⟨rfl, rfl⟩)
              | (go_at_call 34; (with_reducible refine (hHV _).mono ?_); rintro e w2 ⟨rfl, rfl⟩)
              | (at_builtin; refine wpList_append_one rfl (.tmp 17) (.tmp 20) 52 rfl 3 i0 (.int .i64 0) 8 Tryd.underlying52 hi hz0 hz1 hz2 rfl hO.1 rfl rfl rfl (by unfold maxLen; omega) (by omega) hbs ?_; intro v2 w2 ho2 hb2; obtain ⟨a2, c2, rfl, ho3⟩ := Owned.of ho2))
            rw [← hG'.out]
            exact ⟨HB.out.trans hb2, .inl ⟨e1.out, rfl⟩⟩
        · have e1 : Hid (isTimeB l = false) := by
            refine tno.out (by omega) ?_
            rw [hkk.out, hno.out (fun h => absurd h hlt)]
            exact dig_nil 1 2 (by omega)
          have hne2 : (timeK l k).length = lead (timeK l k) := by omega
          have hne3 : (((timeK l k).length : Int) == (lead (timeK l k) : Int)) = true := by rw [hne2]; simp
          clear hno hye hkk hix hex tno
          generalize timeK l k = t at *
          generalize valL t = vv at *
          generalize lead t = d at *
          generalize t.length = tn at *
          subst hne2
          go_wp2_with (first
              | (go_at_call 33; (with_reducible refine (hHD _).mono ?_); rintro e w2 ⟨rfl, rfl⟩)
              | (go_at_call 38; (with_reducible refine (hHG _).mono ?_); rintro e w2 ⟨rfl, rfl⟩)
              | (go_at_call 34; (with_reducible refine (hHV _).mono ?_); rintro e w2 ⟨rfl, rfl⟩)
              | (at_builtin; refine wpList_append_one rfl (.tmp 17) (.tmp 20) 52 rfl 3 i0 (.int .i64 0) 8 Tryd.underlying52 hi hz0 hz1 hz2 rfl hO.1 rfl rfl rfl (by unfold maxLen; omega) (by omega) hbs ?_; intro v2 w2 ho2 hb2; obtain ⟨a2, c2, rfl, ho3⟩ := Owned.of ho2))
          rw [← hG'.out]
          exact ⟨HB.out.trans hb2, .inl ⟨e1.out, rfl⟩⟩
end Go.Proofs.YtjcilpedpimdcaaDoor

/- Contracts of layer 7: days and their numbers. -/
namespace Go.Proofs.YtjcilpedpimdcaaDoor
open Go.RowKit
set_option linter.unusedVariables false

/-- There is no such day. -/
def WrongI (y m d : Int) : Prop := y < 1601 ∨ 9999 < y ∨ m < 1 ∨ 12 < m ∨ ∃ M : Nat, M < 12 ∧ m = (M : Int) + 1 ∧ (d < 1 ∨ longI y M < d)
theorem right_or (y m d : Int) : (∃ M : Nat, m = (M : Int) + 1 ∧ RightI y M d) ∨ WrongI y m d := by
  by_cases h1 : y < 1601
  · exact .inr (.inl h1)
  by_cases h2 : 9999 < y
  · exact .inr (.inr (.inl h2))
  by_cases h3 : m < 1
  · exact .inr (.inr (.inr (.inl h3)))
  by_cases h4 : 12 < m
  · exact .inr (.inr (.inr (.inr (.inl h4))))
  obtain ⟨M, hM⟩ : ∃ M : Nat, m = (M : Int) + 1 := ⟨(m - 1).toNat, by omega⟩
  by_cases h5 : d < 1 ∨ longI y M < d
  · exact .inr (.inr (.inr (.inr (.inr ⟨M, by omega, hM, h5⟩))))
  · exact .inl ⟨M, hM, by omega, by omega, by omega, by omega, by omega⟩
theorem not_both {y m d : Int} {M : Nat} (hm : m = (M : Int) + 1) (h : RightI y M d) : ¬ WrongI y m d := by
  obtain ⟨h1, h2, h3, h4, h5⟩ := h
  rintro (h | h | h | h | ⟨M', h6, h7, h8⟩)
  · omega
  · omega
  · omega
  · omega
  · have : M' = M := by omega
    subst this
    omega

theorem start_le' (y : Int) (h0 : 1601 ≤ y) (h1 : y ≤ 10000) : -134774 ≤ startI y ∧ startI y ≤ 2932897 := by
  unfold startI aheadI
  omega

theorem daysYes (y : Int) (M : Nat) (d v : Int) (w : World) (hv : v = (M : Int) + 1) (h : RightI y M d) (hT : DTab w) :
    Calls Tryd.prog 41 #[.int .i64 y, .int .i64 v, .int .i64 d] w fun e w' => e = .returned (.tuple #[.int .i64 (daysI y M d), .int .i64 0]) ∧ w = w' := by
  subst hv
  obtain ⟨h1, h2, h3, h4, h5⟩ := h
  have HM := fun (k : Nat) (hk : k < 12) (v : Int) (hv : v = (k : Int) + 1) => monthDaysC y v k w hv hk (by omega) (by omega) hT
  have HY := yearStartC y w (by omega) (by omega)
  have hs := start_le' y h1 (by omega)
  have hb := (longI_le y M h3).2
  have hd : d ≤ 31 := by omega
  have HD := Lib.hid (show daysI y M d = startI y + mdays y M + d - 1 from rfl)
  have HP := Lib.hid (fun k (hk : k ≤ 12) => mdays_pos y k hk)
  have HS := Lib.hid (fun k => show mdays y (k + 1) = mdays y k + longI y k from rfl)
  have HL := Lib.hid (longI_le y)
  have h0 : Hid (mdays y 0 = 0) := rfl
  generalize daysI y M d = R at *
  generalize startI y = s at *
  generalize mdays y = md at *
  have hv1 : (1 : Int) ≤ (M : Int) + 1 := by omega
  have hv2 : (M : Int) + 1 ≤ 12 := by omega
  have hL := longI_le y M h3
  go_enter Tryd.func41, Tryd.ntmps41
  go_wp2_with (first
    | (go_at_call 54; (with_reducible refine (HM M h3 _ rfl).mono ?_); rintro e w2 ⟨rfl, rfl⟩)
    | (go_at_call 55; (with_reducible refine HY.mono ?_); rintro e w2 ⟨rfl, rfl⟩))
  go_loopw [8, 9] (fun v i wr => ∃ k : Nat, k ≤ M ∧ v = .int .i64 (s + md k) ∧ i = .int .i64 ((k : Int) + 1) ∧ w = wr) (fun _ i _ => M + 1 - (intOf i).toNat)
  case atStart => exact ⟨0, Nat.zero_le _, by rw [h0.out]; simp, rfl, rfl⟩
  case round =>
    obtain ⟨k, hk, rfl, rfl, rfl⟩ := hrel
    have p1 := HP.out k (by omega)
    have p2 := HL.out k (by omega)
    have p3 := Lib.hid (HS.out k)
    by_cases hlt : k < M
    · have hlt' : (k : Int) < (M : Int) := by omega
      have HK := HM k (by omega) _ rfl
      clear HM
      generalize longI y k = L at *
      obtain ⟨z, hz⟩ : ∃ z, md k = z := ⟨_, rfl⟩
      rw [hz] at p1
      rw [hz]
      have p4 := Lib.hid (p3.out.trans (by rw [hz]))
      clear hz p3
      go_wp2_with (go_at_call 54; (with_reducible refine HK.mono ?_); rintro e w2 ⟨rfl, rfl⟩)
      go_roundw
      case rel => exact ⟨k + 1, by omega, by rw [p4.out]; congr 1; omega, by go_num, by first | rfl | trivial⟩
      case measure => simp [intOf]; omega
    · obtain rfl : k = M := by omega
      clear HM p2 p3
      have e : Hid (R = s + md k + d - 1) := HD.out
      generalize md k = z at *
      go_wp2
      go_ret2
      exact ⟨by rw [e.out]; rfl, rfl⟩

theorem daysNo (y m d : Int) (w : World) (h : WrongI y m d) (h0 : -9223372036854775808 ≤ y) (h1 : y ≤ 9223372036854775807) (h2 : -9223372036854775808 ≤ m) (h3 : m ≤ 9223372036854775807) (h4 : -9223372036854775808 ≤ d) (h5 : d ≤ 9223372036854775807) (hT : DTab w) :
    Calls Tryd.prog 41 #[.int .i64 y, .int .i64 m, .int .i64 d] w fun e w' => e = .returned (.tuple #[.int .i64 0, .int .i64 4]) ∧ w = w' := by
  by_cases a1 : y < 1601
  · go_enter Tryd.func41, Tryd.ntmps41
    go_wp2
    go_ret2
    exact ⟨rfl, rfl⟩
  by_cases a2 : 9999 < y
  · go_enter Tryd.func41, Tryd.ntmps41
    go_wp2
    go_ret2
    exact ⟨rfl, rfl⟩
  by_cases a3 : m < 1
  · go_enter Tryd.func41, Tryd.ntmps41
    go_wp2
    go_ret2
    exact ⟨rfl, rfl⟩
  by_cases a4 : 12 < m
  · go_enter Tryd.func41, Tryd.ntmps41
    go_wp2
    go_ret2
    exact ⟨rfl, rfl⟩
  by_cases a5 : d < 1
  · go_enter Tryd.func41, Tryd.ntmps41
    go_wp2
    go_ret2
    exact ⟨rfl, rfl⟩
  obtain ⟨M, hM, hm, h6⟩ : ∃ M : Nat, M < 12 ∧ m = (M : Int) + 1 ∧ longI y M < d := by
    rcases h with h | h | h | h | ⟨M, h6, h7, h8⟩
    · omega
    · omega
    · omega
    · omega
    · exact ⟨M, h6, h7, by omega⟩
  have HM := monthDaysC y m M w hm hM h0 h1 hT
  generalize longI y M = L at *
  clear h hm
  go_enter Tryd.func41, Tryd.ntmps41
  go_wp2_with (go_at_call 54; (with_reducible refine HM.mono ?_); rintro e w2 ⟨rfl, rfl⟩)
  go_ret2
  exact ⟨rfl, rfl⟩

end Go.Proofs.YtjcilpedpimdcaaDoor

/- Contracts of the reference of layer 7: the calendar. -/
namespace Go.Proofs.YtjcilpedpimdcaaDoor
open Go.RowKit
set_option linter.unusedVariables false

theorem refLongC (y v : Int) (M : Nat) (w : World) (hv : v = (M : Int) + 1) (hM : M < 12) (h0 : -9223372036854775808 ≤ y) (h1 : y ≤ 9223372036854775807) :
    Calls Tryd.prog 47 #[.int .i64 y, .int .i64 v] w fun e w' => e = .returned (.int .i64 (longI y M)) ∧ Below w.heap.size w w' := by
  have HL := refLeapC y w h0 h1
  by_cases c : M = 1
  · subst c
    obtain rfl : v = 2 := by omega
    clear hv
    cases hl : leapB y with
    | true =>
      rw [hl] at HL
      rw [longI_29 hl]
      clear hl
      go_enter Tryd.func47, Tryd.ntmps47
      go_wp2_with (go_at_call 59; (with_reducible refine HL.mono ?_); rintro e w2 ⟨rfl, rfl⟩)
      go_ret
      exact ⟨rfl, Below.refl _ _⟩
    | false =>
      rw [hl] at HL
      rw [longI_no (fun _ => hl)]
      have e1 : mlen.getD 1 0 = 28 := rfl
      rw [e1]
      clear hl
      go_enter Tryd.func47, Tryd.ntmps47
      go_wp2_with (go_at_call 59; (with_reducible refine HL.mono ?_); rintro e w2 ⟨rfl, rfl⟩)
      go_ret
      exact ⟨rfl, below_alloc _ _⟩
  · rw [longI_no (fun h => absurd h c)]
    have hc : ((M : Int) + 1 == 2) = false := by simp; omega
    subst hv
    have hr := reads_new w [.int .i64 0, .int .i64 31, .int .i64 28, .int .i64 31, .int .i64 30, .int .i64 31, .int .i64 30, .int .i64 31, .int .i64 31, .int .i64 30, .int .i64 31, .int .i64 30, .int .i64 31] 3
    have hx : ([.int .i64 0, .int .i64 31, .int .i64 28, .int .i64 31, .int .i64 30, .int .i64 31, .int .i64 30, .int .i64 31, .int .i64 31, .int .i64 30, .int .i64 31, .int .i64 30, .int .i64 31] : List Value)[M + 1]? = some (.int .i64 (mlen.getD M 0)) := by
      have : ∀ M, M < 12 → ([0, 31, 28, 31, 30, 31, 30, 31, 31, 30, 31, 30, 31] : List Int)[M + 1]? = some (mlen.getD M 0) := by decide
      have h := congrArg (Option.map (Value.int .i64)) (this M hM)
      rw [← List.getElem?_map] at h
      exact h
    obtain ⟨b, off, hb, hcell⟩ := hr (M + 1) _ hx
    cases hb
    rw [Nat.zero_add] at hcell
    generalize mlen.getD M 0 = z at *
    have hm1 : (M : Int) + 1 < 13 := by omega
    clear c HL hr hx
    go_enter Tryd.func47, Tryd.ntmps47
    go_wp2
    go_ret
    exact ⟨rfl, below_alloc _ _⟩

theorem refRightYes (y v d : Int) (M : Nat) (w : World) (hv : v = (M : Int) + 1) (h : RightI y M d) :
    Calls Tryd.prog 36 #[.int .i64 y, .int .i64 v, .int .i64 d] w fun e w' => e = .returned (.bool true) ∧ Below w.heap.size w w' := by
  obtain ⟨h1, h2, h3, h4, h5⟩ := h
  have HL := refLongC y v M w hv h3 (by omega) (by omega)
  have hb := longI_le y M h3
  have hv1 : 1 ≤ v := by omega
  have hv2 : v ≤ 12 := by omega
  clear hv
  generalize longI y M = L at *
  go_enter Tryd.func36, Tryd.ntmps36
  go_wp2_with (go_at_call 47; (with_reducible refine HL.mono ?_); rintro e w2 ⟨rfl, hx⟩)
  go_ret
  exact ⟨rfl, hx⟩

theorem refRightNo (y m d : Int) (w : World) (h : WrongI y m d) (h0 : -9223372036854775808 ≤ y) (h1 : y ≤ 9223372036854775807) (h2 : -9223372036854775808 ≤ m) (h3 : m ≤ 9223372036854775807) (h4 : -9223372036854775808 ≤ d) (h5 : d ≤ 9223372036854775807) :
    Calls Tryd.prog 36 #[.int .i64 y, .int .i64 m, .int .i64 d] w fun e w' => e = .returned (.bool false) ∧ Below w.heap.size w w' := by
  have hr := Below.refl w.heap.size w
  by_cases a1 : y < 1601
  · go_enter Tryd.func36, Tryd.ntmps36
    go_wp2
    go_ret
    exact ⟨rfl, hr⟩
  by_cases a2 : 9999 < y
  · go_enter Tryd.func36, Tryd.ntmps36
    go_wp2
    go_ret
    exact ⟨rfl, hr⟩
  by_cases a3 : m < 1
  · go_enter Tryd.func36, Tryd.ntmps36
    go_wp2
    go_ret
    exact ⟨rfl, hr⟩
  by_cases a4 : 12 < m
  · go_enter Tryd.func36, Tryd.ntmps36
    go_wp2
    go_ret
    exact ⟨rfl, hr⟩
  by_cases a5 : d < 1
  · go_enter Tryd.func36, Tryd.ntmps36
    go_wp2
    go_ret
    exact ⟨rfl, hr⟩
  obtain ⟨M, hM, hm, h6⟩ : ∃ M : Nat, M < 12 ∧ m = (M : Int) + 1 ∧ longI y M < d := by
    rcases h with h | h | h | h | ⟨M, h6, h7, h8⟩
    · omega
    · omega
    · omega
    · omega
    · exact ⟨M, h6, h7, by omega⟩
  have HM := refLongC y m M w hm hM h0 h1
  generalize longI y M = L at *
  clear h hm hr
  go_enter Tryd.func36, Tryd.ntmps36
  go_wp2_with (go_at_call 47; (with_reducible refine HM.mono ?_); rintro e w2 ⟨rfl, hx⟩)
  go_ret
  refine ⟨?_, hx⟩
  show Ending.returned (.bool (decide (d ≤ L))) = _
  rw [decide_eq_false (by omega)]

theorem refDaysC (y v : Int) (M : Nat) (d : Int) (w : World) (hv : v = (M : Int) + 1) (h : RightI y M d) :
    Calls Tryd.prog 37 #[.int .i64 y, .int .i64 v, .int .i64 d] w fun e w' => e = .returned (.int .i64 (daysI y M d)) ∧ Below w.heap.size w w' := by
  subst hv
  obtain ⟨h1, h2, h3, h4, h5⟩ := h
  have HM := fun (k : Nat) (hk : k < 12) (v : Int) (hv : v = (k : Int) + 1) (w : World) => refLongC y v k w hv hk (by omega) (by omega)
  have HY := aheadC y w (by omega) (by omega)
  have HZ := aheadC 1970 w (by omega) (by omega)
  have e0 : aheadI 1970 = 719162 := by decide
  rw [e0] at HZ
  have hs := start_le' y h1 (by omega)
  have hb := (longI_le y M h3).2
  have hd : d ≤ 31 := by omega
  have HD : Hid (daysI y M d = aheadI y - 719162 + mdays y M + d - 1) := rfl
  unfold startI at hs
  have HP := Lib.hid (fun k (hk : k ≤ 12) => mdays_pos y k hk)
  have HS := Lib.hid (fun k => show mdays y (k + 1) = mdays y k + longI y k from rfl)
  have HL := Lib.hid (longI_le y)
  have h0 : Hid (mdays y 0 = 0) := rfl
  generalize daysI y M d = R at *
  generalize aheadI y = s at *
  generalize mdays y = md at *
  have hv1 : (1 : Int) ≤ (M : Int) + 1 := by omega
  have hv2 : (M : Int) + 1 ≤ 12 := by omega
  go_enter Tryd.func37, Tryd.ntmps37
  go_wp2_with (go_at_call 48; first | ((with_reducible refine HY.mono ?_); rintro e w2 ⟨rfl, rfl⟩) | ((with_reducible refine HZ.mono ?_); rintro e w2 ⟨rfl, rfl⟩))
  go_loopw [7, 8] (fun v i wr => ∃ k : Nat, k ≤ M ∧ v = .int .i64 (s - 719162 + md k) ∧ i = .int .i64 ((k : Int) + 1) ∧ Below w.heap.size w wr) (fun _ i _ => M + 1 - (intOf i).toNat)
  case atStart => exact ⟨0, Nat.zero_le _, by rw [h0.out]; simp, rfl, Below.refl _ _⟩
  case round =>
    obtain ⟨k, hk, rfl, rfl, hbw⟩ := hrel
    have p1 := HP.out k (by omega)
    have p2 := HL.out k (by omega)
    have p3 := Lib.hid (HS.out k)
    by_cases hlt : k < M
    · have hlt' : (k : Int) < (M : Int) := by omega
      have HK := HM k (by omega) _ rfl
      clear HM
      generalize longI y k = L at *
      obtain ⟨z, hz⟩ : ∃ z, md k = z := ⟨_, rfl⟩
      rw [hz] at p1
      rw [hz]
      have p4 := Lib.hid (p3.out.trans (by rw [hz]))
      clear hz p3
      go_wp2_with (go_at_call 47; (with_reducible refine (HK _).mono ?_); rintro e w2 ⟨rfl, hx⟩)
      go_roundw
      case rel => exact ⟨k + 1, by omega, by rw [p4.out]; congr 1; omega, by go_num, hbw.trans (hx.mono hbw.size)⟩
      case measure => simp [intOf]; omega
    · obtain rfl : k = M := by omega
      clear HM p2 p3
      have e : Hid (R = s - 719162 + md k + d - 1) := HD.out
      generalize md k = z at *
      go_wp2
      go_ret
      exact ⟨by rw [e.out]; rfl, hbw⟩
end Go.Proofs.YtjcilpedpimdcaaDoor

/- Contracts of layer 7: tokens. -/
namespace Go.Proofs.YtjcilpedpimdcaaDoor
open Go.RowKit
set_option linter.unusedVariables false

theorem fi_lt {l : List UInt8} {p : UInt8 → Bool} {k : Nat} (h : k < l.findIdx p) : p (l.getD k 0) = false := by
  have hk : k < l.length := Nat.lt_of_lt_of_le h List.findIdx_le_length
  have := List.not_of_lt_findIdx h
  simpa [List.getD, hk] using this
theorem fi_at {l : List UInt8} {p : UInt8 → Bool} (h : l.findIdx p < l.length) : p (l.getD (l.findIdx p) 0) = true := by
  have := List.findIdx_getElem (w := h)
  simpa [List.getD, h] using this
theorem getD_dropD (l : List UInt8) (F j : Nat) : (l.drop F).getD j 0 = l.getD (F + j) 0 := by
  simp [List.getD]

theorem nextC (l : List UInt8) (n : Nat) (w : World) (hl : l.length = n) (hm : n ≤ maxLen) :
    Calls Tryd.prog 53 #[.string (str l)] w fun e w' => e = .returned (.tuple #[.string (str (wordD l)), .string (str (restD l))]) ∧ ∃ q, w' = w.drewN q := by
  have hsz : (str l).size = n := by rw [str_size, hl]
  obtain ⟨A, hA⟩ : ∃ A, l.findIdx (fun x => !delim x) = A := ⟨_, rfl⟩
  obtain ⟨F, hF⟩ : ∃ F, (l.drop A).findIdx delim = F := ⟨_, rfl⟩
  have hAn : A ≤ n := by rw [← hA, ← hl]; exact List.findIdx_le_length
  have hFn : A + F ≤ n := by
    have : F ≤ (l.drop A).length := by rw [← hF]; exact List.findIdx_le_length
    rw [List.length_drop] at this
    omega
  have hx1 : (str l).extract A (A + F) = str (wordD l) := by
    rw [str_extract]
    unfold wordD skipD
    rw [hA, hF, Nat.add_sub_cancel_left]
  have hx2 : (str l).extract (A + F) n = str (restD l) := by
    rw [str_extract]
    unfold restD skipD
    rw [hA, hF, List.drop_drop, List.take_of_length_le (by rw [List.length_drop]; omega)]
  have h1 : Hid (∀ k, k < A → delim (l.getD k 0) = true) := by
    intro k hk
    have := fi_lt (l := l) (p := fun x => !delim x) (k := k) (by rw [hA]; exact hk)
    simpa using this
  have h2 : Hid (A < n → delim (l.getD A 0) = false) := by
    intro h
    have := fi_at (l := l) (p := fun x => !delim x) (by rw [hA, hl]; exact h)
    rw [hA] at this
    simpa using this
  have h3 : Hid (∀ k, k < F → delim (l.getD (A + k) 0) = false) := by
    intro k hk
    have := fi_lt (l := l.drop A) (p := delim) (k := k) (by rw [hF]; exact hk)
    rw [getD_dropD] at this
    exact this
  have h4 : Hid (A + F < n → delim (l.getD (A + F) 0) = true) := by
    intro h
    have := fi_at (l := l.drop A) (p := delim) (by rw [hF, List.length_drop]; omega)
    rw [hF, getD_dropD] at this
    exact this
  have HL := Lib.hid hl
  clear hA hF hl
  generalize wordD l = W at *
  generalize restD l = R at *
  unfold maxLen at hm
  go_enter Tryd.func53, Tryd.ntmps53
  go_wp2
  go_loopw [4] (fun i wr => ∃ k : Nat, k ≤ A ∧ i = .int .i64 (k : Int) ∧ w = wr) (fun i _ => A - (intOf i).toNat)
  case atStart => exact ⟨0, Nat.zero_le _, rfl, rfl⟩
  case round =>
    obtain ⟨k, hk, rfl, rfl⟩ := hrel
    rcases (show k < A ∨ (k = A ∧ A < n) ∨ (k = A ∧ A = n) by omega) with hlt | hlt | hlt
    · have hi := run_index_str (P := Tryd.prog) w 9 l .i64 k Tryd.underlying9 (by rw [HL.out]; omega)
      have hkn : (k : Int) < (n : Int) := by omega
      have HD := delimC (l.getD k 0) w
      rw [h1.out k hlt] at HD
      generalize (l.getD k 0).toNat = x at *
      clear hx1 hx2
      go_wp2_with (go_at_call 63; (with_reducible refine HD.mono ?_); rintro e w2 ⟨rfl, rfl⟩)
      go_roundw
      case rel => exact ⟨k + 1, by omega, by go_num, by first | rfl | trivial⟩
      case measure => simp [intOf]; omega
    · obtain ⟨rfl, hkl⟩ := hlt
      have hi := run_index_str (P := Tryd.prog) w 9 l .i64 k Tryd.underlying9 (by rw [HL.out]; omega)
      have hkn : (k : Int) < (n : Int) := by omega
      have HD := delimC (l.getD k 0) w
      rw [h2.out hkl] at HD
      generalize (l.getD k 0).toNat = x at *
      go_wp2_with (go_at_call 63; (with_reducible refine HD.mono ?_); rintro e w2 ⟨rfl, rfl⟩)
      go_loopw [5] (fun i wr => ∃ j : Nat, j ≤ F ∧ i = .int .i64 ((k + j : Nat) : Int) ∧ w = wr) (fun i _ => k + F - (intOf i).toNat)
      case atStart => exact ⟨0, Nat.zero_le _, rfl, rfl⟩
      case round =>
        obtain ⟨j, hj, rfl, rfl⟩ := hrel
        clear hi HD
        rcases (show j < F ∨ (j = F ∧ k + F < n) ∨ (j = F ∧ k + F = n) by omega) with hlt | hlt | hlt
        · have hi := run_index_str (P := Tryd.prog) w 9 l .i64 (k + j) Tryd.underlying9 (by rw [HL.out]; omega)
          have HD := delimC (l.getD (k + j) 0) w
          rw [h3.out j hlt] at HD
          generalize (l.getD (k + j) 0).toNat = x at *
          have hkf : k + j < k + F := by omega
          obtain ⟨J, hJ⟩ : ∃ J, k + j = J := ⟨_, rfl⟩
          rw [hJ] at hi hkf ⊢
          have hkn : (J : Int) < (n : Int) := by omega
          have HJ := Lib.hid hJ
          clear hx1 hx2 hJ
          go_wp2_with (go_at_call 63; (with_reducible refine HD.mono ?_); rintro e w2 ⟨rfl, rfl⟩)
          go_roundw
          case rel => exact ⟨j + 1, by omega, by have := HJ.out; subst this; congr 1 <;> (push_cast; omega), by first | rfl | trivial⟩
          case measure => simp [intOf]; omega
        · obtain ⟨rfl, hkl⟩ := hlt
          have hi := run_index_str (P := Tryd.prog) w 9 l .i64 (k + j) Tryd.underlying9 (by rw [HL.out]; omega)
          have HD := delimC (l.getD (k + j) 0) w
          rw [h4.out hkl] at HD
          generalize (l.getD (k + j) 0).toNat = x at *
          have hkf : k ≤ k + j := by omega
          clear h1 h2 h3 h4
          generalize k + j = J at *
          have hkn : (J : Int) < (n : Int) := by omega
          have hkn2 : (k : Int) ≤ (J : Int) := by omega
          go_wp2_with (go_at_call 63; (with_reducible refine HD.mono ?_); rintro e w2 ⟨rfl, rfl⟩)
          go_quiet (fail)
          go_wp2
          go_ret2
          exact ⟨rfl, _, rfl⟩
        · obtain ⟨rfl, hkl⟩ := hlt
          have hkf : k ≤ k + j := by omega
          clear h1 h2 h3 h4
          generalize k + j = J at *
          obtain rfl : J = n := hkl
          have hkn2 : (k : Int) ≤ (J : Int) := by omega
          have hR : str R = ByteArray.empty := by rw [← hx2]; simp
          go_wp2
          go_quiet (fail)
          go_wp2
          go_ret2
          exact ⟨by rw [hR]; rfl, _, rfl⟩
    · obtain ⟨rfl, rfl⟩ := hlt
      obtain rfl : F = 0 := by omega
      rw [Nat.add_zero] at hx1 hx2
      clear h1 h2 h3 h4
      go_wp2
      go_loopw [5] (fun i wr => i = .int .i64 (k : Int) ∧ w = wr) (fun i _ => 0)
      case atStart => exact ⟨rfl, rfl⟩
      case round =>
        obtain ⟨rfl, rfl⟩ := hrel
        have hR : str R = ByteArray.empty := by rw [← hx2]; simp
        have hW : str W = ByteArray.empty := by rw [← hx1]; simp
        go_wp2
        go_quiet (fail)
        go_wp2
        go_ret2
        exact ⟨by rw [hR, hW]; rfl, _, rfl⟩
end Go.Proofs.YtjcilpedpimdcaaDoor

/- Contracts of layer 7: the digits that a token begins with, and what is behind them. -/
namespace Go.Proofs.YtjcilpedpimdcaaDoor
open Go.RowKit
set_option linter.unusedVariables false

theorem leadC (l : List UInt8) (n : Nat) (w : World) (hl : l.length = n) (hm : n ≤ maxLen) :
    Calls Tryd.prog 43 #[.string (str l)] w fun e w' => e = .returned (.int .i64 (lead l : Int)) ∧ w = w' := digitsC l n w hl hm

def LeadIs (v : Int) (l : List UInt8) (b : Bool) (w : World) (e : Ending) (w' : World) : Prop :=
  e = .returned (.tuple #[.int .i64 v, .string (str l), .bool b]) ∧ ∃ q, w' = w.drewN q

theorem leadingYes (l : List UInt8) (n : Nat) (a b : Int) (w : World) (hl : l.length = n) (hm : n ≤ maxLen) (ha : 1 ≤ a) (hb : b ≤ 9) (h1 : a ≤ (lead l : Int)) (h2 : (lead l : Int) ≤ b) :
    Calls Tryd.prog 60 #[.string (str l), .int .i64 a, .int .i64 b] w (LeadIs (valL l) (l.drop (lead l)) true w) := by
  have hsz : (str l).size = n := by rw [str_size, hl]
  have hle := lead_le l
  rw [hl] at hle
  have HD := leadC l n w hl hm
  have HN := numberC (l.take (lead l)) (lead l) w (by simp; omega) (by omega)
  rw [num_lead l (by omega)] at HN
  have hx1 : (str l).extract 0 (lead l) = str (l.take (lead l)) := by rw [str_extract]; simp
  have hx2 : (str l).extract (lead l) n = str (l.drop (lead l)) := by rw [str_extract, List.take_of_length_le (by rw [List.length_drop, hl]; omega)]
  unfold LeadIs
  have hv := valL_le l
  generalize valL l = v at *
  generalize lead l = d at *
  generalize l.take d = t at *
  generalize l.drop d = r at *
  clear hl
  unfold maxLen at hm
  have hdn : (d : Int) ≤ (n : Int) := by omega
  go_enter Tryd.func60, Tryd.ntmps60
  go_wp2_with (first
    | (go_at_call 43; (with_reducible refine HD.mono ?_); rintro e w2 ⟨rfl, rfl⟩)
    | (go_at_call 21; (with_reducible refine HN.mono ?_); rintro e w2 ⟨rfl, rfl⟩))
  go_quiet (fail)
  go_wp2
  go_ret3
  exact ⟨rfl, _, rfl⟩

theorem leadingNo (l : List UInt8) (n : Nat) (a b : Int) (w : World) (hl : l.length = n) (hm : n ≤ maxLen) (h : (lead l : Int) < a ∨ b < (lead l : Int)) :
    Calls Tryd.prog 60 #[.string (str l), .int .i64 a, .int .i64 b] w (LeadIs 0 [] false w) := by
  have HD := leadC l n w hl hm
  unfold LeadIs
  generalize lead l = d at *
  by_cases h1 : (d : Int) < a
  · clear h
    go_enter Tryd.func60, Tryd.ntmps60
    go_wp2_with (go_at_call 43; (with_reducible refine HD.mono ?_); rintro e w2 ⟨rfl, rfl⟩)
    go_ret3
    exact ⟨rfl, 0, rfl⟩
  · have h2 : b < (d : Int) := by omega
    clear h
    go_enter Tryd.func60, Tryd.ntmps60
    go_wp2_with (go_at_call 43; (with_reducible refine HD.mono ?_); rintro e w2 ⟨rfl, rfl⟩)
    go_ret3
    exact ⟨rfl, 0, rfl⟩

/-- Both. -/
def leadOf (a b : Nat) (l : List UInt8) : Nat × List UInt8 × Bool := if dig a b l = true then (valL l, l.drop (lead l), true) else (0, [], false)
theorem leadingC (l : List UInt8) (n : Nat) (a b : Nat) (a' b' : Int) (w : World) (hl : l.length = n) (hm : n ≤ maxLen) (ha : 1 ≤ a) (hb : b ≤ 9) (ha' : a' = (a : Int)) (hb' : b' = (b : Int)) :
    Calls Tryd.prog 60 #[.string (str l), .int .i64 a', .int .i64 b'] w (LeadIs ((leadOf a b l).1 : Int) (leadOf a b l).2.1 (leadOf a b l).2.2 w) := by
  subst ha' hb'
  unfold leadOf
  cases c : dig a b l with
  | true =>
    simp only [dig, Bool.and_eq_true, decide_eq_true_iff] at c
    exact leadingYes l n a b w hl hm (by omega) (by omega) (by omega) (by omega)
  | false =>
    simp only [dig, Bool.and_eq_false_iff, decide_eq_false_iff_not] at c
    exact leadingNo l n a b w hl hm (by omega)
theorem leadOf_le (a b : Nat) (l : List UInt8) : (leadOf a b l).2.1.length ≤ l.length := by
  unfold leadOf
  split
  · simp
  · simp

theorem behindColonC (l : List UInt8) (w : World) :
    Calls Tryd.prog 61 #[.string (str l)] w fun e w' => e = .returned (.string (str (colon l))) ∧ w = w' := by
  have HC := Tryd.strings_CutPrefix (str l) ⟨#[58]⟩ w
  rw [str_data] at HC
  have hd : ({ data := #[58] } : ByteArray).data.toList = [58] := rfl
  rw [hd] at HC
  unfold colon
  cases c : Lib.hasPrefix l [58] with
  | true =>
    rw [c] at HC
    simp only [if_true]
    generalize Lib.trimPrefix l [58] = t at *
    clear c hd
    go_enter Tryd.func61, Tryd.ntmps61
    go_wp2_with (go_at_call 42; (with_reducible refine HC.mono ?_); rintro e w2 ⟨rfl, rfl⟩)
    go_ret
    exact ⟨rfl, rfl⟩
  | false =>
    rw [c] at HC
    generalize Lib.trimPrefix l [58] = t at *
    clear c hd
    go_enter Tryd.func61, Tryd.ntmps61
    go_wp2_with (go_at_call 42; (with_reducible refine HC.mono ?_); rintro e w2 ⟨rfl, rfl⟩)
    go_ret
    exact ⟨rfl, rfl⟩
end Go.Proofs.YtjcilpedpimdcaaDoor

/- What a method changes: its object's block, the row that it grows, what it makes anew, and nothing else; strings as bytes. No program in it. -/
namespace Go.Proofs.YtjcilpedpimdcaaDoor
open Go.RowKit
set_option linter.unusedVariables false

/-- But for block p and the row that a lies in, all that was there is as it was. -/
structure Kept (p : Nat) (a : Option Addr) (w w' : World) : Prop where
  os : w'.os = w.os
  tape : w'.tape = w.tape
  output : w'.output = w.output
  size : w.heap.size ≤ w'.heap.size
  block : ∀ k, k < w.heap.size → k ≠ p → Apart a k → w'.heap[k]? = w.heap[k]?

/-- A row that stayed, or that lies in new memory. -/
def Near (a a' : Option Addr) (w : World) : Prop := ∀ k, k < w.heap.size → Apart a k → Apart a' k

theorem Near.refl (a : Option Addr) (w : World) : Near a a w := fun k hk h => h
theorem Near.of {a a' : Option Addr} {w : World} (h : a' = a ∨ ∃ g, a' = some ⟨g, 0, none⟩ ∧ w.heap.size ≤ g) : Near a a' w := fun k hk ha => by
  rcases h with rfl | ⟨g, rfl, hg⟩
  · exact ha
  · intro x hx
    cases hx
    show g ≠ k
    omega
theorem Near.trans {a a1 a2 : Option Addr} {w w1 : World} (h : Near a a1 w) (h1 : Near a1 a2 w1) (hs : w.heap.size ≤ w1.heap.size) : Near a a2 w := fun k hk ha => h1 k (Nat.lt_of_lt_of_le hk hs) (h k hk ha)
theorem Near.early {a a1 : Option Addr} {w w1 : World} (h : Near a a1 w1) (hs : w.heap.size ≤ w1.heap.size) : Near a a1 w := fun k hk ha => h k (Nat.lt_of_lt_of_le hk hs) ha

theorem Kept.refl (p : Nat) (a : Option Addr) (w : World) : Kept p a w w := ⟨rfl, rfl, rfl, Nat.le_refl _, fun _ _ _ _ => rfl⟩
theorem Kept.of {p : Nat} {a : Option Addr} {w w' : World} (h : Below w.heap.size w w') : Kept p a w w' := ⟨h.os, h.tape, h.output, h.size, fun k hk _ _ => h.block k hk⟩
theorem Kept.trans {p : Nat} {a a1 : Option Addr} {w w1 w2 : World} (h : Kept p a w w1) (hn : Near a a1 w) (h1 : Kept p a1 w1 w2) : Kept p a w w2 :=
  ⟨h1.os.trans h.os, h1.tape.trans h.tape, h1.output.trans h.output, Nat.le_trans h.size h1.size, fun k hk hp ha => (h1.block k (Nat.lt_of_lt_of_le hk h.size) hp (hn k hk ha)).trans (h.block k hk hp ha)⟩
theorem Kept.cell {p : Nat} {a : Option Addr} {w w' : World} (h : Kept p a w w') {x : Addr} {v : Value} (hc : w.cell? x = some v) (hp : x.block ≠ p) (ha : Apart a x.block) : w'.cell? x = some v :=
  (World.cell?_of_block (h.block x.block (cell_lt hc) hp ha)).trans hc
theorem Kept.frozen {p : Nat} {a : Option Addr} {w w' : World} (h : Kept p a w w') {x : Addr} (hx : x.block < w.heap.size) (hp : x.block ≠ p) (ha : Apart a x.block) : w'.frozen? x = w.frozen? x :=
  World.frozen?_of_block (h.block x.block hx hp ha)
theorem Kept.below {base p : Nat} {a : Option Addr} {w w' : World} (h : Kept p a w w') (hp : base ≤ p) (ha : ∀ x, a = some x → base ≤ x.block) (hs : base ≤ w.heap.size) : Below base w w' :=
  ⟨h.os, h.tape, h.output, h.size, fun k hk => h.block k (by omega) (by omega) (fun x hx => by have := ha x hx; omega)⟩
theorem Kept.setCell {p : Nat} {a : Option Addr} {w w' : World} (h : Kept p a w w') (i : Nat) (u : Value) : Kept p a w (w'.setCell ⟨p, i, none⟩ u) :=
  ⟨h.os, h.tape, h.output, by simpa using h.size, fun k hk hp ha => (Below.heap_setCell w' ⟨p, i, none⟩ u k hp).trans (h.block k hk hp ha)⟩
theorem Kept.grown {p base : Nat} {a : Option Addr} {w w' : World} (hb : Below base w w') (hg : GrownBut w w' a) : Kept p a w w' := ⟨hb.os, hb.tape, hb.output, hg.1, fun k hk _ ha => hg.2 k hk ha⟩

/-- The slice q lies neither in block p nor in a's row. -/
def Away (q : Option Addr) (p : Nat) (a : Option Addr) : Prop := ∀ x, q = some x → x.block ≠ p ∧ Apart a x.block

theorem Reads.kept {p : Nat} {a q : Option Addr} {w w' : World} {xs : List Value} (h : Reads w q xs) (hk : Kept p a w w') (ha : Away q p a) : Reads w' q xs := fun i v hv => by
  obtain ⟨b, off, hb, hc⟩ := h i v hv
  exact ⟨b, off, hb, hk.cell hc (ha _ hb).1 (ha _ hb).2⟩
theorem Owned.kept {base p : Nat} {e : TypeId} {a q : Option Addr} {n c : Nat} {xs : List Value} {w w' : World} (h : Owned base e q n c xs w) (hk : Kept p a w w') (ha : Away q p a) : Owned base e q n c xs w' := by
  refine ⟨⟨h.1.1, ?_⟩, h.2.1.kept hk ha, h.2.2⟩
  rcases h.1.2 with h2 | ⟨g, cap, cur, hv, hb, hg, d⟩
  · exact .inl h2
  · refine .inr ⟨g, cap, cur, hv, hb, ?_, d⟩
    have hlt : g < w.heap.size := by
      rcases Nat.lt_or_ge g w.heap.size with h | h
      · exact h
      · rw [Array.getElem?_eq_none h] at hg; cases hg
    cases hv
    rw [hk.block g hlt (ha _ rfl).1 (ha _ rfl).2]
    exact hg
theorem Owned.le {base : Nat} {e : TypeId} {a : Option Addr} {n c : Nat} {xs : List Value} {w : World} (h : Owned base e a n c xs w) : n ≤ c := h.2.2.2.1
theorem Owned.capm {base : Nat} {e : TypeId} {a : Option Addr} {n c : Nat} {xs : List Value} {w : World} (h : Owned base e a n c xs w) : c ≤ maxLen := h.2.2.2.2.1
theorem Owned.lt' {base : Nat} {e : TypeId} {a : Option Addr} {n c : Nat} {xs : List Value} {w : World} (h : Owned base e a n c xs w) (x : Addr) (hx : a = some x) : base ≤ x.block ∧ x.block < w.heap.size := by
  subst hx
  exact h.1.lt _ rfl

/-- An object at block p whose field is a slice of the call's own, of the bytes l. -/
def Wr (e : TypeId) (base p : Nat) (a : Option Addr) (l : List Int) (w : World) : Prop :=
  ∃ n c, base ≤ p ∧ p < w.heap.size ∧ w.cell? ⟨p, 0, none⟩ = some (.slice a n c) ∧ w.frozen? ⟨p, 0, none⟩ = false ∧ l.length = n ∧ Owned base e a n c (l.map (Value.int .u8)) w ∧ Apart a p
theorem Wr.below {e : TypeId} {base p : Nat} {a : Option Addr} {l : List Int} {w w' : World} (h : Wr e base p a l w) (hb : Below w.heap.size w w') : Wr e base p a l w' := by
  obtain ⟨n, c, h1, h2, h3, h4, h5, h6, h7⟩ := h
  exact ⟨n, c, h1, Nat.lt_of_lt_of_le h2 hb.size, (hb.cell (p := ⟨p, 0, none⟩) h2).trans h3, (hb.frozen (p := ⟨p, 0, none⟩) h2).trans h4, h5, h6.below hb (Nat.le_refl _), h7⟩
theorem Wr.lt {e : TypeId} {base p : Nat} {a : Option Addr} {l : List Int} {w : World} (h : Wr e base p a l w) : base ≤ p ∧ p < w.heap.size := ⟨h.choose_spec.choose_spec.1, h.choose_spec.choose_spec.2.1⟩
theorem Wr.row {e : TypeId} {base p : Nat} {a : Option Addr} {l : List Int} {w : World} (h : Wr e base p a l w) (x : Addr) (hx : a = some x) : base ≤ x.block ∧ x.block < w.heap.size ∧ x.block ≠ p := by
  obtain ⟨n, c, h1, h2, h3, h4, h5, h6, h7⟩ := h
  exact ⟨(h6.lt' x hx).1, (h6.lt' x hx).2, h7 x hx⟩
/-- Another row grew. -/
theorem Wr.kept {e : TypeId} {base p p' : Nat} {a q : Option Addr} {l : List Int} {w w' : World} (h : Wr e base p a l w) (hk : Kept p' q w w') (hp : p ≠ p') (hq : Apart q p) (ha : Away a p' q) : Wr e base p a l w' := by
  obtain ⟨n, c, h1, h2, h3, h4, h5, h6, h7⟩ := h
  exact ⟨n, c, h1, Nat.lt_of_lt_of_le h2 hk.size, hk.cell h3 hp hq, (hk.frozen (x := ⟨p, 0, none⟩) h2 hp hq).trans h4, h5, h6.kept hk ha, h7⟩

/-- A method of the object answers the object itself, behind which l lies. -/
def WrGives (e : TypeId) (base p : Nat) (a : Option Addr) (l : List Int) (w : World) (en : Ending) (w' : World) : Prop :=
  en = .returned (.pointer (some ⟨p, 0, none⟩)) ∧ ∃ a', Wr e base p a' l w' ∧ Kept p a w w' ∧ Near a a' w
theorem WrGives.early {e : TypeId} {base p : Nat} {a : Option Addr} {l : List Int} {w w1 w2 : World} {en : Ending} (h : WrGives e base p a l w1 en w2) (hb : Below w.heap.size w w1) : WrGives e base p a l w en w2 := by
  obtain ⟨rfl, a', h1, h2, h3⟩ := h
  exact ⟨rfl, a', h1, (Kept.of hb).trans (Near.refl _ _) h2, h3.early hb.size⟩
theorem WrGives.later {e : TypeId} {base p : Nat} {a a1 : Option Addr} {l : List Int} {w w1 w2 : World} {en : Ending} (h : WrGives e base p a1 l w1 en w2) (hk : Kept p a w w1) (hn : Near a a1 w) : WrGives e base p a l w en w2 := by
  obtain ⟨rfl, a', h1, h2, h3⟩ := h
  exact ⟨rfl, a', h1, hk.trans hn h2, hn.trans h3 hk.size⟩

/-- A string's bytes. -/
def strBytes (s : ByteArray) : List Int := s.data.toList.map fun b => (b.toNat : Int)
theorem strBytes_len (s : ByteArray) : (strBytes s).length = s.size := by simp [strBytes]
theorem strBytes_bytes (s : ByteArray) : IsBytes (strBytes s) := fun x hx => by
  simp only [strBytes, List.mem_map] at hx
  obtain ⟨b, -, rfl⟩ := hx
  have := b.toNat_lt
  omega
theorem bytesWorld_below (w : World) (e : TypeId) (s : ByteArray) : Below w.heap.size w (Lib.bytesWorld w e s) :=
  ⟨rfl, rfl, rfl, by rw [Lib.bytesWorld_size]; omega, fun k hk => Lib.bytesWorld_at_old w e s k hk⟩
theorem bytesWorld_reads (w : World) (e : TypeId) (s : ByteArray) : Reads (Lib.bytesWorld w e s) (some ⟨w.heap.size, 0, none⟩) ((strBytes s).map (Value.int .u8)) := fun i v hv => by
  have hi : i < s.size := by
    have := (List.getElem?_eq_some_iff.1 hv).1
    simpa [strBytes] using this
  refine ⟨w.heap.size, 0, rfl, ?_⟩
  rw [Nat.zero_add, Lib.bytesWorld_cell w e s i hi, ← hv]
  have hi' : i < s.data.toList.length := by simpa using hi
  simp [strBytes, List.getD, List.getElem?_eq_getElem hi']

/-- 'string(b)' where b's bytes are a string's. -/
theorem run_string_of {P : Program} (w : World) (src dst e : TypeId) (a : Option Addr) (n c : Nat) (s : ByteArray) (hs : P.underlying src = some (.slice e)) (he : P.underlying e = some (.int .u8)) (hd : P.underlying dst = some .string)
    (ha : Reads w a ((strBytes s).map (Value.int .u8))) (hn : s.size = n) (hh : ∃ x, a = some x) : (convert src dst (.slice a n c)).run P w = .ok (.string s) w := by
  obtain ⟨x, rfl⟩ := hh
  have h := run_convert_bytes_back (P := P) w src dst e x c s.data.toList hs he hd (fun j hj => by
    have hv : ((strBytes s).map (Value.int .u8))[j]? = some (.int .u8 (s.data.toList[j].toNat : Int)) := by simp [strBytes, List.getElem?_eq_getElem hj]
    obtain ⟨b, off, hb, hc⟩ := ha j _ hv
    cases hb
    have hA : (⟨b, off, none⟩ : Addr).add j = ⟨b, off + j, none⟩ := by
      by_cases h0 : j = 0
      · subst h0; simp [Addr.add]
      · simp [Addr.add, h0]
    rw [hA]
    exact hc)
  have hl : s.data.toList.length = n := by simpa using hn
  rw [hl] at h
  simpa using h
end Go.Proofs.YtjcilpedpimdcaaDoor

/- Contracts of layer 7: is a token a time, a day, a month, a year, and where it is put. -/
namespace Go.Proofs.YtjcilpedpimdcaaDoor
open Go.RowKit
set_option linter.unusedVariables false

/-- The numbers of a date lie in block B. -/
structure PAt (B : Nat) (y m d h mi se : Int) (w : World) : Prop where
  c0 : w.cell? ⟨B, 0, none⟩ = some (.int .i64 y)
  c1 : w.cell? ⟨B, 1, none⟩ = some (.int .i64 m)
  c2 : w.cell? ⟨B, 2, none⟩ = some (.int .i64 d)
  c3 : w.cell? ⟨B, 3, none⟩ = some (.int .i64 h)
  c4 : w.cell? ⟨B, 4, none⟩ = some (.int .i64 mi)
  c5 : w.cell? ⟨B, 5, none⟩ = some (.int .i64 se)
  f : ∀ i, i < 6 → w.frozen? ⟨B, i, none⟩ = false

theorem PAt.lt {B : Nat} {y m d h mi se : Int} {w : World} (p : PAt B y m d h mi se w) : B < w.heap.size := cell_lt (x := ⟨B, 0, none⟩) p.c0
theorem PAt.same {B : Nat} {y m d h mi se : Int} {w w' : World} (p : PAt B y m d h mi se w) (hb : w'.heap[B]? = w.heap[B]?) : PAt B y m d h mi se w' := by
  have hc : ∀ i, w'.cell? ⟨B, i, none⟩ = w.cell? ⟨B, i, none⟩ := fun i => World.cell?_of_block hb
  have hf : ∀ i, w'.frozen? ⟨B, i, none⟩ = w.frozen? ⟨B, i, none⟩ := fun i => World.frozen?_of_block hb
  exact ⟨by rw [hc]; exact p.c0, by rw [hc]; exact p.c1, by rw [hc]; exact p.c2, by rw [hc]; exact p.c3, by rw [hc]; exact p.c4, by rw [hc]; exact p.c5, fun i hi => by rw [hf]; exact p.f i hi⟩
theorem PAt.below {B : Nat} {y m d h mi se : Int} {w w' : World} (p : PAt B y m d h mi se w) (hb : Below w.heap.size w w') : PAt B y m d h mi se w' := p.same (hb.block B p.lt)
theorem PAt.kept {B C : Nat} {y m d h mi se : Int} {w w' : World} (p : PAt B y m d h mi se w) (hk : Kept C none w w') (hBC : B ≠ C) : PAt B y m d h mi se w' := p.same (hk.block B p.lt hBC (Apart.none B))

def MatchIs (b : Bool) (B : Nat) (y m d h mi se : Int) (w : World) (e : Ending) (w' : World) : Prop :=
  e = .returned (.bool b) ∧ PAt B y m d h mi se w' ∧ Kept B none w w'

theorem below_drew (w : World) (q : Nat) : Below w.heap.size w (w.drewN q) := below_drewN (Below.refl _ _) q
theorem kept_set {B : Nat} {w w' : World} (h : Below w.heap.size w w') (i : Nat) (v : Value) : Kept B none w (w'.setCell ⟨B, i, none⟩ v) := (Kept.of h).setCell i v

theorem PAt.set0 {B : Nat} {y m d h mi se : Int} {w : World} (p : PAt B y m d h mi se w) (v : Int) : PAt B v m d h mi se (w.setCell ⟨B, 0, none⟩ (.int .i64 v)) :=
  ⟨World.cell?_setCell_same w _ _ p.c0, (World.cell?_setCell_other w _ _ _ (show (⟨B, 0, none⟩ : Addr) ≠ ⟨B, 1, none⟩ by simp)).trans p.c1, (World.cell?_setCell_other w _ _ _ (show (⟨B, 0, none⟩ : Addr) ≠ ⟨B, 2, none⟩ by simp)).trans p.c2, (World.cell?_setCell_other w _ _ _ (show (⟨B, 0, none⟩ : Addr) ≠ ⟨B, 3, none⟩ by simp)).trans p.c3, (World.cell?_setCell_other w _ _ _ (show (⟨B, 0, none⟩ : Addr) ≠ ⟨B, 4, none⟩ by simp)).trans p.c4, (World.cell?_setCell_other w _ _ _ (show (⟨B, 0, none⟩ : Addr) ≠ ⟨B, 5, none⟩ by simp)).trans p.c5, fun i hi => by rw [World.frozen?_setCell]; exact p.f i hi⟩
theorem PAt.set1 {B : Nat} {y m d h mi se : Int} {w : World} (p : PAt B y m d h mi se w) (v : Int) : PAt B y v d h mi se (w.setCell ⟨B, 1, none⟩ (.int .i64 v)) :=
  ⟨(World.cell?_setCell_other w _ _ _ (show (⟨B, 1, none⟩ : Addr) ≠ ⟨B, 0, none⟩ by simp)).trans p.c0, World.cell?_setCell_same w _ _ p.c1, (World.cell?_setCell_other w _ _ _ (show (⟨B, 1, none⟩ : Addr) ≠ ⟨B, 2, none⟩ by simp)).trans p.c2, (World.cell?_setCell_other w _ _ _ (show (⟨B, 1, none⟩ : Addr) ≠ ⟨B, 3, none⟩ by simp)).trans p.c3, (World.cell?_setCell_other w _ _ _ (show (⟨B, 1, none⟩ : Addr) ≠ ⟨B, 4, none⟩ by simp)).trans p.c4, (World.cell?_setCell_other w _ _ _ (show (⟨B, 1, none⟩ : Addr) ≠ ⟨B, 5, none⟩ by simp)).trans p.c5, fun i hi => by rw [World.frozen?_setCell]; exact p.f i hi⟩
theorem PAt.set2 {B : Nat} {y m d h mi se : Int} {w : World} (p : PAt B y m d h mi se w) (v : Int) : PAt B y m v h mi se (w.setCell ⟨B, 2, none⟩ (.int .i64 v)) :=
  ⟨(World.cell?_setCell_other w _ _ _ (show (⟨B, 2, none⟩ : Addr) ≠ ⟨B, 0, none⟩ by simp)).trans p.c0, (World.cell?_setCell_other w _ _ _ (show (⟨B, 2, none⟩ : Addr) ≠ ⟨B, 1, none⟩ by simp)).trans p.c1, World.cell?_setCell_same w _ _ p.c2, (World.cell?_setCell_other w _ _ _ (show (⟨B, 2, none⟩ : Addr) ≠ ⟨B, 3, none⟩ by simp)).trans p.c3, (World.cell?_setCell_other w _ _ _ (show (⟨B, 2, none⟩ : Addr) ≠ ⟨B, 4, none⟩ by simp)).trans p.c4, (World.cell?_setCell_other w _ _ _ (show (⟨B, 2, none⟩ : Addr) ≠ ⟨B, 5, none⟩ by simp)).trans p.c5, fun i hi => by rw [World.frozen?_setCell]; exact p.f i hi⟩
theorem PAt.set3 {B : Nat} {y m d h mi se : Int} {w : World} (p : PAt B y m d h mi se w) (v : Int) : PAt B y m d v mi se (w.setCell ⟨B, 3, none⟩ (.int .i64 v)) :=
  ⟨(World.cell?_setCell_other w _ _ _ (show (⟨B, 3, none⟩ : Addr) ≠ ⟨B, 0, none⟩ by simp)).trans p.c0, (World.cell?_setCell_other w _ _ _ (show (⟨B, 3, none⟩ : Addr) ≠ ⟨B, 1, none⟩ by simp)).trans p.c1, (World.cell?_setCell_other w _ _ _ (show (⟨B, 3, none⟩ : Addr) ≠ ⟨B, 2, none⟩ by simp)).trans p.c2, World.cell?_setCell_same w _ _ p.c3, (World.cell?_setCell_other w _ _ _ (show (⟨B, 3, none⟩ : Addr) ≠ ⟨B, 4, none⟩ by simp)).trans p.c4, (World.cell?_setCell_other w _ _ _ (show (⟨B, 3, none⟩ : Addr) ≠ ⟨B, 5, none⟩ by simp)).trans p.c5, fun i hi => by rw [World.frozen?_setCell]; exact p.f i hi⟩
theorem PAt.set4 {B : Nat} {y m d h mi se : Int} {w : World} (p : PAt B y m d h mi se w) (v : Int) : PAt B y m d h v se (w.setCell ⟨B, 4, none⟩ (.int .i64 v)) :=
  ⟨(World.cell?_setCell_other w _ _ _ (show (⟨B, 4, none⟩ : Addr) ≠ ⟨B, 0, none⟩ by simp)).trans p.c0, (World.cell?_setCell_other w _ _ _ (show (⟨B, 4, none⟩ : Addr) ≠ ⟨B, 1, none⟩ by simp)).trans p.c1, (World.cell?_setCell_other w _ _ _ (show (⟨B, 4, none⟩ : Addr) ≠ ⟨B, 2, none⟩ by simp)).trans p.c2, (World.cell?_setCell_other w _ _ _ (show (⟨B, 4, none⟩ : Addr) ≠ ⟨B, 3, none⟩ by simp)).trans p.c3, World.cell?_setCell_same w _ _ p.c4, (World.cell?_setCell_other w _ _ _ (show (⟨B, 4, none⟩ : Addr) ≠ ⟨B, 5, none⟩ by simp)).trans p.c5, fun i hi => by rw [World.frozen?_setCell]; exact p.f i hi⟩
theorem PAt.set5 {B : Nat} {y m d h mi se : Int} {w : World} (p : PAt B y m d h mi se w) (v : Int) : PAt B y m d h mi v (w.setCell ⟨B, 5, none⟩ (.int .i64 v)) :=
  ⟨(World.cell?_setCell_other w _ _ _ (show (⟨B, 5, none⟩ : Addr) ≠ ⟨B, 0, none⟩ by simp)).trans p.c0, (World.cell?_setCell_other w _ _ _ (show (⟨B, 5, none⟩ : Addr) ≠ ⟨B, 1, none⟩ by simp)).trans p.c1, (World.cell?_setCell_other w _ _ _ (show (⟨B, 5, none⟩ : Addr) ≠ ⟨B, 2, none⟩ by simp)).trans p.c2, (World.cell?_setCell_other w _ _ _ (show (⟨B, 5, none⟩ : Addr) ≠ ⟨B, 3, none⟩ by simp)).trans p.c3, (World.cell?_setCell_other w _ _ _ (show (⟨B, 5, none⟩ : Addr) ≠ ⟨B, 4, none⟩ by simp)).trans p.c4, World.cell?_setCell_same w _ _ p.c5, fun i hi => by rw [World.frozen?_setCell]; exact p.f i hi⟩

theorem isDayC (l : List UInt8) (n B : Nat) (y m d h mi se : Int) (w : World) (hl : l.length = n) (hm : n ≤ maxLen) (hp : PAt B y m d h mi se w) :
    Calls Tryd.prog 50 #[.pointer (some ⟨B, 0, none⟩), .string (str l)] w (MatchIs (dig 1 2 l) B y m (if dig 1 2 l = true then (valL l : Int) else d) h mi se w) := by
  have HL := leadingC l n 1 2 1 2 w hl hm (by omega) (by omega) rfl rfl
  unfold leadOf LeadIs at HL
  have hv := valL_le l
  cases c : dig 1 2 l with
  | true =>
    rw [c] at HL
    simp only [if_true] at HL ⊢
    generalize valL l = v at *
    generalize l.drop (lead l) = r at *
    have c2 := hp.c2
    have f2 := hp.f 2 (by omega)
    have HP := Lib.hid hp
    clear c hp
    go_enter Tryd.func50, Tryd.ntmps50
    go_wp2_with (go_at_call 60; (with_reducible refine HL.mono ?_); rintro e w2 ⟨rfl, q, rfl⟩)
    go_ret
    exact ⟨rfl, (HP.out.below (below_drew w q)).set2 v, kept_set (below_drew w q) _ _⟩
  | false =>
    rw [c] at HL
    simp only [Bool.false_eq_true, if_false] at HL ⊢
    have HP := Lib.hid hp
    clear c hp
    go_enter Tryd.func50, Tryd.ntmps50
    go_wp2_with (go_at_call 60; (with_reducible refine HL.mono ?_); rintro e w2 ⟨rfl, q, rfl⟩)
    go_ret
    exact ⟨rfl, HP.out.below (below_drew w q), Kept.of (below_drew w q)⟩

theorem isYearC (l : List UInt8) (n B : Nat) (y m d h mi se : Int) (w : World) (hl : l.length = n) (hm : n ≤ maxLen) (hp : PAt B y m d h mi se w) :
    Calls Tryd.prog 52 #[.pointer (some ⟨B, 0, none⟩), .string (str l)] w (MatchIs (dig 2 4 l) B (if dig 2 4 l = true then (yearUp (valL l) : Int) else y) m d h mi se w) := by
  have HL := leadingC l n 2 4 2 4 w hl hm (by omega) (by omega) rfl rfl
  unfold leadOf LeadIs at HL
  have hv := valL_le l
  cases c : dig 2 4 l with
  | true =>
    rw [c] at HL
    simp only [if_true] at HL ⊢
    have HU : Hid (yearUp (valL l) = if valL l < 70 then valL l + 2000 else if valL l < 100 then valL l + 1900 else valL l) := rfl
    generalize yearUp (valL l) = u at *
    generalize valL l = v at *
    generalize l.drop (lead l) = r at *
    have c0 := hp.c0
    have f0 := hp.f 0 (by omega)
    have HP := Lib.hid hp
    clear c hp
    rcases (show v < 70 ∨ (70 ≤ v ∧ v < 100) ∨ 100 ≤ v by omega) with h1 | h1 | h1
    · have e : Hid (u = v + 2000) := by unfold Hid; rw [HU.out, if_pos h1]
      clear HU
      go_enter Tryd.func52, Tryd.ntmps52
      go_wp2_with (go_at_call 60; (with_reducible refine HL.mono ?_); rintro e w2 ⟨rfl, q, rfl⟩)
      go_ret
      rw [e.out]
      exact ⟨rfl, (HP.out.below (below_drew w q)).set0 _, kept_set (below_drew w q) _ _⟩
    · obtain ⟨h2, h3⟩ := h1
      have e : Hid (u = v + 1900) := by unfold Hid; rw [HU.out, if_neg (by omega), if_pos h3]
      clear HU
      go_enter Tryd.func52, Tryd.ntmps52
      go_wp2_with (go_at_call 60; (with_reducible refine HL.mono ?_); rintro e w2 ⟨rfl, q, rfl⟩)
      go_ret
      rw [e.out]
      exact ⟨rfl, (HP.out.below (below_drew w q)).set0 _, kept_set (below_drew w q) _ _⟩
    · have e : Hid (u = v) := by unfold Hid; rw [HU.out, if_neg (by omega), if_neg (by omega)]
      clear HU
      go_enter Tryd.func52, Tryd.ntmps52
      go_wp2_with (go_at_call 60; (with_reducible refine HL.mono ?_); rintro e w2 ⟨rfl, q, rfl⟩)
      go_ret
      rw [e.out]
      exact ⟨rfl, (HP.out.below (below_drew w q)).set0 _, kept_set (below_drew w q) _ _⟩
  | false =>
    rw [c] at HL
    simp only [Bool.false_eq_true, if_false] at HL ⊢
    have HP := Lib.hid hp
    clear c hp
    go_enter Tryd.func52, Tryd.ntmps52
    go_wp2_with (go_at_call 60; (with_reducible refine HL.mono ?_); rintro e w2 ⟨rfl, q, rfl⟩)
    go_ret
    exact ⟨rfl, HP.out.below (below_drew w q), Kept.of (below_drew w q)⟩

/-- The three parts of a time, as they are read. -/
theorem time_parts (l : List UInt8) : (∀ v1 s1 b1 v2 s2 b2 v3 s3 b3, leadOf 1 2 l = (v1, s1, b1) → leadOf 1 2 (colon s1) = (v2, s2, b2) → leadOf 1 2 (colon s2) = (v3, s3, b3) →
    isTimeB l = (b1 && (b2 && b3)) ∧ (isTimeB l = true → v1 = valL l ∧ v2 = valL (timeB l) ∧ v3 = valL (timeB (timeB l)))) := by
  intro v1 s1 b1 v2 s2 b2 v3 s3 b3 h1 h2 h3
  have z : colon [] = [] := rfl
  unfold isTimeB
  cases c1 : dig 1 2 l with
  | false =>
    unfold leadOf at h1
    rw [c1] at h1
    cases h1
    simp
  | true =>
    unfold leadOf at h1
    rw [c1] at h1
    simp only [if_true] at h1
    cases h1
    change leadOf 1 2 (timeB l) = _ at h2
    cases c2 : dig 1 2 (timeB l) with
    | false =>
      unfold leadOf at h2
      rw [c2] at h2
      cases h2
      simp
    | true =>
      unfold leadOf at h2
      rw [c2] at h2
      simp only [if_true] at h2
      cases h2
      change leadOf 1 2 (timeB (timeB l)) = _ at h3
      unfold leadOf at h3
      cases c3 : dig 1 2 (timeB (timeB l)) with
      | false =>
        rw [c3] at h3
        cases h3
        simp
      | true =>
        rw [c3] at h3
        simp only [if_true] at h3
        cases h3
        simp

theorem isTimeC (l : List UInt8) (n B : Nat) (y m d h mi se : Int) (w : World) (hl : l.length = n) (hm : n ≤ maxLen) (hp : PAt B y m d h mi se w) :
    Calls Tryd.prog 49 #[.pointer (some ⟨B, 0, none⟩), .string (str l)] w (MatchIs (isTimeB l) B y m d (if isTimeB l = true then (valL l : Int) else h) (if isTimeB l = true then (valL (timeB l) : Int) else mi) (if isTimeB l = true then (valL (timeB (timeB l)) : Int) else se) w) := by
  have T := time_parts l
  have L1 := leadOf_le 1 2 l
  obtain ⟨v1, s1, b1, e1⟩ : ∃ v1 s1 b1, leadOf 1 2 l = (v1, s1, b1) := ⟨_, _, _, rfl⟩
  obtain ⟨v2, s2, b2, e2⟩ : ∃ v2 s2 b2, leadOf 1 2 (colon s1) = (v2, s2, b2) := ⟨_, _, _, rfl⟩
  obtain ⟨v3, s3, b3, e3⟩ : ∃ v3 s3 b3, leadOf 1 2 (colon s2) = (v3, s3, b3) := ⟨_, _, _, rfl⟩
  obtain ⟨t1, t2⟩ := T _ _ _ _ _ _ _ _ _ e1 e2 e3
  have L2 := leadOf_le 1 2 (colon s1)
  have L3 := colon_le s1
  have L4 := colon_le s2
  rw [e1] at L1
  rw [e2] at L2
  simp only [] at L1 L2
  have H1 := fun w => leadingC l n 1 2 1 2 w hl hm (by omega) (by omega) rfl rfl
  have H2 := fun w => leadingC (colon s1) _ 1 2 1 2 w rfl (by omega) (by omega) (by omega) rfl rfl
  have H3 := fun w => leadingC (colon s2) _ 1 2 1 2 w rfl (by omega) (by omega) (by omega) rfl rfl
  have K1 := fun w => behindColonC s1 w
  have K2 := fun w => behindColonC s2 w
  rw [e1] at H1
  rw [e2] at H2
  rw [e3] at H3
  unfold LeadIs at H1 H2 H3
  simp only [] at H1 H2 H3
  have c3 := hp.c3
  have c4 := hp.c4
  have c5 := hp.c5
  have f3 := hp.f 3 (by omega)
  have f4 := hp.f 4 (by omega)
  have f5 := hp.f 5 (by omega)
  have HP := Lib.hid hp
  have T1 := Lib.hid t1
  have T2 := Lib.hid t2
  generalize isTimeB l = g at *
  generalize valL l = w1 at *
  generalize valL (timeB l) = w2 at *
  generalize valL (timeB (timeB l)) = w3 at *
  generalize colon s1 = z1 at *
  generalize colon s2 = z2 at *
  clear T t1 t2 e1 e2 e3 L1 L2 L3 L4 hp
  have hb : g = (b1 && (b2 && b3)) := T1.out
  clear T1
  cases b1 <;> cases b2 <;> cases b3
  all_goals
    simp at hb
    subst hb
    simp only [Bool.false_eq_true, if_false, if_true]
    go_enter Tryd.func49, Tryd.ntmps49
    go_wp2_with (first
      | (go_at_call 60; first | ((with_reducible refine (H1 _).mono ?_); rintro e ww ⟨rfl, q1, rfl⟩) | ((with_reducible refine (H2 _).mono ?_); rintro e ww ⟨rfl, q2, rfl⟩) | ((with_reducible refine (H3 _).mono ?_); rintro e ww ⟨rfl, q3, rfl⟩))
      | (go_at_call 61; first | ((with_reducible refine (K1 _).mono ?_); rintro e ww ⟨rfl, rfl⟩) | ((with_reducible refine (K2 _).mono ?_); rintro e ww ⟨rfl, rfl⟩)))
    go_ret
    first
    | exact ⟨rfl, HP.out.below (below_drew w _), Kept.of (below_drew w _)⟩
    | (obtain ⟨rfl, rfl, rfl⟩ := T2.out (by trivial)
       exact ⟨rfl, (((HP.out.below (below_drew w _)).set3 _).set4 _).set5 _, ((kept_set (below_drew w _) _ _).setCell _ _).setCell _ _⟩)
end Go.Proofs.YtjcilpedpimdcaaDoor

/- Contracts of layer 7: is a token a month, and where it is put. -/
namespace Go.Proofs.YtjcilpedpimdcaaDoor
open Go.RowKit
set_option linter.unusedVariables false

theorem mon_low : ∀ k, k < 12 → (monTop.getD k []).map low = monTab.getD k [] := by decide +kernel

theorem monK_no (l : List UInt8) (k : Nat) (h : k < monK l) (hk : k < 12) : ((l.take 3).map low == (monTop.getD k []).map low) = false := by
  rw [mon_low k hk]
  have h2 : k < monTab.length := hk
  have := List.not_of_lt_findIdx h
  have e : monTab.getD k [] = monTab[k] := by simp [List.getD, h2]
  rw [e, beq_eq_false_iff_ne]
  intro c
  simp [c] at this
theorem monK_yes (l : List UInt8) (h : monK l < 12) : ((l.take 3).map low == (monTop.getD (monK l) []).map low) = true := by
  rw [mon_low _ h]
  have h2 : monK l < monTab.length := h
  have := List.findIdx_getElem (w := h2)
  have e : monTab.getD (monK l) [] = monTab[monK l] := by simp [List.getD, h2]
  rw [e, beq_iff_eq]
  exact (beq_iff_eq.1 this).symm

/-- A name out of the list of months. -/
theorem index12 (S : Nat → ByteArray) (k : Nat) (hk : k < 12) (w : World) : (Instr.index 80 (.agg #[Value.string (S 0), Value.string (S 1), Value.string (S 2), Value.string (S 3), Value.string (S 4), Value.string (S 5), Value.string (S 6), Value.string (S 7), Value.string (S 8), Value.string (S 9), Value.string (S 10), Value.string (S 11)]) (.int .i64 (k : Int))).run Tryd.prog w = .ok (.string (S k)) w := by
  rcases (show k = 0 ∨ k = 1 ∨ k = 2 ∨ k = 3 ∨ k = 4 ∨ k = 5 ∨ k = 6 ∨ k = 7 ∨ k = 8 ∨ k = 9 ∨ k = 10 ∨ k = 11 by omega) with rfl | rfl | rfl | rfl | rfl | rfl | rfl | rfl | rfl | rfl | rfl | rfl
  all_goals kernel_rfl

theorem isMonthC (l : List UInt8) (n B : Nat) (y m d h mi se : Int) (w : World) (hl : l.length = n) (hm : n ≤ maxLen) (hp : PAt B y m d h mi se w) (hT : DTab w) :
    Calls Tryd.prog 51 #[.pointer (some ⟨B, 0, none⟩), .string (str l)] w (MatchIs (decide (0 < monL l)) B y (if 0 < monL l then (monL l : Int) else m) d h mi se w) := by
  have hsz : (str l).size = n := by rw [str_size, hl]
  by_cases h3 : n < 3
  · have e : monL l = 0 := by unfold monL; rw [if_pos (by omega)]
    rw [e]
    have HP := Lib.hid hp
    have h3' : (n : Int) < 3 := by omega
    clear hp e
    simp only [Nat.lt_irrefl, decide_false, if_false]
    go_enter Tryd.func51, Tryd.ntmps51
    go_wp2
    go_ret
    exact ⟨rfl, HP.out, Kept.refl _ _ _⟩
  · obtain ⟨S, hS⟩ : ∃ S : Nat → ByteArray, ∀ k, S k = str (monTop.getD k []) := ⟨fun k => str (monTop.getD k []), fun _ => rfl⟩
    have g : ∀ k, k < 12 → w.cell? ⟨0, k, none⟩ = some (.string (S k)) := fun k hk => by rw [hS]; exact hT.mon k hk
    have g0 := g 0 (by omega)
    have g1 := g 1 (by omega)
    have g2 := g 2 (by omega)
    have g3 := g 3 (by omega)
    have g4 := g 4 (by omega)
    have g5 := g 5 (by omega)
    have g6 := g 6 (by omega)
    have g7 := g 7 (by omega)
    have g8 := g 8 (by omega)
    have g9 := g 9 (by omega)
    have g10 := g 10 (by omega)
    have g11 := g 11 (by omega)
    have h3' : ¬ (n : Int) < 3 := by omega
    have hx : (str l).extract 0 3 = str (l.take 3) := by rw [str_extract]; simp
    have HS := Lib.hid (fun (k : Nat) (hk : k < 12) (w : World) => sameC (l.take 3) (monTop.getD k []) 3 (monTop.getD k []).length w (by simp; omega) (by omega) rfl (by have : ∀ k, k < 12 → (monTop.getD k []).length ≤ maxLen := by decide
                                                                                                                                                                         exact this k hk))
    have hK1 := Lib.hid (monK_no l)
    have hK2 := Lib.hid (monK_yes l)
    have hK3 : Hid (monL l = if monK l < 12 then monK l + 1 else 0) := by unfold Hid monL; rw [if_neg (by omega)]
    have hS' := Lib.hid hS
    have HP := Lib.hid hp
    have c1 := hp.c1
    have f1 := hp.f 1 (by omega)
    have hlt := hp.lt
    obtain ⟨L, hL⟩ : ∃ L, monL l = L := ⟨_, rfl⟩
    rw [hL] at hK3 ⊢
    obtain ⟨G, hG⟩ : ∃ G, MatchIs (decide (0 < L)) B y (if 0 < L then (L : Int) else m) d h mi se w = G := ⟨_, rfl⟩
    rw [hG]
    have hG' := Lib.hid hG
    generalize monK l = K at *
    generalize l.take 3 = t at *
    clear hG hL hS hp g
    go_enter Tryd.func51, Tryd.ntmps51
    go_wp2
    generalize hV : (#[Value.string (S 0), Value.string (S 1), Value.string (S 2), Value.string (S 3), Value.string (S 4), Value.string (S 5), Value.string (S 6), Value.string (S 7), Value.string (S 8), Value.string (S 9), Value.string (S 10), Value.string (S 11)] : Array Value) = V
    have hVk := Lib.hid (fun k hk w => index12 S k hk w)
    rw [hV] at hVk
    clear hV
    go_loopw [11] (fun i wr => ∃ k : Nat, k ≤ 12 ∧ k ≤ K ∧ i = .int .i64 (k : Int) ∧ Below w.heap.size w wr) (fun i _ => 12 - (intOf i).toNat)
    case atStart => exact ⟨0, Nat.zero_le _, Nat.zero_le _, rfl, Below.refl _ _⟩
    case round =>
      obtain ⟨k, hk, hkK, rfl, hb⟩ := hrel
      rcases (show (k < 12 ∧ k < K) ∨ (k < 12 ∧ k = K) ∨ k = 12 by omega) with ⟨hk1, hk2⟩ | ⟨hk1, rfl⟩ | rfl
      · have hv := fun w => hVk.out k hk1 w
        have HK := HS.out k hk1
        rw [hK1.out k hk2 hk1, ← hS'.out k] at HK
        go_wp2_with (go_at_call 62; (with_reducible refine (HK _).mono ?_); rintro e w2 ⟨rfl, hx2⟩)
        go_roundw
        case rel => exact ⟨k + 1, by omega, by omega, by go_num, hb.trans (hx2.mono hb.size)⟩
        case measure => simp [intOf]; omega
      · have hv := fun w => hVk.out k hk1 w
        have HK := HS.out k hk1
        rw [hK2.out hk1, ← hS'.out k] at HK
        have HB := Lib.hid hb
        have hbs := hb.size
        go_wp2_with (go_at_call 62; (with_reducible refine (HK _).mono ?_); rintro e w2 ⟨rfl, hx2⟩; have d1 := ((hb.trans (hx2.mono hb.size)).cell (p := ⟨B, 1, none⟩) hlt).trans c1; have d2 := ((hb.trans (hx2.mono hb.size)).frozen (p := ⟨B, 1, none⟩) hlt).trans f1)
        have e : L = k + 1 := by rw [hK3.out, if_pos hk1]
        rw [← hG'.out, e, if_pos (by omega), decide_eq_true (by omega)]
        exact ⟨rfl, (HP.out.below (hb.trans (hx2.mono hb.size))).set1 _, kept_set (hb.trans (hx2.mono hb.size)) _ _⟩
      · go_wp2
        have e : L = 0 := by rw [hK3.out, if_neg (by omega)]
        rw [← hG'.out, e]
        exact ⟨rfl, HP.out.below hb, Kept.of hb⟩
end Go.Proofs.YtjcilpedpimdcaaDoor

/- Contracts of layer 7: the memory in which what the tokens tell is put. -/
namespace Go.Proofs.YtjcilpedpimdcaaDoor
open Go.RowKit
set_option linter.unusedVariables false

def St.vy (s : St) : Int := match s.year with | some y => (yearUp y : Int) | Option.none => 0
def St.vm (s : St) : Int := match s.month with | some m => (m : Int) | Option.none => 0
def St.vd (s : St) : Int := match s.day with | some d => (d : Int) | Option.none => 0
def St.vh (s : St) : Int := match s.time with | some (h, _, _) => (h : Int) | Option.none => 0
def St.vi (s : St) : Int := match s.time with | some (_, i, _) => (i : Int) | Option.none => 0
def St.vs (s : St) : Int := match s.time with | some (_, _, x) => (x : Int) | Option.none => 0

/-- Which of the four were met lies in block M. -/
structure MAt (M : Nat) (a b c d : Bool) (w : World) : Prop where
  c0 : w.cell? ⟨M, 0, none⟩ = some (.bool a)
  c1 : w.cell? ⟨M, 1, none⟩ = some (.bool b)
  c2 : w.cell? ⟨M, 2, none⟩ = some (.bool c)
  c3 : w.cell? ⟨M, 3, none⟩ = some (.bool d)
  f : ∀ i, i < 4 → w.frozen? ⟨M, i, none⟩ = false
theorem MAt.lt {M : Nat} {a b c d : Bool} {w : World} (p : MAt M a b c d w) : M < w.heap.size := cell_lt (x := ⟨M, 0, none⟩) p.c0
theorem MAt.same {M : Nat} {a b c d : Bool} {w w' : World} (p : MAt M a b c d w) (hb : w'.heap[M]? = w.heap[M]?) : MAt M a b c d w' := by
  have hc : ∀ i, w'.cell? ⟨M, i, none⟩ = w.cell? ⟨M, i, none⟩ := fun i => World.cell?_of_block hb
  have hf : ∀ i, w'.frozen? ⟨M, i, none⟩ = w.frozen? ⟨M, i, none⟩ := fun i => World.frozen?_of_block hb
  exact ⟨by rw [hc]; exact p.c0, by rw [hc]; exact p.c1, by rw [hc]; exact p.c2, by rw [hc]; exact p.c3, fun i hi => by rw [hf]; exact p.f i hi⟩
theorem MAt.set0 {M : Nat} {a b c d : Bool} {w : World} (p : MAt M a b c d w) : MAt M true b c d (w.setCell ⟨M, 0, none⟩ (.bool true)) :=
  ⟨World.cell?_setCell_same w _ _ p.c0, (World.cell?_setCell_other w _ _ _ (show (⟨M, 0, none⟩ : Addr) ≠ ⟨M, 1, none⟩ by simp)).trans p.c1, (World.cell?_setCell_other w _ _ _ (show (⟨M, 0, none⟩ : Addr) ≠ ⟨M, 2, none⟩ by simp)).trans p.c2, (World.cell?_setCell_other w _ _ _ (show (⟨M, 0, none⟩ : Addr) ≠ ⟨M, 3, none⟩ by simp)).trans p.c3, fun i hi => by rw [World.frozen?_setCell]; exact p.f i hi⟩
theorem MAt.set1 {M : Nat} {a b c d : Bool} {w : World} (p : MAt M a b c d w) : MAt M a true c d (w.setCell ⟨M, 1, none⟩ (.bool true)) :=
  ⟨(World.cell?_setCell_other w _ _ _ (show (⟨M, 1, none⟩ : Addr) ≠ ⟨M, 0, none⟩ by simp)).trans p.c0, World.cell?_setCell_same w _ _ p.c1, (World.cell?_setCell_other w _ _ _ (show (⟨M, 1, none⟩ : Addr) ≠ ⟨M, 2, none⟩ by simp)).trans p.c2, (World.cell?_setCell_other w _ _ _ (show (⟨M, 1, none⟩ : Addr) ≠ ⟨M, 3, none⟩ by simp)).trans p.c3, fun i hi => by rw [World.frozen?_setCell]; exact p.f i hi⟩
theorem MAt.set2 {M : Nat} {a b c d : Bool} {w : World} (p : MAt M a b c d w) : MAt M a b true d (w.setCell ⟨M, 2, none⟩ (.bool true)) :=
  ⟨(World.cell?_setCell_other w _ _ _ (show (⟨M, 2, none⟩ : Addr) ≠ ⟨M, 0, none⟩ by simp)).trans p.c0, (World.cell?_setCell_other w _ _ _ (show (⟨M, 2, none⟩ : Addr) ≠ ⟨M, 1, none⟩ by simp)).trans p.c1, World.cell?_setCell_same w _ _ p.c2, (World.cell?_setCell_other w _ _ _ (show (⟨M, 2, none⟩ : Addr) ≠ ⟨M, 3, none⟩ by simp)).trans p.c3, fun i hi => by rw [World.frozen?_setCell]; exact p.f i hi⟩
theorem MAt.set3 {M : Nat} {a b c d : Bool} {w : World} (p : MAt M a b c d w) : MAt M a b c true (w.setCell ⟨M, 3, none⟩ (.bool true)) :=
  ⟨(World.cell?_setCell_other w _ _ _ (show (⟨M, 3, none⟩ : Addr) ≠ ⟨M, 0, none⟩ by simp)).trans p.c0, (World.cell?_setCell_other w _ _ _ (show (⟨M, 3, none⟩ : Addr) ≠ ⟨M, 1, none⟩ by simp)).trans p.c1, (World.cell?_setCell_other w _ _ _ (show (⟨M, 3, none⟩ : Addr) ≠ ⟨M, 2, none⟩ by simp)).trans p.c2, World.cell?_setCell_same w _ _ p.c3, fun i hi => by rw [World.frozen?_setCell]; exact p.f i hi⟩

/-- The list of matchers lies in block F. -/
structure FAt (F : Nat) (w : World) : Prop where
  c0 : w.cell? ⟨F, 0, none⟩ = some (.func (.func 49) #[] #[])
  c1 : w.cell? ⟨F, 1, none⟩ = some (.func (.func 50) #[] #[])
  c2 : w.cell? ⟨F, 2, none⟩ = some (.func (.func 51) #[] #[])
  c3 : w.cell? ⟨F, 3, none⟩ = some (.func (.func 52) #[] #[])
theorem FAt.lt {F : Nat} {w : World} (p : FAt F w) : F < w.heap.size := cell_lt (x := ⟨F, 0, none⟩) p.c0
theorem FAt.same {F : Nat} {w w' : World} (p : FAt F w) (hb : w'.heap[F]? = w.heap[F]?) : FAt F w' := by
  have hc : ∀ i, w'.cell? ⟨F, i, none⟩ = w.cell? ⟨F, i, none⟩ := fun i => World.cell?_of_block hb
  exact ⟨by rw [hc]; exact p.c0, by rw [hc]; exact p.c1, by rw [hc]; exact p.c2, by rw [hc]; exact p.c3⟩

/-- The state s, as it lies in memory behind what the world w0 had. -/
structure ReadAt (b : Nat) (s : St) (w0 w : World) : Prop where
  p : PAt (b + 1) s.vy s.vm s.vd s.vh s.vi s.vs w
  m : MAt (b + 1 + 1 + 1) s.time.isSome s.day.isSome s.month.isSome s.year.isSome w
  f : FAt (b + 1 + 1) w
  r : PAt b 0 0 0 0 0 0 w
  below : Below b w0 w
theorem ReadAt.of {b : Nat} {s : St} {w0 w w' : World} (h : ReadAt b s w0 w) (hb : Below w.heap.size w w') : ReadAt b s w0 w' :=
  ⟨h.p.below hb, h.m.same (hb.block _ h.m.lt), h.f.same (hb.block _ h.f.lt), h.r.below hb, h.below.trans (hb.mono (Nat.le_of_lt h.r.lt))⟩
/-- A matcher that says no. -/
theorem ReadAt.no {b : Nat} {s : St} {w0 w w' : World} (h : ReadAt b s w0 w) (hp : PAt (b + 1) s.vy s.vm s.vd s.vh s.vi s.vs w') (hk : Kept (b + 1) none w w') : ReadAt b s w0 w' :=
  ⟨hp, h.m.same (hk.block _ h.m.lt (by omega) (Apart.none _)), h.f.same (hk.block _ h.f.lt (by omega) (Apart.none _)), h.r.same (hk.block _ h.r.lt (by omega) (Apart.none _)), h.below.trans (hk.below (by omega) (fun x hx => by cases hx) (Nat.le_of_lt h.r.lt))⟩
/-- A matcher that says yes: the state that lies there then. -/
theorem ReadAt.yes {b : Nat} {s s2 : St} {w0 w w' : World} (h : ReadAt b s w0 w) (hp : PAt (b + 1) s2.vy s2.vm s2.vd s2.vh s2.vi s2.vs w') (hk : Kept (b + 1) none w w') (k : Nat)
    (hm : MAt (b + 1 + 1 + 1) s.time.isSome s.day.isSome s.month.isSome s.year.isSome w' → MAt (b + 1 + 1 + 1) s2.time.isSome s2.day.isSome s2.month.isSome s2.year.isSome (w'.setCell ⟨b + 1 + 1 + 1, k, none⟩ (.bool true))) :
    ReadAt b s2 w0 (w'.setCell ⟨b + 1 + 1 + 1, k, none⟩ (.bool true)) := by
  have hs : ∀ c, c ≠ b + 1 + 1 + 1 → (w'.setCell ⟨b + 1 + 1 + 1, k, none⟩ (.bool true)).heap[c]? = w'.heap[c]? := fun c hc => Below.heap_setCell w' ⟨b + 1 + 1 + 1, k, none⟩ (.bool true) c hc
  have hm0 := h.m.same (hk.block _ h.m.lt (by omega) (Apart.none _))
  refine ⟨hp.same (hs _ (by omega)), hm hm0, (h.f.same (hk.block _ h.f.lt (by omega) (Apart.none _))).same (hs _ (by omega)), (h.r.same (hk.block _ h.r.lt (by omega) (Apart.none _))).same (hs _ (by omega)), ?_⟩
  exact (h.below.trans (hk.below (by omega) (fun x hx => by cases hx) (Nat.le_of_lt h.r.lt))).setCell (by show b ≤ b + 1 + 1 + 1; omega) _

def takesD (s : St) (t : List UInt8) (k : Nat) : Bool :=
  if k = 0 then s.time.isNone && isTimeB t else if k = 1 then s.day.isNone && dig 1 2 t else if k = 2 then s.month.isNone && decide (0 < monL t) else s.year.isNone && dig 2 4 t

theorem step_no (s : St) (t : List UInt8) (h : ∀ k, k < 4 → takesD s t k = false) : stepD s t = s := by
  have h0 := h 0 (by omega)
  have h1 := h 1 (by omega)
  have h2 := h 2 (by omega)
  have h3 := h 3 (by omega)
  change (s.time.isNone && isTimeB t) = false at h0
  change (s.day.isNone && dig 1 2 t) = false at h1
  change (s.month.isNone && decide (0 < monL t)) = false at h2
  change (s.year.isNone && dig 2 4 t) = false at h3
  unfold stepD
  rw [h0, h1, h2, h3]
  rfl
theorem step_0 (s : St) (t : List UInt8) (h : s.time.isSome = false) (ht : isTimeB t = true) : stepD s t = { s with time := some (valL t, valL (timeB t), valL (timeB (timeB t))) } := by
  have e : s.time.isNone = true := by cases c : s.time with
    | none => rfl
    | some x => rw [c] at h; cases h
  unfold stepD
  rw [e, ht]
  rfl
theorem step_1 (s : St) (t : List UInt8) (h0 : takesD s t 0 = false) (h : s.day.isSome = false) (ht : dig 1 2 t = true) : stepD s t = { s with day := some (valL t) } := by
  have e : s.day.isNone = true := by cases c : s.day with
    | none => rfl
    | some x => rw [c] at h; cases h
  change (s.time.isNone && isTimeB t) = false at h0
  unfold stepD
  rw [h0, e, ht]
  rfl
theorem step_2 (s : St) (t : List UInt8) (h0 : takesD s t 0 = false) (h1 : takesD s t 1 = false) (h : s.month.isSome = false) (ht : decide (0 < monL t) = true) : stepD s t = { s with month := some (monL t) } := by
  have e : s.month.isNone = true := by cases c : s.month with
    | none => rfl
    | some x => rw [c] at h; cases h
  change (s.time.isNone && isTimeB t) = false at h0
  change (s.day.isNone && dig 1 2 t) = false at h1
  unfold stepD
  rw [h0, h1, e, ht]
  rfl
theorem step_3 (s : St) (t : List UInt8) (h0 : takesD s t 0 = false) (h1 : takesD s t 1 = false) (h2 : takesD s t 2 = false) (h : s.year.isSome = false) (ht : dig 2 4 t = true) : stepD s t = { s with year := some (valL t) } := by
  have e : s.year.isNone = true := by cases c : s.year with
    | none => rfl
    | some x => rw [c] at h; cases h
  change (s.time.isNone && isTimeB t) = false at h0
  change (s.day.isNone && dig 1 2 t) = false at h1
  change (s.month.isNone && decide (0 < monL t)) = false at h2
  unfold stepD
  rw [h0, h1, h2, e, ht]
  rfl
theorem takes_met (s : St) (t : List UInt8) : (s.time.isSome = true → takesD s t 0 = false) ∧ (s.day.isSome = true → takesD s t 1 = false) ∧ (s.month.isSome = true → takesD s t 2 = false) ∧ (s.year.isSome = true → takesD s t 3 = false) := by
  obtain ⟨a, b, c, d⟩ := s
  refine ⟨?_, ?_, ?_, ?_⟩
  · cases a <;> simp [takesD]
  · cases b <;> simp [takesD]
  · cases c <;> simp [takesD]
  · cases d <;> simp [takesD]
theorem takes_no (s : St) (t : List UInt8) : (isTimeB t = false → takesD s t 0 = false) ∧ (dig 1 2 t = false → takesD s t 1 = false) ∧ (decide (0 < monL t) = false → takesD s t 2 = false) ∧ (dig 2 4 t = false → takesD s t 3 = false) := by
  refine ⟨?_, ?_, ?_, ?_⟩
  · intro h; simp [takesD, h]
  · intro h; simp [takesD, h]
  · intro h; simp [takesD] at h ⊢; simp [h]
  · intro h; simp [takesD, h]
theorem upto_succ {P : Nat → Bool} {k : Nat} (h : ∀ j, j < k → P j = false) (hk : P k = false) : ∀ j, j < k + 1 → P j = false := fun j hj => by
  rcases Nat.lt_succ_iff_lt_or_eq.1 hj with h1 | rfl
  · exact h j h1
  · exact hk

theorem rows_of {w : World} {b : Nat} {c : Array Value} {e : TypeId} (h : w.heap[b]? = some (.cells c e (0, 0))) (i : Nat) (hi : i < c.size) : w.cell? ⟨b, i, none⟩ = some c[i] ∧ w.frozen? ⟨b, i, none⟩ = false := by
  refine ⟨?_, ?_⟩
  · rw [cell_of_row _ _ _ _ _ _ h]; simp [hi]
  · simp [World.frozen?, h]
theorem heap_new (w : World) (o : Obj) : (w.alloc o).heap[w.heap.size]? = some o := by
  show (w.heap.push o)[w.heap.size]? = some o
  simp
theorem size_new (w : World) (o : Obj) : (w.alloc o).heap.size = w.heap.size + 1 := by
  show (w.heap.push o).size = _
  simp
theorem four_new (w : World) (A B C D : Obj) (q : Nat) : (((((w.alloc A).alloc B).alloc C).alloc D).drewN q).heap[w.heap.size]? = some A ∧ (((((w.alloc A).alloc B).alloc C).alloc D).drewN q).heap[w.heap.size + 1]? = some B ∧
    (((((w.alloc A).alloc B).alloc C).alloc D).drewN q).heap[w.heap.size + 1 + 1]? = some C ∧ (((((w.alloc A).alloc B).alloc C).alloc D).drewN q).heap[w.heap.size + 1 + 1 + 1]? = some D ∧ Below w.heap.size w (((((w.alloc A).alloc B).alloc C).alloc D).drewN q) := by
  have hd : ∀ (v : World) (k : Nat), (v.drewN q).heap[k]? = v.heap[k]? := fun v k => rfl
  have s1 := size_new w A
  have s2 := size_new (w.alloc A) B
  have s3 := size_new ((w.alloc A).alloc B) C
  have s4 := size_new (((w.alloc A).alloc B).alloc C) D
  have b1 := Below.heap_alloc w A
  have b2 := Below.heap_alloc (w.alloc A) B
  have b3 := Below.heap_alloc ((w.alloc A).alloc B) C
  have b4 := Below.heap_alloc (((w.alloc A).alloc B).alloc C) D
  have h1 := heap_new w A
  have h2 := heap_new (w.alloc A) B
  have h3 := heap_new ((w.alloc A).alloc B) C
  have h4 := heap_new (((w.alloc A).alloc B).alloc C) D
  refine ⟨?_, ?_, ?_, ?_, below_drewN ((((below_alloc w A).alloc (by omega) B).alloc (by omega) C).alloc (by omega) D) q⟩
  · rw [hd, b4 _ (by omega), b3 _ (by omega), b2 _ (by omega), h1]
  · rw [hd, b4 _ (by omega), b3 _ (by omega), ← s1, h2]
  · rw [hd, b4 _ (by omega), ← s1, ← s2, h3]
  · rw [hd, ← s1, ← s2, ← s3, h4]
theorem readAt_new (w : World) (e1 e2 e3 e4 : TypeId) (q : Nat) : ReadAt w.heap.size St.none w
    (((((w.alloc (.cells #[.int .i64 0, .int .i64 0, .int .i64 0, .int .i64 0, .int .i64 0, .int .i64 0] e1)).alloc (.cells #[.int .i64 0, .int .i64 0, .int .i64 0, .int .i64 0, .int .i64 0, .int .i64 0] e2)).alloc
      (.cells #[.func (.func 49) #[] #[], .func (.func 50) #[] #[], .func (.func 51) #[] #[], .func (.func 52) #[] #[]] e3)).alloc
      (.cells #[.bool false, .bool false, .bool false, .bool false] e4)).drewN q) := by
  obtain ⟨r0, r1, r2, r3, hb⟩ := four_new w (.cells #[.int .i64 0, .int .i64 0, .int .i64 0, .int .i64 0, .int .i64 0, .int .i64 0] e1) (.cells #[.int .i64 0, .int .i64 0, .int .i64 0, .int .i64 0, .int .i64 0, .int .i64 0] e2)
    (.cells #[.func (.func 49) #[] #[], .func (.func 50) #[] #[], .func (.func 51) #[] #[], .func (.func 52) #[] #[]] e3) (.cells #[.bool false, .bool false, .bool false, .bool false] e4) q
  generalize World.drewN _ q = v at *
  refine ⟨⟨?_, ?_, ?_, ?_, ?_, ?_, fun i hi => (rows_of r1 i hi).2⟩, ⟨?_, ?_, ?_, ?_, fun i hi => (rows_of r3 i hi).2⟩, ⟨?_, ?_, ?_, ?_⟩, ⟨?_, ?_, ?_, ?_, ?_, ?_, fun i hi => (rows_of r0 i hi).2⟩, hb⟩
  · exact (rows_of r1 0 (by decide)).1
  · exact (rows_of r1 1 (by decide)).1
  · exact (rows_of r1 2 (by decide)).1
  · exact (rows_of r1 3 (by decide)).1
  · exact (rows_of r1 4 (by decide)).1
  · exact (rows_of r1 5 (by decide)).1
  · exact (rows_of r3 0 (by decide)).1
  · exact (rows_of r3 1 (by decide)).1
  · exact (rows_of r3 2 (by decide)).1
  · exact (rows_of r3 3 (by decide)).1
  · exact (rows_of r2 0 (by decide)).1
  · exact (rows_of r2 1 (by decide)).1
  · exact (rows_of r2 2 (by decide)).1
  · exact (rows_of r2 3 (by decide)).1
  · exact (rows_of r0 0 (by decide)).1
  · exact (rows_of r0 1 (by decide)).1
  · exact (rows_of r0 2 (by decide)).1
  · exact (rows_of r0 3 (by decide)).1
  · exact (rows_of r0 4 (by decide)).1
  · exact (rows_of r0 5 (by decide)).1
end Go.Proofs.YtjcilpedpimdcaaDoor

/- How the arguments of a law are opened: what its walk is told of them. -/
namespace Go.Proofs.YtjcilpedpimdcaaDoor
open Go.ChangeShapes Go.WideShapes Go.ChangeAt Go.RowKit
set_option linter.unusedVariables false

theorem own : ownKnob Tryd.prog.godebug = none := by kernel_rfl
theorem laidOut : laidOutB Tryd.prog = true := by kernel_rfl

/-- What a walk is told of a slice of integers that came in: it is nil; or it leads to a row of 'cap' cells, the numbers 'zs'. -/
def IsRow (k : IntKind) (w : World) (a : Option Addr) (len cap : Nat) (zs : List Int) : Prop :=
  (a = none ∧ len = 0 ∧ cap = 0 ∧ zs = []) ∨
  ∃ x, a = some x ∧ len ≤ cap ∧ cap ≤ maxLen ∧ zs.length = cap ∧ (∀ i, i < zs.length → w.cell? (x.add i) = some (.int k (zs.getD i 0))) ∧ ∀ n ∈ zs, (Lit.int k n).wf = true

theorem wfU64 {n : Int} (h : (Lit.int .u64 n).wf = true) : 0 ≤ n ∧ n ≤ 18446744073709551615 := by
  simpa [Lit.wf, IntKind.min, IntKind.max, IntKind.signed, IntKind.bits] using h
theorem wfI64 {n : Int} (h : (Lit.int .i64 n).wf = true) : -9223372036854775808 ≤ n ∧ n ≤ 9223372036854775807 := by
  simpa [Lit.wf, IntKind.min, IntKind.max, IntKind.signed, IntKind.bits] using h
theorem wfU32 {n : Int} (h : (Lit.int .u32 n).wf = true) : 0 ≤ n ∧ n ≤ 4294967295 := by
  simpa [Lit.wf, IntKind.min, IntKind.max, IntKind.signed, IntKind.bits] using h
theorem wfU8 {n : Int} (h : (Lit.int .u8 n).wf = true) : 0 ≤ n ∧ n ≤ 255 := by
  simpa [Lit.wf, IntKind.min, IntKind.max, IntKind.signed, IntKind.bits] using h

theorem isRow_reads {k : IntKind} {w : World} {a : Option Addr} {len cap : Nat} {zs : List Int} (h : IsRow k w a len cap zs) :
    Reads w a ((zs.take len).map (Value.int k)) ∧ (zs.take len).length = len ∧ len ≤ cap ∧ cap ≤ maxLen ∧ ∀ x ∈ zs.take len, (Lit.int k x).wf = true := by
  rcases h with ⟨rfl, rfl, rfl, rfl⟩ | ⟨x, rfl, h1, h2, h3, h4, h5⟩
  · exact ⟨Reads.nil _ _, rfl, Nat.le_refl _, by unfold maxLen; omega, by simp⟩
  · have hl : (zs.take len).length = len := List.length_take_of_le (by omega)
    refine ⟨fun i v hv => ?_, hl, h1, h2, fun y hy => h5 y (List.mem_of_mem_take hy)⟩
    have hi : i < len := by
      rcases Nat.lt_or_ge i len with h | h
      · exact h
      · rw [List.getElem?_eq_none (by rw [List.length_map, hl]; exact h)] at hv; cases hv
    have hc := h4 i (by omega)
    obtain ⟨b, off, spot⟩ := x
    have hspot : spot = none := by simpa [Addr.add] using World.cell?_spot (h4 0 (by omega))
    subst hspot
    refine ⟨b, off, rfl, ?_⟩
    have ea : (⟨b, off, none⟩ : Addr).add i = ⟨b, off + i, none⟩ := by
      by_cases h0 : i = 0
      · subst h0; simp [Addr.add]
      · simp [Addr.add, h0]
    rw [ea] at hc
    have e : v = .int k (zs.getD i 0) := by
      rw [List.getElem?_map, List.getElem?_take_of_lt hi, List.getElem?_eq_getElem (by omega)] at hv
      simp only [Option.map_some, Option.some.injEq] at hv
      rw [← hv, getD_of_lt _ _ (by omega)]
    rw [e]
    exact hc

theorem isRow_nil {k : IntKind} {w : World} {a : Option Addr} {len cap : Nat} {zs : List Int} (h : IsRow k w a len cap zs) : a = none → cap = 0 := fun e => by
  rcases h with ⟨_, _, h, _⟩ | ⟨x, h, _⟩
  · exact h
  · rw [e] at h; cases h
theorem isRow_bytes {w : World} {a : Option Addr} {len cap : Nat} {zs : List Int} (h : IsRow .u8 w a len cap zs) : IsBytes (zs.take len) := fun x hx => wfU8 ((isRow_reads h).2.2.2.2 x hx)

theorem okWide_array {P : Program} {w : World} {r : Reach} {base : Nat} {t : TypeId} {v : Value} {n : Nat} {e : TypeId} (ht : P.underlying t = some (.array n e)) (h : Value.okWide P w r base t v) : ∃ cs, v = .agg cs ∧ cs.size = P.cellsOf t := by
  cases v <;> simp_all [Value.okWide]

/-- An array of two integers, opened. -/
theorem open_ints2 {H : Type} {enc : TypeId × Value → H} {P : Program} {w : World} {base : Nat} {spare : Nat → Bool} {held : Bool} {r : Reach} {b0 : Nat} {t e : TypeId} {k : IntKind} {v : Value} {d : DataW H} {p : List MemPlace}
    (ht : P.underlying t = some (.array 2 e)) (he : P.underlying e = some (.int k)) (hC : P.cellsOf t = 2) (hE : P.cellsOf e = 1)
    (hv : Value.okWide P w r b0 t v) (h : DataW.Trod enc P w base spare held t v d p) :
    ∃ a b, v = .agg #[.int k a, .int k b] ∧ (Lit.int k a).wf = true ∧ (Lit.int k b).wf = true := by
  obtain ⟨cs, rfl, hsz⟩ := okWide_array ht hv
  rw [hC] at hsz
  obtain ⟨c0, c1, rfl⟩ : ∃ c0 c1, cs = #[c0, c1] := by
    match cs, hsz with
    | ⟨[c0, c1]⟩, _ => exact ⟨c0, c1, rfl⟩
  obtain ⟨fuel, hf⟩ := h
  obtain ⟨xs, m, _, _, hl, hxs, hall⟩ := DataW.trod_array ht hf
  rw [hE] at hall
  have a0 := hall 0 (by decide)
  have a1 := hall 1 (by decide)
  match xs, hxs with
  | [x0, x1], _ =>
    simp only [Value.cells, List.getElem?_cons_zero, List.getElem?_cons_succ, Nat.zero_mul, List.drop_zero, Nat.one_mul] at a0 a1
    obtain ⟨n0, e0, _, w0⟩ := DataW.trod_int he a0
    obtain ⟨n1, e1, _, w1⟩ := DataW.trod_int he a1
    simp at e0 e1
    subst e0 e1
    exact ⟨n0, n1, rfl, w0, w1⟩
end Go.Proofs.YtjcilpedpimdcaaDoor
