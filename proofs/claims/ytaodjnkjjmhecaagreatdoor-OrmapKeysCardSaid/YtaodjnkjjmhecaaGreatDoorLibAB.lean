/- Contracts and plain words that the laws' proofs stand on. -/
import Derived.Test.YtaodjnkjjmhecaaGreatDoorShort
import Derived.Test.YtaodjnkjjmhecaaGreatDoorLibAK
import Derived.Test.YtaodjnkjjmhecaaGreatDoorLibAG
namespace Go.Proofs.YtaodjnkjjmhecaaGreatDoor
set_option linter.unusedVariables false
theorem endB_blank {l : List UInt8} : ∀ {k : Nat}, endB l k = 0 → ∀ j, j < k → blank (l.getD j 0) = true
  | 0, _, j, hj => absurd hj (by omega)
  | k + 1, h, j, hj => by
    unfold endB at h
    split at h
    · rename_i hb
      rcases Nat.lt_succ_iff_lt_or_eq.1 hj with h2 | rfl
      · exact endB_blank h j h2
      · exact hb
    · omega
theorem endB_at {l : List UInt8} : ∀ {k e : Nat}, endB l k = e + 1 → blank (l.getD e 0) = false
  | 0, e, h => by unfold endB at h; omega
  | k + 1, e, h => by
    unfold endB at h
    split at h
    · exact endB_at h
    · rename_i hb
      obtain rfl : k = e := by omega
      simpa using hb
def nb (l : List UInt8) : Nat := l.findIdx (fun x => !blank x)
theorem nb_le (l : List UInt8) : nb l ≤ l.length := List.findIdx_le_length
theorem nb_lt {l : List UInt8} {k : Nat} (h : k < nb l) : blank (l.getD k 0) = true := by
  have h2 : k < l.length := Nat.lt_of_lt_of_le h (nb_le l)
  have := List.not_of_lt_findIdx h
  simp only [List.getD, List.getElem?_eq_getElem h2, Option.getD_some]
  simpa using this
theorem nb_at {l : List UInt8} (h : nb l < l.length) : blank (l.getD (nb l) 0) = false := by
  have : (!blank (l[nb l]'h)) = true := List.findIdx_getElem (xs := l) (p := fun x => !blank x) (w := h)
  have e : l.getD (nb l) 0 = l[nb l] := by simp [List.getD, h]
  rw [e]
  simpa using this
theorem trimL_max (l : List UInt8) : (l.drop (nb l)).take (max (nb l) (endB l l.length) - nb l) = trimL l := by
  have hle := endB_le l l.length
  have hn := nb_le l
  rcases Nat.eq_zero_or_pos (endB l l.length) with h0 | h0
  · have e1 : nb l = l.length := by
      rcases Nat.lt_or_ge (nb l) l.length with h1 | h1
      · have h2 := nb_at h1
        rw [endB_blank h0 _ h1] at h2
        cases h2
      · omega
    unfold trimL
    rw [h0, e1]
    simp
  · obtain ⟨e, he⟩ : ∃ e, endB l l.length = e + 1 := ⟨endB l l.length - 1, by omega⟩
    have hb := endB_at he
    have hlt : nb l < e + 1 := by
      rcases Nat.lt_or_ge (nb l) (e + 1) with h1 | h1
      · exact h1
      · rw [nb_lt (show e < nb l by omega)] at hb
        cases hb
    have hf : frontB l = nb l := by
      unfold frontB
      rw [he]
      refine findIdx_at (fun j hj => ?_) (by rw [List.length_take]; omega) ?_
      · have e2 : (l.take (e + 1)).getD j 0 = l.getD j 0 := by simp [List.getD, show j < e + 1 by omega]
        rw [e2, nb_lt hj]
        rfl
      · have e2 : (l.take (e + 1)).getD (nb l) 0 = l.getD (nb l) 0 := by simp [List.getD, hlt]
        rw [e2, nb_at (by omega)]
        rfl
    unfold trimL
    rw [hf, he, Nat.max_eq_right (by omega)]
theorem endB_step {l : List UInt8} {t : Nat} (h : blank (l.getD t 0) = true) : endB l (t + 1) = endB l t := by
  show (if _ then _ else _) = _
  rw [if_pos h]
theorem endB_stop {l : List UInt8} {t : Nat} (h : blank (l.getD t 0) = false) : endB l (t + 1) = t + 1 := by
  show (if _ then _ else _) = _
  rw [if_neg (by rw [h]; decide)]
theorem lead_lt {l : List UInt8} {k : Nat} (h : k < lead l) : 48 ≤ (l.getD k 0).toNat ∧ (l.getD k 0).toNat ≤ 57 := by
  have h2 : k < l.length := Nat.lt_of_lt_of_le h (lead_le l)
  have := List.not_of_lt_findIdx h
  simp only [List.getD, List.getElem?_eq_getElem h2, Option.getD_some]
  unfold digit at this
  simpa using this
theorem lead_at {l : List UInt8} (h : lead l < l.length) : ¬ (48 ≤ (l.getD (lead l) 0).toNat ∧ (l.getD (lead l) 0).toNat ≤ 57) := by
  have : (!digit (l[lead l]'h)) = true := List.findIdx_getElem (xs := l) (p := fun x => !digit x) (w := h)
  have e : l.getD (lead l) 0 = l[lead l] := by simp [List.getD, h]
  rw [e]
  unfold digit at this
  simp at this
  omega
end Go.Proofs.YtaodjnkjjmhecaaGreatDoor
namespace Go.Proofs.YtaodjnkjjmhecaaGreatDoor
open Go.RowKit
set_option linter.unusedVariables false
theorem decDigits_snoc (u : Nat) (h : ¬ u < 10) : Lib.decDigits u = Lib.decDigits (u / 10) ++ [UInt8.ofNat (48 + u % 10)] := by
  rw [Lib.decDigits, dif_neg h]
theorem digit_toNat (d : Nat) (h : d < 10) : (UInt8.ofNat (48 + d)).toNat = 48 + d := by
  rw [UInt8.toNat_ofNat']
  omega
theorem Owned.head {base : Nat} {e : TypeId} {a : Option Addr} {n c : Nat} {xs : List Value} {w : World} (h : Owned base e a n c xs w) (hn : 1 ≤ n) : ∃ g, a = some ⟨g, 0, none⟩ ∧ base ≤ g ∧ g < w.heap.size := by
  rcases h.1.2 with ⟨hv, hx⟩ | ⟨g, cap, cur, hv, hb, hg, _⟩
  · cases hv
    omega
  · cases hv
    refine ⟨g, rfl, hb, ?_⟩
    rcases Nat.lt_or_ge g w.heap.size with h | h
    · exact h
    · rw [Array.getElem?_eq_none h] at hg; cases hg
theorem owned_lit (w : World) (e : TypeId) : Owned w.heap.size e (some ⟨w.heap.size, 0, none⟩) 0 0 [] (w.alloc (.cells #[] e)) := by
  have h : (w.alloc (.cells #[] e)).ownsRow w.heap.size e 1 (.slice (some ⟨w.heap.size, 0, none⟩) 0 0) 0 [] := World.ownsRow_lit _ #[] 0 (Nat.le_refl _) (by unfold maxLen; omega) rfl
  obtain ⟨a, c, e1, h1⟩ := owns_open h
  cases e1
  exact ⟨h, h1⟩
end Go.Proofs.YtaodjnkjjmhecaaGreatDoor
namespace Go.Proofs.YtaodjnkjjmhecaaGreatDoor
set_option linter.unusedVariables false
theorem sortD_snoc (l : List DotN) (x : DotN) : sortD (l ++ [x]) = insD x (sortD l) := by unfold sortD; rw [List.foldl_append]; rfl
end Go.Proofs.YtaodjnkjjmhecaaGreatDoor
namespace Go.Proofs.YtaodjnkjjmhecaaGreatDoor
open Go.RowKit
set_option linter.unusedVariables false
theorem Off.symm {a b : Option Addr} (h : Off a b) : Off b a := fun k h1 h2 => h k h2 h1
set_option maxRecDepth 100000 in
theorem refActorC (d i : Int) (w : World) :
    Calls Tryz.prog 124 #[.agg #[.int .i64 d, .int .i64 i]] w fun e w' => e = .returned (.bool (actorD d i)) ∧ Below w.heap.size w w' := by
  have o1 := ObjAt.new w #[.int .i64 d, .int .i64 i] 33
  have hb := below_alloc w (.cells #[.int .i64 d, .int .i64 i] 33)
  have u0 := o1.cell 0 rfl; have u1 := o1.cell 1 rfl
  clear o1
  unfold actorD
  by_cases q0 : 0 ≤ d
  · have d0 : decide (0 ≤ d) = true := decide_eq_true q0
    by_cases q1 : d ≤ 63
    · have d1 : decide (d ≤ 63) = true := decide_eq_true q1
      by_cases q2 : 1 ≤ i
      · have d2 : decide (1 ≤ i) = true := decide_eq_true q2
        by_cases q3 : i ≤ 1048576
        · have d3 : decide (i ≤ 1048576) = true := decide_eq_true q3
          go_enter Tryz.func124, Tryz.ntmps124
          go_wp2
          go_ret
          exact ⟨by simp [*], hb⟩
        · have d3 : decide (i ≤ 1048576) = false := decide_eq_false q3
          go_enter Tryz.func124, Tryz.ntmps124
          go_wp2
          go_ret
          exact ⟨by simp [*], hb⟩
      · have d2 : decide (1 ≤ i) = false := decide_eq_false q2
        go_enter Tryz.func124, Tryz.ntmps124
        go_wp2
        go_ret
        exact ⟨by simp [*], hb⟩
    · have d1 : decide (d ≤ 63) = false := decide_eq_false q1
      go_enter Tryz.func124, Tryz.ntmps124
      go_wp2
      go_ret
      exact ⟨by simp [*], hb⟩
  · have d0 : decide (0 ≤ d) = false := decide_eq_false q0
    go_enter Tryz.func124, Tryz.ntmps124
    go_wp2
    go_ret
    exact ⟨by simp [*], hb⟩
set_option maxRecDepth 100000 in
theorem refDRightC (x : DotN) (w : World) :
    Calls Tryz.prog 86 #[.agg #[.int .i64 x.dev, .int .i64 x.inc, .int .i64 x.seq]] w fun e w' => e = .returned (.bool (rightD x)) ∧ Below w.heap.size w w' := by
  have o1 := ObjAt.new w #[.int .i64 x.dev, .int .i64 x.inc, .int .i64 x.seq] 35
  have hb := below_alloc w (.cells #[.int .i64 x.dev, .int .i64 x.inc, .int .i64 x.seq] 35)
  have u0 := o1.cell 0 rfl; have u1 := o1.cell 1 rfl
  have HA := fun v => refActorC x.dev x.inc v
  unfold rightD
  generalize actorD x.dev x.inc = A at *
  cases A with
  | false =>
    go_enter Tryz.func86, Tryz.ntmps86
    go_wp2_with (go_at_call 124; (with_reducible refine (HA _).mono ?_); rintro e w1 ⟨rfl, hx⟩; have hb := hb.trans (hx.mono hb.size))
    go_ret
    exact ⟨rfl, hb⟩
  | true =>
    by_cases q0 : 1 ≤ x.seq
    · have d0 : decide (1 ≤ x.seq) = true := decide_eq_true q0
      by_cases q1 : x.seq ≤ 4294967296
      · have d1 : decide (x.seq ≤ 4294967296) = true := decide_eq_true q1
        go_enter Tryz.func86, Tryz.ntmps86
        go_wp2_with (first
          | (go_at_call 124; (with_reducible refine (HA _).mono ?_); rintro e w1 ⟨rfl, hx⟩; have o2 := o1.below hx o1.lt; have v2 := o2.cell 2 rfl; have hb := hb.trans (hx.mono hb.size); clear hx))
        go_ret
        exact ⟨by simp [*], hb⟩
      · have d1 : decide (x.seq ≤ 4294967296) = false := decide_eq_false q1
        go_enter Tryz.func86, Tryz.ntmps86
        go_wp2_with (first
          | (go_at_call 124; (with_reducible refine (HA _).mono ?_); rintro e w1 ⟨rfl, hx⟩; have o2 := o1.below hx o1.lt; have v2 := o2.cell 2 rfl; have hb := hb.trans (hx.mono hb.size); clear hx))
        go_ret
        exact ⟨by simp [*], hb⟩
    · have d0 : decide (1 ≤ x.seq) = false := decide_eq_false q0
      go_enter Tryz.func86, Tryz.ntmps86
      go_wp2_with (first
        | (go_at_call 124; (with_reducible refine (HA _).mono ?_); rintro e w1 ⟨rfl, hx⟩; have o2 := o1.below hx o1.lt; have v2 := o2.cell 2 rfl; have hb := hb.trans (hx.mono hb.size); clear hx))
      go_ret
      exact ⟨by simp [*], hb⟩
set_option maxRecDepth 100000 in
theorem refAheadAC (d i e j : Int) (w : World) :
    Calls Tryz.prog 102 #[.agg #[.int .i64 d, .int .i64 i], .agg #[.int .i64 e, .int .i64 j]] w fun en w' => en = .returned (.bool (aheadA d i e j)) ∧ Below w.heap.size w w' := by
  obtain ⟨o1, o2, hb⟩ := two_objs w #[.int .i64 d, .int .i64 i] #[.int .i64 e, .int .i64 j] 33 33
  have u0 := o1.cell 0 rfl; have u1 := o1.cell 1 rfl
  have v0 := o2.cell 0 rfl; have v1 := o2.cell 1 rfl
  clear o1 o2
  unfold aheadA
  by_cases h1 : d = e
  · have e1 : (d != e) = false := by rw [h1]; simp
    have e2 : (d == e) = true := beq_iff_eq.2 h1
    rw [if_neg (by simp [h1])]
    clear h1
    go_enter Tryz.func102, Tryz.ntmps102
    go_wp2
    go_ret
    exact ⟨rfl, hb⟩
  · have e1 : (d != e) = true := by simp [h1]
    have e2 : (d == e) = false := beq_eq_false_iff_ne.2 h1
    rw [if_pos h1]
    clear h1
    go_enter Tryz.func102, Tryz.ntmps102
    go_wp2
    go_ret
    exact ⟨rfl, hb⟩
set_option maxRecDepth 100000 in
theorem refDLessC (x y : DotN) (w : World) :
    Calls Tryz.prog 101 #[.agg #[.int .i64 x.dev, .int .i64 x.inc, .int .i64 x.seq], .agg #[.int .i64 y.dev, .int .i64 y.inc, .int .i64 y.seq]] w fun e w' => e = .returned (.bool (lessD x y)) ∧ Below w.heap.size w w' := by
  obtain ⟨o1, o2, hb⟩ := two_objs w #[.int .i64 x.dev, .int .i64 x.inc, .int .i64 x.seq] #[.int .i64 y.dev, .int .i64 y.inc, .int .i64 y.seq] 35 35
  have u0 := o1.cell 0 rfl; have u1 := o1.cell 1 rfl; have u2 := o1.cell 2 rfl
  have v0 := o2.cell 0 rfl; have v1 := o2.cell 1 rfl; have v2 := o2.cell 2 rfl
  have HA := fun v => refAheadAC x.dev x.inc y.dev y.inc v
  have hE := fun v => eqActor x.dev x.inc y.dev y.inc v
  clear o1 o2
  unfold lessD
  by_cases h1 : x.dev = y.dev ∧ x.inc = y.inc
  · rw [if_pos h1]
    have e1 : (x.dev == y.dev && x.inc == y.inc) = true := by rw [h1.1, h1.2]; simp
    simp only [e1] at hE
    clear h1 e1 HA
    go_enter Tryz.func101, Tryz.ntmps101
    go_wp2
    go_ret
    exact ⟨rfl, hb⟩
  · rw [if_neg h1]
    have e1 : (x.dev == y.dev && x.inc == y.inc) = false := by rw [Bool.eq_false_iff]; intro c; rw [Bool.and_eq_true, beq_iff_eq, beq_iff_eq] at c; exact h1 c
    simp only [e1] at hE
    clear h1 e1
    go_enter Tryz.func101, Tryz.ntmps101
    go_wp2_with (go_at_call 102; (with_reducible refine (HA _).mono ?_); rintro e w1 ⟨rfl, hx⟩; have hb := hb.trans (hx.mono hb.size))
    go_ret
    exact ⟨rfl, hb⟩
theorem row_back {α : Type} {enc : α → List Value} {z : Nat} {w : World} {g off : Nat} {len cap : Nat} {P : List α} (h : RowOf enc z w (some ⟨g, off, none⟩) len cap P) (k : Nat) (hk : k ≤ len) (o : Nat) (ho : k < len → o = off + k * z) : RowOf enc z w (some ⟨g, o, none⟩) (len - k) (cap - k) (P.drop k) := by
  have h1 := h.cle
  have h2 := h.capm
  have h3 := h.leq
  refine ⟨by rw [List.length_drop, h3], by omega, by omega, (fun c => by cases c), fun i x hx => ?_⟩
  have hlt : k + i < P.length := by
    have := (List.getElem?_eq_some_iff.1 hx).1
    rw [List.length_drop] at this
    omega
  rw [List.getElem?_drop] at hx
  obtain ⟨g', off', e, hc⟩ := h.at_ (k + i) x hx
  cases e
  refine ⟨g, o, rfl, fun j v hv => ?_⟩
  have := hc j v hv
  rw [ho (by omega)]
  rw [Nat.add_mul] at this
  have e2 : off + k * z + i * z + j = off + (k * z + i * z) + j := by omega
  rw [e2]
  exact this
def foldM (l : List EventN) : MapN := l.foldl (fun m e => (applyM m e).1) MapN.none
theorem apply_len {m : MapN} (e : EventN) : (applyM m e).1.kept.length ≤ m.kept.length + 1 := by
  unfold applyM
  repeat' split
  · exact Nat.le_succ _
  · exact Nat.le_succ _
  · exact Nat.le_succ _
  · exact Nat.le_succ _
  · exact Nat.le_of_eq (insE_length _ _)
end Go.Proofs.YtaodjnkjjmhecaaGreatDoor
namespace Go.Proofs.YtaodjnkjjmhecaaGreatDoor
open Go.RowKit
set_option linter.unusedVariables false
set_option linter.unusedSimpArgs false
theorem frontR_is {l : List EvR} {d : DotN} {K : Nat} (h : ∀ (j : Nat) (y : EvR), j < K → l[j]? = some y → lessD y.e.dot d = true) (hK : K ≤ l.length) (hs : K = l.length ∨ ∃ y, l[K]? = some y ∧ lessD y.e.dot d = false) : frontR l d = K := by
  unfold frontR
  rcases hs with rfl | ⟨y, hy, hl⟩
  · rw [List.findIdx_eq_length]
    intro x hx
    obtain ⟨j, hj, e⟩ := List.getElem_of_mem hx
    have := h j x hj (by rw [List.getElem?_eq_getElem hj, e])
    simp [this]
  · obtain ⟨hlt, e⟩ := List.getElem?_eq_some_iff.1 hy
    rw [List.findIdx_eq hlt]
    refine ⟨by rw [e]; simp [hl], fun j hj => ?_⟩
    have := h j _ hj (List.getElem?_eq_getElem (by omega))
    simp [this]
set_option maxHeartbeats 4000000 in
set_option maxRecDepth 100000 in
theorem refPutEC (al : Option Addr) (n c : Nat) (P : List EvR) (r : EvR) (A : Array Value) (hA : (encE r).toArray = A) (w : World) (hP : RowOf encE 19 w al n c P) (hn : n ≤ 100000) :
    Calls Tryz.prog 65 #[.slice al n c, .agg A] w (GivesR (insR P r) w) := by
  obtain ⟨i0, hi, hz0, hz1, hz2⟩ := info_parts infoEvent
  have zA : A.size = 19 := by rw [← hA]; rfl
  have lA : A.toList = encE r := by rw [← hA]
  have hfold : Array.foldl (fun cs x => cs.setIfInBounds x.snd x.fst) (#[.int .i64 0, .int .i64 0, .int .i64 0, .int .i64 0, .int .i64 0, .int .i64 0, .int .i64 0, .string ⟨#[]⟩, .string ⟨#[]⟩, .string ⟨#[]⟩, .string ⟨#[]⟩, .bool false, .bool false, .bool false, .bool false, .int .i64 0, .int .i64 0, .int .i64 0, .slice none 0 0] : Array Value) A.zipIdx 0 19 = A := foldSet A _ 19 zA rfl
  have hleq := hP.leq
  have hcl := hP.cle
  have hcm := hP.capm
  unfold maxLen at hcm
  have o1 := ObjAt.new w A 43
  have b1 := below_alloc w (.cells A 43)
  have hlt1 := o1.lt
  have hRw := fun v (hv : Below w.heap.size w v) => hP.below hv
  unfold GivesR
  clear hP
  go_enter Tryz.func65, Tryz.ntmps65
  go_wp2
  go_loopw [5] (fun kv wr => ∃ K : Nat, K ≤ n ∧ kv = .int .i64 (K : Int) ∧ Hid (∀ (j : Nat) (y : EvR), j < K → P[j]? = some y → lessD y.e.dot r.e.dot = true) ∧ Below (w.heap.size + 1) (w.alloc (.cells A 43)) wr) (fun kv _ => n - (intOf kv).toNat)
  case atStart => exact ⟨0, Nat.zero_le _, rfl, fun j y hj => absurd hj (Nat.not_lt_zero _), Below.refl _ _⟩
  case round =>
    obtain ⟨K, hK, rfl, hs, hB⟩ := hrel
    have hb := b1.trans (hB.mono (Nat.le_succ _))
    have hKc : K ≤ c := Nat.le_trans hK hcl
    have hws : w.heap.size + 1 ≤ wr.heap.size := Nat.le_trans hlt1 hB.size
    by_cases h0 : K < n
    · have hlt' : (K : Int) < (n : Int) := by omega
      have hd' : decide ((K : Int) < (n : Int)) = true := decide_eq_true hlt'
      have i1 : (0 : Int) ≤ (K : Int) := by omega
      obtain ⟨y, g1, f1, A1, hy, rfl, hA1, zA1, lA1, cA1, kA1⟩ := evr_at (hRw _ hb) K h0
      have HL := fun v => refDLessC y.e.dot r.e.dot v
      have hS0 : ∀ w', Below wr.heap.size wr w' → w'.cell? ⟨g1, f1 + K * 19, none⟩ = some (.int .i64 y.e.dot.dev) ∧ w'.cell? ⟨g1, f1 + K * 19 + 1, none⟩ = some (.int .i64 y.e.dot.inc) ∧ w'.cell? ⟨g1, f1 + K * 19 + 2, none⟩ = some (.int .i64 y.e.dot.seq) ∧ w'.cell? ⟨w.heap.size, 0, none⟩ = some (.int .i64 r.e.dot.dev) ∧ w'.cell? ⟨w.heap.size, 1, none⟩ = some (.int .i64 r.e.dot.inc) ∧ w'.cell? ⟨w.heap.size, 2, none⟩ = some (.int .i64 r.e.dot.seq) := fun w' h => by
        have c1 := kA1 w' h
        have o2 := o1.below (hB.trans (h.mono hws)) (Nat.lt_succ_self _)
        rw [lA] at o2
        rw [lA1] at c1
        exact ⟨c1 0 _ rfl, c1 1 _ rfl, c1 2 _ rfl, o2.cell 0 rfl, o2.cell 1 rfl, o2.cell 2 rfl⟩
      have hdr : Below wr.heap.size wr wr.drew := (Below.refl _ wr).drew
      clear cA1 kA1 hA1 zA1 lA1
      cases hab : lessD y.e.dot r.e.dot with
      | true =>
        simp only [hab] at HL
        have hnext : Hid (∀ (j : Nat) (z : EvR), j < K + 1 → P[j]? = some z → lessD z.e.dot r.e.dot = true) := fun j z hj hz => by
          by_cases e : j = K
          · subst e
            rw [hy] at hz
            cases hz
            exact hab
          · exact hs.out j z (by omega) hz
        clear hs hab hy
        go_wp2_with fail
        go_region_held3 (fun w' => w'.cell? ⟨g1, f1 + K * 19, none⟩ = some (.int .i64 y.e.dot.dev) ∧ w'.cell? ⟨g1, f1 + K * 19 + 1, none⟩ = some (.int .i64 y.e.dot.inc) ∧ w'.cell? ⟨g1, f1 + K * 19 + 2, none⟩ = some (.int .i64 y.e.dot.seq) ∧ w'.cell? ⟨w.heap.size, 0, none⟩ = some (.int .i64 r.e.dot.dev) ∧ w'.cell? ⟨w.heap.size, 1, none⟩ = some (.int .i64 r.e.dot.inc) ∧ w'.cell? ⟨w.heap.size, 2, none⟩ = some (.int .i64 r.e.dot.seq))
          (first | exact hS0 _ hdr | exact hS0 _ (hdr.trans hx))
          (first | (go_at_call 101; (with_reducible refine (HL _).mono ?_); rintro e w3 ⟨rfl, hx⟩))
        all_goals (
          go_wp2_with fail
          go_roundw
          case rel => exact ⟨K + 1, by omega, by go_num, hnext, hB.trans ((hdr.trans hx).mono hws)⟩
          case measure => simp [intOf]; omega)
      | false =>
        simp only [hab] at HL
        have hfr := Lib.hid (frontR_is hs.out (by omega) (.inr ⟨y, hy, hab⟩))
        clear hs hab hy
        go_wp2_with fail
        go_region_held3 (fun w' => w'.cell? ⟨g1, f1 + K * 19, none⟩ = some (.int .i64 y.e.dot.dev) ∧ w'.cell? ⟨g1, f1 + K * 19 + 1, none⟩ = some (.int .i64 y.e.dot.inc) ∧ w'.cell? ⟨g1, f1 + K * 19 + 2, none⟩ = some (.int .i64 y.e.dot.seq) ∧ w'.cell? ⟨w.heap.size, 0, none⟩ = some (.int .i64 r.e.dot.dev) ∧ w'.cell? ⟨w.heap.size, 1, none⟩ = some (.int .i64 r.e.dot.inc) ∧ w'.cell? ⟨w.heap.size, 2, none⟩ = some (.int .i64 r.e.dot.seq))
          (first | exact hS0 _ hdr | exact hS0 _ (hdr.trans hx))
          (first | (go_at_call 101; (with_reducible refine (HL _).mono ?_); rintro e w3 ⟨rfl, hx⟩))
        all_goals (
          have hB3 := hB.trans ((hdr.trans hx).mono hws)
          clear hS0 hdr HL
          go_wp2_with fail
          refine wp_some (fun wd => Below (w.heap.size + 1) (w.alloc (.cells A 43)) wd) hB3 ?_
          clear hB3 hx hB hb hws
          rintro wd hBd
          have hbd := b1.trans (hBd.mono (Nat.le_succ _))
          have hBox : ∀ w', Below wd.heap.size wd w' → ObjAt w' w.heap.size A.toList := fun w' h => o1.below (hBd.trans (h.mono (Nat.le_trans hlt1 hBd.size))) (Nat.lt_succ_self _)
          have hRow : ∀ w', Below wd.heap.size wd w' → RowOf encE 19 w' (some ⟨g1, f1, none⟩) n c P := fun w' h => hRw w' (hbd.trans (h.mono hbd.size))
          obtain ⟨al, hal⟩ : ∃ al, (some ⟨g1, f1, none⟩ : Option Addr) = al := ⟨_, rfl⟩
          rw [hal] at hRow
          simp only [hal]
          refine wp_region_held_drew (S := fun w' => ObjAt w' (w.heap.size) A.toList) (by kernel_rfl) (hBox _ (Below.refl wd.heap.size wd).drew) (fun hHeld => ?_)
          have hd0 : Below wd.heap.size wd wd.drew := (Below.refl _ wd).drew
          generalize wd.drew = u0 at *
          first | (refine tR (i := 1) rfl rfl ?_) | (refine tL (i := 1) (v := ?vi1) rfl ?hyi1 ?ri1; case hyi1 => (rintro w' hS; go_simp; try with_reducible rfl))
          try simp only [gA, gB, gC, Act.put, gD, gE, gF]
          first | (refine tR (i := 2) rfl rfl ?_) | (refine tL (i := 2) (v := ?vi2) rfl ?hyi2 ?ri2; case hyi2 => (rintro w' hS; go_simp; try with_reducible rfl))
          try simp only [gA, gB, gC, Act.put, gD, gE, gF]
          refine wpAnyH_take (i := 3) rfl (by kernel_rfl) (by kernel_rfl) (by kernel_rfl) (fun _ _ _ h => h) (Or.inl ⟨by rfl, fun w' hS => execSliceFront 28 43 (.tmp 23) (.tmp 24) rfl al n c K 19 rfl rfl hKc Tryz.underlying28 Tryz.sizeOf43⟩) (by assumption) ?_
          try simp only [gA, gB, gC, Act.put, gD, gE, gF]
          refine wpAnyH_take (i := 5) rfl (by kernel_rfl) (by kernel_rfl) (by kernel_rfl) (fun _ _ _ h => h) (Or.inl ⟨by rfl, fun w' hS => execLoadAll 43 _ rfl (w.heap.size) 19 A rfl hS Tryz.isAgg43 Tryz.sizeOf43 zA⟩) (by assumption) ?_
          try simp only [gA, gB, gC, Act.put, gD, gE, gF]
          first | (refine tR (i := 8) rfl rfl ?_) | (refine tL (i := 8) (v := ?vi3) rfl ?hyi3 ?ri3; case hyi3 => (rintro w' hS; go_simp; try with_reducible rfl))
          try simp only [gA, gB, gC, Act.put, gD, gE, gF]
          first | (refine tR (i := 9) rfl rfl ?_) | (refine tL (i := 9) (v := ?vi4) rfl ?hyi4 ?ri4; case hyi4 => (rintro w' hS; go_simp; try with_reducible rfl))
          try simp only [gA, gB, gC, Act.put, gD, gE, gF]
          refine wpAnyH_take (i := 10) rfl (by kernel_rfl) (by kernel_rfl) (by kernel_rfl) (fun _ _ _ h => h) (Or.inl ⟨by rfl, fun w' hS => execSliceBack 28 43 (.tmp 30) (.tmp 31) rfl al n c K 19 rfl rfl hK Tryz.underlying28 Tryz.sizeOf43⟩) (by assumption) ?_
          try simp only [gA, gB, gC, Act.put, gD, gE, gF]
          refine wpAnyH_ready (rs := [0, 6]) (by kernel_rfl) (by simp) ?_
          refine AllReadyH.cons (o := _) rfl (fun K' hK' => ?_) (AllReadyH.cons (o := _) rfl (fun K' hK' => ?_) AllReadyH.nil)
          · go_simp
            have tb3 := below_alloc u0 (.cells #[] 43)
            have lt4 : u0.heap.size < (u0.alloc (.cells #[] 43)).heap.size := by simp
            have hb2 := hd0.trans (tb3.mono hd0.size)
            have ho5 := (OwnZ.lit encE 19 43 u0).base hd0.size
            refine hK'.out _ _ (hBox _ hb2) (fun hHeld => ?_)
            clear hK' K'
            try simp only [gA, gB, gC, Act.put, gD, gE, gF]
            generalize u0.alloc (.cells #[] 43) = u1 at *
            refine wpAnyH_ready (rs := [4, 6]) (by kernel_rfl) (by simp) ?_
            refine AllReadyH.cons (o := _) rfl (fun K' hK' => ?_) (AllReadyH.cons (o := _) rfl (fun K' hK' => ?_) AllReadyH.nil)
            · refine step_append_rows encE_len (by decide) encE_one (by rfl) (.tmp 22) (.tmp 25) 28 (by rfl) 43 i0 (.agg #[.int .i64 0, .int .i64 0, .int .i64 0, .int .i64 0, .int .i64 0, .int .i64 0, .int .i64 0, .string ⟨#[]⟩, .string ⟨#[]⟩, .string ⟨#[]⟩, .string ⟨#[]⟩, .bool false, .bool false, .bool false, .bool false, .int .i64 0, .int .i64 0, .int .i64 0, .slice none 0 0]) 176 Tryz.underlying28 hi hz0 hz1 hz2 rfl  ho5 rfl (row_front (hRow _ hb2) K hK) rfl K (by omega) (by unfold maxLen; omega) (by omega) hb2.size ?_
              intro qa9 ca10 u8 ho6 xg11 gg12 nn13
              have hb7 := hb2.trans xg11
              refine hK'.out _ _ (hBox _ hb7) (fun hHeld => ?_)
              clear hK' K'
              try simp only [gA, gB, gC, Act.put, gD, gE, gF]
              refine wpAnyH_ready (rs := [6]) (by kernel_rfl) (by simp) ?_
              refine AllReadyH.cons (o := _) rfl (fun K' hK' => ?_) AllReadyH.nil
              go_simp
              have tb16 := below_alloc u8 (.cells A 43)
              have lt17 : u8.heap.size < (u8.alloc (.cells A 43)).heap.size := by simp
              have hb15 := hb7.trans (tb16.mono hb7.size)
              have hx18 := (OwnZ.new encE_len [r] A (by simpa [flatC] using lA) 1 rfl (by unfold maxLen; omega) 43 u8).row encE_len
              have ho19 := ho6.below tb16 (Nat.le_refl _)
              refine hK'.out _ _ (hBox _ hb15) (fun hHeld => ?_)
              clear hK' K'
              try simp only [gA, gB, gC, Act.put, gD, gE, gF]
              generalize u8.alloc (.cells A 43) = u14 at *
              refine wpAnyH_ready (rs := [7]) (by kernel_rfl) (by simp) ?_
              refine AllReadyH.cons (o := _) rfl (fun K' hK' => ?_) AllReadyH.nil
              refine step_append_rows encE_len (by decide) encE_one (by rfl) (.tmp 26) (.tmp 28) 28 (by rfl) 43 i0 (.agg #[.int .i64 0, .int .i64 0, .int .i64 0, .int .i64 0, .int .i64 0, .int .i64 0, .int .i64 0, .string ⟨#[]⟩, .string ⟨#[]⟩, .string ⟨#[]⟩, .string ⟨#[]⟩, .bool false, .bool false, .bool false, .bool false, .int .i64 0, .int .i64 0, .int .i64 0, .slice none 0 0]) 176 Tryz.underlying28 hi hz0 hz1 hz2 rfl  ho19 rfl hx18 rfl (K + 1) rfl (by unfold maxLen; omega) (by omega) hb15.size ?_
              intro qa23 ca24 u22 ho20 xg25 gg26 nn27
              have hb21 := hb15.trans xg25
              refine hK'.out _ _ (hBox _ hb21) (fun hHeld => ?_)
              clear hK' K'
              try simp only [gA, gB, gC, Act.put, gD, gE, gF]
              refine wpAnyH_ready (rs := [11]) (by kernel_rfl) (by simp) ?_
              refine AllReadyH.cons (o := _) rfl (fun K' hK' => ?_) AllReadyH.nil
              refine step_append_rows encE_len (by decide) encE_one (by rfl) (.tmp 29) (.tmp 32) 28 (by rfl) 43 i0 (.agg #[.int .i64 0, .int .i64 0, .int .i64 0, .int .i64 0, .int .i64 0, .int .i64 0, .int .i64 0, .string ⟨#[]⟩, .string ⟨#[]⟩, .string ⟨#[]⟩, .string ⟨#[]⟩, .bool false, .bool false, .bool false, .bool false, .int .i64 0, .int .i64 0, .int .i64 0, .slice none 0 0]) 176 Tryz.underlying28 hi hz0 hz1 hz2 rfl  ho20 rfl (row_backA (hRow _ hb21) K hK) rfl (n + 1) (by omega) (by unfold maxLen; omega) (by omega) hb21.size ?_
              intro qa31 ca32 u30 ho28 xg33 gg34 nn35
              have hb29 := hb21.trans xg33
              refine hK'.out _ _ (hBox _ hb29) (fun hHeld => ?_)
              clear hK' K'
              try simp only [gA, gB, gC, Act.put, gD, gE, gF]
              first | (refine tR (i := 12) rfl rfl ?_) | (refine tL (i := 12) (v := ?vi5) rfl ?hyi5 ?ri5; case hyi5 => (rintro w' hS; go_simp; try with_reducible rfl))
              try simp only [gA, gB, gC, Act.put, gD, gE, gF]
              refine wpAnyH_done (by kernel_rfl) ?_ _
              have hbz := hbd.trans (hb29.mono hbd.size)
              have hlist : ((([] ++ P.take K) ++ [r]) ++ P.drop K) = insR P r := by unfold insR; rw [hfr.out]; simp
              have HLI := Lib.hid hlist
              clear hlist
              go_wp2
              go_ret
              exact ⟨qa31, n + 1, ca32, rfl, by rw [← HLI.out]; exact ho28.base hbd.size, hbz⟩
            · go_simp
              have tb38 := below_alloc u1 (.cells A 43)
              have lt39 : u1.heap.size < (u1.alloc (.cells A 43)).heap.size := by simp
              have hb37 := hb2.trans (tb38.mono hb2.size)
              have hx40 := (OwnZ.new encE_len [r] A (by simpa [flatC] using lA) 1 rfl (by unfold maxLen; omega) 43 u1).row encE_len
              have ho41 := ho5.below tb38 (Nat.le_refl _)
              refine hK'.out _ _ (hBox _ hb37) (fun hHeld => ?_)
              clear hK' K'
              try simp only [gA, gB, gC, Act.put, gD, gE, gF]
              generalize u1.alloc (.cells A 43) = u36 at *
              refine wpAnyH_ready (rs := [4]) (by kernel_rfl) (by simp) ?_
              refine AllReadyH.cons (o := _) rfl (fun K' hK' => ?_) AllReadyH.nil
              refine step_append_rows encE_len (by decide) encE_one (by rfl) (.tmp 22) (.tmp 25) 28 (by rfl) 43 i0 (.agg #[.int .i64 0, .int .i64 0, .int .i64 0, .int .i64 0, .int .i64 0, .int .i64 0, .int .i64 0, .string ⟨#[]⟩, .string ⟨#[]⟩, .string ⟨#[]⟩, .string ⟨#[]⟩, .bool false, .bool false, .bool false, .bool false, .int .i64 0, .int .i64 0, .int .i64 0, .slice none 0 0]) 176 Tryz.underlying28 hi hz0 hz1 hz2 rfl  ho41 rfl (row_front (hRow _ hb37) K hK) rfl K (by omega) (by unfold maxLen; omega) (by omega) hb37.size ?_
              intro qa45 ca46 u44 ho42 xg47 gg48 nn49
              have hb43 := hb37.trans xg47
              have hx50 := row_grown hx40 gg48 (fun z hz => by cases hz; intro y hy; cases hy; exact (Nat.ne_of_lt lt4))
              refine hK'.out _ _ (hBox _ hb43) (fun hHeld => ?_)
              clear hK' K'
              try simp only [gA, gB, gC, Act.put, gD, gE, gF]
              refine wpAnyH_ready (rs := [7]) (by kernel_rfl) (by simp) ?_
              refine AllReadyH.cons (o := _) rfl (fun K' hK' => ?_) AllReadyH.nil
              refine step_append_rows encE_len (by decide) encE_one (by rfl) (.tmp 26) (.tmp 28) 28 (by rfl) 43 i0 (.agg #[.int .i64 0, .int .i64 0, .int .i64 0, .int .i64 0, .int .i64 0, .int .i64 0, .int .i64 0, .string ⟨#[]⟩, .string ⟨#[]⟩, .string ⟨#[]⟩, .string ⟨#[]⟩, .bool false, .bool false, .bool false, .bool false, .int .i64 0, .int .i64 0, .int .i64 0, .slice none 0 0]) 176 Tryz.underlying28 hi hz0 hz1 hz2 rfl  ho42 rfl hx50 rfl (K + 1) rfl (by unfold maxLen; omega) (by omega) hb43.size ?_
              intro qa54 ca55 u53 ho51 xg56 gg57 nn58
              have hb52 := hb43.trans xg56
              refine hK'.out _ _ (hBox _ hb52) (fun hHeld => ?_)
              clear hK' K'
              try simp only [gA, gB, gC, Act.put, gD, gE, gF]
              refine wpAnyH_ready (rs := [11]) (by kernel_rfl) (by simp) ?_
              refine AllReadyH.cons (o := _) rfl (fun K' hK' => ?_) AllReadyH.nil
              refine step_append_rows encE_len (by decide) encE_one (by rfl) (.tmp 29) (.tmp 32) 28 (by rfl) 43 i0 (.agg #[.int .i64 0, .int .i64 0, .int .i64 0, .int .i64 0, .int .i64 0, .int .i64 0, .int .i64 0, .string ⟨#[]⟩, .string ⟨#[]⟩, .string ⟨#[]⟩, .string ⟨#[]⟩, .bool false, .bool false, .bool false, .bool false, .int .i64 0, .int .i64 0, .int .i64 0, .slice none 0 0]) 176 Tryz.underlying28 hi hz0 hz1 hz2 rfl  ho51 rfl (row_backA (hRow _ hb52) K hK) rfl (n + 1) (by omega) (by unfold maxLen; omega) (by omega) hb52.size ?_
              intro qa62 ca63 u61 ho59 xg64 gg65 nn66
              have hb60 := hb52.trans xg64
              refine hK'.out _ _ (hBox _ hb60) (fun hHeld => ?_)
              clear hK' K'
              try simp only [gA, gB, gC, Act.put, gD, gE, gF]
              first | (refine tR (i := 12) rfl rfl ?_) | (refine tL (i := 12) (v := ?vi6) rfl ?hyi6 ?ri6; case hyi6 => (rintro w' hS; go_simp; try with_reducible rfl))
              try simp only [gA, gB, gC, Act.put, gD, gE, gF]
              refine wpAnyH_done (by kernel_rfl) ?_ _
              have hbz := hbd.trans (hb60.mono hbd.size)
              have hlist : ((([] ++ P.take K) ++ [r]) ++ P.drop K) = insR P r := by unfold insR; rw [hfr.out]; simp
              have HLI := Lib.hid hlist
              clear hlist
              go_wp2
              go_ret
              exact ⟨qa62, n + 1, ca63, rfl, by rw [← HLI.out]; exact ho59.base hbd.size, hbz⟩
          · go_simp
            have tb69 := below_alloc u0 (.cells A 43)
            have lt70 : u0.heap.size < (u0.alloc (.cells A 43)).heap.size := by simp
            have hb68 := hd0.trans (tb69.mono hd0.size)
            have hx71 := (OwnZ.new encE_len [r] A (by simpa [flatC] using lA) 1 rfl (by unfold maxLen; omega) 43 u0).row encE_len
            refine hK'.out _ _ (hBox _ hb68) (fun hHeld => ?_)
            clear hK' K'
            try simp only [gA, gB, gC, Act.put, gD, gE, gF]
            generalize u0.alloc (.cells A 43) = u67 at *
            refine wpAnyH_ready (rs := [0]) (by kernel_rfl) (by simp) ?_
            refine AllReadyH.cons (o := _) rfl (fun K' hK' => ?_) AllReadyH.nil
            go_simp
            have tb74 := below_alloc u67 (.cells #[] 43)
            have lt75 : u67.heap.size < (u67.alloc (.cells #[] 43)).heap.size := by simp
            have hb73 := hb68.trans (tb74.mono hb68.size)
            have ho76 := (OwnZ.lit encE 19 43 u67).base hb68.size
            have hx77 := hx71.below tb74
            refine hK'.out _ _ (hBox _ hb73) (fun hHeld => ?_)
            clear hK' K'
            try simp only [gA, gB, gC, Act.put, gD, gE, gF]
            generalize u67.alloc (.cells #[] 43) = u72 at *
            refine wpAnyH_ready (rs := [4]) (by kernel_rfl) (by simp) ?_
            refine AllReadyH.cons (o := _) rfl (fun K' hK' => ?_) AllReadyH.nil
            refine step_append_rows encE_len (by decide) encE_one (by rfl) (.tmp 22) (.tmp 25) 28 (by rfl) 43 i0 (.agg #[.int .i64 0, .int .i64 0, .int .i64 0, .int .i64 0, .int .i64 0, .int .i64 0, .int .i64 0, .string ⟨#[]⟩, .string ⟨#[]⟩, .string ⟨#[]⟩, .string ⟨#[]⟩, .bool false, .bool false, .bool false, .bool false, .int .i64 0, .int .i64 0, .int .i64 0, .slice none 0 0]) 176 Tryz.underlying28 hi hz0 hz1 hz2 rfl  ho76 rfl (row_front (hRow _ hb73) K hK) rfl K (by omega) (by unfold maxLen; omega) (by omega) hb73.size ?_
            intro qa81 ca82 u80 ho78 xg83 gg84 nn85
            have hb79 := hb73.trans xg83
            have hx86 := row_grown hx77 gg84 (fun z hz => by cases hz; intro y hy; cases hy; exact (Nat.ne_of_gt lt70))
            refine hK'.out _ _ (hBox _ hb79) (fun hHeld => ?_)
            clear hK' K'
            try simp only [gA, gB, gC, Act.put, gD, gE, gF]
            refine wpAnyH_ready (rs := [7]) (by kernel_rfl) (by simp) ?_
            refine AllReadyH.cons (o := _) rfl (fun K' hK' => ?_) AllReadyH.nil
            refine step_append_rows encE_len (by decide) encE_one (by rfl) (.tmp 26) (.tmp 28) 28 (by rfl) 43 i0 (.agg #[.int .i64 0, .int .i64 0, .int .i64 0, .int .i64 0, .int .i64 0, .int .i64 0, .int .i64 0, .string ⟨#[]⟩, .string ⟨#[]⟩, .string ⟨#[]⟩, .string ⟨#[]⟩, .bool false, .bool false, .bool false, .bool false, .int .i64 0, .int .i64 0, .int .i64 0, .slice none 0 0]) 176 Tryz.underlying28 hi hz0 hz1 hz2 rfl  ho78 rfl hx86 rfl (K + 1) rfl (by unfold maxLen; omega) (by omega) hb79.size ?_
            intro qa90 ca91 u89 ho87 xg92 gg93 nn94
            have hb88 := hb79.trans xg92
            refine hK'.out _ _ (hBox _ hb88) (fun hHeld => ?_)
            clear hK' K'
            try simp only [gA, gB, gC, Act.put, gD, gE, gF]
            refine wpAnyH_ready (rs := [11]) (by kernel_rfl) (by simp) ?_
            refine AllReadyH.cons (o := _) rfl (fun K' hK' => ?_) AllReadyH.nil
            refine step_append_rows encE_len (by decide) encE_one (by rfl) (.tmp 29) (.tmp 32) 28 (by rfl) 43 i0 (.agg #[.int .i64 0, .int .i64 0, .int .i64 0, .int .i64 0, .int .i64 0, .int .i64 0, .int .i64 0, .string ⟨#[]⟩, .string ⟨#[]⟩, .string ⟨#[]⟩, .string ⟨#[]⟩, .bool false, .bool false, .bool false, .bool false, .int .i64 0, .int .i64 0, .int .i64 0, .slice none 0 0]) 176 Tryz.underlying28 hi hz0 hz1 hz2 rfl  ho87 rfl (row_backA (hRow _ hb88) K hK) rfl (n + 1) (by omega) (by unfold maxLen; omega) (by omega) hb88.size ?_
            intro qa98 ca99 u97 ho95 xg100 gg101 nn102
            have hb96 := hb88.trans xg100
            refine hK'.out _ _ (hBox _ hb96) (fun hHeld => ?_)
            clear hK' K'
            try simp only [gA, gB, gC, Act.put, gD, gE, gF]
            first | (refine tR (i := 12) rfl rfl ?_) | (refine tL (i := 12) (v := ?vi7) rfl ?hyi7 ?ri7; case hyi7 => (rintro w' hS; go_simp; try with_reducible rfl))
            try simp only [gA, gB, gC, Act.put, gD, gE, gF]
            refine wpAnyH_done (by kernel_rfl) ?_ _
            have hbz := hbd.trans (hb96.mono hbd.size)
            have hlist : ((([] ++ P.take K) ++ [r]) ++ P.drop K) = insR P r := by unfold insR; rw [hfr.out]; simp
            have HLI := Lib.hid hlist
            clear hlist
            go_wp2
            go_ret
            exact ⟨qa98, n + 1, ca99, rfl, by rw [← HLI.out]; exact ho95.base hbd.size, hbz⟩)
    · obtain rfl : K = n := by omega
      have hfr := Lib.hid (frontR_is hs.out (by omega) (.inl hleq.symm))
      have hd' : decide ((K : Int) < (K : Int)) = false := decide_eq_false (by omega)
      have hd2 : ¬ (K : Int) < (K : Int) := by omega
      clear hs
      go_wp2_with fail
      go_quiet (fail)
      go_wp2_with fail
      refine wp_some (fun wd => Below (w.heap.size + 1) (w.alloc (.cells A 43)) wd) (below_drawn2 hB _) ?_
      clear hB hb hws hd' hd2
      rintro wd hBd
      have hbd := b1.trans (hBd.mono (Nat.le_succ _))
      have hBox : ∀ w', Below wd.heap.size wd w' → ObjAt w' w.heap.size A.toList := fun w' h => o1.below (hBd.trans (h.mono (Nat.le_trans hlt1 hBd.size))) (Nat.lt_succ_self _)
      have hRow : ∀ w', Below wd.heap.size wd w' → RowOf encE 19 w' al K c P := fun w' h => hRw w' (hbd.trans (h.mono hbd.size))
      refine wp_region_held_drew (S := fun w' => ObjAt w' (w.heap.size) A.toList) (by kernel_rfl) (hBox _ (Below.refl wd.heap.size wd).drew) (fun hHeld => ?_)
      have hd0 : Below wd.heap.size wd wd.drew := (Below.refl _ wd).drew
      generalize wd.drew = u0 at *
      first | (refine tR (i := 1) rfl rfl ?_) | (refine tL (i := 1) (v := ?vi8) rfl ?hyi8 ?ri8; case hyi8 => (rintro w' hS; go_simp; try with_reducible rfl))
      try simp only [gA, gB, gC, Act.put, gD, gE, gF]
      first | (refine tR (i := 2) rfl rfl ?_) | (refine tL (i := 2) (v := ?vi9) rfl ?hyi9 ?ri9; case hyi9 => (rintro w' hS; go_simp; try with_reducible rfl))
      try simp only [gA, gB, gC, Act.put, gD, gE, gF]
      refine wpAnyH_take (i := 3) rfl (by kernel_rfl) (by kernel_rfl) (by kernel_rfl) (fun _ _ _ h => h) (Or.inl ⟨by rfl, fun w' hS => execSliceFront 28 43 (.tmp 23) (.tmp 24) rfl al K c K 19 rfl rfl hKc Tryz.underlying28 Tryz.sizeOf43⟩) (by assumption) ?_
      try simp only [gA, gB, gC, Act.put, gD, gE, gF]
      refine wpAnyH_take (i := 5) rfl (by kernel_rfl) (by kernel_rfl) (by kernel_rfl) (fun _ _ _ h => h) (Or.inl ⟨by rfl, fun w' hS => execLoadAll 43 _ rfl (w.heap.size) 19 A rfl hS Tryz.isAgg43 Tryz.sizeOf43 zA⟩) (by assumption) ?_
      try simp only [gA, gB, gC, Act.put, gD, gE, gF]
      first | (refine tR (i := 8) rfl rfl ?_) | (refine tL (i := 8) (v := ?vi10) rfl ?hyi10 ?ri10; case hyi10 => (rintro w' hS; go_simp; try with_reducible rfl))
      try simp only [gA, gB, gC, Act.put, gD, gE, gF]
      first | (refine tR (i := 9) rfl rfl ?_) | (refine tL (i := 9) (v := ?vi11) rfl ?hyi11 ?ri11; case hyi11 => (rintro w' hS; go_simp; try with_reducible rfl))
      try simp only [gA, gB, gC, Act.put, gD, gE, gF]
      refine wpAnyH_take (i := 10) rfl (by kernel_rfl) (by kernel_rfl) (by kernel_rfl) (fun _ _ _ h => h) (Or.inl ⟨by rfl, fun w' hS => execSliceBack 28 43 (.tmp 30) (.tmp 31) rfl al K c K 19 rfl rfl hK Tryz.underlying28 Tryz.sizeOf43⟩) (by assumption) ?_
      try simp only [gA, gB, gC, Act.put, gD, gE, gF]
      refine wpAnyH_ready (rs := [0, 6]) (by kernel_rfl) (by simp) ?_
      refine AllReadyH.cons (o := _) rfl (fun K' hK' => ?_) (AllReadyH.cons (o := _) rfl (fun K' hK' => ?_) AllReadyH.nil)
      · go_simp
        have tb3 := below_alloc u0 (.cells #[] 43)
        have lt4 : u0.heap.size < (u0.alloc (.cells #[] 43)).heap.size := by simp
        have hb2 := hd0.trans (tb3.mono hd0.size)
        have ho5 := (OwnZ.lit encE 19 43 u0).base hd0.size
        refine hK'.out _ _ (hBox _ hb2) (fun hHeld => ?_)
        clear hK' K'
        try simp only [gA, gB, gC, Act.put, gD, gE, gF]
        generalize u0.alloc (.cells #[] 43) = u1 at *
        refine wpAnyH_ready (rs := [4, 6]) (by kernel_rfl) (by simp) ?_
        refine AllReadyH.cons (o := _) rfl (fun K' hK' => ?_) (AllReadyH.cons (o := _) rfl (fun K' hK' => ?_) AllReadyH.nil)
        · refine step_append_rows encE_len (by decide) encE_one (by rfl) (.tmp 22) (.tmp 25) 28 (by rfl) 43 i0 (.agg #[.int .i64 0, .int .i64 0, .int .i64 0, .int .i64 0, .int .i64 0, .int .i64 0, .int .i64 0, .string ⟨#[]⟩, .string ⟨#[]⟩, .string ⟨#[]⟩, .string ⟨#[]⟩, .bool false, .bool false, .bool false, .bool false, .int .i64 0, .int .i64 0, .int .i64 0, .slice none 0 0]) 176 Tryz.underlying28 hi hz0 hz1 hz2 rfl  ho5 rfl (row_front (hRow _ hb2) K hK) rfl K (by omega) (by unfold maxLen; omega) (by omega) hb2.size ?_
          intro qa9 ca10 u8 ho6 xg11 gg12 nn13
          have hb7 := hb2.trans xg11
          refine hK'.out _ _ (hBox _ hb7) (fun hHeld => ?_)
          clear hK' K'
          try simp only [gA, gB, gC, Act.put, gD, gE, gF]
          refine wpAnyH_ready (rs := [6]) (by kernel_rfl) (by simp) ?_
          refine AllReadyH.cons (o := _) rfl (fun K' hK' => ?_) AllReadyH.nil
          go_simp
          have tb16 := below_alloc u8 (.cells A 43)
          have lt17 : u8.heap.size < (u8.alloc (.cells A 43)).heap.size := by simp
          have hb15 := hb7.trans (tb16.mono hb7.size)
          have hx18 := (OwnZ.new encE_len [r] A (by simpa [flatC] using lA) 1 rfl (by unfold maxLen; omega) 43 u8).row encE_len
          have ho19 := ho6.below tb16 (Nat.le_refl _)
          refine hK'.out _ _ (hBox _ hb15) (fun hHeld => ?_)
          clear hK' K'
          try simp only [gA, gB, gC, Act.put, gD, gE, gF]
          generalize u8.alloc (.cells A 43) = u14 at *
          refine wpAnyH_ready (rs := [7]) (by kernel_rfl) (by simp) ?_
          refine AllReadyH.cons (o := _) rfl (fun K' hK' => ?_) AllReadyH.nil
          refine step_append_rows encE_len (by decide) encE_one (by rfl) (.tmp 26) (.tmp 28) 28 (by rfl) 43 i0 (.agg #[.int .i64 0, .int .i64 0, .int .i64 0, .int .i64 0, .int .i64 0, .int .i64 0, .int .i64 0, .string ⟨#[]⟩, .string ⟨#[]⟩, .string ⟨#[]⟩, .string ⟨#[]⟩, .bool false, .bool false, .bool false, .bool false, .int .i64 0, .int .i64 0, .int .i64 0, .slice none 0 0]) 176 Tryz.underlying28 hi hz0 hz1 hz2 rfl  ho19 rfl hx18 rfl (K + 1) rfl (by unfold maxLen; omega) (by omega) hb15.size ?_
          intro qa23 ca24 u22 ho20 xg25 gg26 nn27
          have hb21 := hb15.trans xg25
          refine hK'.out _ _ (hBox _ hb21) (fun hHeld => ?_)
          clear hK' K'
          try simp only [gA, gB, gC, Act.put, gD, gE, gF]
          refine wpAnyH_ready (rs := [11]) (by kernel_rfl) (by simp) ?_
          refine AllReadyH.cons (o := _) rfl (fun K' hK' => ?_) AllReadyH.nil
          refine step_append_rows encE_len (by decide) encE_one (by rfl) (.tmp 29) (.tmp 32) 28 (by rfl) 43 i0 (.agg #[.int .i64 0, .int .i64 0, .int .i64 0, .int .i64 0, .int .i64 0, .int .i64 0, .int .i64 0, .string ⟨#[]⟩, .string ⟨#[]⟩, .string ⟨#[]⟩, .string ⟨#[]⟩, .bool false, .bool false, .bool false, .bool false, .int .i64 0, .int .i64 0, .int .i64 0, .slice none 0 0]) 176 Tryz.underlying28 hi hz0 hz1 hz2 rfl  ho20 rfl (row_back0 (hRow _ hb21)) rfl (K + 1) (by omega) (by unfold maxLen; omega) (by omega) hb21.size ?_
          intro qa31 ca32 u30 ho28 xg33 gg34 nn35
          have hb29 := hb21.trans xg33
          refine hK'.out _ _ (hBox _ hb29) (fun hHeld => ?_)
          clear hK' K'
          try simp only [gA, gB, gC, Act.put, gD, gE, gF]
          first | (refine tR (i := 12) rfl rfl ?_) | (refine tL (i := 12) (v := ?vi12) rfl ?hyi12 ?ri12; case hyi12 => (rintro w' hS; go_simp; try with_reducible rfl))
          try simp only [gA, gB, gC, Act.put, gD, gE, gF]
          refine wpAnyH_done (by kernel_rfl) ?_ _
          have hbz := hbd.trans (hb29.mono hbd.size)
          have hlist : ((([] ++ P.take K) ++ [r]) ++ P.drop K) = insR P r := by unfold insR; rw [hfr.out]; simp
          have HLI := Lib.hid hlist
          clear hlist
          go_wp2
          go_ret
          exact ⟨qa31, K + 1, ca32, rfl, by rw [← HLI.out]; exact ho28.base hbd.size, hbz⟩
        · go_simp
          have tb38 := below_alloc u1 (.cells A 43)
          have lt39 : u1.heap.size < (u1.alloc (.cells A 43)).heap.size := by simp
          have hb37 := hb2.trans (tb38.mono hb2.size)
          have hx40 := (OwnZ.new encE_len [r] A (by simpa [flatC] using lA) 1 rfl (by unfold maxLen; omega) 43 u1).row encE_len
          have ho41 := ho5.below tb38 (Nat.le_refl _)
          refine hK'.out _ _ (hBox _ hb37) (fun hHeld => ?_)
          clear hK' K'
          try simp only [gA, gB, gC, Act.put, gD, gE, gF]
          generalize u1.alloc (.cells A 43) = u36 at *
          refine wpAnyH_ready (rs := [4]) (by kernel_rfl) (by simp) ?_
          refine AllReadyH.cons (o := _) rfl (fun K' hK' => ?_) AllReadyH.nil
          refine step_append_rows encE_len (by decide) encE_one (by rfl) (.tmp 22) (.tmp 25) 28 (by rfl) 43 i0 (.agg #[.int .i64 0, .int .i64 0, .int .i64 0, .int .i64 0, .int .i64 0, .int .i64 0, .int .i64 0, .string ⟨#[]⟩, .string ⟨#[]⟩, .string ⟨#[]⟩, .string ⟨#[]⟩, .bool false, .bool false, .bool false, .bool false, .int .i64 0, .int .i64 0, .int .i64 0, .slice none 0 0]) 176 Tryz.underlying28 hi hz0 hz1 hz2 rfl  ho41 rfl (row_front (hRow _ hb37) K hK) rfl K (by omega) (by unfold maxLen; omega) (by omega) hb37.size ?_
          intro qa45 ca46 u44 ho42 xg47 gg48 nn49
          have hb43 := hb37.trans xg47
          have hx50 := row_grown hx40 gg48 (fun z hz => by cases hz; intro y hy; cases hy; exact (Nat.ne_of_lt lt4))
          refine hK'.out _ _ (hBox _ hb43) (fun hHeld => ?_)
          clear hK' K'
          try simp only [gA, gB, gC, Act.put, gD, gE, gF]
          refine wpAnyH_ready (rs := [7]) (by kernel_rfl) (by simp) ?_
          refine AllReadyH.cons (o := _) rfl (fun K' hK' => ?_) AllReadyH.nil
          refine step_append_rows encE_len (by decide) encE_one (by rfl) (.tmp 26) (.tmp 28) 28 (by rfl) 43 i0 (.agg #[.int .i64 0, .int .i64 0, .int .i64 0, .int .i64 0, .int .i64 0, .int .i64 0, .int .i64 0, .string ⟨#[]⟩, .string ⟨#[]⟩, .string ⟨#[]⟩, .string ⟨#[]⟩, .bool false, .bool false, .bool false, .bool false, .int .i64 0, .int .i64 0, .int .i64 0, .slice none 0 0]) 176 Tryz.underlying28 hi hz0 hz1 hz2 rfl  ho42 rfl hx50 rfl (K + 1) rfl (by unfold maxLen; omega) (by omega) hb43.size ?_
          intro qa54 ca55 u53 ho51 xg56 gg57 nn58
          have hb52 := hb43.trans xg56
          refine hK'.out _ _ (hBox _ hb52) (fun hHeld => ?_)
          clear hK' K'
          try simp only [gA, gB, gC, Act.put, gD, gE, gF]
          refine wpAnyH_ready (rs := [11]) (by kernel_rfl) (by simp) ?_
          refine AllReadyH.cons (o := _) rfl (fun K' hK' => ?_) AllReadyH.nil
          refine step_append_rows encE_len (by decide) encE_one (by rfl) (.tmp 29) (.tmp 32) 28 (by rfl) 43 i0 (.agg #[.int .i64 0, .int .i64 0, .int .i64 0, .int .i64 0, .int .i64 0, .int .i64 0, .int .i64 0, .string ⟨#[]⟩, .string ⟨#[]⟩, .string ⟨#[]⟩, .string ⟨#[]⟩, .bool false, .bool false, .bool false, .bool false, .int .i64 0, .int .i64 0, .int .i64 0, .slice none 0 0]) 176 Tryz.underlying28 hi hz0 hz1 hz2 rfl  ho51 rfl (row_back0 (hRow _ hb52)) rfl (K + 1) (by omega) (by unfold maxLen; omega) (by omega) hb52.size ?_
          intro qa62 ca63 u61 ho59 xg64 gg65 nn66
          have hb60 := hb52.trans xg64
          refine hK'.out _ _ (hBox _ hb60) (fun hHeld => ?_)
          clear hK' K'
          try simp only [gA, gB, gC, Act.put, gD, gE, gF]
          first | (refine tR (i := 12) rfl rfl ?_) | (refine tL (i := 12) (v := ?vi13) rfl ?hyi13 ?ri13; case hyi13 => (rintro w' hS; go_simp; try with_reducible rfl))
          try simp only [gA, gB, gC, Act.put, gD, gE, gF]
          refine wpAnyH_done (by kernel_rfl) ?_ _
          have hbz := hbd.trans (hb60.mono hbd.size)
          have hlist : ((([] ++ P.take K) ++ [r]) ++ P.drop K) = insR P r := by unfold insR; rw [hfr.out]; simp
          have HLI := Lib.hid hlist
          clear hlist
          go_wp2
          go_ret
          exact ⟨qa62, K + 1, ca63, rfl, by rw [← HLI.out]; exact ho59.base hbd.size, hbz⟩
      · go_simp
        have tb69 := below_alloc u0 (.cells A 43)
        have lt70 : u0.heap.size < (u0.alloc (.cells A 43)).heap.size := by simp
        have hb68 := hd0.trans (tb69.mono hd0.size)
        have hx71 := (OwnZ.new encE_len [r] A (by simpa [flatC] using lA) 1 rfl (by unfold maxLen; omega) 43 u0).row encE_len
        refine hK'.out _ _ (hBox _ hb68) (fun hHeld => ?_)
        clear hK' K'
        try simp only [gA, gB, gC, Act.put, gD, gE, gF]
        generalize u0.alloc (.cells A 43) = u67 at *
        refine wpAnyH_ready (rs := [0]) (by kernel_rfl) (by simp) ?_
        refine AllReadyH.cons (o := _) rfl (fun K' hK' => ?_) AllReadyH.nil
        go_simp
        have tb74 := below_alloc u67 (.cells #[] 43)
        have lt75 : u67.heap.size < (u67.alloc (.cells #[] 43)).heap.size := by simp
        have hb73 := hb68.trans (tb74.mono hb68.size)
        have ho76 := (OwnZ.lit encE 19 43 u67).base hb68.size
        have hx77 := hx71.below tb74
        refine hK'.out _ _ (hBox _ hb73) (fun hHeld => ?_)
        clear hK' K'
        try simp only [gA, gB, gC, Act.put, gD, gE, gF]
        generalize u67.alloc (.cells #[] 43) = u72 at *
        refine wpAnyH_ready (rs := [4]) (by kernel_rfl) (by simp) ?_
        refine AllReadyH.cons (o := _) rfl (fun K' hK' => ?_) AllReadyH.nil
        refine step_append_rows encE_len (by decide) encE_one (by rfl) (.tmp 22) (.tmp 25) 28 (by rfl) 43 i0 (.agg #[.int .i64 0, .int .i64 0, .int .i64 0, .int .i64 0, .int .i64 0, .int .i64 0, .int .i64 0, .string ⟨#[]⟩, .string ⟨#[]⟩, .string ⟨#[]⟩, .string ⟨#[]⟩, .bool false, .bool false, .bool false, .bool false, .int .i64 0, .int .i64 0, .int .i64 0, .slice none 0 0]) 176 Tryz.underlying28 hi hz0 hz1 hz2 rfl  ho76 rfl (row_front (hRow _ hb73) K hK) rfl K (by omega) (by unfold maxLen; omega) (by omega) hb73.size ?_
        intro qa81 ca82 u80 ho78 xg83 gg84 nn85
        have hb79 := hb73.trans xg83
        have hx86 := row_grown hx77 gg84 (fun z hz => by cases hz; intro y hy; cases hy; exact (Nat.ne_of_gt lt70))
        refine hK'.out _ _ (hBox _ hb79) (fun hHeld => ?_)
        clear hK' K'
        try simp only [gA, gB, gC, Act.put, gD, gE, gF]
        refine wpAnyH_ready (rs := [7]) (by kernel_rfl) (by simp) ?_
        refine AllReadyH.cons (o := _) rfl (fun K' hK' => ?_) AllReadyH.nil
        refine step_append_rows encE_len (by decide) encE_one (by rfl) (.tmp 26) (.tmp 28) 28 (by rfl) 43 i0 (.agg #[.int .i64 0, .int .i64 0, .int .i64 0, .int .i64 0, .int .i64 0, .int .i64 0, .int .i64 0, .string ⟨#[]⟩, .string ⟨#[]⟩, .string ⟨#[]⟩, .string ⟨#[]⟩, .bool false, .bool false, .bool false, .bool false, .int .i64 0, .int .i64 0, .int .i64 0, .slice none 0 0]) 176 Tryz.underlying28 hi hz0 hz1 hz2 rfl  ho78 rfl hx86 rfl (K + 1) rfl (by unfold maxLen; omega) (by omega) hb79.size ?_
        intro qa90 ca91 u89 ho87 xg92 gg93 nn94
        have hb88 := hb79.trans xg92
        refine hK'.out _ _ (hBox _ hb88) (fun hHeld => ?_)
        clear hK' K'
        try simp only [gA, gB, gC, Act.put, gD, gE, gF]
        refine wpAnyH_ready (rs := [11]) (by kernel_rfl) (by simp) ?_
        refine AllReadyH.cons (o := _) rfl (fun K' hK' => ?_) AllReadyH.nil
        refine step_append_rows encE_len (by decide) encE_one (by rfl) (.tmp 29) (.tmp 32) 28 (by rfl) 43 i0 (.agg #[.int .i64 0, .int .i64 0, .int .i64 0, .int .i64 0, .int .i64 0, .int .i64 0, .int .i64 0, .string ⟨#[]⟩, .string ⟨#[]⟩, .string ⟨#[]⟩, .string ⟨#[]⟩, .bool false, .bool false, .bool false, .bool false, .int .i64 0, .int .i64 0, .int .i64 0, .slice none 0 0]) 176 Tryz.underlying28 hi hz0 hz1 hz2 rfl  ho87 rfl (row_back0 (hRow _ hb88)) rfl (K + 1) (by omega) (by unfold maxLen; omega) (by omega) hb88.size ?_
        intro qa98 ca99 u97 ho95 xg100 gg101 nn102
        have hb96 := hb88.trans xg100
        refine hK'.out _ _ (hBox _ hb96) (fun hHeld => ?_)
        clear hK' K'
        try simp only [gA, gB, gC, Act.put, gD, gE, gF]
        first | (refine tR (i := 12) rfl rfl ?_) | (refine tL (i := 12) (v := ?vi14) rfl ?hyi14 ?ri14; case hyi14 => (rintro w' hS; go_simp; try with_reducible rfl))
        try simp only [gA, gB, gC, Act.put, gD, gE, gF]
        refine wpAnyH_done (by kernel_rfl) ?_ _
        have hbz := hbd.trans (hb96.mono hbd.size)
        have hlist : ((([] ++ P.take K) ++ [r]) ++ P.drop K) = insR P r := by unfold insR; rw [hfr.out]; simp
        have HLI := Lib.hid hlist
        clear hlist
        go_wp2
        go_ret
        exact ⟨qa98, K + 1, ca99, rfl, by rw [← HLI.out]; exact ho95.base hbd.size, hbz⟩
def LieIn (bc bk bd : Option Addr) (w w' : World) (ac ak ad : Option Addr) : Prop := ∀ k, (At ac k ∨ At ak k ∨ At ad k) → (At bc k ∨ At bk k ∨ At bd k) ∨ (w.heap.size ≤ k ∧ k < w'.heap.size)
theorem LieIn.same {w w' : World} {ac ak ad : Option Addr} : LieIn ac ak ad w w' ac ak ad := fun k h => .inl h
theorem LieIn.news {w w' : World} {bc bk bd ac ak ad : Option Addr} (h1 : ∀ k, At ac k → w.heap.size ≤ k ∧ k < w'.heap.size) (h2 : ∀ k, At ak k → w.heap.size ≤ k ∧ k < w'.heap.size) (h3 : ∀ k, At ad k → w.heap.size ≤ k ∧ k < w'.heap.size) : LieIn bc bk bd w w' ac ak ad := fun k hk => .inr (hk.elim (h1 k) fun hk => hk.elim (h2 k) (h3 k))
theorem objs3m (w : World) (A B C : Array Value) (a b c : TypeId) :
    ObjAt (((w.alloc (.cells A a)).alloc (.cells B b)).alloc (.cells C c)) w.heap.size A.toList ∧ ObjAt (((w.alloc (.cells A a)).alloc (.cells B b)).alloc (.cells C c)) (w.heap.size + 1) B.toList ∧ ObjAt (((w.alloc (.cells A a)).alloc (.cells B b)).alloc (.cells C c)) (w.heap.size + 1 + 1) C.toList ∧ Below w.heap.size w (((w.alloc (.cells A a)).alloc (.cells B b)).alloc (.cells C c)) := by
  obtain ⟨o1, o2, hb⟩ := objsE2 w A B a b
  have b3 := below_alloc ((w.alloc (.cells A a)).alloc (.cells B b)) (.cells C c)
  have o3 := ObjAt.new ((w.alloc (.cells A a)).alloc (.cells B b)) C c
  have hs : ((w.alloc (.cells A a)).alloc (.cells B b)).heap.size = w.heap.size + 1 + 1 := by simp
  rw [hs] at o3
  exact ⟨o1.below b3 o1.lt, o2.below b3 o2.lt, o3, hb.trans (b3.mono hb.size)⟩
end Go.Proofs.YtaodjnkjjmhecaaGreatDoor
namespace Go.Proofs.YtaodjnkjjmhecaaGreatDoor
open Go.RowKit
set_option linter.unusedVariables false
set_option maxRecDepth 100000 in
theorem refTRightC (s : StampN) (w : World) :
    Calls Tryz.prog 107 #[valT s] w fun e w' => e = .returned (.bool (rightT s)) ∧ Below w.heap.size w w' := by
  obtain ⟨a, b, d⟩ := s
  unfold valT rightT
  dsimp only
  have o1 := ObjAt.new w #[.int .i64 a, .int .i64 b, .int .i64 d] 37
  have hb := below_alloc w (.cells #[.int .i64 a, .int .i64 b, .int .i64 d] 37)
  have u0 := o1.cell 0 rfl; have u1 := o1.cell 1 rfl; have u2 := o1.cell 2 rfl
  clear o1
  by_cases q0 : 0 ≤ a
  · have d0 : decide (0 ≤ a) = true := decide_eq_true q0
    by_cases q1 : a ≤ 4398046511104
    · have d1 : decide (a ≤ 4398046511104) = true := decide_eq_true q1
      by_cases q2 : 0 ≤ b
      · have d2 : decide (0 ≤ b) = true := decide_eq_true q2
        by_cases q3 : b ≤ 65535
        · have d3 : decide (b ≤ 65535) = true := decide_eq_true q3
          by_cases q4 : 0 ≤ d
          · have d4 : decide (0 ≤ d) = true := decide_eq_true q4
            by_cases q5 : d ≤ 63
            · have d5 : decide (d ≤ 63) = true := decide_eq_true q5
              go_enter Tryz.func107, Tryz.ntmps107
              go_wp2
              go_ret
              exact ⟨by simp [*], hb⟩
            · have d5 : decide (d ≤ 63) = false := decide_eq_false q5
              go_enter Tryz.func107, Tryz.ntmps107
              go_wp2
              go_ret
              exact ⟨by simp [*], hb⟩
          · have d4 : decide (0 ≤ d) = false := decide_eq_false q4
            go_enter Tryz.func107, Tryz.ntmps107
            go_wp2
            go_ret
            exact ⟨by simp [*], hb⟩
        · have d3 : decide (b ≤ 65535) = false := decide_eq_false q3
          go_enter Tryz.func107, Tryz.ntmps107
          go_wp2
          go_ret
          exact ⟨by simp [*], hb⟩
      · have d2 : decide (0 ≤ b) = false := decide_eq_false q2
        go_enter Tryz.func107, Tryz.ntmps107
        go_wp2
        go_ret
        exact ⟨by simp [*], hb⟩
    · have d1 : decide (a ≤ 4398046511104) = false := decide_eq_false q1
      go_enter Tryz.func107, Tryz.ntmps107
      go_wp2
      go_ret
      exact ⟨by simp [*], hb⟩
  · have d0 : decide (0 ≤ a) = false := decide_eq_false q0
    go_enter Tryz.func107, Tryz.ntmps107
    go_wp2
    go_ret
    exact ⟨by simp [*], hb⟩
set_option maxRecDepth 100000 in
theorem refSplitC (l : List UInt8) (c : UInt8) (n : Nat) (w : World) (hl : l.length = n) (hm : n ≤ 1000000000000) :
    Calls Tryz.prog 207 #[.string (str l), .int .u8 (c.toNat : Int)] w (GivesStrs (splitL l c) w) := by
  have hsz : (str l).size = n := by rw [str_size, hl]
  have hx := str_extract l
  obtain ⟨i0, hi, hz0, hz1, hz2⟩ := info_parts infoStr
  have ht : (List.drop (splitK l c n).2 l).take (n - (splitK l c n).2) = l.drop (splitK l c n).2 := by rw [← hl, List.take_of_length_le (by simp)]
  have HT := Lib.hid ht
  have HS : Hid (splitL l c = (splitK l c n).1 ++ [l.drop (splitK l c n).2]) := by unfold splitL; rw [hl]; rfl
  have hown0 := owned_lit w 9
  have hbel0 := below_alloc w (.cells #[] 9)
  have HL := Lib.hid hl
  clear hl ht
  go_enter Tryz.func207, Tryz.ntmps207
  go_wp2
  go_loopw [5, 6, 7] (fun v s i wr => ∃ (k N : Nat) (a : Option Addr) (C : Nat), k ≤ n ∧ N ≤ k ∧ v = .slice a N C ∧ s = .int .i64 ((splitK l c k).2 : Int) ∧ i = .int .i64 (k : Int) ∧ Owned w.heap.size 9 a N C (strs (splitK l c k).1) wr ∧ Below w.heap.size w wr) (fun _ _ i _ => n - (intOf i).toNat)
  case atStart => exact ⟨0, 0, _, _, Nat.zero_le _, Nat.le_refl _, rfl, rfl, rfl, hown0, hbel0⟩
  case round =>
    clear hown0 hbel0
    obtain ⟨k, N, a, C, hk, hN, rfl, rfl, rfl, ho, hb⟩ := hrel
    have hle := (splitK_le l c k).2
    by_cases hlt : k < n
    · have hlt' : (k : Int) < (n : Int) := by omega
      have hix := run_index_str (P := Tryz.prog) wr 9 l .i64 k Tryz.underlying9 (by rw [HL.out]; exact hlt)
      have HK : Hid (splitK l c (k + 1) = if (l.getD k 0 == c) = true then ((splitK l c k).1 ++ [(l.drop (splitK l c k).2).take (k - (splitK l c k).2)], k + 1) else splitK l c k) := rfl
      have hcmp : (l.getD k 0 == c) = decide ((l.getD k 0).toNat = c.toNat) := by
        rw [Bool.eq_iff_iff, decide_eq_true_iff]
        simp only [beq_iff_eq]
        exact ⟨fun h => by rw [h], fun h => UInt8.toNat_inj.1 h⟩
      rw [hcmp] at HK
      clear hcmp
      have hcl := u8_lt c
      have hxl := u8_lt (l.getD k 0)
      generalize (l.getD k 0).toNat = x at *
      generalize splitK l c k = q at HK ho hle
      obtain ⟨p, s⟩ := q
      simp only [] at ho hle
      have HO := Lib.hid ho
      have hbs := hb.size
      have HB := Lib.hid hb
      clear ho hb
      by_cases hxc : x = c.toNat
      · have HK2 : Hid (splitK l c (k + 1) = (p ++ [(l.drop s).take (k - s)], k + 1)) := by have := HK.out; rw [if_pos (by simpa using hxc)] at this; exact this
        have hxc' : (x : Int) = (c.toNat : Int) := by omega
        have hxs := hx s k
        have hs' : (s : Int) ≤ (k : Int) := by omega
        have hkn : (k : Int) ≤ (n : Int) := by omega
        clear hx HK
        generalize (l.drop s).take (k - s) = y at HK2 hxs
        generalize c.toNat = cc at *
        subst hxc
        have hO := HO.out
        go_wp2_with (at_builtin; refine wpList_append_one rfl (.tmp 20) (.tmp 25) 235 rfl 9 i0 (.string ⟨#[]⟩) 16 Tryz.underlying235 hi hz0 hz1 hz2 rfl hO.1 rfl rfl rfl (by unfold maxLen; omega) (by omega) hbs ?_; intro v2 w2 ho2 hb2; obtain ⟨a2, c2, rfl, ho3⟩ := Owned.of ho2)
        rw [strs_snoc] at ho3
        go_roundw
        case rel => exact ⟨k + 1, N + 1, a2, c2, by omega, by omega, rfl, by rw [HK2.out]; go_num, by go_num, by rw [HK2.out]; exact ho3, HB.out.trans hb2⟩
        case measure => simp [intOf]; omega
      · have HK2 : Hid (splitK l c (k + 1) = (p, s)) := by have := HK.out; rw [if_neg (by simpa using hxc)] at this; exact this
        have hxc' : ¬ (x : Int) = (c.toNat : Int) := by omega
        clear HK
        generalize c.toNat = cc at *
        go_wp2
        go_roundw
        case rel => exact ⟨k + 1, N, a, C, by omega, by omega, rfl, by rw [HK2.out], by go_num, by rw [HK2.out]; exact HO.out, HB.out⟩
        case measure => simp [intOf]; omega
    · obtain rfl : k = n := by omega
      have HO := Lib.hid ho
      have hbs := hb.size
      have HB := Lib.hid hb
      have hT := HT.out
      clear ho hb HT
      generalize splitK l c k = q at *
      obtain ⟨p, s⟩ := q
      simp only [] at *
      have hxs := hx s k
      rw [hT] at hxs
      have hs' : (s : Int) ≤ (k : Int) := by omega
      have hO := HO.out
      clear hx hT
      generalize l.drop s = y at *
      go_wp2_with (at_builtin; refine wpList_append_one rfl (.tmp 29) (.tmp 33) 235 rfl 9 i0 (.string ⟨#[]⟩) 16 Tryz.underlying235 hi hz0 hz1 hz2 rfl hO.1 rfl rfl rfl (by unfold maxLen; omega) (by omega) hbs ?_; intro v2 w2 ho2 hb2; obtain ⟨a2, c2, rfl, ho3⟩ := Owned.of ho2)
      rw [strs_snoc] at ho3
      go_ret
      have hN : N + 1 = (splitL l c).length := by rw [HS.out, ← strs_length, ← ho3.len]
      rw [← HS.out] at ho3
      refine ⟨a2, c2, ?_, ?_, HB.out.trans hb2⟩
      · rw [← hN]; rfl
      · rw [← hN]; exact ho3
set_option maxRecDepth 100000 in
theorem refTrimC (l : List UInt8) (n : Nat) (w : World) (hl : l.length = n) (hm : n ≤ maxLen) :
    Calls Tryz.prog 177 #[.string (str l)] w fun e w' => e = .returned (.string (str (trimL l))) ∧ w = w' := by
  have hcut : (str l).extract (nb l) (max (nb l) (endB l n)) = str (trimL l) := by rw [str_extract, ← hl, trimL_max]
  have hsz : (str l).size = n := by rw [str_size, hl]
  unfold maxLen at hm
  have HL := Lib.hid hl
  have hF : nb l ≤ n := by rw [← hl]; exact nb_le l
  have HB := Lib.hid (fun k => @nb_lt l k)
  have HA := Lib.hid (@nb_at l)
  clear hl
  obtain ⟨tl, htl⟩ : ∃ tl, trimL l = tl := ⟨_, rfl⟩
  rw [htl] at hcut
  have HT := Lib.hid htl
  clear htl
  generalize nb l = F at *
  go_enter Tryz.func177, Tryz.ntmps177
  go_wp2
  go_loopw [3] (fun i wr => ∃ k : Nat, k ≤ F ∧ i = .int .i64 (k : Int) ∧ w = wr) (fun i _ => n - (intOf i).toNat)
  case atStart => exact ⟨0, Nat.zero_le _, rfl, rfl⟩
  case round =>
    obtain ⟨k, hk, rfl, rfl⟩ := hrel
    rcases (show k < F ∨ (k = F ∧ F < n) ∨ (k = F ∧ F = n) by omega) with hlt | ⟨rfl, hlt⟩ | ⟨rfl, rfl⟩
    · have hlt' : (k : Int) < (n : Int) := by omega
      have hi := run_index_str (P := Tryz.prog) w 9 l .i64 k Tryz.underlying9 (by rw [HL.out]; omega)
      have hbb := HB.out k hlt
      unfold blank at hbb
      simp only [Bool.or_eq_true, decide_eq_true_iff] at hbb
      clear hcut
      generalize (l.getD k 0).toNat = x at *
      rcases hbb with rfl | rfl
      · go_wp2
        go_roundw
        case rel => exact ⟨k + 1, by omega, by go_num, by first | rfl | trivial⟩
        case measure => simp [intOf]; omega
      · go_wp2
        go_roundw
        case rel => exact ⟨k + 1, by omega, by go_num, by first | rfl | trivial⟩
        case measure => simp [intOf]; omega
    · obtain ⟨F, hFk⟩ : ∃ F, k = F := ⟨_, rfl⟩
      subst hFk
      have hlt' : (k : Int) < (n : Int) := by omega
      have hi := run_index_str (P := Tryz.prog) w 9 l .i64 k Tryz.underlying9 (by rw [HL.out]; omega)
      have hbf := HA.out (by rw [HL.out]; exact hlt)
      have hbb := hbf
      unfold blank at hbb
      simp only [Bool.or_eq_false_iff, decide_eq_false_iff_not] at hbb
      obtain ⟨n1, n2⟩ := hbb
      clear HA HB hbf
      generalize (l.getD k 0).toNat = x at *
      have n1' : ((x : Int) == 32) = false := by simp; omega
      have n2' : ((x : Int) == 9) = false := by simp; omega
      clear n1 n2
      go_wp2
      go_loopw [4] (fun i wr => ∃ t : Nat, k ≤ t ∧ t ≤ n ∧ i = .int .i64 (t : Int) ∧ Hid (max k (endB l n) = max k (endB l t)) ∧ w = wr) (fun i _ => (intOf i).toNat)
      case atStart => exact ⟨n, by omega, Nat.le_refl _, rfl, rfl, rfl⟩
      case round =>
        obtain ⟨t, ht1, ht2, rfl, HM, rfl⟩ := hrel
        by_cases htf : k < t
        · obtain ⟨u, rfl⟩ : ∃ u, t = u + 1 := ⟨t - 1, by omega⟩
          have htf' : (k : Int) < (u : Int) + 1 := by omega
          have hiu := run_index_str (P := Tryz.prog) w 9 l .i64 u Tryz.underlying9 (by rw [HL.out]; omega)
          have hiu0 : ((u : Int) + 1) - 1 = (u : Int) := by omega
          have hyes := fun h => endB_step (l := l) (t := u) h
          have hno := fun h => endB_stop (l := l) (t := u) h
          by_cases hb : blank (l.getD u 0) = true
          · have HM2 : Hid (max k (endB l n) = max k (endB l u)) := by have := HM.out; rw [hyes hb] at this; exact this
            have hbb := hb
            unfold blank at hbb
            simp only [Bool.or_eq_true, decide_eq_true_iff] at hbb
            clear hyes hno hb HM
            generalize (l.getD u 0).toNat = x at *
            rcases hbb with rfl | rfl
            · go_wp2
              go_roundw
              case rel => exact ⟨u, by omega, by omega, by go_num, HM2.out, by first | rfl | trivial⟩
              case measure => simp [intOf]
            · go_wp2
              go_roundw
              case rel => exact ⟨u, by omega, by omega, by go_num, HM2.out, by first | rfl | trivial⟩
              case measure => simp [intOf]
          · have hbf : blank (l.getD u 0) = false := by simpa using hb
            have hend : max k (endB l n) = u + 1 := by rw [HM.out, hno hbf]; omega
            unfold blank at hb
            simp only [Bool.or_eq_true, decide_eq_true_iff] at hb
            clear hyes hno hbf HM
            rw [hend] at hcut
            generalize (l.getD u 0).toNat = x at *
            have n1 : ((x : Int) == 32) = false := by simp; omega
            have n2 : ((x : Int) == 9) = false := by simp; omega
            have hux : (u : Int) + 1 ≤ (n : Int) := by omega
            have hkx : (k : Int) ≤ (u : Int) + 1 := by omega
            clear hend
            go_wp2
            go_ret
            exact ⟨by rw [HT.out]; rfl, rfl⟩
        · obtain rfl : k = t := by omega
          have hend : max k (endB l n) = k := by rw [HM.out]; exact Nat.max_eq_left (endB_le l k)
          rw [hend, str_extract, Nat.sub_self, List.take_zero] at hcut
          have hnil := (str_inj hcut).symm
          subst hnil
          have hux : (k : Int) ≤ (n : Int) := by omega
          clear hend HM hcut
          go_wp2
          go_ret
          exact ⟨by rw [HT.out]; rfl, rfl⟩
    · clear HA HB
      have hnil : tl = [] := by
        rw [str_extract] at hcut
        have e0 : max k (endB l k) - k = 0 := by have := endB_le l k; omega
        rw [e0, List.take_zero] at hcut
        exact (str_inj hcut).symm
      subst hnil
      clear hcut
      go_wp2
      go_loopw [4] (fun i wr => i = .int .i64 (k : Int) ∧ w = wr) (fun _ _ => 0)
      case atStart => exact ⟨rfl, rfl⟩
      case round =>
        obtain ⟨rfl, rfl⟩ := hrel
        go_wp2
        go_ret
        exact ⟨by rw [HT.out]; rfl, rfl⟩
def findL (l : List UInt8) (c : UInt8) : Int := if l.findIdx (· == c) = l.length then -1 else (l.findIdx (· == c) : Int)
set_option maxRecDepth 100000 in
theorem refFindC (l : List UInt8) (c : UInt8) (n : Nat) (w : World) (hl : l.length = n) (hm : n ≤ maxLen) :
    Calls Tryz.prog 145 #[.string (str l), .int .u8 (c.toNat : Int)] w fun e w' => e = .returned (.int .i64 (findL l c)) ∧ w = w' := by
  have hsz : (str l).size = n := by rw [str_size, hl]
  unfold maxLen at hm
  have HL := Lib.hid hl
  clear hl
  go_enter Tryz.func145, Tryz.ntmps145
  go_wp2
  go_loopw [5] (fun i wr => ∃ k : Nat, k ≤ n ∧ i = .int .i64 (k : Int) ∧ Hid (∀ j, j < k → (l.getD j 0 == c) = false) ∧ w = wr) (fun i _ => n - (intOf i).toNat)
  case atStart => exact ⟨0, Nat.zero_le _, rfl, fun j hj => absurd hj (by omega), rfl⟩
  case round =>
    obtain ⟨k, hk, rfl, H, rfl⟩ := hrel
    by_cases hlt : k < n
    · have hlt' : (k : Int) < (n : Int) := by omega
      have hi := run_index_str (P := Tryz.prog) w 9 l .i64 k Tryz.underlying9 (by rw [HL.out]; omega)
      have hc := u8_lt c
      by_cases hx : l.getD k 0 = c
      · have HF := Lib.hid (findIdx_at (l := l) (p := (· == c)) H.out (by rw [HL.out]; exact hlt) (by simpa using hx))
        rw [hx] at hi
        generalize c.toNat = x at *
        go_wp2
        go_ret
        refine ⟨?_, rfl⟩
        unfold findL
        rw [HF.out, HL.out, if_neg (by omega)]
        rfl
      · have HN : Hid (∀ j, j < k + 1 → (l.getD j 0 == c) = false) := fun j hj => by
          rcases Nat.lt_succ_iff_lt_or_eq.1 hj with h | rfl
          · exact H.out j h
          · simpa using hx
        have hne : ((((l.getD k 0).toNat : Nat) : Int) == (c.toNat : Int)) = false := by
          simp only [beq_eq_false_iff_ne, ne_eq]
          intro h
          exact hx (UInt8.toNat_inj.1 (by omega))
        clear H hx
        generalize c.toNat = y at *
        generalize (l.getD k 0).toNat = x at *
        go_wp2
        go_roundw
        case rel => exact ⟨k + 1, by omega, by go_num, HN.out, by first | rfl | trivial⟩
        case measure => simp [intOf]; omega
    · obtain rfl : k = n := by omega
      have HE := Lib.hid (findIdx_end (l := l) (p := (· == c)) (by rw [HL.out]; exact H.out))
      go_wp2
      go_ret
      refine ⟨?_, rfl⟩
      unfold findL
      rw [HE.out, if_pos rfl]
      rfl
set_option maxRecDepth 100000 in
theorem refDigitsC (l : List UInt8) (n : Nat) (w : World) (hl : l.length = n) (hm : n ≤ maxLen) :
    Calls Tryz.prog 223 #[.string (str l)] w fun e w' => e = .returned (.int .i64 (lead l : Int)) ∧ w = w' := by
  have hsz : (str l).size = n := by rw [str_size, hl]
  unfold maxLen at hm
  have HL := Lib.hid hl
  have hle := lead_le l
  have HB := Lib.hid (fun k => @lead_lt l k)
  have HA := Lib.hid (@lead_at l)
  rw [hl] at hle
  clear hl
  obtain ⟨D, hD⟩ : ∃ D, lead l = D := ⟨_, rfl⟩
  rw [hD] at hle HB HA ⊢
  clear hD
  go_enter Tryz.func223, Tryz.ntmps223
  go_wp2
  go_loopw [3, 4] (fun v i wr => ∃ k : Nat, k ≤ n ∧ v = .int .i64 ((min k D : Nat) : Int) ∧ i = .int .i64 (k : Int) ∧ w = wr) (fun _ i _ => n - (intOf i).toNat)
  case atStart => exact ⟨0, Nat.zero_le _, by simp, rfl, rfl⟩
  case round =>
    obtain ⟨k, hk, rfl, rfl, rfl⟩ := hrel
    rcases (show k < D ∨ (k = D ∧ D < n) ∨ (D < k ∧ k < n) ∨ k = n by omega) with hlt | ⟨rfl, hlt⟩ | ⟨hgt, hlt⟩ | rfl
    · have hlt' : (k : Int) < (n : Int) := by omega
      have hi := run_index_str (P := Tryz.prog) w 9 l .i64 k Tryz.underlying9 (by rw [HL.out]; omega)
      obtain ⟨d1, d2⟩ := HB.out k hlt
      have e1 : min k D = k := by omega
      rw [e1]
      clear HA HB
      generalize (l.getD k 0).toNat = x at *
      have d1' : (48 : Int) ≤ (x : Int) := by omega
      have d2' : (x : Int) ≤ 57 := by omega
      go_wp2
      go_roundw
      case rel => exact ⟨k + 1, by omega, by rw [show min (k + 1) D = k + 1 by omega]; go_num, by go_num, by first | rfl | trivial⟩
      case measure => simp [intOf]; omega
    · have hlt' : (k : Int) < (n : Int) := by omega
      have hi := run_index_str (P := Tryz.prog) w 9 l .i64 k Tryz.underlying9 (by rw [HL.out]; omega)
      have hd := HA.out (by rw [HL.out]; exact hlt)
      rw [Nat.min_self]
      clear HA HB
      generalize (l.getD k 0).toNat = x at *
      by_cases d1 : 48 ≤ x
      · have d2 : ¬ (x : Int) ≤ 57 := by omega
        have d1' : (48 : Int) ≤ (x : Int) := by omega
        clear hd
        go_wp2
        go_roundw
        case rel => exact ⟨k + 1, by omega, by rw [show min (k + 1) k = k by omega], by go_num, by first | rfl | trivial⟩
        case measure => simp [intOf]; omega
      · have d1' : ¬ (48 : Int) ≤ (x : Int) := by omega
        clear hd
        go_wp2
        go_roundw
        case rel => exact ⟨k + 1, by omega, by rw [show min (k + 1) k = k by omega], by go_num, by first | rfl | trivial⟩
        case measure => simp [intOf]; omega
    · have hlt' : (k : Int) < (n : Int) := by omega
      have e1 : min k D = D := by omega
      rw [e1]
      have hne : ¬ (D : Int) = (k : Int) := by omega
      have hne2 : ((D : Int) == (k : Int)) = false := by simp; omega
      clear HA HB
      go_wp2
      go_roundw
      case rel => exact ⟨k + 1, by omega, by rw [show min (k + 1) D = D by omega], by go_num, by first | rfl | trivial⟩
      case measure => simp [intOf]; omega
    · have e1 : min k D = D := by omega
      rw [e1]
      go_wp2
      go_ret
      exact ⟨rfl, rfl⟩
set_option maxRecDepth 100000 in
theorem refControlC (l : List UInt8) (n : Nat) (w : World) (hl : l.length = n) (hm : n ≤ maxLen) :
    Calls Tryz.prog 176 #[.string (str l)] w fun e w' => e = .returned (.bool (l.any ctl)) ∧ w = w' := by
  have hsz : (str l).size = n := by rw [str_size, hl]
  unfold maxLen at hm
  have HL := Lib.hid hl
  clear hl
  obtain ⟨A, hA⟩ : ∃ A : Nat → Bool, ∀ k, A k = (l.take k).any ctl := ⟨fun k => (l.take k).any ctl, fun _ => rfl⟩
  have HA := Lib.hid hA
  have HR : Hid (l.any ctl = A n) := by unfold Hid; rw [hA, ← HL.out, List.take_of_length_le (Nat.le_refl _)]
  have h0 : A 0 = false := by rw [hA]; rfl
  clear hA
  go_enter Tryz.func176, Tryz.ntmps176
  go_wp2
  go_loopw [3, 4] (fun v i wr => ∃ k : Nat, k ≤ n ∧ v = .bool (A k) ∧ i = .int .i64 (k : Int) ∧ w = wr) (fun _ i _ => n - (intOf i).toNat)
  case atStart => exact ⟨0, Nat.zero_le _, by rw [h0], rfl, rfl⟩
  case round =>
    obtain ⟨k, hk, rfl, rfl, rfl⟩ := hrel
    by_cases hlt : k < n
    · have hlt' : (k : Int) < (n : Int) := by omega
      have hi := run_index_str (P := Tryz.prog) w 9 l .i64 k Tryz.underlying9 (by rw [HL.out]; omega)
      have HS : Hid (A (k + 1) = (A k || ctl (l.getD k 0))) := by
        unfold Hid
        rw [HA.out, HA.out, take_snoc (by rw [HL.out]; exact hlt), List.any_append]
        simp
      unfold ctl at HS
      clear HA
      generalize A k = t at *
      generalize (l.getD k 0).toNat = x at *
      rcases (show t = true ∨ (t = false ∧ x < 32 ∧ x ≠ 9) ∨ (t = false ∧ x = 9) ∨ (t = false ∧ 32 ≤ x ∧ x ≠ 127) ∨ (t = false ∧ x = 127) by cases t <;> simp <;> omega) with rfl | ⟨rfl, x1, x2⟩ | ⟨rfl, rfl⟩ | ⟨rfl, x1, x2⟩ | ⟨rfl, rfl⟩
      · have HS2 : Hid (A (k + 1) = true) := Lib.hid (by have := HS.out; simpa using this)
        clear HS
        go_wp2
        go_roundw
        case rel => exact ⟨k + 1, by omega, by rw [HS2.out], by go_num, by first | rfl | trivial⟩
        case measure => simp [intOf]; omega
      · have HS2 : Hid (A (k + 1) = true) := Lib.hid (by have := HS.out; rw [show decide (x < 32) = true by simpa using x1, show decide (x = 9) = false by simpa using x2] at this; simpa using this)
        have y1 : (x : Int) < 32 := by omega
        have y2 : ((x : Int) == 9) = false := by simp; omega
        have y3 : ¬ (x : Int) = 9 := by omega
        clear HS
        go_wp2
        go_roundw
        case rel => exact ⟨k + 1, by omega, by rw [HS2.out], by go_num, by first | rfl | trivial⟩
        case measure => simp [intOf]; omega
      · have HS2 : Hid (A (k + 1) = false) := Lib.hid (by have := HS.out; simpa using this)
        clear HS
        go_wp2
        go_roundw
        case rel => exact ⟨k + 1, by omega, by rw [HS2.out], by go_num, by first | rfl | trivial⟩
        case measure => simp [intOf]; omega
      · have HS2 : Hid (A (k + 1) = false) := Lib.hid (by have := HS.out; rw [show decide (x < 32) = false by simp; omega, show decide (x = 127) = false by simpa using x2] at this; simpa using this)
        have y1 : ¬ (x : Int) < 32 := by omega
        have y2 : ((x : Int) == 127) = false := by simp; omega
        clear HS
        go_wp2
        go_roundw
        case rel => exact ⟨k + 1, by omega, by rw [HS2.out], by go_num, by first | rfl | trivial⟩
        case measure => simp [intOf]; omega
      · have HS2 : Hid (A (k + 1) = true) := Lib.hid (by have := HS.out; simpa using this)
        clear HS
        go_wp2
        go_roundw
        case rel => exact ⟨k + 1, by omega, by rw [HS2.out], by go_num, by first | rfl | trivial⟩
        case measure => simp [intOf]; omega
    · obtain rfl : k = n := by omega
      go_wp2
      go_ret
      exact ⟨by rw [HR.out]; rfl, rfl⟩
theorem getD_drop (l : List UInt8) (F j : Nat) : (l.drop F).getD j 0 = l.getD (F + j) 0 := by simp [List.getD]
set_option maxRecDepth 100000 in
theorem refNumberC (l : List UInt8) (n : Nat) (w : World) (hl : l.length = n) (hm : n ≤ maxLen) :
    Calls Tryz.prog 224 #[.string (str l)] w fun e w' => e = .returned (.tuple #[.int .i64 (numL l).1, .bool (numL l).2]) ∧ w = w' := by
  have hsz : (str l).size = n := by rw [str_size, hl]
  have HL := Lib.hid hl
  unfold maxLen at hm
  unfold numL
  obtain ⟨b, hbb⟩ : ∃ b, body l = b := ⟨_, rfl⟩
  rw [hbb]
  obtain ⟨g, hg⟩ : ∃ g, signed l = g := ⟨_, rfl⟩
  cases g
  · rw [hg]
    obtain ⟨h0, h1⟩ := signed_no hg
    rw [hbb] at h1
    subst h1
    clear hg hbb hl
    obtain ⟨m, hmn⟩ : ∃ m, m = n := ⟨n, rfl⟩
    subst hmn
    have HB := HL
    have hb := HB.out
    have hex : (str b).extract 0 m = str b := by rw [str_extract, ← hb]; simp
    clear hb
    have hd := lead_le b
    rw [HB.out] at hd ⊢
    have HD := fun w => refDigitsC b m w HB.out (by unfold maxLen; omega)
    have hal := fun h => lead_all (l := b) h
    rw [HB.out] at hal
    rcases Nat.eq_zero_or_pos m with hm0 | hm0
    · rw [if_pos (.inl hm0)]
      subst hm0
      clear HD hal hd
      go_enter Tryz.func224, Tryz.ntmps224
      go_wp2
      go_ret2
      exact ⟨rfl, rfl⟩
    · skip
      have hi0 : (Instr.index 9 (.string (str b)) (.int .i64 0)).run Tryz.prog w = .ok (.int .u8 ((b.getD 0 0).toNat : Int)) w := run_index_str (P := Tryz.prog) w 9 b .i64 0 Tryz.underlying9 (by rw [HB.out]; omega)
      have hne0 : (b.getD 0 0).toNat ≠ 45 := by rcases h0 with h | h; exact absurd h (by rw [HB.out]; omega); exact h
      generalize (b.getD 0 0).toNat = x0 at hi0 hne0
      have hne1 : ((x0 : Int) == 45) = false := by simp; omega
      have hm1 : (0 : Int) < (m : Int) := by omega
      clear hne0 h0
      have hmne : ((m : Nat) : Int) ≠ 0 := by omega
      have hmne2 : (((m : Nat) : Int) == 0) = false := by simp; omega
      push_cast at hmne2
      generalize lead b = d at *
      by_cases hlt : d < m
      · rw [if_pos (.inr hlt)]
        have hlt' : (d : Int) < (m : Int) := by omega
        clear hal hmne
        go_enter Tryz.func224, Tryz.ntmps224
        go_wp2_with (go_at_call 223; (with_reducible refine (HD _).mono ?_); rintro e w2 ⟨rfl, rfl⟩)
        go_ret2
        exact ⟨rfl, rfl⟩
      · rw [if_neg (by omega)]
        obtain rfl : d = m := by omega
        have HA := Lib.hid (hal rfl)
        clear hal hlt hmne
        go_enter Tryz.func224, Tryz.ntmps224
        go_wp2_with (go_at_call 223; (with_reducible refine (HD _).mono ?_); rintro e w2 ⟨rfl, rfl⟩)
        go_loopw [5, 6] (fun v i wr => ∃ j : Nat, j ≤ d ∧ v = .int .i64 (numV (b.take j) : Int) ∧ i = .int .i64 (j : Int) ∧ w = wr) (fun _ i _ => d - (intOf i).toNat)
        case atStart => exact ⟨0, Nat.zero_le _, rfl, by simp, rfl⟩
        case round =>
          obtain ⟨j, hj, rfl, rfl, rfl⟩ := hrel
          clear HD
          by_cases hlt : j < d
          · have hlt' : (j : Int) < (d : Int) := by omega
            have hi : (Instr.index 9 (.string (str b)) (.int .i64 (j : Int))).run Tryz.prog w = .ok (.int .u8 ((b.getD j 0).toNat : Int)) w := run_index_str (P := Tryz.prog) w 9 b .i64 j Tryz.underlying9 (by rw [HL.out]; omega)
            obtain ⟨d1, d2⟩ := HA.out j hlt
            have HV := Lib.hid (numV_take (l := b) (k := j) (by rw [HB.out]; exact hlt))
            have hv := numV_le (b.take j)
            generalize numV (b.take j) = V at *
            generalize (b.getD j 0).toNat = x at *
            by_cases hc : V * 10 + x - 48 ≤ 1099511627776
            · have hc' : ¬ (1099511627776 : Int) < (V : Int) * 10 + (x : Int) - 48 := by omega
              go_wp2
              go_roundw
              case rel => exact ⟨j + 1, by omega, by rw [HV.out]; congr 1; omega, by go_num, by first | rfl | trivial⟩
              case measure => simp [intOf]; omega
            · have hc' : (1099511627776 : Int) < (V : Int) * 10 + (x : Int) - 48 := by omega
              go_wp2
              go_roundw
              case rel => exact ⟨j + 1, by omega, by rw [HV.out]; congr 1; omega, by go_num, by first | rfl | trivial⟩
              case measure => simp [intOf]; omega
          · obtain rfl : j = d := by omega
            have hv := numV_le b
            have e1 : b.take j = b := List.take_of_length_le (by rw [HB.out]; omega)
            rw [e1]
            obtain ⟨V, hV⟩ : ∃ V, numV b = V := ⟨_, rfl⟩
            rw [hV] at hv ⊢
            have HV := Lib.hid hV
            clear hV e1
            go_wp2
            go_ret2
            exact ⟨by rw [HV.out]; simp, rfl⟩
  · rw [hg]
    obtain ⟨h0, h1, h2⟩ := signed_yes hg
    rw [hbb] at h2
    subst h2
    obtain ⟨m, rfl⟩ : ∃ m, n = m + 1 := ⟨n - 1, by omega⟩
    have hex : (str l).extract 1 (m + 1) = str (l.drop 1) := by rw [str_extract, List.take_of_length_le]; simp; omega
    have hb : (l.drop 1).length = m := by simp; omega
    have HB := Lib.hid hb
    have HG : Hid (∀ j, (l.drop 1).getD j 0 = l.getD (j + 1) 0) := fun j => by rw [getD_drop, Nat.add_comm]
    have hi0 : (Instr.index 9 (.string (str l)) (.int .i64 0)).run Tryz.prog w = .ok (.int .u8 ((l.getD 0 0).toNat : Int)) w := run_index_str (P := Tryz.prog) w 9 l .i64 0 Tryz.underlying9 (by rw [HL.out]; omega)
    rw [h1] at hi0
    have hm1 : (0 : Int) < (m : Int) + 1 := by omega
    clear hl h0 hbb hg h1
    generalize l.drop 1 = b at *
    clear hb
    have hd := lead_le b
    rw [HB.out] at hd ⊢
    have HD := fun w => refDigitsC b m w HB.out (by unfold maxLen; omega)
    have hal := fun h => lead_all (l := b) h
    rw [HB.out] at hal
    rcases Nat.eq_zero_or_pos m with hm0 | hm0
    · rw [if_pos (.inl hm0)]
      subst hm0
      clear HD hal hd
      go_enter Tryz.func224, Tryz.ntmps224
      go_wp2
      go_ret2
      exact ⟨rfl, rfl⟩
    · skip
      have hmne : ((m + 1 : Nat) : Int) ≠ 1 := by omega
      have hmne2 : (((m + 1 : Nat) : Int) == 1) = false := by simp; omega
      push_cast at hmne2
      generalize lead b = d at *
      by_cases hlt : d < m
      · rw [if_pos (.inr hlt)]
        have hlt' : (d : Int) < (m : Int) := by omega
        clear hal hmne
        go_enter Tryz.func224, Tryz.ntmps224
        go_wp2_with (go_at_call 223; (with_reducible refine (HD _).mono ?_); rintro e w2 ⟨rfl, rfl⟩)
        go_ret2
        exact ⟨rfl, rfl⟩
      · rw [if_neg (by omega)]
        obtain rfl : d = m := by omega
        have HA := Lib.hid (hal rfl)
        clear hal hlt hmne
        go_enter Tryz.func224, Tryz.ntmps224
        go_wp2_with (go_at_call 223; (with_reducible refine (HD _).mono ?_); rintro e w2 ⟨rfl, rfl⟩)
        go_loopw [5, 6] (fun v i wr => ∃ j : Nat, j ≤ d ∧ v = .int .i64 (numV (b.take j) : Int) ∧ i = .int .i64 ((j : Int) + 1) ∧ w = wr) (fun _ i _ => d + 1 - (intOf i).toNat)
        case atStart => exact ⟨0, Nat.zero_le _, rfl, by simp, rfl⟩
        case round =>
          obtain ⟨j, hj, rfl, rfl, rfl⟩ := hrel
          clear HD
          by_cases hlt : j < d
          · have hlt' : (j : Int) < (d : Int) := by omega
            have hi : (Instr.index 9 (.string (str l)) (.int .i64 ((j : Int) + 1))).run Tryz.prog w = .ok (.int .u8 ((l.getD (j + 1) 0).toNat : Int)) w := run_index_str (P := Tryz.prog) w 9 l .i64 (j + 1) Tryz.underlying9 (by rw [HL.out]; omega)
            rw [← HG.out j] at hi
            obtain ⟨d1, d2⟩ := HA.out j hlt
            have HV := Lib.hid (numV_take (l := b) (k := j) (by rw [HB.out]; exact hlt))
            have hv := numV_le (b.take j)
            generalize numV (b.take j) = V at *
            generalize (b.getD j 0).toNat = x at *
            by_cases hc : V * 10 + x - 48 ≤ 1099511627776
            · have hc' : ¬ (1099511627776 : Int) < (V : Int) * 10 + (x : Int) - 48 := by omega
              go_wp2
              go_roundw
              case rel => exact ⟨j + 1, by omega, by rw [HV.out]; congr 1; omega, by go_num, by first | rfl | trivial⟩
              case measure => simp [intOf]; omega
            · have hc' : (1099511627776 : Int) < (V : Int) * 10 + (x : Int) - 48 := by omega
              go_wp2
              go_roundw
              case rel => exact ⟨j + 1, by omega, by rw [HV.out]; congr 1; omega, by go_num, by first | rfl | trivial⟩
              case measure => simp [intOf]; omega
          · obtain rfl : j = d := by omega
            have hv := numV_le b
            have e1 : b.take j = b := List.take_of_length_le (by rw [HB.out]; omega)
            rw [e1]
            obtain ⟨V, hV⟩ : ∃ V, numV b = V := ⟨_, rfl⟩
            rw [hV] at hv ⊢
            have HV := Lib.hid hV
            clear hV e1
            go_wp2
            go_ret2
            exact ⟨by rw [HV.out]; simp, rfl⟩
theorem refFindEqC (l : List UInt8) (n : Nat) (w : World) (hl : l.length = n) (hm : n ≤ maxLen) :
    Calls Tryz.prog 145 #[.string (str l), .int .u8 61] w fun e w' => e = .returned (.int .i64 (findL l 61)) ∧ w = w' := refFindC l 61 n w hl hm
set_option maxRecDepth 100000 in
theorem refTextNat (N : Nat) (w : World) (h1 : N ≤ 9223372036854775807) :
    Calls Tryz.prog 225 #[.int .i64 (N : Int)] w (GivesStr (Lib.decDigits N) w) := by
  have hlen := Lib.nDigits_le20 N (by omega)
  rw [← Lib.decDigits_length] at hlen
  have hn : ¬ (N : Int) < 0 := by omega
  go_enter Tryz.func225, Tryz.ntmps225
  go_wp2
  go_loopw [0, 3] (fun v s wr => ∃ (M : Nat) (l : List UInt8), M ≤ 9223372036854775807 ∧ v = .int .i64 (M : Int) ∧ s = .string (str l) ∧ Hid (Lib.decDigits N = Lib.decDigits M ++ l) ∧ Below w.heap.size w wr) (fun v _ _ => (intOf v).toNat)
  case atStart => exact ⟨N, [], h1, rfl, rfl, by unfold Hid; simp, Below.refl _ _⟩
  case round =>
    obtain ⟨M, l, hM, rfl, rfl, H, hb⟩ := hrel
    have HB := Lib.hid hb
    have hbs := hb.size
    clear hb
    have hll : l.length ≤ 20 := by have := congrArg List.length H.out; simp at this; omega
    by_cases h : M < 10
    · have hd := digit_toNat M h
      have hone := fun (w : World) v (hv : v = ((UInt8.ofNat (48 + M)).toNat : Int)) => one_back (P := Tryz.prog) w 253 9 5 (UInt8.ofNat (48 + M)) v hv Tryz.underlying253 Tryz.underlying5 Tryz.underlying9
      have h2 := hone wr (48 + (M : Int)) (by rw [hd]; push_cast; rfl)
      have ha := fun (w : World) (y : UInt8) => run_add_str (P := Tryz.prog) w [y] l (by simp; omega)
      have h' : ¬ (9 : Int) < (M : Int) := by omega
      have HH := Lib.hid H.out
      rw [Lib.decDigits_one h] at HH
      generalize UInt8.ofNat (48 + M) = y at *
      clear hone H
      have ha2 := fun w => ha w y
      clear ha
      go_wp2
      go_ret
      exact ⟨by rw [HH.out]; rfl, HB.out.alloc hbs _⟩
    · have hd := digit_toNat (M % 10) (by omega)
      have hone := fun (w : World) v (hv : v = ((UInt8.ofNat (48 + M % 10)).toNat : Int)) => one_back (P := Tryz.prog) w 253 9 5 (UInt8.ofNat (48 + M % 10)) v hv Tryz.underlying253 Tryz.underlying5 Tryz.underlying9
      have h2 := hone wr (48 + (M : Int) % 10) (by rw [hd]; push_cast; rfl)
      have ha := fun (w : World) (y : UInt8) => run_add_str (P := Tryz.prog) w [y] l (by simp; omega)
      have h' : (9 : Int) < (M : Int) := by omega
      have HH := Lib.hid H.out
      have hM2 : M / 10 ≤ 9223372036854775807 := by omega
      have hM3 : M / 10 < M := by omega
      rw [decDigits_snoc M h] at HH
      generalize UInt8.ofNat (48 + M % 10) = y at *
      clear hone H
      have ha2 := fun w => ha w y
      clear ha
      go_wp2
      go_roundw
      case rel => exact ⟨M / 10, [y] ++ l, hM2, by push_cast; rfl, rfl, by unfold Hid; rw [HH.out, List.append_assoc], HB.out.alloc hbs _⟩
      case measure => simp [intOf]; omega
theorem refTextOne (n : Int) (w : World) (h0 : n < 0) (h1 : -10 < n) :
    Calls Tryz.prog 225 #[.int .i64 n] w (GivesStr (Lib.itoa n) w) := by
  have HN := fun (w : World) (v : Int) (hv : v = (n.natAbs : Int)) => hv ▸ refTextNat n.natAbs w (by omega)
  have hi : Lib.itoa n = [45] ++ Lib.decDigits n.natAbs := by unfold Lib.itoa; rw [if_pos h0]; rfl
  have hlen := Lib.nDigits_le20 n.natAbs (by omega)
  rw [← Lib.decDigits_length] at hlen
  rw [hi]
  unfold GivesStr at *
  have hd : ({ data := #[45] } : ByteArray) = str [45] := rfl
  generalize Lib.decDigits n.natAbs = t at *
  have ha := fun (w : World) => run_add_str (P := Tryz.prog) w [45] t (by simp; omega)
  rw [← hd] at ha
  clear hd hi
  go_enter Tryz.func225, Tryz.ntmps225
  go_wp2_with (go_at_call 225; (with_reducible refine (HN _ _ (by omega)).mono ?_); rintro e w1 ⟨rfl, hb⟩)
  go_ret
  exact ⟨rfl, hb⟩
theorem refTextMany (n : Int) (w : World) (h0 : n ≤ -10) (h1 : -9223372036854775808 ≤ n)
    (ih : ∀ w, Calls Tryz.prog 225 #[.int .i64 (-((n.natAbs / 10 : Nat) : Int))] w (GivesStr (Lib.itoa (-((n.natAbs / 10 : Nat) : Int))) w)) :
    Calls Tryz.prog 225 #[.int .i64 n] w (GivesStr (Lib.itoa n) w) := by
  obtain ⟨a, rfl, ha⟩ : ∃ a : Nat, n = -(a : Int) ∧ 10 ≤ a := ⟨n.natAbs, by omega, by omega⟩
  have hna : (-(a : Int)).natAbs = a := by omega
  rw [hna] at ih
  have HD := fun (w : World) => refTextNat (a % 10) w (by omega)
  have hi : Lib.itoa (-(a : Int)) = Lib.itoa (-((a / 10 : Nat) : Int)) ++ Lib.decDigits (a % 10) := by
    unfold Lib.itoa
    rw [if_pos (by omega), if_pos (by omega), hna, decDigits_snoc a (by omega), Lib.decDigits_one (by omega : a % 10 < 10)]
    have : (-((a / 10 : Nat) : Int)).natAbs = a / 10 := by omega
    rw [this]
    rfl
  have hlen := Lib.itoa_length_le (-((a / 10 : Nat) : Int)) (by omega) (by omega)
  have hlen2 : (Lib.decDigits (a % 10)).length ≤ 1 := by rw [Lib.decDigits_one (by omega)]; simp
  rw [hi]
  unfold GivesStr at *
  generalize Lib.itoa (-((a / 10 : Nat) : Int)) = t at *
  generalize Lib.decDigits (a % 10) = u at *
  have hadd := fun (w : World) => run_add_str (P := Tryz.prog) w t u (by omega)
  clear hi hna
  push_cast at ih HD
  have b1 : -(a : Int) < 0 := by omega
  have b2 : ¬ -10 < -(a : Int) := by omega
  go_enter Tryz.func225, Tryz.ntmps225
  go_wp2_with (go_at_call 225; first | ((with_reducible refine (ih _).mono ?_); rintro e1 w1 ⟨rfl, hb1⟩) | ((with_reducible refine (HD _).mono ?_); rintro e2 w2 ⟨rfl, hb2⟩))
  go_ret
  exact ⟨rfl, hb1.trans (hb2.mono hb1.size)⟩
theorem refTextC (n : Int) (h0 : -9223372036854775808 ≤ n) (h1 : n ≤ 9223372036854775807) (w : World) :
    Calls Tryz.prog 225 #[.int .i64 n] w (GivesStr (Lib.itoa n) w) := by
  obtain ⟨k, hk⟩ : ∃ k, n.natAbs = k := ⟨_, rfl⟩
  induction k using Nat.strongRecOn generalizing n w with
  | ind k ih =>
    by_cases hn : 0 ≤ n
    · obtain ⟨N, rfl⟩ := Int.eq_ofNat_of_zero_le hn
      have := refTextNat N w (by omega)
      have e : Lib.itoa (N : Int) = Lib.decDigits N := by unfold Lib.itoa; rw [if_neg (by omega)]; rfl
      rw [e]
      exact this
    · by_cases h10 : -10 < n
      · exact refTextOne n w (by omega) h10
      · exact refTextMany n w (by omega) h0 fun w => ih (n.natAbs / 10) (by omega) _ (by omega) (by omega) w (by omega)
theorem refSplitDotC (l : List UInt8) (n : Nat) (w : World) (hl : l.length = n) (hm : n ≤ 1000000000000) :
    Calls Tryz.prog 207 #[.string (str l), .int .u8 46] w (GivesStrs (splitL l 46) w) := refSplitC l 46 n w hl hm
theorem refFindSemiC (l : List UInt8) (n : Nat) (w : World) (hl : l.length = n) (hm : n ≤ maxLen) :
    Calls Tryz.prog 145 #[.string (str l), .int .u8 59] w fun e w' => e = .returned (.int .i64 (findL l 59)) ∧ w = w' := refFindC l 59 n w hl hm
set_option maxRecDepth 100000 in
theorem refPlainC (s : List UInt8) (n : Nat) (w : World) (hs : s.length = n) (hm : n ≤ maxLen) :
    Calls Tryz.prog 144 #[.string (str s)] w fun e w' => e = .returned (.bool (plainB s)) ∧ w = w' := by
  have HC := fun w => refControlC s n w hs hm
  have HF := fun w => refFindSemiC s n w hs hm
  have HT := fun w => refTrimC s n w hs hm
  have hk := str_toList
  have hf : findL s 59 = if s.findIdx (· == 59) = s.length then -1 else (s.findIdx (· == 59) : Int) := rfl
  unfold plainB
  cases hc : s.any ctl with
  | true =>
    rw [hc] at HC
    clear hs hf
    go_enter Tryz.func144, Tryz.ntmps144
    go_wp2_with (go_at_call 176; (with_reducible refine (HC _).mono ?_); rintro e w1 ⟨rfl, rfl⟩)
    go_ret
    exact ⟨rfl, rfl⟩
  | false =>
    rw [hc] at HC
    by_cases h1 : s.findIdx (· == 59) = s.length
    · rw [if_pos h1] at hf
      rw [hf] at HF
      have k1 : (-1 : Int) < 0 := by decide
      rw [decide_eq_true h1]
      cases ht : trimL s == s with
      | true =>
        clear hs hf h1
        go_enter Tryz.func144, Tryz.ntmps144
        go_wp2_with (first
          | (go_at_call 176; (with_reducible refine (HC _).mono ?_); rintro e w1 ⟨rfl, rfl⟩)
          | (go_at_call 145; (with_reducible refine (HF _).mono ?_); rintro e w1 ⟨rfl, rfl⟩)
          | (go_at_call 177; (with_reducible refine (HT _).mono ?_); rintro e w1 ⟨rfl, rfl⟩))
        go_ret
        exact ⟨rfl, rfl⟩
      | false =>
        clear hs hf h1
        go_enter Tryz.func144, Tryz.ntmps144
        go_wp2_with (first
          | (go_at_call 176; (with_reducible refine (HC _).mono ?_); rintro e w1 ⟨rfl, rfl⟩)
          | (go_at_call 145; (with_reducible refine (HF _).mono ?_); rintro e w1 ⟨rfl, rfl⟩)
          | (go_at_call 177; (with_reducible refine (HT _).mono ?_); rintro e w1 ⟨rfl, rfl⟩))
        go_ret
        exact ⟨rfl, rfl⟩
    · rw [if_neg h1] at hf
      rw [hf] at HF
      rw [decide_eq_false h1]
      have k1 : ¬ ((s.findIdx (· == 59) : Nat) : Int) < 0 := by omega
      generalize s.findIdx (· == 59) = F at *
      clear hs hf h1
      go_enter Tryz.func144, Tryz.ntmps144
      go_wp2_with (first
        | (go_at_call 176; (with_reducible refine (HC _).mono ?_); rintro e w1 ⟨rfl, rfl⟩)
        | (go_at_call 145; (with_reducible refine (HF _).mono ?_); rintro e w1 ⟨rfl, rfl⟩))
      go_ret
      exact ⟨rfl, rfl⟩
theorem three_new (w : World) (A B C : Array Value) (a b c : TypeId) :
    ObjAt (((w.alloc (.cells A a)).alloc (.cells B b)).alloc (.cells C c)) w.heap.size A.toList ∧ ObjAt (((w.alloc (.cells A a)).alloc (.cells B b)).alloc (.cells C c)) (w.heap.size + 1) B.toList ∧
    ObjAt (((w.alloc (.cells A a)).alloc (.cells B b)).alloc (.cells C c)) (w.heap.size + 2) C.toList ∧ Below w.heap.size w (((w.alloc (.cells A a)).alloc (.cells B b)).alloc (.cells C c)) := by
  have s1 : (w.alloc (.cells A a)).heap.size = w.heap.size + 1 := by simp
  have s2 : ((w.alloc (.cells A a)).alloc (.cells B b)).heap.size = w.heap.size + 2 := by simp
  have o1 := ObjAt.new w A a
  have o2 := ObjAt.new (w.alloc (.cells A a)) B b
  have o3 := ObjAt.new ((w.alloc (.cells A a)).alloc (.cells B b)) C c
  have b1 := below_alloc w (.cells A a)
  have b2 := below_alloc (w.alloc (.cells A a)) (.cells B b)
  have b3 := below_alloc ((w.alloc (.cells A a)).alloc (.cells B b)) (.cells C c)
  have o1' := (o1.below b2 o1.lt).below b3 (o1.below b2 o1.lt).lt
  have o2' := o2.below b3 o2.lt
  rw [s1] at o2'
  rw [s2] at o3
  exact ⟨o1', o2', o3, (b1.trans (b2.mono b1.size)).trans (b3.mono (b1.trans (b2.mono b1.size)).size)⟩
theorem take_dead {P : List EvR} (hli : ∀ r ∈ P, lightE r.e = true) (hn : P.length ≤ 900) (k : Nat) : (runM MapN.none ((P.take k).map (·.e))).dead.length ≤ 100000 := by
  have hl : ((P.take k).map (·.e)).length ≤ 900 := by rw [List.length_map, List.length_take]; omega
  have := (GoodM.runs ((P.take k).map (·.e)) MapN.none 0 GoodM.none (by omega) (fun e he => by
    obtain ⟨r, hr, rfl⟩ := List.mem_map.1 he
    exact hli r (List.mem_of_mem_take hr))).dead
  omega
end Go.Proofs.YtaodjnkjjmhecaaGreatDoor
