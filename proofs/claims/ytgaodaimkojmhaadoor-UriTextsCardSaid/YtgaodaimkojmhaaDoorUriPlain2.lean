/- Addresses of requests in plain words: the text of a right request is parsed as it, with a port and a query behind it, too. No program in it. -/
import Derived.Test.YtgaodaimkojmhaaDoorUriPlain
namespace Go.Proofs.YtgaodaimkojmhaaDoor
open Go.RowKit
set_option linter.unusedVariables false

/-- What a canonical host's bytes are. -/
theorem canon_bytes {h : List UInt8} (hc : canonB h = true) : (∀ x ∈ h, x = 46 ∨ signB x = true) ∨ bracketB h = true := by
  unfold canonB addrB at hc
  rw [Bool.and_eq_true, Bool.or_eq_true, Bool.or_eq_true] at hc
  rcases hc.2 with h1 | h1 | h1
  · exact .inl (labels_sign (name_labels h1).2.2)
  · left
    intro x hx
    unfold quadB at h1
    rw [Bool.and_eq_true] at h1
    rw [← joinL_all h 46] at hx
    rcases mem_join 46 _ x hx with h2 | ⟨p, hp, hx⟩
    · exact .inl h2
    · right
      have ho := List.all_eq_true.1 h1.2 p hp
      unfold octetB at ho
      simp only [Bool.and_eq_true, decide_eq_true_iff] at ho
      obtain ⟨i, hi, rfl⟩ := List.getElem_of_mem hx
      have hd := lead_all ho.1.1.2 i hi
      simp only [List.getD, List.getElem?_eq_getElem hi, Option.getD_some] at hd
      unfold signB
      rw [decide_eq_true hd.1, decide_eq_true hd.2]
      simp
  · exact .inr h1

/-- A byte of a canonical host: it may be seen, is no capital, and ends no host. -/
def hostByte (x : UInt8) : Bool := seenB x && (low x == x) && !(([47, 63, 35] : List UInt8).contains x)

theorem byte_all (p : UInt8 → Bool) (h : ∀ n, n < 256 → p (UInt8.ofNat n) = true) (x : UInt8) : p x = true := by
  have := h x.toNat (u8_lt x)
  rwa [UInt8.ofNat_toNat] at this

theorem sign_host (x : UInt8) (h : signB x = true) : hostByte x = true ∧ x ≠ 58 ∧ x ≠ 91 := by
  have := byte_all (fun x => !signB x || (hostByte x && !(x == 58) && !(x == 91))) (by decide +kernel) x
  rw [h] at this
  simpa [Bool.and_eq_true, and_assoc] using this

theorem hex_host (x : UInt8) (h : hexB x = true) : hostByte x = true ∧ x ≠ 93 := by
  have := byte_all (fun x => !hexB x || (hostByte x && !(x == 93))) (by decide +kernel) x
  rw [h] at this
  simpa [Bool.and_eq_true] using this

/-- A bracketed address, part by part. -/
theorem bracket_split {h : List UInt8} (hb : bracketB h = true) : ∃ m, h = 91 :: (m ++ [93]) ∧ ∀ x ∈ m, hexB x = true := by
  unfold bracketB at hb
  simp only [Bool.and_eq_true, decide_eq_true_iff, beq_iff_eq] at hb
  obtain ⟨⟨⟨⟨h1, h2⟩, h3⟩, h4⟩, h5⟩ := hb
  refine ⟨(h.drop 1).take (h.length - 2), ?_, fun x hx => List.all_eq_true.1 h5 x hx⟩
  cases h with
  | nil => simp at h1
  | cons y t =>
    have e : y = 91 := h3
    subst e
    congr 1
    simp only [List.drop_succ_cons, List.drop_zero, List.length_cons] at h4 ⊢
    have h1 : 3 ≤ t.length := by simp at h1; omega
    have e1 : t.length + 1 - 2 = t.length - 1 := by omega
    rw [e1]
    have e2 : t.drop (t.length - 1) = [93] := by
      rw [List.drop_eq_getElem_cons (by omega), List.drop_eq_nil_of_le (by omega)]
      have e3 : t.length + 1 - 1 = (t.length - 1) + 1 := by omega
      rw [e3] at h4
      simp only [List.getD, List.getElem?_cons_succ, List.getElem?_eq_getElem (show t.length - 1 < t.length by omega), Option.getD_some] at h4
      rw [h4]
    have := List.take_append_drop (t.length - 1) t
    rw [e2] at this
    exact this.symm

theorem canon_host {h : List UInt8} (hc : canonB h = true) : ∀ x ∈ h, hostByte x = true := by
  intro x hx
  rcases canon_bytes hc with h1 | h1
  · rcases h1 x hx with rfl | h2
    · decide +kernel
    · exact (sign_host x h2).1
  · obtain ⟨m, rfl, hm⟩ := bracket_split h1
    rcases List.mem_cons.1 hx with rfl | hx
    · decide +kernel
    · rcases List.mem_append.1 hx with hx | hx
      · exact (hex_host x (hm x hx)).1
      · rw [List.mem_singleton] at hx
        subst hx
        decide +kernel

theorem findIdx_app {l r : List UInt8} {p : UInt8 → Bool} (h : ∀ x ∈ l, p x = false) (hr : r = [] ∨ ∃ y t, r = y :: t ∧ p y = true) : (l ++ r).findIdx p = l.length := by
  induction l with
  | nil =>
    rcases hr with rfl | ⟨y, t, rfl, hy⟩
    · rfl
    · rw [List.nil_append, List.findIdx_cons, hy]; rfl
  | cons x xs ih =>
    rw [List.cons_append, List.findIdx_cons, h x (by simp), ih (fun y hy => h y (by simp [hy]))]
    rfl

/-- How many bytes of a text are the host's, behind which a port may stand. -/
theorem nameN_host {h pt : List UInt8} (hc : canonB h = true) (hp : pt = [] ∨ ∃ t, pt = 58 :: t) : nameN (h ++ pt) = h.length := by
  unfold nameN
  rcases canon_bytes hc with h1 | h1
  · have hne : ¬ (0 < (h ++ pt).length ∧ (h ++ pt).getD 0 0 = 91) := by
      rintro ⟨-, c⟩
      cases h with
      | nil =>
        rcases hp with rfl | ⟨t, rfl⟩
        · exact absurd c (by decide)
        · exact absurd (show (58 : UInt8) = 91 from c) (by decide)
      | cons x xs =>
        have c : x = 91 := c
        rcases h1 x (by simp) with h2 | h2
        · rw [c] at h2; exact absurd h2 (by decide)
        · exact (sign_host x h2).2.2 c
    rw [if_neg hne]
    unfold findS
    refine findIdx_app (fun x hx => ?_) (hp.imp id fun ⟨t, ht⟩ => ⟨58, t, ht, by decide⟩)
    have : x ≠ 58 := by
      rcases h1 x hx with rfl | h2
      · decide
      · exact (sign_host x h2).2.1
    simp [this]
  · obtain ⟨m, rfl, hm⟩ := bracket_split h1
    rw [if_pos ⟨by simp, rfl⟩]
    have e : (91 :: (m ++ [93]) ++ pt).findIdx (· == 93) = m.length + 1 := by
      have : 91 :: (m ++ [93]) ++ pt = (91 :: m) ++ (93 :: pt) := by simp
      rw [this, findIdx_app (p := (· == (93 : UInt8))) (fun x hx => ?_) (.inr ⟨93, pt, rfl, by decide⟩)]
      · simp
      · rcases List.mem_cons.1 hx with rfl | hx
        · decide
        · have := (hex_host x (hm x hx)).2
          simp [this]
    rw [e, if_neg (by simp)]
    simp

theorem map_low_host {h : List UInt8} (hc : canonB h = true) : h.map low = h := by
  have := canon_host hc
  clear hc
  induction h with
  | nil => rfl
  | cons x xs ih =>
    have hx := this x (by simp)
    unfold hostByte at hx
    rw [Bool.and_eq_true, Bool.and_eq_true, beq_iff_eq] at hx
    rw [List.map_cons, hx.1.2, ih fun y hy => this y (by simp [hy])]

theorem host_seen {h : List UInt8} (hc : canonB h = true) : h.all seenB = true := by
  rw [List.all_eq_true]
  intro x hx
  have := canon_host hc x hx
  unfold hostByte at this
  rw [Bool.and_eq_true, Bool.and_eq_true] at this
  exact this.1.1

def schemeL (sec : Bool) : List UInt8 := if sec = true then [104, 116, 116, 112, 115] else [104, 116, 116, 112]

/-- A right request's address, with a port and something behind it, is parsed as it. -/
theorem parse_right {h pt p q : List UInt8} {sec : Bool} (hr : rightU h p sec = true) (hp1 : pt = [] ∨ ∃ t, pt = 58 :: t) (hp2 : portB pt = true) (hp3 : ∀ x ∈ pt, ([47, 63, 35] : List UInt8).contains x = false) (hp4 : pt.all seenB = true)
    (hq1 : q = [] ∨ ∃ t, q = 63 :: t) (hq2 : q.all seenB = true) (hl : (schemeL sec ++ ([58, 47, 47] ++ (h ++ (pt ++ (p ++ q))))).length ≤ 1024) :
    parseU (schemeL sec ++ ([58, 47, 47] ++ (h ++ (pt ++ (p ++ q))))) = ((h, p, sec), 0) := by
  unfold rightU at hr
  simp only [Bool.and_eq_true, decide_eq_true_iff, beq_iff_eq] at hr
  obtain ⟨r1, r2, r3, r4, r5, -⟩ := hr
  obtain ⟨sc, hsc⟩ : ∃ sc, schemeL sec = sc := ⟨_, rfl⟩
  have sc1 : ∀ x ∈ sc, (x == 58) = false := by rw [← hsc]; cases sec <;> decide
  have sc2 : sc.all seenB = true := by rw [← hsc]; cases sec <;> decide +kernel
  have sc3 : sc.map low = sc := by rw [← hsc]; cases sec <;> decide +kernel
  have sc4 : ¬ (sc ≠ [104, 116, 116, 112] ∧ sc ≠ [104, 116, 116, 112, 115]) := by
    rw [← hsc]
    cases sec
    · exact fun c => c.1 rfl
    · exact fun c => c.2 rfl
  have sc5 : (sc == [104, 116, 116, 112, 115]) = sec := by rw [← hsc]; cases sec <;> rfl
  rw [hsc] at hl ⊢
  obtain ⟨p1, p2, hpp, rfl⟩ : ∃ p1 p2, p = p1 :: p2 ∧ p1 = 47 := by
    cases p with
    | nil => simp at r2
    | cons a b => exact ⟨a, b, rfl, r3⟩
  have hW : wordN (sc ++ ([58, 47, 47] ++ (h ++ (pt ++ (p ++ q))))) = sc.length := by
    unfold wordN
    refine firstN_at (fun j hj => ?_) ?_ ?_
    · unfold wordAt
      rw [beq_eq_false_iff_ne]
      intro c
      have e : (sc ++ ([58, 47, 47] ++ (h ++ (pt ++ (p ++ q))))).drop j = sc[j] :: (sc.drop (j + 1) ++ ([58, 47, 47] ++ (h ++ (pt ++ (p ++ q))))) := by
        rw [List.drop_append_of_le_length (by omega), List.drop_eq_getElem_cons hj]
        rfl
      rw [e, List.take_succ_cons, List.cons.injEq] at c
      have := sc1 _ (List.getElem_mem hj)
      rw [c.1] at this
      exact absurd this (by decide)
    · rw [hpp]
      simp
      omega
    · unfold wordAt
      rw [List.drop_left]
      simp
  have hrest : restU (sc ++ ([58, 47, 47] ++ (h ++ (pt ++ (p ++ q))))) = h ++ (pt ++ (p ++ q)) := by
    unfold restU
    rw [hW, ← List.drop_drop, List.drop_left]
    rfl
  have hsch : schemeU (sc ++ ([58, 47, 47] ++ (h ++ (pt ++ (p ++ q))))) = sc := by
    unfold schemeU
    rw [hW, List.take_left, sc3]
  have hK : findS (h ++ (pt ++ (p ++ q))) [47, 63, 35] = (h ++ pt).length := by
    unfold findS
    rw [← List.append_assoc]
    refine findIdx_app (fun x hx => ?_) (.inr ⟨47, p2 ++ q, by rw [hpp]; rfl, by decide⟩)
    rcases List.mem_append.1 hx with hx | hx
    · have := canon_host r1 x hx
      unfold hostByte at this
      rw [Bool.and_eq_true] at this
      simpa using this.2
    · exact hp3 x hx
  have hhead : headU (h ++ (pt ++ (p ++ q))) = h ++ pt := by
    unfold headU
    rw [hK, ← List.append_assoc, List.take_left]
  have hN := nameN_host r1 hp1
  have hhost : hostU (h ++ (pt ++ (p ++ q))) = h := by
    unfold hostU
    rw [hhead, hN, List.take_left, map_low_host r1]
  have hport : portU (h ++ (pt ++ (p ++ q))) = pt := by
    unfold portU
    rw [hhead, hN, List.drop_left]
  have hpath : pathU ((h ++ (pt ++ (p ++ q))).drop (findS (h ++ (pt ++ (p ++ q))) [47, 63, 35])) = p := by
    rw [hK, ← List.append_assoc, List.drop_left]
    have hF : findS (p ++ q) [63, 35] = p.length := by
      unfold findS
      refine findIdx_app (fun x hx => ?_) (hq1.imp id fun ⟨t, ht⟩ => ⟨63, t, ht, by decide⟩)
      have := r5
      unfold findS at this
      exact List.findIdx_eq_length.1 this x hx
    unfold pathU
    rw [hF, List.take_left]
    rw [if_neg]
    rintro (c | c)
    · rw [c] at hpp; cases hpp
    · rw [hpp] at c; exact c rfl
  have hall : (sc ++ ([58, 47, 47] ++ (h ++ (pt ++ (p ++ q))))).all seenB = true := by
    rw [List.all_append, List.all_append, List.all_append, List.all_append, List.all_append, sc2, host_seen r1, hp4, r4, hq2]
    decide +kernel
  have hword : hasWord (sc ++ ([58, 47, 47] ++ (h ++ (pt ++ (p ++ q))))) = true := by
    unfold hasWord
    rw [hW, decide_eq_true_iff, hpp]
    simp
    omega
  unfold parseU
  rw [if_neg (by omega), if_neg (by rw [hall, hword]; simp), hsch, if_neg sc4, hrest, hhost, hport, hpath, r1, hp2, if_neg (by simp), sc5]
end Go.Proofs.YtgaodaimkojmhaaDoor
