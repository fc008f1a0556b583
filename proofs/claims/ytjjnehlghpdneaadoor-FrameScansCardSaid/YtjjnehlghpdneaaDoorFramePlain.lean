/- Frames: a body with its length and its sum; what bytes begin with: plain, with no program in it. -/
import Derived.Test.YtjjnehlghpdneaaDoorVarPlain
import Derived.Test.YtjjnehlghpdneaaDoorCrcPlain
import Derived.Test.YtjjnehlghpdneaaDoorBytesPlain
namespace Go.Proofs.YtjjnehlghpdneaaDoor
open Go.RowKit
set_option linter.unusedVariables false

/-- A body's frame. -/
def frameOf (l : List Int) : List Int := short l.length ++ (l ++ lowBytes (cSum l : Int) 4)
/-- How many bytes the frame of so many bytes has. -/
def frameLen (n : Nat) : Nat := (short n).length + n + 4
theorem frameOf_length (l : List Int) : (frameOf l).length = frameLen l.length := by
  unfold frameOf frameLen
  rw [List.length_append, List.length_append, lowBytes_length]
  omega
theorem frameOf_bytes (l : List Int) (h : IsBytes l) : IsBytes (frameOf l) := fun x hx => by
  unfold frameOf at hx
  rcases List.mem_append.mp hx with h1 | h1
  · exact short_bytes _ x h1
  · rcases List.mem_append.mp h1 with h2 | h2
    · exact h x h2
    · exact lowBytes_bytes _ _ x h2
theorem frameLen_mono (n m : Nat) (h : n < m) : frameLen n < frameLen m := by
  have := short_mono n m (by omega)
  unfold frameLen
  omega
theorem frameLen_inj (n m : Nat) (h : frameLen n = frameLen m) : n = m := by
  rcases Nat.lt_trichotomy n m with c | c | c
  · have := frameLen_mono n m c; omega
  · exact c
  · have := frameLen_mono m n c; omega

/-- What bytes begin with: a body, how many bytes its frame has, and the error's number. -/
def frameGot (b : List Int) : List Int × Nat × Int :=
  let r := got b 0 0
  if r.2.2 ≠ 0 then ([], 0, r.2.2)
  else if 1048576 < r.1 then ([], 0, 3)
  else if (b.length : Int) < r.2.1 + r.1 + 4 then ([], 0, 2)
  else if leNum ((b.drop (r.2.1 + r.1).toNat).take 4) ≠ (cSum ((b.drop r.2.1.toNat).take r.1.toNat) : Int) then ([], 0, 5)
  else ((b.drop r.2.1.toNat).take r.1.toNat, (r.2.1 + r.1 + 4).toNat, 0)

theorem cSum_lt (l : List Int) : cSum l < 4294967296 := by have := cSum_le l; omega

/-- A frame is got, whatever stands behind it. -/
theorem frame_back (l r : List Int) (hl : l.length ≤ 1048576) : frameGot (frameOf l ++ r) = (l, frameLen l.length, 0) := by
  have e : frameOf l ++ r = short l.length ++ (l ++ lowBytes (cSum l : Int) 4 ++ r) := by unfold frameOf; rw [List.append_assoc]
  have hg := got_back l.length (l ++ lowBytes (cSum l : Int) 4 ++ r) (by omega)
  have hlen : (frameOf l ++ r).length = frameLen l.length + r.length := by rw [List.length_append, frameOf_length]
  unfold frameGot
  rw [e, hg, ← e]
  simp only []
  have c2 : ¬ (1048576 < (l.length : Int)) := by omega
  have c3 : ¬ (((frameOf l ++ r).length : Int) < ((short l.length).length : Int) + (l.length : Int) + 4) := by rw [hlen]; unfold frameLen; omega
  have d1 : ((short l.length).length : Int).toNat = (short l.length).length := Int.toNat_natCast _
  have d2 : ((l.length : Nat) : Int).toNat = l.length := Int.toNat_natCast _
  have d3 : (((short l.length).length : Int) + (l.length : Int)).toNat = (short l.length).length + l.length := by omega
  have d4 : (((short l.length).length : Int) + (l.length : Int) + 4).toNat = frameLen l.length := by unfold frameLen; omega
  have t1 : ((frameOf l ++ r).drop (short l.length).length).take l.length = l := by
    rw [e, List.drop_left, List.append_assoc, List.take_left]
  have t2 : ((frameOf l ++ r).drop ((short l.length).length + l.length)).take 4 = lowBytes (cSum l : Int) 4 := by
    rw [e, ← List.drop_drop, List.drop_left, List.append_assoc, List.drop_left, List.take_left' (lowBytes_length _ _)]
  rw [if_neg (by decide), if_neg c2, if_neg c3, d1, d2, d3, d4, t1, t2, lowBytes4 _ (cSum_lt l), if_neg (by simp)]

/-- What is got stands there as its frame. -/
theorem frame_only (b y : List Int) (n : Nat) (hb : IsBytes b) (h : frameGot b = (y, n, 0)) : n ≤ b.length ∧ b.take n = frameOf y ∧ y.length ≤ 1048576 ∧ n = frameLen y.length ∧ IsBytes y := by
  unfold frameGot at h
  generalize hr : got b 0 0 = r at h
  obtain ⟨x, k, e⟩ := r
  simp only [] at h
  by_cases c1 : e ≠ 0
  · rw [if_pos c1] at h
    simp only [Prod.mk.injEq] at h
    exact absurd h.2.2 c1
  · rw [if_neg c1] at h
    have he : e = 0 := by simpa using c1
    subst he
    by_cases c2 : 1048576 < x
    · rw [if_pos c2] at h; simp at h
    · rw [if_neg c2] at h
      by_cases c3 : (b.length : Int) < k + x + 4
      · rw [if_pos c3] at h; simp at h
      · rw [if_neg c3] at h
        by_cases c4 : leNum ((b.drop (k + x).toNat).take 4) ≠ (cSum ((b.drop k.toNat).take x.toNat) : Int)
        · rw [if_pos c4] at h; simp at h
        · rw [if_neg c4] at h
          obtain ⟨M, L, rfl, rfl, h1, h2, h3⟩ := got_one b x k hb hr
          have c4' : leNum ((b.drop ((L : Int) + (M : Int)).toNat).take 4) = (cSum ((b.drop (L : Int).toNat).take (M : Int).toNat) : Int) := by simpa using c4
          have e1 : ((L : Int) + (M : Int)).toNat = L + M := by omega
          have e2 : ((L : Int) + (M : Int) + 4).toNat = L + M + 4 := by omega
          rw [e1, Int.toNat_natCast, Int.toNat_natCast] at c4'
          rw [e2, Int.toNat_natCast, Int.toNat_natCast] at h
          simp only [Prod.mk.injEq] at h
          obtain ⟨hy, hn, -⟩ := h
          have hlenb : L + M + 4 ≤ b.length := by omega
          have hyl : y.length = M := by rw [← hy, List.length_take, List.length_drop]; omega
          have hyb : IsBytes y := by rw [← hy]; exact (hb.drop L).take M
          have hsl : (short M).length = L := by rw [← h3, List.length_take]; omega
          rw [hy] at c4'
          have h4 : (b.drop (L + M)).take 4 = lowBytes (cSum y : Int) 4 := by
            have hl4 : ((b.drop (L + M)).take 4).length = 4 := by rw [List.length_take, List.length_drop]; omega
            have := lowBytes_leNum _ ((hb.drop (L + M)).take 4)
            rw [hl4, c4'] at this
            exact this.symm
          refine ⟨by omega, ?_, by omega, ?_, hyb⟩
          · rw [← hn]
            unfold frameOf
            rw [hyl, ← h3, ← h4, ← hy]
            have s1 : b.take (L + M + 4) = b.take L ++ (b.drop L).take (M + 4) := by rw [Nat.add_assoc, List.take_add]
            have s2 : (b.drop L).take (M + 4) = (b.drop L).take M ++ ((b.drop L).drop M).take 4 := List.take_add ..
            rw [s1, s2, List.drop_drop]
          · unfold frameLen
            rw [hyl, hsl]
            omega

theorem frameGot_err (b : List Int) (h : (frameGot b).2.2 ≠ 0) : (frameGot b).1 = [] ∧ (frameGot b).2.1 = 0 := by
  unfold frameGot at h ⊢
  generalize got b 0 0 = r at h ⊢
  simp only [] at h ⊢
  by_cases c1 : r.2.2 ≠ 0
  · rw [if_pos c1]; exact ⟨rfl, rfl⟩
  · rw [if_neg c1] at h ⊢
    by_cases c2 : 1048576 < r.1
    · rw [if_pos c2]; exact ⟨rfl, rfl⟩
    · rw [if_neg c2] at h ⊢
      by_cases c3 : (b.length : Int) < r.2.1 + r.1 + 4
      · rw [if_pos c3]; exact ⟨rfl, rfl⟩
      · rw [if_neg c3] at h ⊢
        by_cases c4 : leNum ((b.drop (r.2.1 + r.1).toNat).take 4) ≠ (cSum ((b.drop r.2.1.toNat).take r.1.toNat) : Int)
        · rw [if_pos c4]; exact ⟨rfl, rfl⟩
        · rw [if_neg c4] at h
          exact absurd rfl h

/-- A list that differs from another one at one place. -/
theorem set_ne (l : List Int) (k : Nat) (x : Int) (hk : k < l.length) (h : l.set k x = l) : x = l.getD k 0 := by
  have := congrArg (·[k]?) h
  simp only [List.getElem?_set_self hk, List.getElem?_eq_getElem hk, Option.some.injEq] at this
  rw [this, getD_of_lt l k hk]

/-- Of a frame with one byte changed no frame is left that is as long. -/
theorem frame_spoilt (l : List Int) (hb : IsBytes l) (hl : l.length ≤ 1048576) (k c : Nat) (hk : k < frameLen l.length) (hc : c < 256) (h0 : c ≠ 0) (y : List Int) (n : Nat)
    (h : frameGot ((frameOf l).set k ((((frameOf l).getD k 0).toNat ^^^ c : Nat) : Int)) = (y, n, 0)) : n < frameLen l.length := by
  have hfl := frameOf_length l
  have hfb := frameOf_bytes l hb
  have hx := hfb.getD k
  have hne : ((((frameOf l).getD k 0).toNat ^^^ c : Nat) : Int) ≠ (frameOf l).getD k 0 := by
    intro e
    apply h0
    have e2 : ((frameOf l).getD k 0).toNat ^^^ c = ((frameOf l).getD k 0).toNat := by omega
    exact (xor_eq_self _ _).mp e2
  have hx2 : ((frameOf l).getD k 0).toNat ^^^ c < 256 := Nat.xor_lt_two_pow (n := 8) (by omega) hc
  generalize hX : ((((frameOf l).getD k 0).toNat ^^^ c : Nat) : Int) = X at h hne
  have hXb : 0 ≤ X ∧ X ≤ 255 := by omega
  have hsb : IsBytes ((frameOf l).set k X) := fun y hy => by
    rcases List.mem_or_eq_of_mem_set hy with h | h
    · exact hfb y h
    · rw [h]; exact hXb
  obtain ⟨h1, h2, h3, h4, h5⟩ := frame_only _ y n hsb h
  rw [List.length_set, hfl] at h1
  rcases Nat.lt_or_ge n (frameLen l.length) with hlt | hge
  · exact hlt
  · exfalso
    have hn : n = frameLen l.length := by omega
    have hyl : y.length = l.length := frameLen_inj _ _ (by omega)
    rw [List.take_of_length_le (by rw [List.length_set, hfl]; omega)] at h2
    -- three parts: the length, the body, the sum
    have q1 : (short l.length ++ (l ++ lowBytes (cSum l : Int) 4)).set k X = short l.length ++ (y ++ lowBytes (cSum y : Int) 4) := by
      have := h2
      unfold frameOf at this
      rw [hyl] at this
      exact this
    have hold : (frameOf l).getD k 0 = (short l.length ++ (l ++ lowBytes (cSum l : Int) 4)).getD k 0 := rfl
    by_cases c1 : k < (short l.length).length
    · rw [List.set_append_left _ _ c1] at q1
      have q2 := (List.append_inj q1 (by simp)).1
      have q3 := set_ne _ _ _ c1 q2
      apply hne
      rw [q3, hold, List.getD_eq_getElem?_getD, List.getD_eq_getElem?_getD, List.getElem?_append_left c1]
    · rw [List.set_append_right _ _ (by omega)] at q1
      have q2 := (List.append_inj q1 rfl).2
      by_cases c2 : k - (short l.length).length < l.length
      · rw [List.set_append_left _ _ c2] at q2
        have q3 := List.append_inj q2 (by simp [hyl])
        have e0 : (frameOf l).getD k 0 = l.getD (k - (short l.length).length) 0 := by
          rw [hold, List.getD_eq_getElem?_getD, List.getD_eq_getElem?_getD, List.getElem?_append_right (by omega), List.getElem?_append_left c2]
        have e1 : cSum l = cSum y := by
          have := congrArg leNum q3.2
          rw [lowBytes4 _ (cSum_lt l), lowBytes4 _ (cSum_lt y)] at this
          omega
        obtain ⟨s, s', x, f1, f2, -, -, -, -, -, -, f3⟩ := change_nums l (k - (short l.length).length) c c2 hb hc
        rw [← e0, hX, q3.1] at f2
        exact h0 (f3.mp (by omega))
      · rw [List.set_append_right _ _ (by omega)] at q2
        have q3 := List.append_inj q2 (by simp [hyl])
        rw [← q3.1] at q3
        have q4 := q3.2
        have c3 : k - (short l.length).length - l.length < (lowBytes (cSum l : Int) 4).length := by
          rw [lowBytes_length]
          unfold frameLen at hk
          omega
        have q5 := set_ne _ _ _ c3 q4
        apply hne
        rw [q5, hold, List.getD_eq_getElem?_getD, List.getD_eq_getElem?_getD, List.getElem?_append_right (by omega), List.getElem?_append_right (by omega)]

/-- Of a frame that is cut off nothing is got. -/
theorem frame_cut (l : List Int) (hb : IsBytes l) (hl : l.length ≤ 1048576) (k : Nat) (hk : k < frameLen l.length) : (frameGot ((frameOf l).take k)).2.2 ≠ 0 := by
  intro h
  have hfb := frameOf_bytes l hb
  generalize hg : frameGot ((frameOf l).take k) = r at h
  obtain ⟨y, n, e⟩ := r
  simp only [] at h
  subst h
  obtain ⟨h1, h2, h3, h4, h5⟩ := frame_only _ y n (hfb.take k) hg
  have hkl : ((frameOf l).take k).length = k := List.length_take_of_le (by rw [frameOf_length]; omega)
  have e1 : frameOf l = frameOf y ++ (frameOf l).drop n := by
    rw [← h2, List.take_take, Nat.min_eq_left (by omega), List.take_append_drop]
  have g1 := frame_back l [] hl
  have g2 := frame_back y ((frameOf l).drop n) h3
  rw [List.append_nil] at g1
  rw [← e1, g1] at g2
  simp only [Prod.mk.injEq] at g2
  omega

/-- The frames that stand at the beginning of bytes: their bodies, and how many bytes they have. -/
def framesGot (b : List Int) : List (List Int) × Nat :=
  if h : (frameGot b).2.2 = 0 ∧ 0 < (frameGot b).2.1 ∧ (frameGot b).2.1 ≤ b.length then
    let r := framesGot (b.drop (frameGot b).2.1)
    ((frameGot b).1 :: r.1, (frameGot b).2.1 + r.2)
  else ([], 0)
termination_by b.length
decreasing_by rw [List.length_drop]; omega
theorem framesGot_none (b : List Int) (h : (frameGot b).2.2 ≠ 0) : framesGot b = ([], 0) := by
  rw [framesGot, dif_neg (fun c => h c.1)]
theorem frameLen_pos (n : Nat) : 5 ≤ frameLen n := by have := (short_bounds n).1; unfold frameLen; omega
theorem framesGot_some (b y : List Int) (n : Nat) (hb : IsBytes b) (h : frameGot b = (y, n, 0)) : framesGot b = (y :: (framesGot (b.drop n)).1, n + (framesGot (b.drop n)).2) := by
  obtain ⟨h1, h2, h3, h4, h5⟩ := frame_only b y n hb h
  have := frameLen_pos y.length
  rw [framesGot, dif_pos (by rw [h]; exact ⟨rfl, by show 0 < n; omega, h1⟩), h]

/-- Frames one behind the other. -/
def framesOf (R : Nat → List Int) : Nat → List Int
  | 0 => []
  | k + 1 => framesOf R k ++ frameOf (R k)
theorem framesOf_succ (R : Nat → List Int) (k : Nat) : framesOf R (k + 1) = framesOf R k ++ frameOf (R k) := rfl
theorem framesOf_cons (R : Nat → List Int) : ∀ k, framesOf R (k + 1) = frameOf (R 0) ++ framesOf (fun i => R (i + 1)) k
  | 0 => by simp [framesOf]
  | k + 1 => by rw [framesOf_succ, framesOf_cons R k, List.append_assoc]; rfl
theorem framesOf_bytes (R : Nat → List Int) : ∀ k, (∀ i, i < k → IsBytes (R i)) → IsBytes (framesOf R k)
  | 0, _ => fun x hx => by cases hx
  | k + 1, h => fun x hx => by
    rcases List.mem_append.mp hx with h1 | h1
    · exact framesOf_bytes R k (fun i hi => h i (by omega)) x h1
    · exact frameOf_bytes _ (h k (by omega)) x h1

/-- Whole frames, and behind them bytes that begin with none: just the whole ones are told. -/
theorem frames_scan : ∀ (k : Nat) (R : Nat → List Int) (r : List Int), (∀ i, i < k → IsBytes (R i) ∧ (R i).length ≤ 1048576) → IsBytes r → (frameGot r).2.2 ≠ 0 →
    framesGot (framesOf R k ++ r) = ((List.range k).map R, (framesOf R k).length)
  | 0, R, r, h, hr, he => by rw [show framesOf R 0 ++ r = r from rfl, framesGot_none r he]; rfl
  | k + 1, R, r, h, hr, he => by
    have hb : IsBytes (framesOf R (k + 1) ++ r) := fun x hx => (List.mem_append.mp hx).elim (framesOf_bytes R (k + 1) (fun i hi => (h i hi).1) x) (hr x)
    have h0 := h 0 (by omega)
    have hg := frame_back (R 0) (framesOf (fun i => R (i + 1)) k ++ r) h0.2
    rw [← List.append_assoc, ← framesOf_cons] at hg
    rw [framesGot_some _ _ _ hb hg, framesOf_cons, List.append_assoc, ← frameOf_length, List.drop_left, frames_scan k (fun i => R (i + 1)) r (fun i hi => h (i + 1) (by omega)) hr he]
    rw [List.range_succ_eq_map, List.map_cons, List.map_map, List.length_append]
    rfl
end Go.Proofs.YtjjnehlghpdneaaDoor
