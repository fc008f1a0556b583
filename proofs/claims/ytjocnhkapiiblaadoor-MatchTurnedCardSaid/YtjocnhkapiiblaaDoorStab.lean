/- What stays in order: the library's stable sort in plain words. No program in it. -/
import Derived.Sort.Lot0
namespace Go.Proofs.YtjocnhkapiiblaaDoor
open Go.Sort
set_option linter.unusedVariables false
variable {α : Type} [Inhabited α]

/-- Each place of d' has what d has at f's place. -/
def Is (d d' : Array α) (f : Nat → Nat) : Prop := d'.size = d.size ∧ ∀ i, i < d.size → d'[i]! = d[f i]!

theorem swp_at (d : Array α) (i j : Nat) (hi : i < d.size) (hj : j < d.size) (k : Nat) : (swp d i j)[k]! = d[if k = i then j else if k = j then i else k]! := by
  by_cases h : k = j
  · subst h
    rw [swp_right d i k hj]
    by_cases e : k = i
    · subst e; rw [if_pos rfl]
    · rw [if_neg e, if_pos rfl]
  · by_cases e : k = i
    · subst e; rw [if_pos rfl, swp_left d k j hi h]
    · rw [if_neg e, if_neg h, swp_other d i j k e h]

def swapF (a b n i : Nat) : Nat := if a ≤ i ∧ i < a + n then i + (b - a) else if b ≤ i ∧ i < b + n then i - (b - a) else i

theorem Is.zero (d : Array α) (a b : Nat) : Is d d (swapF a b 0) := by
  refine ⟨rfl, fun i _ => ?_⟩
  have : swapF a b 0 i = i := by unfold swapF; rw [if_neg (by omega), if_neg (by omega)]
  rw [this]

theorem Is.swap {d dk : Array α} {a b n k : Nat} (h : Is d dk (swapF a b k)) (hk : k < n) (hab : a + n ≤ b) (hb : b + n ≤ d.size) : Is d (swp dk (a + k) (b + k)) (swapF a b (k + 1)) := by
  obtain ⟨h1, h2⟩ := h
  refine ⟨by rw [size_swp, h1], fun i hi => ?_⟩
  rw [swp_at dk _ _ (by omega) (by omega), h2 _ (by split <;> (try split) <;> omega)]
  congr 1
  unfold swapF
  (repeat' split) <;> omega

def rotF (a m b i : Nat) : Nat := if a ≤ i ∧ i < a + (b - m) then i + (m - a) else if a + (b - m) ≤ i ∧ i < b then i - (b - m) else i

/-- What is left to be turned. -/
def Left (d dk : Array α) (a m b i j : Nat) : Prop := dk.size = d.size ∧ ∀ d', Is dk d' (rotF (m - i) m (m + j)) → Is d d' (rotF a m b)

theorem Left.start (d : Array α) {a m b : Nat} (h1 : a ≤ m) (h2 : m ≤ b) : Left d d a m b (m - a) (b - m) := by
  refine ⟨rfl, fun d' h => ?_⟩
  rw [show m - (m - a) = a by omega, show m + (b - m) = b by omega] at h
  exact h

theorem Left.more {d dk dn : Array α} {a m b i j : Nat} (h : Left d dk a m b i j) (hi : i ≤ m) (hb : m + j ≤ d.size) (hj : j < i) (hs : Is dk dn (swapF (m - i) m j)) : Left d dn a m b (i - j) j := by
  refine ⟨by rw [hs.1, h.1], fun d' h' => h.2 d' ⟨by rw [h'.1, hs.1], fun x hx => ?_⟩⟩
  have hx2 : x < dn.size := by rw [hs.1]; exact hx
  have hd := h.1
  have hr : rotF (m - (i - j)) m (m + j) x < dk.size := by unfold rotF; (repeat' split) <;> omega
  rw [h'.2 x hx2, hs.2 _ hr]
  congr 1
  unfold rotF swapF
  (repeat' split) <;> omega

theorem Left.less {d dk dn : Array α} {a m b i j : Nat} (h : Left d dk a m b i j) (hi : i ≤ m) (hb : m + j ≤ d.size) (hj : i < j) (hs : Is dk dn (swapF (m - i) (m + j - i) i)) : Left d dn a m b i (j - i) := by
  refine ⟨by rw [hs.1, h.1], fun d' h' => h.2 d' ⟨by rw [h'.1, hs.1], fun x hx => ?_⟩⟩
  have hx2 : x < dn.size := by rw [hs.1]; exact hx
  have hd := h.1
  have hr : rotF (m - i) m (m + (j - i)) x < dk.size := by unfold rotF; (repeat' split) <;> omega
  rw [h'.2 x hx2, hs.2 _ hr]
  congr 1
  unfold rotF swapF
  (repeat' split) <;> omega

theorem Left.done {d dk dn : Array α} {a m b i : Nat} (h : Left d dk a m b i i) (hi : i ≤ m) (hs : Is dk dn (swapF (m - i) m i)) : Is d dn (rotF a m b) := by
  refine h.2 dn ⟨hs.1, fun x hx => ?_⟩
  rw [hs.2 x hx]
  congr 1
  unfold rotF swapF
  (repeat' split) <;> omega

theorem Is.noturn {d : Array α} {s m e : Nat} (hs : s ≤ m) (he : m ≤ e) (h : ¬ (s < m ∧ m < e)) : Is d d (rotF s m e) := by
  refine ⟨rfl, fun i _ => ?_⟩
  congr 1
  unfold rotF
  (repeat' split) <;> omega

theorem Is.right {d dk : Array α} {a k : Nat} (h : Is d dk (rotF a (a + 1) (k + 1))) (ha : a ≤ k) (hk : k + 1 < d.size) : Is d (swp dk k (k + 1)) (rotF a (a + 1) (k + 2)) := by
  obtain ⟨h1, h2⟩ := h
  refine ⟨by rw [size_swp, h1], fun i hi => ?_⟩
  rw [swp_at dk _ _ (by omega) (by omega), h2 _ (by split <;> (try split) <;> omega)]
  congr 1
  unfold rotF
  (repeat' split) <;> omega

theorem Is.left {d dk : Array α} {m k : Nat} (h : Is d dk (rotF k m (m + 1))) (hk : 0 < k) (hm : k ≤ m) (hz : m < d.size) : Is d (swp dk k (k - 1)) (rotF (k - 1) m (m + 1)) := by
  obtain ⟨h1, h2⟩ := h
  refine ⟨by rw [size_swp, h1], fun i hi => ?_⟩
  rw [swp_at dk _ _ (by omega) (by omega), h2 _ (by split <;> (try split) <;> omega)]
  congr 1
  unfold rotF
  (repeat' split) <;> omega

/-! ## The order that tells whatever is alike by its number -/
section
variable (lt : α → α → Bool) (tag : α → Nat)
def Sb (x y : α) : Prop := lt x y = true ∨ (lt y x = false ∧ tag x < tag y)
def Asc (d : Array α) (a b : Nat) : Prop := ∀ i j, a ≤ i → i < j → j < b → Sb lt tag d[i]! d[j]!
def Tags (d : Array α) (a m b : Nat) : Prop := ∀ i j, a ≤ i → i < m → m ≤ j → j < b → tag d[i]! < tag d[j]!
end

variable {lt : α → α → Bool} {tag : α → Nat}
omit [Inhabited α] in
theorem Sb.trans (hS : SWO lt) {x y z : α} (h1 : Sb lt tag x y) (h2 : Sb lt tag y z) : Sb lt tag x z := by
  rcases h1 with h1 | ⟨h1, t1⟩
  · left
    rcases h2 with h2 | ⟨h2, t2⟩
    · exact hS.trans _ _ _ h1 h2
    · cases h : lt x z with
      | true => rfl
      | false => rw [hS.ntrans _ _ _ h h2] at h1; cases h1
  · rcases h2 with h2 | ⟨h2, t2⟩
    · left
      cases h : lt x z with
      | true => rfl
      | false => rw [hS.ntrans _ _ _ h1 h] at h2; cases h2
    · exact .inr ⟨hS.ntrans _ _ _ h2 h1, by omega⟩
omit [Inhabited α] in
theorem Sb.irrefl (hS : SWO lt) (x : α) : ¬ Sb lt tag x x := by
  rintro (h | ⟨_, h⟩)
  · rw [hS.irrefl] at h; cases h
  · omega
omit [Inhabited α] in
theorem Sb.of_yes {x y : α} (h : lt x y = true) : Sb lt tag x y := .inl h
omit [Inhabited α] in
theorem Sb.of_no {x y : α} (h : lt x y = false) (ht : tag y < tag x) : Sb lt tag y x := .inr ⟨h, ht⟩

theorem Asc.congr {d d' : Array α} {a b : Nat} (h : Asc lt tag d a b) (he : ∀ i, a ≤ i → i < b → d'[i]! = d[i]!) : Asc lt tag d' a b := fun i j h1 h2 h3 => by
  rw [he i h1 (by omega), he j (by omega) h3]; exact h i j h1 h2 h3
theorem Asc.part {d : Array α} {a b a' b' : Nat} (h : Asc lt tag d a b) (ha : a ≤ a') (hb : b' ≤ b) : Asc lt tag d a' b' := fun i j h1 h2 h3 => h i j (by omega) h2 (by omega)
theorem Asc.small (d : Array α) {a b : Nat} (h : b ≤ a + 1) : Asc lt tag d a b := fun i j h1 h2 h3 => by omega

/-- The one element ahead is put where it belongs. -/
theorem merge_head (hS : SWO lt) {d d' : Array α} {a b i : Nat} (hR : Asc lt tag d (a + 1) b) (hb : b ≤ d.size) (h1 : a + 1 ≤ i) (h2 : i ≤ b)
    (lo : i = a + 1 ∨ Sb lt tag d[i - 1]! d[a]!) (hi : i = b ∨ Sb lt tag d[a]! d[i]!) (hd : Is d d' (rotF a (a + 1) i)) : Asc lt tag d' a b := by
  have LO : ∀ k, a + 1 ≤ k → k < i → Sb lt tag d[k]! d[a]! := fun k hk hk2 => by
    rcases lo with rfl | lo
    · omega
    · by_cases e : k = i - 1
      · rw [e]; exact lo
      · exact (hR k (i - 1) hk (by omega) (by omega)).trans hS lo
  have HI : ∀ k, i ≤ k → k < b → Sb lt tag d[a]! d[k]! := fun k hk hk2 => by
    rcases hi with rfl | hi
    · omega
    · by_cases e : k = i
      · rw [e]; exact hi
      · exact Sb.trans hS hi (hR i k h1 (by omega) hk2)
  intro x y hx hxy hy
  rw [hd.2 x (by omega), hd.2 y (by omega)]
  have hrx : rotF a (a + 1) i x = if x < i - 1 then x + 1 else if x = i - 1 then a else x := by unfold rotF; (repeat' split) <;> omega
  have hry : rotF a (a + 1) i y = if y < i - 1 then y + 1 else if y = i - 1 then a else y := by unfold rotF; (repeat' split) <;> omega
  rw [hrx, hry]
  by_cases x1 : x < i - 1
  · rw [if_pos x1]
    by_cases y1 : y < i - 1
    · rw [if_pos y1]; exact hR _ _ (by omega) (by omega) (by omega)
    · rw [if_neg y1]
      by_cases y2 : y = i - 1
      · rw [if_pos y2]; exact LO _ (by omega) (by omega)
      · rw [if_neg y2]; exact hR _ _ (by omega) (by omega) (by omega)
  · rw [if_neg x1]
    by_cases x2 : x = i - 1
    · rw [if_pos x2, if_neg (by omega), if_neg (by omega)]
      exact HI _ (by omega) hy
    · rw [if_neg x2, if_neg (by omega), if_neg (by omega)]
      exact hR _ _ (by omega) hxy hy

/-- The one element behind is put where it belongs. -/
theorem merge_last (hS : SWO lt) {d d' : Array α} {a m i : Nat} (hL : Asc lt tag d a m) (hb : m < d.size) (h1 : a ≤ i) (h2 : i ≤ m)
    (lo : i = a ∨ Sb lt tag d[i - 1]! d[m]!) (hi : i = m ∨ Sb lt tag d[m]! d[i]!) (hd : Is d d' (rotF i m (m + 1))) : Asc lt tag d' a (m + 1) := by
  have LO : ∀ k, a ≤ k → k < i → Sb lt tag d[k]! d[m]! := fun k hk hk2 => by
    rcases lo with rfl | lo
    · omega
    · by_cases e : k = i - 1
      · rw [e]; exact lo
      · exact (hL k (i - 1) hk (by omega) (by omega)).trans hS lo
  have HI : ∀ k, i ≤ k → k < m → Sb lt tag d[m]! d[k]! := fun k hk hk2 => by
    rcases hi with rfl | hi
    · omega
    · by_cases e : k = i
      · rw [e]; exact hi
      · exact Sb.trans hS hi (hL i k h1 (by omega) hk2)
  intro x y hx hxy hy
  rw [hd.2 x (by omega), hd.2 y (by omega)]
  have hrx : rotF i m (m + 1) x = if x < i then x else if x = i then m else x - 1 := by unfold rotF; (repeat' split) <;> omega
  have hry : rotF i m (m + 1) y = if y < i then y else if y = i then m else y - 1 := by unfold rotF; (repeat' split) <;> omega
  rw [hrx, hry]
  by_cases x1 : x < i
  · rw [if_pos x1]
    by_cases y1 : y < i
    · rw [if_pos y1]; exact hL _ _ (by omega) (by omega) (by omega)
    · rw [if_neg y1]
      by_cases y2 : y = i
      · rw [if_pos y2]; exact LO _ (by omega) (by omega)
      · rw [if_neg y2]; exact hL _ _ (by omega) (by omega) (by omega)
  · rw [if_neg x1, if_neg (by omega : ¬ y < i), if_neg (by omega : ¬ y = i)]
    by_cases x2 : x = i
    · rw [if_pos x2]
      exact HI _ (by omega) (by omega)
    · rw [if_neg x2]
      exact hL _ _ (by omega) (by omega) (by omega)

/-- What a merge is told. -/
structure Pre (lt : α → α → Bool) (tag : α → Nat) (d : Array α) (a m b : Nat) : Prop where
  left : Asc lt tag d a m
  right : Asc lt tag d m b
  tags : Tags tag d a m b

theorem Pre.congr {d d' : Array α} {a m b : Nat} (h : Pre lt tag d a m b) (h1 : a ≤ m) (h2 : m ≤ b) (he : ∀ i, a ≤ i → i < b → d'[i]! = d[i]!) : Pre lt tag d' a m b where
  left := h.left.congr fun i hi hj => he i hi (by omega)
  right := h.right.congr fun i hi hj => he i (by omega) hj
  tags := fun i j hi hj hk hl => by rw [he i hi (by omega), he j (by omega) hl]; exact h.tags i j hi hj hk hl

/-- The places where a merge parts: s of the ones ahead, e of the ones behind. -/
theorem merge_turn (hS : SWO lt) {d d' : Array α} {a m b mid s e : Nat} (h : Pre lt tag d a m b) (ha : a ≤ s) (hs : s ≤ m) (he : m ≤ e) (hb : e ≤ b) (hz : b ≤ d.size) (hmid : mid = s + (e - m))
    (lo : s = a ∨ e = b ∨ Sb lt tag d[s - 1]! d[e]!) (hi : s = m ∨ e = m ∨ Sb lt tag d[e - 1]! d[s]!) (hd : Is d d' (rotF s m e)) :
    Pre lt tag d' a s mid ∧ Pre lt tag d' mid e b ∧ ∀ i j, a ≤ i → i < mid → mid ≤ j → j < b → Sb lt tag d'[i]! d'[j]! := by
  obtain ⟨hL, hR, hT⟩ := h
  have LO : ∀ i j, a ≤ i → i < s → e ≤ j → j < b → Sb lt tag d[i]! d[j]! := fun i j h1 h2 h3 h4 => by
    rcases lo with rfl | rfl | lo
    · omega
    · omega
    · have p1 : i = s - 1 ∨ Sb lt tag d[i]! d[s - 1]! := by
        by_cases q : i = s - 1
        · exact .inl q
        · exact .inr (hL i (s - 1) h1 (by omega) (by omega))
      have p2 : j = e ∨ Sb lt tag d[e]! d[j]! := by
        by_cases q : j = e
        · exact .inl q
        · exact .inr (hR e j he (by omega) h4)
      have p3 : Sb lt tag d[i]! d[e]! := by
        rcases p1 with rfl | p1
        · exact lo
        · exact p1.trans hS lo
      rcases p2 with rfl | p2
      · exact p3
      · exact p3.trans hS p2
  have HI : ∀ i j, m ≤ i → i < e → s ≤ j → j < m → Sb lt tag d[i]! d[j]! := fun i j h1 h2 h3 h4 => by
    rcases hi with rfl | rfl | hi
    · omega
    · omega
    · have p1 : i = e - 1 ∨ Sb lt tag d[i]! d[e - 1]! := by
        by_cases q : i = e - 1
        · exact .inl q
        · exact .inr (hR i (e - 1) h1 (by omega) (by omega))
      have p2 : j = s ∨ Sb lt tag d[s]! d[j]! := by
        by_cases q : j = s
        · exact .inl q
        · exact .inr (hL s j ha (by omega) h4)
      have p3 : Sb lt tag d[i]! d[s]! := by
        rcases p1 with rfl | p1
        · exact hi
        · exact p1.trans hS hi
      rcases p2 with rfl | p2
      · exact p3
      · exact p3.trans hS p2
  have P1 : ∀ i, i < s → d'[i]! = d[i]! := fun i hi => by
    rw [hd.2 i (by omega)]; congr 1; unfold rotF; (repeat' split) <;> omega
  have P2 : ∀ i, s ≤ i → i < mid → d'[i]! = d[i + (m - s)]! := fun i hi hj => by
    rw [hd.2 i (by omega)]; congr 1; unfold rotF; (repeat' split) <;> omega
  have P3 : ∀ i, mid ≤ i → i < e → d'[i]! = d[i - (e - m)]! := fun i hi hj => by
    rw [hd.2 i (by omega)]; congr 1; unfold rotF; (repeat' split) <;> omega
  have P4 : ∀ i, e ≤ i → i < b → d'[i]! = d[i]! := fun i hi hj => by
    rw [hd.2 i (by omega)]; congr 1; unfold rotF; (repeat' split) <;> omega
  refine ⟨⟨fun i j h1 h2 h3 => ?_, fun i j h1 h2 h3 => ?_, fun i j h1 h2 h3 h4 => ?_⟩, ⟨fun i j h1 h2 h3 => ?_, fun i j h1 h2 h3 => ?_, fun i j h1 h2 h3 h4 => ?_⟩, fun i j h1 h2 h3 h4 => ?_⟩
  · rw [P1 i (by omega), P1 j h3]; exact hL i j h1 h2 (by omega)
  · rw [P2 i h1 (by omega), P2 j (by omega) h3]; exact hR _ _ (by omega) (by omega) (by omega)
  · rw [P1 i h2, P2 j h3 h4]; exact hT _ _ h1 (by omega) (by omega) (by omega)
  · rw [P3 i h1 (by omega), P3 j (by omega) h3]; exact hL _ _ (by omega) (by omega) (by omega)
  · rw [P4 i h1 (by omega), P4 j (by omega) h3]; exact hR _ _ (by omega) (by omega) (by omega)
  · rw [P3 i h1 h2, P4 j h3 h4]; exact hT _ _ (by omega) (by omega) (by omega) (by omega)
  · by_cases hi1 : i < s
    · rw [P1 i hi1]
      by_cases hj1 : j < e
      · rw [P3 j h3 hj1]; exact hL _ _ h1 (by omega) (by omega)
      · rw [P4 j (by omega) h4]; exact LO _ _ h1 hi1 (by omega) h4
    · rw [P2 i (by omega) h2]
      by_cases hj1 : j < e
      · rw [P3 j h3 hj1]; exact HI _ _ (by omega) (by omega) (by omega) (by omega)
      · rw [P4 j (by omega) h4]; exact hR _ _ (by omega) (by omega) h4

/-- What a merge leaves. -/
structure Merged (lt : α → α → Bool) (tag : α → Nat) (d d' : Array α) (a b : Nat) : Prop where
  perm : PermIn a b d d'
  asc : Asc lt tag d' a b

theorem merge_join {d1 d2 d3 : Array α} {a mid b : Nat} (ha : a ≤ mid) (hb : mid ≤ b) (hz : b ≤ d1.size) (hc : ∀ i j, a ≤ i → i < mid → mid ≤ j → j < b → Sb lt tag d1[i]! d1[j]!)
    (h1 : Merged lt tag d1 d2 a mid) (h2 : Merged lt tag d2 d3 mid b) : Merged lt tag d1 d3 a b := by
  have z2 := h1.perm.1
  refine ⟨permIn_trans _ _ _ _ _ (permIn_mono _ _ a mid a b (Nat.le_refl _) hb hz h1.perm) (permIn_mono _ _ mid b a b ha (Nat.le_refl _) (by omega) h2.perm), ?_⟩
  have A : ∀ i j, a ≤ i → i < mid → mid ≤ j → j < b → Sb lt tag d2[i]! d1[j]! := fun i j p q r t =>
    Go.Sort.permIn_all d1 d2 a mid (fun x => Sb lt tag x d1[j]!) (by omega) h1.perm (fun i p q => hc i j p q r t) i p q
  have B : ∀ i j, a ≤ i → i < mid → mid ≤ j → j < b → Sb lt tag d2[i]! d3[j]! := fun i j p q r t =>
    Go.Sort.permIn_all d2 d3 mid b (fun x => Sb lt tag d2[i]! x) (by omega) h2.perm (fun j r t => by rw [h1.perm.2.1 j (.inr r)]; exact A i j p q r t) j r t
  intro i j p q r
  by_cases c1 : j < mid
  · rw [h2.perm.2.1 i (.inl (by omega)), h2.perm.2.1 j (.inl c1)]
    exact h1.asc i j p q c1
  · by_cases c2 : i < mid
    · rw [h2.perm.2.1 i (.inl c2)]
      exact B i j p c2 (by omega) r
    · exact h2.asc i j (by omega) q r

theorem Merged.refl {d : Array α} {a b : Nat} (h : Asc lt tag d a b) : Merged lt tag d d a b := ⟨permIn_refl _ _ _, h⟩

theorem Merged.behind {d1 d2 d3 : Array α} {a b : Nat} (h1 : PermIn a b d1 d2) (h2 : Merged lt tag d2 d3 a b) : Merged lt tag d1 d3 a b := ⟨permIn_trans _ _ _ _ _ h1 h2.perm, h2.asc⟩
end Go.Proofs.YtjocnhkapiiblaaDoor
