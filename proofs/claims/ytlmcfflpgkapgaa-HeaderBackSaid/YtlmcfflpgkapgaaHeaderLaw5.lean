/- Layer 12's laws, walked: parted, printed, and parted again. -/
import Derived.Test.YtlmcfflpgkapgaaHeaderLaw4
namespace Go.Proofs.Ytlmcfflpgkapgaa
open Go.RowKit
set_option linter.unusedVariables false

theorem parse_few (l : List UInt8) : (parseH l).2.1.length ≤ l.length + 1 := by
  unfold parseH
  split
  · simp
  · split
    · simp
    · split
      · simp
      · split
        · simp
        · have := splitL_le l 59
          simp only [List.length_map, List.length_drop]
          omega

/-- How long the text of what was parted is, at most. -/
theorem parse_text_len {l : List UInt8} (h : (parseH l).2.2 = 0) : (textH (parseH l).1 (parseH l).2.1).length ≤ 3 * l.length + 3 := by
  unfold parseH at h ⊢
  split at h
  · cases h
  · rename_i h1
    rw [if_neg h1]
    split at h
    · cases h
    · rename_i h2
      rw [if_neg h2]
      split at h
      · cases h
      · rename_i h3
        rw [if_neg h3]
        split at h
        · cases h
        · rename_i h4
          rw [if_neg h4]
          dsimp only
          have hp : ∀ s : List UInt8, (pairL s).1.length + (pairL s).2.length ≤ s.length := fun s => by
            unfold pairL
            split
            · have := trim_length s; simp; omega
            · have a := trim_length (s.take (s.findIdx (· == 61)))
              have b := trim_length (s.drop (s.findIdx (· == 61) + 1))
              rw [List.length_take] at a
              rw [List.length_drop] at b
              have : s.findIdx (· == 61) ≤ s.length := List.findIdx_le_length
              dsimp only
              omega
          have ha : ∀ s : List UInt8, (attrT (pairL s)).length ≤ s.length + 2 := fun s => by
            have := hp s
            unfold attrT
            split <;> simp <;> omega
          have hb : ∀ s : List UInt8, (pairT (pairL s)).length ≤ s.length + 1 := fun s => by
            have := hp s
            unfold pairT
            simp; omega
          have key : ∀ (r : List (List UInt8)) (q y : List UInt8), q.length ≤ y.length + 2 → (joinL 59 (q :: (r.map pairL).map attrT)).length ≤ 3 * (joinL 59 (y :: r)).length + 2 := by
            intro r
            induction r with
            | nil => intro q y hq; simp only [List.map_nil, joinL]; omega
            | cons z r ih =>
              intro q y hq
              have h5 := ih (attrT (pairL z)) z (ha z)
              have e1 : joinL 59 (q :: ((z :: r).map pairL).map attrT) = q ++ 59 :: joinL 59 (attrT (pairL z) :: (r.map pairL).map attrT) := rfl
              have e2 : joinL 59 (y :: z :: r) = y ++ 59 :: joinL 59 (z :: r) := rfl
              rw [e1, e2, List.length_append, List.length_append, List.length_cons, List.length_cons]
              omega
          have hl := joinL_all l 59
          have hpos := splitL_pos l 59
          cases hs : splitL l 59 with
          | nil => rw [hs] at hpos; simp at hpos
          | cons y r =>
            rw [hs] at hl
            have := key r (pairT (pairL y)) y (by have := hb y; omega)
            rw [hl] at this
            unfold textH
            show (joinL 59 (pairT (pairL y) :: (r.map pairL).map attrT)).length ≤ _
            omega

set_option maxHeartbeats 2000000 in
set_option maxRecDepth 100000 in
theorem headerBack_walk (s : ByteArray) (w : World) (hs : s.size ≤ maxLen) : Calls Try.prog 6 #[.string s] w fun e w' => e = .returned (.bool true) ∧ Below w.heap.size w w' := by
  obtain ⟨l, rfl⟩ : ∃ l, s = str l := ⟨_, str_of s⟩
  obtain ⟨n, hn⟩ : ∃ n, l.length = n := ⟨_, rfl⟩
  have hsz : (str l).size = n := by rw [str_size, hn]
  rw [hsz] at hs
  unfold maxLen at hs
  have hb := Below.refl w.heap.size w
  by_cases h1 : 5000 < n
  · have h1' : (5000 : Int) < (n : Int) := by omega
    go_enter Try.func6, Try.ntmps6
    go_wp2_with (go_at_call 7; (with_reducible refine (awake12C _).mono ?_); rintro e w1 ⟨rfl, hx⟩)
    go_ret
    exact ⟨rfl, hx⟩
  · have h1' : ¬ (5000 : Int) < (n : Int) := by omega
    have HP := fun w => headParseC l n w hn (by omega)
    unfold HParseIs at HP
    have hfew := parse_few l
    have htl := parse_text_len (l := l)
    have hpb := print_back (s := l)
    rw [hn] at hfew htl
    generalize parseH l = r at *
    obtain ⟨⟨p1, p2⟩, L, er⟩ := r
    dsimp only at *
    by_cases he : er = 0
    · subst he
      have htl := htl rfl
      have HX := fun a c m v (h : RowOf encP 2 v a m c L) => refTextHC (p1, p2) a m c L v h (by omega)
      have HB := fun a c m v (h : RowOf encP 2 v a m c L) => backC a m c L v h (by rw [← h.leq]; omega)
      have HQ := fun a c m v (h : RowOf encP 2 v a m c L) => headPrintC (p1, p2) a m c L v h (by omega)
      obtain ⟨t, ht⟩ : ∃ t, (textH (p1, p2) L).length = t := ⟨_, rfl⟩
      have HR := fun v => headParseC (textH (p1, p2) L) t v ht (by omega)
      unfold HParseIs at HR
      unfold valP at HP HX HQ HR
      have hzt : (str (textH (p1, p2) L)).size = t := by rw [str_size, ht]
      by_cases h2 : 4096 < t
      · have h2' : (4096 : Int) < (t : Int) := by omega
        clear hpb HQ HR ht htl
        generalize textH (p1, p2) L = T at *
        dsimp only at *
        go_enter Try.func6, Try.ntmps6
        go_wp2_with (go_at_call 8; (with_reducible refine (HP _).mono ?_); rintro e w1 ⟨⟨a, m, c, rfl, hr⟩, hx⟩; have hr := hr.below (below_alloc w1 (.cells #[.string (str p1), .string (str p2)] 24)); have o1 := ObjAt.new w1 #[.string (str p1), .string (str p2)] 24; have hb1 := hx.alloc hx.size (.cells #[.string (str p1), .string (str p2)] 24); generalize hv : w1.alloc (.cells #[.string (str p1), .string (str p2)] 24) = v at *; have hdr : Below v.heap.size v v.drew := (Below.refl _ v).drew; have hrd := hr.below hdr; have od := o1.below hdr o1.lt; have hbd := hb1.trans (hdr.mono hb1.size); have u0 := od.cell 0 rfl; have u1 := od.cell 1 rfl; clear hx)
        go_region_law (first
          | ((try go_simp); go_at_call 11; (refine (HB _ _ _ _ hrd).mono ?_); rintro e w2 ⟨b, d, rfl, hO, hx⟩; have hrb := hO.row encP_len; have hr2 := hrd.below hx; have o2 := od.below hx od.lt; have hb2 := hbd.trans (hx.mono hbd.size); have v0 := o2.cell 0 rfl; have v1 := o2.cell 1 rfl; clear hx)
          | ((try go_simp); go_at_call 17; (refine (HX _ _ _ _ hrb).mono ?_); rintro e w3 ⟨rfl, hx⟩; have hr3 := hr2.below hx; have o3 := o2.below hx o2.lt; have hb3 := hb2.trans (hx.mono hb2.size); have x0 := o3.cell 0 rfl; have x1 := o3.cell 1 rfl; clear hx))
        all_goals
          go_wp2_with (go_at_call 7; (with_reducible refine (awake12C _).mono ?_); rintro e w4 ⟨rfl, hx⟩; have hb4 := hb3.trans (hx.mono hb3.size); clear hx)
          go_ret
          exact ⟨rfl, hb4⟩
      · have h2' : ¬ (4096 : Int) < (t : Int) := by omega
        obtain ⟨q1, q2⟩ := hpb rfl (by rw [ht]; omega)
        rw [q1] at HQ
        rw [q2] at HR
        have hE := eqPair p1 p2 p1 p2
        rw [beq_self_true, beq_self_true, Bool.and_self] at hE
        clear hpb ht htl q1 q2
        generalize textH (p1, p2) L = T at *
        dsimp only at *
        go_enter Try.func6, Try.ntmps6
        go_wp2_with (go_at_call 8; (with_reducible refine (HP _).mono ?_); rintro e w1 ⟨⟨a, m, c, rfl, hr⟩, hx⟩; have hr := hr.below (below_alloc w1 (.cells #[.string (str p1), .string (str p2)] 24)); have o1 := ObjAt.new w1 #[.string (str p1), .string (str p2)] 24; have hb1 := hx.alloc hx.size (.cells #[.string (str p1), .string (str p2)] 24); generalize hv : w1.alloc (.cells #[.string (str p1), .string (str p2)] 24) = v at *; have hdr : Below v.heap.size v v.drew := (Below.refl _ v).drew; have hrd := hr.below hdr; have od := o1.below hdr o1.lt; have hbd := hb1.trans (hdr.mono hb1.size); have u0 := od.cell 0 rfl; have u1 := od.cell 1 rfl; clear hx)
        go_region_law (first
          | ((try go_simp); go_at_call 11; (refine (HB _ _ _ _ hrd).mono ?_); rintro e w2 ⟨b, d, rfl, hO, hx⟩; have hrb := hO.row encP_len; have hr2 := hrd.below hx; have o2 := od.below hx od.lt; have hb2 := hbd.trans (hx.mono hbd.size); have v0 := o2.cell 0 rfl; have v1 := o2.cell 1 rfl; clear hx)
          | ((try go_simp); go_at_call 17; (refine (HX _ _ _ _ hrb).mono ?_); rintro e w3 ⟨rfl, hx⟩; have hr3 := hr2.below hx; have o3 := o2.below hx o2.lt; have hb3 := hb2.trans (hx.mono hb2.size); have x0 := o3.cell 0 rfl; have x1 := o3.cell 1 rfl; clear hx))
        all_goals
          go_wp2_with (first
            | (go_at_call 16; (with_reducible refine (HQ _ _ _ _ hr3).mono ?_); rintro e w4 ⟨rfl, hx⟩; have hr4 := hr3.below hx; have o4 := o3.below hx o3.lt; have hb4 := hb3.trans (hx.mono hb3.size); clear hx)
            | (go_at_call 8; (with_reducible refine (HR _).mono ?_); rintro e w5 ⟨⟨a5, m5, c5, rfl, hr5⟩, hx⟩; have hr6 := (hr4.below hx).below (below_alloc w5 (.cells #[.string (str p1), .string (str p2)] 24)); have hr5 := hr5.below (below_alloc w5 (.cells #[.string (str p1), .string (str p2)] 24)); have o5 := (o4.below hx o4.lt).below (below_alloc w5 (.cells #[.string (str p1), .string (str p2)] 24)) (o4.below hx o4.lt).lt; have o6 := ObjAt.new w5 #[.string (str p1), .string (str p2)] 24; have hb5 := hb4.trans (hx.mono hb4.size); have hb6 := hb5.alloc hb5.size (.cells #[.string (str p1), .string (str p2)] 24); generalize hv5 : w5.alloc (.cells #[.string (str p1), .string (str p2)] 24) = v5 at *; have i0 := o5.cell 0 rfl; have i1 := o5.cell 1 rfl; have j0 := o6.cell 0 rfl; have j1 := o6.cell 1 rfl; clear hx)
            | (go_at_call 11; (with_reducible refine (HB _ _ _ _ hr5).mono ?_); rintro e w7 ⟨b7, d7, rfl, hO7, hx⟩; have hs7 := hO7.row encP_len; have hr8 := hr6.below hx; have hb7 := hb6.trans (hx.mono hb6.size); clear hx)
            | (go_at_call 11; (with_reducible refine (HB _ _ _ _ hr8).mono ?_); rintro e w8 ⟨b8, d8, rfl, hO8, hx⟩; have hs8 := hO8.row encP_len; have hs9 := hs7.below hx; have hb8 := hb7.trans (hx.mono hb7.size); clear hx)
            | (go_at_call 10; (with_reducible refine (refSameHC _ _ _ _ _ _ _ _ _ hs9 hs8).mono ?_); rintro e w9 ⟨rfl, hq⟩; rw [beq_self_true]; have hx := below_quiet hq; have hb9 := hb8.trans (hx.mono hb8.size); clear hx hq)
            | (go_at_call 7; (with_reducible refine (awake12C _).mono ?_); rintro e w10 ⟨rfl, hx⟩; have hb10 := hb9.trans (hx.mono hb9.size); clear hx))
          go_ret
          exact ⟨rfl, hb10⟩
    · have he2 : (er == 0) = false := beq_eq_false_iff_ne.2 he
      have he3 : (er != 0) = true := bne_iff_ne.2 he
      clear hpb htl he
      unfold valP at HP
      dsimp only at HP
      go_enter Try.func6, Try.ntmps6
      go_wp2_with (go_at_call 8; (with_reducible refine (HP _).mono ?_); rintro e w1 ⟨⟨a, m, c, rfl, hr⟩, hx⟩; have hr := hr.below (below_alloc w1 (.cells #[.string (str p1), .string (str p2)] 24)); have o1 := ObjAt.new w1 #[.string (str p1), .string (str p2)] 24; have hb1 := hx.alloc hx.size (.cells #[.string (str p1), .string (str p2)] 24); generalize hv : w1.alloc (.cells #[.string (str p1), .string (str p2)] 24) = v at *; have hdr : Below v.heap.size v v.drew := (Below.refl _ v).drew; have hrd := hr.below hdr; have od := o1.below hdr o1.lt; have hbd := hb1.trans (hdr.mono hb1.size); have u0 := od.cell 0 rfl; have u1 := od.cell 1 rfl; clear hx)
      go_quiet (fail)
      go_wp2_with (go_at_call 7; (with_reducible refine (awake12C _).mono ?_); rintro e w4 ⟨rfl, hx⟩; have hb4 := (below_drawn hb1 _).trans (hx.mono (below_drawn hb1 _).size); clear hx)
      go_ret
      exact ⟨rfl, hb4⟩
end Go.Proofs.Ytlmcfflpgkapgaa
