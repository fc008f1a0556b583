/- Layer 15's laws, walked: in whatever order items stand. -/
import Derived.Test.YtjocnhkapiiblaaDoorLibAK
import Derived.Test.YtjocnhkapiiblaaDoorLibAA
namespace Go.Proofs.YtjocnhkapiiblaaDoor
open Go.RowKit
set_option linter.unusedVariables false

def rotL (L : List ItemL) (N : Nat) : List ItemL := L.drop N ++ L.take N
theorem rot_len (L : List ItemL) (N : Nat) (h : N ≤ L.length) : (rotL L N).length = L.length := by unfold rotL; rw [List.length_append, List.length_drop, List.length_take]; omega
theorem rot_at (L : List ItemL) (N i : Nat) (h : N < L.length) (hi : i < L.length) : (rotL L N)[i]? = L[(i + N) % L.length]? := by
  unfold rotL
  by_cases c : i < L.length - N
  · rw [List.getElem?_append_left (by rw [List.length_drop]; exact c), List.getElem?_drop, Nat.mod_eq_of_lt (by omega), Nat.add_comm]
  · rw [List.getElem?_append_right (by rw [List.length_drop]; omega), List.length_drop, List.getElem?_take, if_pos (by omega)]
    congr 1
    rw [Nat.mod_eq_sub_mod (by omega), Nat.mod_eq_of_lt (by omega)]
    omega
theorem rot_perm (L : List ItemL) (N : Nat) : L.Perm (rotL L N).reverse := by
  unfold rotL
  refine List.Perm.trans ?_ (List.reverse_perm _).symm
  have := List.perm_append_comm (l₁ := L.take N) (l₂ := L.drop N)
  rwa [List.take_append_drop] at this
theorem rot_step (M : List ItemL) (j : Nat) (x : ItemL) (hx : M[M.length - (j + 1)]? = some x) (hj : j < M.length) : (M.drop (M.length - (j + 1))).reverse = (M.drop (M.length - j)).reverse ++ [x] := by
  obtain ⟨h1, e1⟩ := List.getElem?_eq_some_iff.1 hx
  rw [List.drop_eq_getElem_cons h1, e1, List.reverse_cons]
  congr 3
  omega
theorem unlike_of (L : List ItemL) (h : ∀ (a b : Nat) (x y : ItemL), b < a → L[a]? = some x → L[b]? = some y → sameKey x y = false) : Unlike L := by
  unfold Unlike
  rw [List.pairwise_iff_getElem]
  intro i j hi hj hij
  rw [same_key_comm]
  exact h j i _ _ hij (List.getElem?_eq_getElem hj) (List.getElem?_eq_getElem hi)

set_option maxHeartbeats 8000000 in
set_option maxRecDepth 100000 in
theorem matchTurned_walk (a : Option Addr) (n c : Nat) (L : List ItemL) (h p : List UInt8) (sec scr : Bool) (t : Int) (w : World) (hL : RowOf encI 11 w a n c L) (hS : ∀ x ∈ L, fitI x) (lh : (str h).size ≤ maxLen) (lp : (str p).size ≤ maxLen) (ht : (Lit.int .u8 t).wf = true) (hT : MTb w) :
    Calls Tryd.prog 5 #[.slice a n c, .agg #[.string (str h), .string (str p), .bool sec, .bool scr], .int .u8 t] w fun e w' => e = .returned (.bool true) ∧ Below w.heap.size w w' := by
  have hb := below_alloc w (.cells #[.string (str h), .string (str p), .bool sec, .bool scr] 36)
  have o := ObjAt.new w #[.string (str h), .string (str p), .bool sec, .bool scr] 36
  have hL0 := hL.below hb
  have hT0 := hT.below hb
  have HL := light15C a n c L _ hL0 hS
  have HAw := awake15C _ hT0
  rw [str_size] at lh lp
  obtain ⟨m1, hm1⟩ : ∃ m, h.length = m := ⟨_, rfl⟩
  obtain ⟨m2, hm2⟩ : ∃ m, p.length = m := ⟨_, rfl⟩
  have z1 : (str h).size = m1 := by rw [str_size, hm1]
  have z2 : (str p).size = m2 := by rw [str_size, hm2]
  have u0 := o.cell 0 rfl; have u1 := o.cell 1 rfl; have u2 := o.cell 2 rfl; have u3 := o.cell 3 rfl
  unfold maxLen at lh lp
  rw [hm1] at lh
  rw [hm2] at lp
  have hnc := hL.cle
  have hcm := hL.capm
  unfold maxLen at hcm
  obtain ⟨lt, hlt⟩ : ∃ b, lightI L = b := ⟨_, rfl⟩
  rw [hlt] at HL
  cases lt with
  | false =>
    clear o hL hL0
    go_enter Tryd.func5, Tryd.ntmps5
    go_wp2_with (first
      | (go_at_call 6; (with_reducible refine HL.mono ?_); rintro e w1 ⟨rfl, rfl⟩)
      | (go_at_call 7; (with_reducible refine HAw.mono ?_); rintro e w2 ⟨rfl, hx⟩; have hb2 := hb.trans (hx.mono hb.size)))
    go_ret
    exact ⟨rfl, hb2⟩
  | true =>
  by_cases g1 : 300 < m1
  · have g1' : (300 : Int) < (m1 : Int) := by omega
    clear o hL hL0
    go_enter Tryd.func5, Tryd.ntmps5
    go_wp2_with (first
      | (go_at_call 6; (with_reducible refine HL.mono ?_); rintro e w1 ⟨rfl, rfl⟩)
      | (go_at_call 7; (with_reducible refine HAw.mono ?_); rintro e w2 ⟨rfl, hx⟩; have hb2 := hb.trans (hx.mono hb.size)))
    go_ret
    exact ⟨rfl, hb2⟩
  have g1' : ¬ (300 : Int) < (m1 : Int) := by omega
  by_cases g2 : 300 < m2
  · have g2' : (300 : Int) < (m2 : Int) := by omega
    clear o hL hL0
    go_enter Tryd.func5, Tryd.ntmps5
    go_wp2_with (first
      | (go_at_call 6; (with_reducible refine HL.mono ?_); rintro e w1 ⟨rfl, rfl⟩)
      | (go_at_call 7; (with_reducible refine HAw.mono ?_); rintro e w2 ⟨rfl, hx⟩; have hb2 := hb.trans (hx.mono hb.size)))
    go_ret
    exact ⟨rfl, hb2⟩
  have g2' : ¬ (300 : Int) < (m2 : Int) := by omega
  rcases Nat.eq_zero_or_pos n with g3 | g3
  · subst g3
    clear o hL hL0
    go_enter Tryd.func5, Tryd.ntmps5
    go_wp2_with (first
      | (go_at_call 6; (with_reducible refine HL.mono ?_); rintro e w1 ⟨rfl, rfl⟩)
      | (go_at_call 7; (with_reducible refine HAw.mono ?_); rintro e w2 ⟨rfl, hx⟩; have hb2 := hb.trans (hx.mono hb.size)))
    go_ret
    exact ⟨rfl, hb2⟩
  have g3' : ((n : Int) == 0) = false := by rw [beq_eq_false_iff_ne]; omega
  have hn60 : n ≤ 60 := by
    unfold lightI at hlt
    rw [Bool.and_eq_true, decide_eq_true_iff, hL.leq] at hlt
    exact hlt.1
  have HLr := Lib.hid hL
  have Hn : Hid (L.length = n) := hL.leq
  have Ho := Lib.hid o
  have Hb := Lib.hid hb
  clear o hL
  go_enter Tryd.func5, Tryd.ntmps5
  go_wp2_with (go_at_call 6; (with_reducible refine HL.mono ?_); rintro e w1 ⟨rfl, rfl⟩)
  go_loopw [7] (fun i wr => ∃ k q : Nat, k ≤ n ∧ i = .int .i64 (k : Int) ∧ Hid (∀ (a b : Nat) (x y : ItemL), a < k → b < a → L[a]? = some x → L[b]? = some y → sameKey x y = false) ∧ wr = (w.alloc (.cells #[.string (str h), .string (str p), .bool sec, .bool scr] 36)).drewN q) (fun i _ => n - (intOf i).toNat)
  case atStart => exact ⟨0, 0, Nat.zero_le _, rfl, fun a b x y hh => absurd hh (Nat.not_lt_zero _), rfl⟩
  case round =>
    obtain ⟨k, q, hk, rfl, hun, rfl⟩ := hrel
    by_cases hlk : k < n
    · have hlk' : (k : Int) < (n : Int) := by omega
      obtain ⟨x, hx⟩ : ∃ x, L[k]? = some x := ⟨_, List.getElem?_eq_getElem (by rw [Hn.out]; exact hlk)⟩
      have HX := Lib.hid hx
      clear hx
      go_wp2_with fail
      go_loopw [8] (fun i wr => ∃ j q : Nat, j ≤ k ∧ i = .int .i64 (j : Int) ∧ Hid (∀ (b : Nat) (y : ItemL), b < j → L[b]? = some y → sameKey x y = false) ∧ wr = (w.alloc (.cells #[.string (str h), .string (str p), .bool sec, .bool scr] 36)).drewN q) (fun i _ => k - (intOf i).toNat)
      case atStart => exact ⟨0, _, Nat.zero_le _, rfl, fun b y hh => absurd hh (Nat.not_lt_zero _), rfl⟩
      case round =>
        obtain ⟨j, q2, hj, rfl, hin, rfl⟩ := hrel
        by_cases hjk : j < k
        · have hjk' : (j : Int) < (k : Int) := by omega
          have hjn : (j : Int) < (n : Int) := by omega
          have HLw := HLr.out.below Hb.out
          obtain ⟨x', g1, o1, hx', rfl, c0, c1, c2, c3, c4, c5, c6, c7, c8, c9, c10⟩ := item_at HLw k hlk
          have hxx : x' = x := by have := HX.out; rw [hx'] at this; cases this; rfl
          subst hxx
          obtain ⟨y, g2, o2, hy, hy2, d0, d1, d2, d3, d4, d5, d6, d7, d8, d9, d10⟩ := item_at HLw j (by omega)
          cases hy2
          have hE := fun v => eqKey2 x' y v
          have hnext : Hid (sameKey x' y = false → ∀ (b : Nat) (z : ItemL), b < j + 1 → L[b]? = some z → sameKey x' z = false) := fun hf b z hb2 hz => by
            by_cases e : b = j
            · subst e
              rw [hy] at hz
              cases hz
              exact hf
            · exact hin.out b z (by omega) hz
          clear hx' hy HLw
          cases hsk : sameKey x' y with
          | true =>
            simp only [hsk] at hE
            clear hnext hin hun hsk
            have HAw := fun (m : Nat) => awake15C ((w.alloc (.cells #[.string (str h), .string (str p), .bool sec, .bool scr] 36)).drewN m) (hT.below (below_drawn Hb.out m))
            go_wp2_with fail
            go_quiet (fail)
            go_wp2_with (go_at_call 7; (with_reducible refine (HAw _).mono ?_); rintro e w9 ⟨rfl, hx⟩)
            go_ret
            exact ⟨rfl, (below_drawn Hb.out _).trans (hx.mono (below_drawn Hb.out _).size)⟩
          | false =>
            simp only [hsk] at hE
            have hn2 := Lib.hid (hnext.out hsk)
            clear hnext hin hun hsk
            go_wp2_with fail
            go_quiet (fail)
            go_wp2
            go_roundw
            case rel => exact ⟨j + 1, _, by omega, by go_num, hn2, by first | rfl | simp⟩
            case measure => simp [intOf]; omega
        · obtain rfl : j = k := by omega
          have hun2 : Hid (∀ (a b : Nat) (x y : ItemL), a < j + 1 → b < a → L[a]? = some x → L[b]? = some y → sameKey x y = false) := fun a b x1 y1 ha hb2 h1 h2 => by
            by_cases e : a = j
            · subst e
              have := HX.out
              rw [h1] at this
              cases this
              exact hin.out b y1 hb2 h2
            · exact hun.out a b x1 y1 (by omega) hb2 h1 h2
          clear hin hun
          go_wp2_with fail
          go_roundw
          case rel => exact ⟨j + 1, _, by omega, by go_num, hun2, by first | rfl | simp⟩
          case measure => simp [intOf]; omega
    · obtain rfl : k = n := by omega
      have HU := Lib.hid (unlike_of L (fun a b x y hb2 h1 h2 => by
        have ha : a < k := by have := (List.getElem?_eq_some_iff.1 h1).1; rw [Hn.out] at this; exact this
        exact hun.out a b x y ha hb2 h1 h2))
      clear hun
      obtain ⟨M, rfl, hM⟩ : ∃ M : Nat, t = (M : Int) ∧ M ≤ 255 := by
        have h1 := wfU8 ht
        exact ⟨t.toNat, by omega, by omega⟩
      obtain ⟨N, hN⟩ : ∃ N, M % k = N := ⟨_, rfl⟩
      have hNk : N < k := by rw [← hN]; exact Nat.mod_lt _ g3
      have hN1 : (M : Int).tmod (k : Int) = (N : Int) := by rw [← hN]; exact (Int.ofNat_tmod M k).symm
      have hN2 : (M : Int) % (k : Int) = (N : Int) := by rw [← hN]; rfl
      have hk0 : ¬ (k : Int) = 0 := by omega
      have hrl := rot_len L N (by rw [Hn.out]; omega)
      rw [Hn.out] at hrl
      obtain ⟨i0, hi, hz0, hz1, hz2⟩ := info_parts infoItem
      have hsW : (w.alloc (.cells #[.string (str h), .string (str p), .bool sec, .bool scr] 36)).heap.size = w.heap.size + 1 := by simp
      have hwq := below_drawn (Below.refl (w.heap.size + 1) (w.alloc (.cells #[.string (str h), .string (str p), .bool sec, .bool scr] 36))) q
      obtain ⟨wq, hwqe⟩ : ∃ wq, wq = (w.alloc (.cells #[.string (str h), .string (str p), .bool sec, .bool scr] 36)).drewN q := ⟨_, rfl⟩
      rw [← hwqe] at hwq
      have hO0 := (OwnZ.lit encI 11 27 wq).base (base' := w.heap.size + 1) (by rw [← hsW]; exact hwq.size)
      have hB0 := hwq.trans ((below_alloc wq (.cells #[] 27)).mono (by rw [← hsW]; exact hwq.size))
      have hs0 : ((rotL L N).drop k).reverse = [] := by rw [List.drop_of_length_le (by omega)]; rfl
      rw [← hs0] at hO0
      rw [hwqe] at hO0 hB0
      have hsz : ((w.alloc (.cells #[.string (str h), .string (str p), .bool sec, .bool scr] 36)).drewN q).heap.size = w.heap.size + 1 := by simp [World.drewN]
      rw [hsz] at hO0
      clear hwq hwqe hs0 hsz
      go_wp2_with fail
      go_loopw [10, 11] (fun m i wr => ∃ (r l : Nat) (b : Option Addr) (C : Nat), r ≤ k ∧ l + r = k ∧ m = .slice b l C ∧ i = .int .i64 ((r : Int) - 1) ∧ OwnZ encI 11 (w.heap.size + 1) 27 b l C ((rotL L N).drop r).reverse wr ∧ Below (w.heap.size + 1) (w.alloc (.cells #[.string (str h), .string (str p), .bool sec, .bool scr] 36)) wr) (fun _ i _ => (intOf i + 1).toNat)
      case atStart => exact ⟨k, 0, _, _, Nat.le_refl _, by omega, rfl, rfl, hO0, hB0⟩
      case round =>
        clear hO0 hB0
        obtain ⟨r, l, b, C, hr, hlr, rfl, rfl, hO, hB⟩ := hrel
        rcases Nat.eq_zero_or_pos r with hr0 | hr0
        · subst hr0
          have hlk : l = k := by omega
          subst hlk
          have e0 : ((0 : Nat) : Int) - 1 = -1 := by decide
          have hB2 := hB
          rw [← hsW] at hB2
          have ho := Ho.out.below hB (Nat.lt_succ_self _)
          have hLw := (HLr.out.below Hb.out).below hB2
          have hMw := hO.row encI_len
          rw [List.drop_zero] at hMw
          have hperm := rot_perm L N
          have hpk := pick_turned HU.out hperm h p sec scr 0
          have hlm : lightI (rotL L N).reverse = true := by
            unfold lightI at hlt ⊢
            rw [Bool.and_eq_true, List.all_eq_true] at hlt ⊢
            exact ⟨by rw [← hperm.length_eq]; exact hlt.1, fun x hx => hlt.2 x (hperm.mem_iff.2 hx)⟩
          generalize (rotL L N).reverse = M2 at *
          have HP1 := fun v hv t => matchPickC a l c L h p sec scr 0 v hv hlt (by omega) (by omega) t
          have HP2 := fun v hv t => matchPickC b l C M2 h p sec scr 0 v hv hlm (by omega) (by omega) t
          rw [← hpk] at HP2
          generalize pickI L h p sec scr 0 = P at *
          unfold GivesZ at HP1 HP2
          have hs : sameL P P = true := sameL_iff.2 rfl
          have hbW : Below w.heap.size w wr := Hb.out.trans (hB2.mono Hb.out.size)
          have hT1 : MTb wr := hT.below hbW
          have hB1 : Below wr.heap.size wr wr.drew := (Below.refl _ wr).drew
          have hS0 : ∀ w', Below wr.heap.size wr w' → w'.cell? ⟨w.heap.size, 0, none⟩ = some (.string (str h)) ∧ w'.cell? ⟨w.heap.size, 1, none⟩ = some (.string (str p)) ∧ w'.cell? ⟨w.heap.size, 2, none⟩ = some (.bool sec) ∧ w'.cell? ⟨w.heap.size, 3, none⟩ = some (.bool scr) := fun w' hx => by
            have q1 := ho.below hx ho.lt
            exact ⟨q1.cell 0 rfl, q1.cell 1 rfl, q1.cell 2 rfl, q1.cell 3 rfl⟩
          clear hO hB hB2 hpk hperm HU hlt hlm ho
          go_wp2_with fail
          go_region_held3 (fun w' => w'.cell? ⟨w.heap.size, 0, none⟩ = some (.string (str h)) ∧ w'.cell? ⟨w.heap.size, 1, none⟩ = some (.string (str p)) ∧ w'.cell? ⟨w.heap.size, 2, none⟩ = some (.bool sec) ∧ w'.cell? ⟨w.heap.size, 3, none⟩ = some (.bool scr))
            (first | exact hS0 _ hB1)
            (first
              | (go_at_call 15; (with_reducible refine (HP1 _ (hLw.below hB1) (hT1.below hB1)).mono ?_); rintro e w3 ⟨a3, c3, rfl, hO3, hx⟩; have hB1 := hB1.trans (hx.mono hB1.size); have hr3 := hO3.row encI_len; clear hx)
              | (go_at_call 15; (with_reducible refine (HP2 _ (hMw.below hB1) (hT1.below hB1)).mono ?_); rintro e w4 ⟨a4, c4, rfl, hO4, hx⟩; have hB1 := hB1.trans (hx.mono hB1.size); have hr3 := hr3.below hx; have hr4 := hO4.row encI_len; clear hx)
              | (go_at_call 13; (with_reducible refine (refSameIC _ _ _ _ _ _ P P _ hr3 hr4).mono ?_); rintro e w5 ⟨rfl, q5, rfl⟩; rw [hs]; have hB1 := below_drawn hB1 q5)
              | (go_at_call 7; (with_reducible refine (awake15C _ (hT1.below hB1)).mono ?_); rintro e w6 ⟨rfl, hx⟩; have hB1 := hB1.trans (hx.mono hB1.size); clear hx))
          all_goals
            go_wp2
            go_ret
            exact ⟨rfl, hbW.trans (hB1.mono hbW.size)⟩
        · obtain ⟨s, rfl⟩ : ∃ s, r = s + 1 := ⟨r - 1, by omega⟩
          obtain ⟨R1, hR1⟩ : ∃ R1, s + 1 = R1 := ⟨_, rfl⟩
          have e1 : (R1 : Int) - 1 = (s : Int) := by omega
          obtain ⟨Z, hZ⟩ : ∃ Z, (s + N) % k = Z := ⟨_, rfl⟩
          have hZk : Z < k := by rw [← hZ]; exact Nat.mod_lt _ g3
          obtain ⟨SN, hSN⟩ : ∃ SN, s + N = SN := ⟨_, rfl⟩
          have e2 : (s : Int) + (N : Int) = (SN : Int) := by omega
          rw [hSN] at hZ
          have e3 : (SN : Int).tmod (k : Int) = (Z : Int) := by rw [← hZ]; exact (Int.ofNat_tmod SN k).symm
          have e4 : (SN : Int) % (k : Int) = (Z : Int) := by rw [← hZ]; rfl
          have e5 : (0 : Int) ≤ (s : Int) := by omega
          have e6 : (Z : Int) < (k : Int) := by omega
          have hB2 := hB
          rw [← hsW] at hB2
          have hbs : w.heap.size + 1 ≤ wr.heap.size := by rw [← hsW]; exact hB.size
          obtain ⟨x, g1, o1, hx, rfl, c0, c1, c2, c3, c4, c5, c6, c7, c8, c9, c10⟩ := item_at ((HLr.out.below Hb.out).below hB2) Z hZk
          clear hB2
          have hxr : (rotL L N)[s]? = some x := by rw [rot_at L N s (by rw [Hn.out]; exact hNk) (by rw [Hn.out]; omega), Hn.out, hSN, hZ]; exact hx
          have hst : Hid (((rotL L N).drop s).reverse = ((rotL L N).drop R1).reverse ++ [x]) := by
            unfold Hid
            obtain ⟨h1, h2⟩ := List.getElem?_eq_some_iff.1 hxr
            rw [List.drop_eq_getElem_cons h1, h2, List.reverse_cons, hR1]
          rw [hR1] at hO hlr hr ⊢
          clear hx hxr hZ hSN
          go_wp2_with (at_builtin; refine wpList_append_row1 encI_len (by decide) encI_one rfl (.tmp 69) (.tmp 79) 29 rfl 27 i0 (.agg #[.string ⟨#[]⟩, .string ⟨#[]⟩, .string ⟨#[]⟩, .string ⟨#[]⟩, .bool false, .bool false, .bool false, .bool false, .int .i64 0, .int .i64 0, .int .i64 0]) 96 Tryd.underlying29 hi hz0 hz1 hz2 rfl hO rfl x rfl rfl (l + 1) rfl (by unfold maxLen; omega) (by omega) hbs ?_; intro a7 q7 w7 hO7 hb7 hg7 ha7)
          go_roundw
          case rel => exact ⟨s, l + 1, a7, q7, by omega, by omega, rfl, by first | rfl | go_num, by rw [hst.out]; exact hO7, hB.trans hb7⟩
          case measure => simp [intOf]; omega
end Go.Proofs.YtjocnhkapiiblaaDoor
