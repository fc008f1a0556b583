/- Contracts of layer 9: Check, Of, Public, Own. -/
import Derived.Test.YtgibhpljlebcdaaDoorSuffixParted
import Derived.Test.YtgibhpljlebcdaaDoorSuffixRef3
namespace Go.Proofs.YtgibhpljlebcdaaDoor
open Go.RowKit
set_option linter.unusedVariables false

set_option maxRecDepth 100000 in
theorem sufCheckC (a : Option Addr) (len cap : Nat) (R : List (List UInt8)) (w : World) (hR : IsStrs w a len cap R) (hS : ∀ x ∈ R, x.length ≤ 1000) (hT : PTab Tryd.prog w) :
    Calls Tryd.prog 12 #[.slice a len cap] w fun e w' => e = .returned (.int .i64 (checkN R)) ∧ Below w.heap.size w w' := by
  have HP := partedC a len cap R w hR hS hT
  unfold PartedIs at HP
  clear hR hS hT
  go_enter Tryd.func12, Tryd.ntmps12
  go_wp2_with (go_at_call 17; (with_reducible refine HP.mono ?_); rintro e w1 ⟨hb, ⟨h0, rfl⟩ | ⟨h0, g, rfl, hI, hg⟩⟩)
  · go_ret
    exact ⟨rfl, hb⟩
  · go_wp2
    go_ret
    exact ⟨by rw [h0]; rfl, hb⟩

/-- The last labels, joined. -/
theorem joinDotC (bk o c m : Nat) (P : List (List UInt8)) (w : World) (hr : Reads w (some ⟨bk, o, none⟩) (strs P)) (hm : P.length = m) (h1 : 1 ≤ m) (hc : m ≤ c) (hl : (joinL 46 P).length ≤ 1000) (hbk : bk < w.heap.size) (hP : m ≤ 100000) :
    Calls Tryd.prog 19 #[.slice (some ⟨bk, o, none⟩) m c, .string ⟨#[46]⟩] w fun e w' => e = .returned (.string (str (joinL 46 P))) ∧ Below w.heap.size w w' := by
  have hmap : (P.map str).map (·.data.toList) = P := by
    rw [List.map_map]
    have : ((fun x : ByteArray => x.data.toList) ∘ str) = id := funext fun l => str_data l
    rw [this, List.map_id]
  have h := Tryd.strings_Join bk o c (P.map str) ⟨#[46]⟩ w (fun j x hj => by
      rw [List.getElem?_map] at hj
      obtain ⟨y, hy, rfl⟩ := Option.map_eq_some_iff.1 hj
      obtain ⟨b', off', e1, e2⟩ := hr j (.string (str y)) (by unfold strs; rw [List.getElem?_map, hy]; rfl)
      cases e1
      exact e2) hbk (by rw [List.length_map]; omega) (by rw [List.length_map]; omega) (by rw [hmap]; show (Lib.join P [46]).length ≤ _; rw [lib_join]; omega)
  rw [hmap, List.length_map, hm] at h
  refine h.mono ?_
  rintro e w' ⟨rfl, hb⟩
  refine ⟨?_, hb⟩
  show Ending.returned (.string ⟨(Lib.join P [46]).toArray⟩) = _
  rw [lib_join]
  rfl

theorem partedNo (a : Option Addr) (len cap : Nat) (R : List (List UInt8)) (E : Int) (w : World) (hR : IsStrs w a len cap R) (hS : ∀ x ∈ R, x.length ≤ 1000) (hT : PTab Tryd.prog w) (he : checkN R = E) (h0 : E ≠ 0) :
    Calls Tryd.prog 17 #[.slice a len cap] w fun e w' => e = .returned (.tuple #[.slice none 0 0, .int .i64 E]) ∧ Below w.heap.size w w' := by
  subst he
  refine (partedC a len cap R w hR hS hT).mono ?_
  rintro e w' ⟨hb, ⟨-, rfl⟩ | ⟨c, -⟩⟩
  · exact ⟨rfl, hb⟩
  · exact absurd c h0

theorem partedYes (a : Option Addr) (len cap : Nat) (R : List (List UInt8)) (w : World) (hR : IsStrs w a len cap R) (hS : ∀ x ∈ R, x.length ≤ 1000) (hT : PTab Tryd.prog w) (he : checkN R = 0) :
    Calls Tryd.prog 17 #[.slice a len cap] w fun e w' => (∃ g, e = .returned (.tuple #[.slice (some ⟨g, 0, none⟩) len len, .int .i64 0]) ∧ IsRules w' g (R.map ruleK) ∧ g < w'.heap.size) ∧ Below w.heap.size w w' := by
  refine (partedC a len cap R w hR hS hT).mono ?_
  rintro e w' ⟨hb, ⟨c, -⟩ | ⟨-, h⟩⟩
  · exact absurd he c
  · exact ⟨h, hb⟩

theorem labelsNo (s : List UInt8) (n : Nat) (w : World) (hn : s.length = n) (hm : n ≤ 1000) (hT : PTab Tryd.prog w) (hs : nameB s = false) :
    Calls Tryd.prog 18 #[.string (str s)] w fun e w' => e = .returned (.slice none 0 0) ∧ Below w.heap.size w w' := by
  refine (labelsC s n w hn (by unfold maxLen; omega) hT).mono ?_
  intro e w' h
  unfold LabelsIs at h
  rw [if_neg (by rw [hs]; decide)] at h
  exact h

theorem labelsYes (s : List UInt8) (n K : Nat) (w : World) (hn : s.length = n) (hm : n ≤ 1000) (hT : PTab Tryd.prog w) (hs : nameB s = true) (hK : (splitL s 46).length = K) :
    Calls Tryd.prog 18 #[.string (str s)] w fun e w' => (∃ g c, e = .returned (.slice (some ⟨g, 0, none⟩) K c) ∧ Owned w.heap.size 9 (some ⟨g, 0, none⟩) K c (strs (splitL s 46)) w') ∧ Below w.heap.size w w' := by
  refine (labelsC s n w hn (by unfold maxLen; omega) hT).mono ?_
  intro e w' h
  unfold LabelsIs GivesStrs at h
  rw [if_pos hs] at h
  obtain ⟨a, c, rfl, ho, hb⟩ := h
  rw [hK] at ho ⊢
  have := splitL_pos s 46
  obtain ⟨g, rfl, -, -⟩ := ho.head (by omega)
  exact ⟨⟨g, c, rfl, ho⟩, hb⟩

theorem owned_lt {base : Nat} {e : TypeId} {g n c : Nat} {xs : List Value} {w : World} (h : Owned base e (some ⟨g, 0, none⟩) n c xs w) (hn : 1 ≤ n) : g < w.heap.size := by
  obtain ⟨g', hg, -, hlt⟩ := h.head hn
  cases hg
  exact hlt

theorem last_joined {s : List UInt8} {n K : Nat} (hK : (splitL s 46).length = K) (h1 : 1 ≤ n) : lastN s n = joinL 46 ((splitL s 46).drop (K - n)) := by
  unfold lastN
  rw [if_neg (by omega), hK]
  rfl

set_option maxHeartbeats 1000000 in
set_option maxRecDepth 100000 in
theorem sufOfC (a : Option Addr) (len cap : Nat) (R : List (List UInt8)) (s : List UInt8) (n : Nat) (w : World) (hR : IsStrs w a len cap R) (hS : ∀ x ∈ R, x.length ≤ 1000) (hn : s.length = n) (hm : n ≤ 1000) (hT : PTab Tryd.prog w) :
    Calls Tryd.prog 8 #[.slice a len cap, .string (str s)] w fun e w' => e = .returned (.tuple #[.string (str (ofR R s).1), .int .i64 (ofR R s).2]) ∧ Below w.heap.size w w' := by
  have hlen := hR.1
  rcases check_cases R with ⟨-, e⟩ | ⟨-, -, e⟩ | ⟨hle, hall, e⟩
  · have HP := partedNo a len cap R 3 w hR hS hT e (by decide)
    unfold ofR
    rw [e]
    clear hR hlen e
    go_enter Tryd.func8, Tryd.ntmps8
    go_wp2_with (go_at_call 17; (with_reducible refine HP.mono ?_); rintro e w1 ⟨rfl, hb⟩)
    go_ret2
    exact ⟨rfl, hb⟩
  · have HP := partedNo a len cap R 1 w hR hS hT e (by decide)
    unfold ofR
    rw [e]
    clear hR hlen e
    go_enter Tryd.func8, Tryd.ntmps8
    go_wp2_with (go_at_call 17; (with_reducible refine HP.mono ?_); rintro e w1 ⟨rfl, hb⟩)
    go_ret2
    exact ⟨rfl, hb⟩
  · have HP := partedYes a len cap R w hR hS hT e
    unfold ofR
    rw [if_neg (by rw [e]; decide)]
    by_cases hs : nameB s = true
    · rw [if_pos hs]
      obtain ⟨K, hK⟩ : ∃ K, (splitL s 46).length = K := ⟨_, rfl⟩
      obtain ⟨j, hpub, hj1, hjK, hof⟩ := of_pub hall hs
      rw [hK] at hjK
      have HL := fun v (h : PTab Tryd.prog v) => labelsYes s n K v hn hm h hs hK
      have HU := fun g v h hg => publicC g len len (R.map ruleK) s n v h (by rw [List.length_map, hlen]) hg (by omega) (Nat.le_refl _) hn hm
      have hlj := last_joined hK hj1
      have hll := last_le s j
      have hKn := splitL_le s 46
      rw [hK] at hKn
      have HJ := fun (g c : Nat) (v : World) (h : Reads v (some ⟨g, K - j, none⟩) (strs ((splitL s 46).drop (K - j)))) (hc : K ≤ c) (hg : g < v.heap.size) => joinDotC g (K - j) (c - (K - j)) (K - (K - j)) ((splitL s 46).drop (K - j)) v h (by rw [List.length_drop, hK]) (by omega) (by omega) (by rw [← hlj]; omega) hg (by omega)
      rw [← hlj, ← hof] at HJ
      rw [hpub] at HU
      have hcut : Hid (∀ v g, Reads v (some ⟨g, 0, none⟩) (strs (splitL s 46)) → Reads v (some ⟨g, K - j, none⟩) (strs ((splitL s 46).drop (K - j)))) := fun v g h => by
        have e1 : strs ((splitL s 46).take (K - j)) ++ strs ((splitL s 46).drop (K - j)) = strs (splitL s 46) := by
          unfold strs
          rw [← List.map_append, List.take_append_drop]
        have e2 : (strs ((splitL s 46).take (K - j))).length = K - j := by
          unfold strs
          rw [List.length_map, List.length_take, hK]
          omega
        rw [← e1] at h
        have := h.cut
        rw [e2, Nat.zero_add] at this
        exact this
      generalize ofL R s = o at *
      clear hlj hll hof hpub hall e hR hlen hle
      go_enter Tryd.func8, Tryd.ntmps8
      go_wp2_with (first
        | (go_at_call 17; (with_reducible refine HP.mono ?_); rintro e w1 ⟨⟨g, rfl, hI, hg⟩, hb⟩; have hT1 := hT.below hb)
        | (go_at_call 18; (with_reducible refine (HL _ hT1).mono ?_); rintro e w2 ⟨⟨g2, c, rfl, ho⟩, hx⟩; have hI2 := hI.below hx hg; have hg2 := Nat.lt_of_lt_of_le hg hx.size; have hb2 := hb.trans (hx.mono hb.size); clear hx)
        | (go_at_call 20; (with_reducible refine (HU _ _ hI2 hg2).mono ?_); rintro e w3 ⟨rfl, hx⟩; have hc := ho.2.2.2.1; have hne : ¬ c = K - j := (by omega); have hr := hcut.out _ _ (ho.below hx (Nat.le_refl _)).reads; have hb3 := hb2.trans (hx.mono hb2.size); have hg5 := Nat.lt_of_lt_of_le (owned_lt ho (Nat.le_trans hj1 hjK)) hx.size; clear hx)
        | (go_at_call 19; (with_reducible refine (HJ _ _ _ hr hc hg5).mono ?_); rintro e w4 ⟨rfl, hx⟩; have hb4 := hb3.trans (hx.mono hb3.size); clear hx))
      go_ret2
      exact ⟨rfl, hb4⟩
    · have HL := fun v (h : PTab Tryd.prog v) => labelsNo s n v hn hm h (Bool.eq_false_iff.2 hs)
      rw [if_neg hs]
      clear hR hlen e
      go_enter Tryd.func8, Tryd.ntmps8
      go_wp2_with (first
        | (go_at_call 17; (with_reducible refine HP.mono ?_); rintro e w1 ⟨⟨g, rfl, hI, hg⟩, hb⟩; have hT1 := hT.below hb)
        | (go_at_call 18; (with_reducible refine (HL _ hT1).mono ?_); rintro e w2 ⟨rfl, hx⟩; have hb2 := hb.trans (hx.mono hb.size); clear hx))
      go_ret2
      exact ⟨rfl, hb2⟩

set_option maxRecDepth 100000 in
theorem sufPublicC (a : Option Addr) (len cap : Nat) (R : List (List UInt8)) (s : List UInt8) (n : Nat) (w : World) (hR : IsStrs w a len cap R) (hS : ∀ x ∈ R, x.length ≤ 1000) (hn : s.length = n) (hm : n ≤ 1000) (hT : PTab Tryd.prog w) :
    Calls Tryd.prog 10 #[.slice a len cap, .string (str s)] w fun e w' => e = .returned (.bool (publicR R s)) ∧ Below w.heap.size w w' := by
  have HO := sufOfC a len cap R s n w hR hS hn hm hT
  have hk := str_toList
  unfold publicR
  generalize (ofR R s).1 = o at *
  generalize (ofR R s).2 = v at *
  clear hR hS hn hm hT
  by_cases hv : v = 0
  · rw [decide_eq_true hv, Bool.true_and]
    subst hv
    cases c : o == s with
    | true =>
      go_enter Tryd.func10, Tryd.ntmps10
      go_wp2_with (go_at_call 8; (with_reducible refine HO.mono ?_); rintro e w1 ⟨rfl, hb⟩)
      go_ret
      exact ⟨rfl, hb⟩
    | false =>
      go_enter Tryd.func10, Tryd.ntmps10
      go_wp2_with (go_at_call 8; (with_reducible refine HO.mono ?_); rintro e w1 ⟨rfl, hb⟩)
      go_ret
      exact ⟨rfl, hb⟩
  · rw [decide_eq_false hv, Bool.false_and]
    have hv2 : (v == 0) = false := beq_eq_false_iff_ne.2 hv
    go_enter Tryd.func10, Tryd.ntmps10
    go_wp2_with (go_at_call 8; (with_reducible refine HO.mono ?_); rintro e w1 ⟨rfl, hb⟩)
    go_ret
    exact ⟨rfl, hb⟩

theorem trimDotC (s d : List UInt8) (w : World) (hm : s.length ≤ 1000) : Calls Tryd.prog 21 #[.string (str s), .string (str (46 :: d))] w fun e w' => e = .returned (.string (str (Lib.trimSuffix s (46 :: d)))) ∧ w = w' := by
  refine (Tryd.strings_TrimSuffix (str s) (str (46 :: d)) w (by rw [str_size]; omega)).mono ?_
  rintro e w' ⟨rfl, rfl⟩
  rw [str_data, str_data]
  exact ⟨rfl, rfl⟩

theorem lastDotC (s : List UInt8) (w : World) (hm : s.length ≤ 1000) : Calls Tryd.prog 22 #[.string (str s), .int .u8 46] w fun e w' => e = .returned (.int .i64 (Lib.lastIndexByte (str s) 46)) ∧ w = w' := by
  refine (Tryd.strings_LastIndexByte (str s) 46 (by rw [str_size]; omega) w).mono ?_
  rintro e w' ⟨rfl, rfl⟩
  exact ⟨rfl, rfl⟩

set_option maxRecDepth 100000 in
theorem sufOwnC (a : Option Addr) (len cap : Nat) (R : List (List UInt8)) (s : List UInt8) (n : Nat) (w : World) (hR : IsStrs w a len cap R) (hS : ∀ x ∈ R, x.length ≤ 1000) (hn : s.length = n) (hm : n ≤ 1000) (hT : PTab Tryd.prog w) :
    Calls Tryd.prog 9 #[.slice a len cap, .string (str s)] w fun e w' => e = .returned (.tuple #[.string (str (ownR R s).1), .bool (ownR R s).2]) ∧ Below w.heap.size w w' := by
  have HO := sufOfC a len cap R s n w hR hS hn hm hT
  have hk := str_toList
  unfold ownR
  by_cases hv : (ofR R s).2 = 0
  · rw [hv] at HO ⊢
    by_cases hc : (ofR R s).1 = s
    · rw [if_neg (fun h => h.2 hc)]
      rw [hc] at HO
      clear hR hS hn hm hT hv hc
      go_enter Tryd.func9, Tryd.ntmps9
      go_wp2_with (go_at_call 8; (with_reducible refine HO.mono ?_); rintro e w1 ⟨rfl, hb⟩)
      go_ret2
      exact ⟨rfl, hb⟩
    · rw [if_pos ⟨rfl, hc⟩]
      have h0 : checkN R = 0 ∧ nameB s = true := by
        unfold ofR at hv
        split at hv
        · rename_i h; exact absurd hv h
        · rename_i h
          split at hv
          · rename_i h2; exact ⟨Decidable.not_not.1 h, h2⟩
          · cases hv
      obtain ⟨h1, h2⟩ := h0
      have hof : (ofR R s).1 = ofL R s := by unfold ofR; rw [if_neg (by simp [h1]), if_pos h2]
      have hall : R.all ruleB = true := by
        rcases check_cases R with ⟨-, e⟩ | ⟨-, -, e⟩ | ⟨-, h, -⟩
        · rw [e] at h1; cases h1
        · rw [e] at h1; cases h1
        · exact h
      obtain ⟨j, j1, j2, e, -⟩ := of_cases hall h2
      have hlab := (name_labels h2).2.2
      have hlt : j + 1 ≤ (splitL s 46).length := by
        by_cases hx : j = (splitL s 46).length
        · rw [hof, e, hx, last_all] at hc
          exact absurd rfl hc
        · omega
      have hcj := last_count hlab j1 j2
      obtain ⟨k, k1, k2, k3⟩ := own_cut j1 hlt hlab
      have htl := trim_len s (46 :: lastN s j)
      have HTr := fun w => trimDotC s (lastN s j) w (by omega)
      have HLd := fun w => lastDotC (Lib.trimSuffix s (46 :: lastN s j)) w (by omega)
      have hdl := last_le s j
      rw [hof, e] at HO hc ⊢
      rw [hcj, ← k3]
      have hcat : ∀ w, (Op.stringOp .add ⟨#[46]⟩ (str (lastN s j))).run Tryd.prog w = .ok (.string (str (46 :: lastN s j))) w := fun w => run_add_str w [46] (lastN s j) (by simp; omega)
      have hne : (lastN s j == s) = false := beq_eq_false_iff_ne.2 hc
      have hx : (str s).extract k n = str (s.drop k) := by
        rw [str_extract, ← hn, List.take_of_length_le (by rw [List.length_drop]; exact Nat.le_refl _)]
      have hsz : (str s).size = n := by rw [str_size, hn]
      have hk2 : (k : Int) ≤ (n : Int) := by omega
      have hwk : Hid (wrap64 (k : Int) = (k : Int)) := by unfold Hid wrap64; omega
      have hw1 : (0 : Int) ≤ wrap64 (k : Int) := by rw [hwk.out]; omega
      have hw2 : wrap64 (k : Int) ≤ (n : Int) := by rw [hwk.out]; omega
      generalize Lib.trimSuffix s (46 :: lastN s j) = f at *
      generalize lastN s j = d at *
      generalize Lib.lastIndexByte (str f) 46 = I at *
      generalize s.drop k = z at *
      clear hR hS hm hT hv hc hof hall e hlab hlt hcj htl hdl h1 h2 hn k3 j2
      go_enter Tryd.func9, Tryd.ntmps9
      go_wp2_with (first
        | (go_at_call 8; (with_reducible refine HO.mono ?_); rintro e w1 ⟨rfl, hb⟩)
        | (go_at_call 21; (with_reducible refine (HTr _).mono ?_); rintro e w2 ⟨rfl, rfl⟩)
        | (go_at_call 22; (with_reducible refine (HLd _).mono ?_); rintro e w2 ⟨rfl, rfl⟩))
      rw [hwk.out, Int.toNat_natCast, hx]
      go_ret2
      exact ⟨rfl, hb⟩
  · rw [if_neg (fun h => hv h.1)]
    generalize (ofR R s).1 = o at *
    generalize (ofR R s).2 = v at *
    clear hR hS hn hm hT
    have hv2 : (v != 0) = true := bne_iff_ne.2 hv
    go_enter Tryd.func9, Tryd.ntmps9
    go_wp2_with (go_at_call 8; (with_reducible refine HO.mono ?_); rintro e w1 ⟨rfl, hb⟩)
    go_ret2
    exact ⟨rfl, hb⟩
end Go.Proofs.YtgibhpljlebcdaaDoor
