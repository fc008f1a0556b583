/- AsciiParts, walked. -/
import Derived.Test.YtombcefcjonpdaaDoorAsciiLaw
namespace Go.Proofs.YtombcefcjonpdaaDoor
open Go.RowKit
set_option linter.unusedVariables false

theorem cell_str {w : World} {g : Nat} {P : List (List UInt8)} (h : Reads w (some ⟨g, 0, none⟩) (strs P)) (k : Nat) (hk : k < P.length) : w.cell? ⟨g, k, none⟩ = some (.string (str (P.getD k []))) := by
  obtain ⟨b, off, e, hc⟩ := h k (.string (str (P.getD k []))) (by simp [strs, List.getD, hk])
  simp only [Option.some.injEq, Addr.mk.injEq] at e
  obtain ⟨rfl, rfl, -⟩ := e
  rwa [Nat.zero_add] at hc
theorem below_drewN {B : Nat} {a w : World} (h : Below B a w) (k : Nat) : Below B a (w.drewN k) := ⟨h.os, h.tape, h.output, h.size, h.block⟩

set_option maxRecDepth 100000 in
theorem asciiParts_walk (s : ByteArray) (m : Int) (w : World) (hs : s.size ≤ maxLen) (hw : (Lit.int .u8 m).wf = true) (hT : PTab Tryd.prog w) :
    Calls Tryd.prog 4 #[.string s, .int .u8 m] w fun e w' => e = .returned (.bool true) ∧ Below w.heap.size w w' := by
  obtain ⟨l, rfl⟩ : ∃ l, s = str l := ⟨_, str_of s⟩
  obtain ⟨n, hn⟩ : ∃ n, l.length = n := ⟨_, rfl⟩
  obtain ⟨c, rfl⟩ : ∃ c : UInt8, m = (c.toNat : Int) := by
    obtain ⟨h0, h1⟩ := wfU8 hw
    refine ⟨UInt8.ofNat m.toNat, ?_⟩
    rw [UInt8.toNat_ofNat']
    omega
  have s1 : (str l).size = n := by rw [str_size, hn]
  rw [s1] at hs
  clear hw
  have HA := fun w (h : PTab Tryd.prog w) => awake06C w h
  have hb := Below.refl w.heap.size w
  have hcl := u8_lt c
  by_cases h : n ≤ 500
  · have b1 : ¬ (500 : Int) < (n : Int) := by omega
    have HC := fun w => cutC l c n w hn hs
    have HF := fun w => refFindC l c n w hn hs
    have HS := fun w => splitC l c n w hn (by omega)
    have RS := fun w => refSplitC l c n w hn (by omega)
    have hN := splitL_pos l c
    have hN2 := splitL_le l c
    have hJ := Lib.hid (joinL_all l c)
    rw [hn] at hN2
    have hk := str_toList
    have hx1 : ∀ f, (str l).extract 0 f = str (l.take f) := fun f => by rw [str_extract]; simp
    have hx2 : ∀ f, (str l).extract f n = str (l.drop f) := fun f => by rw [str_extract, ← hn, List.take_of_length_le (by simp)]
    unfold GivesStrs at HS RS
    unfold cutL at HC
    unfold findL at HF
    rw [hn] at HC HF
    have hfl : l.findIdx (· == c) ≤ n := by rw [← hn]; exact List.findIdx_le_length
    generalize l.findIdx (· == c) = f at *
    obtain ⟨P, hP⟩ : ∃ P, splitL l c = P := ⟨_, rfl⟩
    rw [hP] at HS RS hN hN2 hJ
    clear hP
    obtain ⟨N, hPN⟩ : ∃ N, P.length = N := ⟨_, rfl⟩
    rw [hPN] at HS RS hN hN2
    have HP := Lib.hid hPN
    have HL := Lib.hid hn
    clear hPN hn hs
    by_cases hf : f = n
    · rw [if_pos hf] at HF
      simp only [if_pos hf] at HC
      clear hf hfl hx1 hx2
      go_enter Tryd.func4, Tryd.ntmps4
      go_wp2_with (first
        | (go_at_call 15; (with_reducible refine (HC _).mono ?_); rintro e ww ⟨rfl, hx1⟩; have hb := hb.trans (hx1.mono hb.size); clear hx1)
        | (go_at_call 16; (with_reducible refine (HF _).mono ?_); rintro e ww ⟨rfl, rfl⟩)
        | (go_at_call 17; (with_reducible refine (HS _).mono ?_); rintro e w1 ⟨a1, c1, rfl, ho1, hx1⟩; have hb := hb.trans (hx1.mono hb.size); clear hx1)
        | (go_at_call 18; (with_reducible refine (RS _).mono ?_); rintro e w2 ⟨a2, c2, rfl, ho2, hx2⟩; have hb := hb.trans (hx2.mono hb.size); have ho1 := ho1.below hx2 (Nat.le_refl _); clear hx2))
      obtain ⟨g1, rfl, -, l1⟩ := ho1.head hN
      obtain ⟨g2, rfl, -, l2⟩ := ho2.head hN
      have r1 := ho1.reads
      have r2 := ho2.reads
      clear HC HF HS RS ho1 ho2
      go_loopw [11, 12] (fun v i wr => ∃ k : Nat, k ≤ N ∧ v = .string (str (joinL c (P.take k))) ∧ i = .int .i64 (k : Int) ∧ Below w2.heap.size w2 wr) (fun _ i _ => N - (intOf i).toNat)
      case atStart => exact ⟨0, Nat.zero_le _, rfl, rfl, Below.refl _ _⟩
      case round =>
        obtain ⟨k, hkN, rfl, rfl, hbr⟩ := hrel
        have hle := joinL_take_le c P k
        have hJ' := hJ
        rw [hJ'.out, HL.out] at hle
        by_cases hlt : k < N
        · have hlt' : (k : Int) < (N : Int) := by omega
          have q1 : wr.cell? ⟨g1, k, none⟩ = some (.string (str (P.getD k []))) := cell_str (r1.below' hbr) k (by rw [HP.out]; exact hlt)
          have q2 : wr.cell? ⟨g2, k, none⟩ = some (.string (str (P.getD k []))) := cell_str (r2.below' hbr) k (by rw [HP.out]; exact hlt)
          have hg1 : g1 < wr.heap.size := Nat.lt_of_lt_of_le l1 hbr.size
          have hx : (P.getD k []).length ≤ n := by
            have := mem_join_le c P (P.getD k []) (by simp only [List.getD, List.getElem?_eq_getElem (show k < P.length by rw [HP.out]; exact hlt), Option.getD_some]; exact List.getElem_mem _)
            rw [hJ.out, HL.out] at this
            exact this
          have HJ := Lib.hid (joinL_take c P k (by rw [HP.out]; exact hlt))
          have HBR := Lib.hid hbr
          have hbs := hbr.size
          clear hbr r1 r2 hJ'
          rcases Nat.eq_zero_or_pos k with rfl | hk0
          · have HJ2 := Lib.hid (HJ.out.trans (if_pos rfl))
            have e0 : joinL c (P.take 0) = [] := rfl
            rw [e0]
            clear HJ hle e0
            generalize P.getD 0 [] = x at *
            have hadd := fun w => run_add_str (P := Tryd.prog) w [] x (by simp; omega)
            go_wp2
            go_quiet (fail)
            go_wp2
            go_roundw
            case rel => exact ⟨1, by omega, by rw [HJ2.out], by go_num, below_drewN HBR.out _⟩
            case measure => simp [intOf]; omega
          · have HJ2 := Lib.hid (HJ.out.trans (if_neg (by omega)))
            have hk0' : (0 : Int) < (k : Int) := by omega
            clear HJ
            generalize P.getD k [] = x at *
            generalize joinL c (P.take k) = y at *
            have hone : ∀ q, (convert 31 9 (.slice (some ⟨wr.heap.size, 0, none⟩) 1 1)).run Tryd.prog ((wr.drewN q).alloc (.cells #[.int .u8 (c.toNat : Int)] 5)) = .ok (.string (str [c])) ((wr.drewN q).alloc (.cells #[.int .u8 (c.toNat : Int)] 5)) := fun q => one_back (P := Tryd.prog) (wr.drewN q) 31 9 5 c _ rfl Tryd.underlying31 Tryd.underlying5 Tryd.underlying9
            have q3 : ∀ q, ((wr.drewN q).alloc (.cells #[.int .u8 (c.toNat : Int)] 5)).cell? ⟨g1, k, none⟩ = some (.string (str x)) := fun q => (World.cell?_alloc_lt (wr.drewN q) (a := ⟨g1, k, none⟩) _ hg1).trans q1
            have ha1 := fun w => run_add_str (P := Tryd.prog) w y [c] (by simp; omega)
            have ha2 := fun w => run_add_str (P := Tryd.prog) w (y ++ [c]) x (by simp; omega)
            go_wp2
            go_quiet (fail)
            go_wp2
            go_roundw
            case rel => exact ⟨k + 1, by omega, by rw [HJ2.out], by go_num, (below_drewN HBR.out _).alloc hbs _⟩
            case measure => simp [intOf]; omega
        · obtain rfl : k = N := by omega
          have e1 : P.take k = P := List.take_of_length_le (by rw [HP.out]; omega)
          rw [e1, hJ.out]
          have hb := hb.trans (hbr.mono hb.size)
          go_wp2_with (go_at_call 7; (with_reducible refine (HA _ (hT.below hb)).mono ?_); rintro e ww ⟨rfl, hx⟩; have hb := hb.trans (hx.mono hb.size); clear hx)
          go_ret
          exact ⟨rfl, hb⟩
    · rw [if_neg hf] at HF
      simp only [if_neg hf] at HC
      have hf1 : (f : Int) ≤ (n : Int) := by omega
      have hf2 : (f : Int) + 1 ≤ (n : Int) := by omega
      have hf3 : ¬ (f : Int) < 0 := by omega
      clear hf hfl
      go_enter Tryd.func4, Tryd.ntmps4
      go_wp2_with (first
        | (go_at_call 15; (with_reducible refine (HC _).mono ?_); rintro e ww ⟨rfl, hx1⟩; have hb := hb.trans (hx1.mono hb.size); clear hx1)
        | (go_at_call 16; (with_reducible refine (HF _).mono ?_); rintro e ww ⟨rfl, rfl⟩)
        | (go_at_call 17; (with_reducible refine (HS _).mono ?_); rintro e w1 ⟨a1, c1, rfl, ho1, hx1⟩; have hb := hb.trans (hx1.mono hb.size); clear hx1)
        | (go_at_call 18; (with_reducible refine (RS _).mono ?_); rintro e w2 ⟨a2, c2, rfl, ho2, hx2⟩; have hb := hb.trans (hx2.mono hb.size); have ho1 := ho1.below hx2 (Nat.le_refl _); clear hx2))
      obtain ⟨g1, rfl, -, l1⟩ := ho1.head hN
      obtain ⟨g2, rfl, -, l2⟩ := ho2.head hN
      have r1 := ho1.reads
      have r2 := ho2.reads
      clear HC HF HS RS ho1 ho2
      go_loopw [11, 12] (fun v i wr => ∃ k : Nat, k ≤ N ∧ v = .string (str (joinL c (P.take k))) ∧ i = .int .i64 (k : Int) ∧ Below w2.heap.size w2 wr) (fun _ i _ => N - (intOf i).toNat)
      case atStart => exact ⟨0, Nat.zero_le _, rfl, rfl, Below.refl _ _⟩
      case round =>
        obtain ⟨k, hkN, rfl, rfl, hbr⟩ := hrel
        have hle := joinL_take_le c P k
        have hJ' := hJ
        rw [hJ'.out, HL.out] at hle
        by_cases hlt : k < N
        · have hlt' : (k : Int) < (N : Int) := by omega
          have q1 : wr.cell? ⟨g1, k, none⟩ = some (.string (str (P.getD k []))) := cell_str (r1.below' hbr) k (by rw [HP.out]; exact hlt)
          have q2 : wr.cell? ⟨g2, k, none⟩ = some (.string (str (P.getD k []))) := cell_str (r2.below' hbr) k (by rw [HP.out]; exact hlt)
          have hg1 : g1 < wr.heap.size := Nat.lt_of_lt_of_le l1 hbr.size
          have hx : (P.getD k []).length ≤ n := by
            have := mem_join_le c P (P.getD k []) (by simp only [List.getD, List.getElem?_eq_getElem (show k < P.length by rw [HP.out]; exact hlt), Option.getD_some]; exact List.getElem_mem _)
            rw [hJ.out, HL.out] at this
            exact this
          have HJ := Lib.hid (joinL_take c P k (by rw [HP.out]; exact hlt))
          have HBR := Lib.hid hbr
          have hbs := hbr.size
          clear hbr r1 r2 hJ'
          rcases Nat.eq_zero_or_pos k with rfl | hk0
          · have HJ2 := Lib.hid (HJ.out.trans (if_pos rfl))
            have e0 : joinL c (P.take 0) = [] := rfl
            rw [e0]
            clear HJ hle e0
            generalize P.getD 0 [] = x at *
            have hadd := fun w => run_add_str (P := Tryd.prog) w [] x (by simp; omega)
            go_wp2
            go_quiet (fail)
            go_wp2
            go_roundw
            case rel => exact ⟨1, by omega, by rw [HJ2.out], by go_num, below_drewN HBR.out _⟩
            case measure => simp [intOf]; omega
          · have HJ2 := Lib.hid (HJ.out.trans (if_neg (by omega)))
            have hk0' : (0 : Int) < (k : Int) := by omega
            clear HJ
            generalize P.getD k [] = x at *
            generalize joinL c (P.take k) = y at *
            have hone : ∀ q, (convert 31 9 (.slice (some ⟨wr.heap.size, 0, none⟩) 1 1)).run Tryd.prog ((wr.drewN q).alloc (.cells #[.int .u8 (c.toNat : Int)] 5)) = .ok (.string (str [c])) ((wr.drewN q).alloc (.cells #[.int .u8 (c.toNat : Int)] 5)) := fun q => one_back (P := Tryd.prog) (wr.drewN q) 31 9 5 c _ rfl Tryd.underlying31 Tryd.underlying5 Tryd.underlying9
            have q3 : ∀ q, ((wr.drewN q).alloc (.cells #[.int .u8 (c.toNat : Int)] 5)).cell? ⟨g1, k, none⟩ = some (.string (str x)) := fun q => (World.cell?_alloc_lt (wr.drewN q) (a := ⟨g1, k, none⟩) _ hg1).trans q1
            have ha1 := fun w => run_add_str (P := Tryd.prog) w y [c] (by simp; omega)
            have ha2 := fun w => run_add_str (P := Tryd.prog) w (y ++ [c]) x (by simp; omega)
            go_wp2
            go_quiet (fail)
            go_wp2
            go_roundw
            case rel => exact ⟨k + 1, by omega, by rw [HJ2.out], by go_num, (below_drewN HBR.out _).alloc hbs _⟩
            case measure => simp [intOf]; omega
        · obtain rfl : k = N := by omega
          have e1 : P.take k = P := List.take_of_length_le (by rw [HP.out]; omega)
          rw [e1, hJ.out]
          have hb := hb.trans (hbr.mono hb.size)
          go_wp2_with (go_at_call 7; (with_reducible refine (HA _ (hT.below hb)).mono ?_); rintro e ww ⟨rfl, hx⟩; have hb := hb.trans (hx.mono hb.size); clear hx)
          go_ret
          exact ⟨rfl, hb⟩
  · have b1 : (500 : Int) < (n : Int) := by omega
    clear hs hn
    go_enter Tryd.func4, Tryd.ntmps4
    go_wp2_with (go_at_call 7; (with_reducible refine (HA _ (hT.below hb)).mono ?_); rintro e ww ⟨rfl, hx⟩; have hb := hb.trans (hx.mono hb.size); clear hx)
    go_ret
    exact ⟨rfl, hb⟩
end Go.Proofs.YtombcefcjonpdaaDoor
