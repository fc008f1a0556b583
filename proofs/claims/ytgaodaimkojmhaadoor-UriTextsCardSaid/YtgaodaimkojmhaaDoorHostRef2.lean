/- Contracts of the reference of layer 8: addresses. -/
import Derived.Test.YtgaodaimkojmhaaDoorHostRef
namespace Go.Proofs.YtgaodaimkojmhaaDoor
open Go.RowKit
set_option linter.unusedVariables false

theorem below_draws {B : Nat} {a w : World} (h : Below B a w) (k : Nat) : Below B a (w.drewN k) := ⟨h.os, h.tape, h.output, h.size, h.block⟩

theorem quad_no {P : List (List UInt8)} {k : Nat} (hk : k < P.length) (h : octetB (P.getD k []) = false) : (decide (P.length = 4) && P.all octetB) = false := by
  rw [all_no' hk h, Bool.and_false]

/-- A walk from one world is a walk from any world of which the same is known. -/
theorem wp_any {P : Program} {c : Code} {Q : Exit → Act → World → Prop} {a : Act} {w : World} (S : World → Prop) (h : S w) (H : ∀ w', S w' → Code.wp P c Q a w') : Code.wp P c Q a w := H w h

/-- What stands in the way of a number of an address. -/
theorem octet_cases (x : List UInt8) : (octetB x = false ∧ (x.length < 1 ∨ 3 < x.length)) ∨ (1 ≤ x.length ∧ x.length ≤ 3 ∧ octetB x = false ∧ lead x ≠ x.length) ∨ (1 ≤ x.length ∧ x.length ≤ 3 ∧ lead x = x.length ∧ numL x = ((numV x : Int), true) ∧ ((octetB x = false ∧ 255 < numV x) ∨ (numV x ≤ 255 ∧ Lib.itoa (numV x : Int) = Lib.decDigits (numV x) ∧ octetB x = (Lib.decDigits (numV x) == x)))) := by
  unfold octetB
  by_cases h1 : 1 ≤ x.length
  · by_cases h3 : x.length ≤ 3
    · rw [decide_eq_true h1, decide_eq_true h3]
      by_cases hd : lead x = x.length
      · refine .inr (.inr ⟨h1, h3, hd, ?_, ?_⟩)
        · have hs : signed x = false := by
            cases c : signed x with
            | false => rfl
            | true =>
              obtain ⟨c1, c2, -⟩ := signed_yes c
              have := lead_all hd 0 (by omega)
              omega
          obtain ⟨-, hb⟩ := signed_no hs
          unfold numL
          rw [hs, hb, if_neg (by omega)]
          rfl
        · rw [decide_eq_true hd]
          by_cases hv : numV x ≤ 255
          · refine .inr ⟨hv, ?_, ?_⟩
            · unfold Lib.itoa
              rw [if_neg (by omega)]
              rfl
            · rw [decide_eq_true hv]
              simp
          · exact .inl ⟨by rw [decide_eq_false hv]; simp, by omega⟩
      · exact .inr (.inl ⟨h1, h3, by rw [decide_eq_false hd]; simp, hd⟩)
    · exact .inl ⟨by rw [decide_eq_false h3]; simp, .inr (by omega)⟩
  · exact .inl ⟨by rw [decide_eq_false h1]; simp, .inl (by omega)⟩

set_option maxRecDepth 100000 in
theorem refFourC (l : List UInt8) (n : Nat) (w : World) (hl : l.length = n) (hm : n ≤ 1000000000000) :
    Calls Tryd.prog 58 #[.string (str l)] w fun e w' => e = .returned (.bool (quadB l)) ∧ Below w.heap.size w w' := by
  have HS := fun w => refSplitDotC l n w hl hm
  unfold GivesStrs at HS
  unfold quadB
  have hle := fun k hk => part_le l 46 k hk
  have hNn := splitL_le l 46
  rw [hl] at hle hNn
  generalize splitL l 46 = P at *
  obtain ⟨N, hN⟩ : ∃ N, P.length = N := ⟨_, rfl⟩
  rw [hN] at HS hle hNn ⊢
  clear hl
  by_cases hN4 : N = 4
  · subst hN4
    rw [decide_eq_true rfl, Bool.true_and]
    have HP := Lib.hid hN
    have HR : Hid (∀ k, k < 4 → octetB (P.getD k []) = false → P.all octetB = false) := fun k hk h => all_no' (by rw [HP.out]; exact hk) h
    have HY : Hid ((∀ j, j < 4 → octetB (P.getD j []) = true) → P.all octetB = true) := fun h => all_yes' (by rw [HP.out]; exact h)
    generalize P.all octetB = R at *
    clear hN
    go_enter Tryd.func58, Tryd.ntmps58
    go_wp2_with (go_at_call 59; (with_reducible refine (HS _).mono ?_); rintro e w1 ⟨a1, c1, rfl, ho1, hx1⟩)
    obtain ⟨g, rfl, hg0, hg1⟩ := ho1.head (by omega)
    have r1 := ho1.reads
    clear HS ho1
    go_loopw [4, 5, 6] (fun i _ _ wr => ∃ k : Nat, k ≤ 4 ∧ i = .int .i64 (k : Int) ∧ Hid (∀ j, j < k → octetB (P.getD j []) = true) ∧ Below w1.heap.size w1 wr) (fun i _ _ _ => 4 - (intOf i).toNat)
    case atStart => exact ⟨0, Nat.zero_le _, rfl, fun j hj => absurd hj (by omega), Below.refl _ _⟩
    case round =>
      obtain ⟨k, hk, rfl, H, hbr⟩ := hrel
      have hb := hx1.trans (hbr.mono hx1.size)
      by_cases hlt : k < 4
      · have hlt' : (k : Int) < 4 := by omega
        have hc0 := str_at (r1.below' hbr) k (by rw [HP.out]; exact hlt)
        obtain ⟨g', off, hgg, hc⟩ := hc0
        simp only [Option.some.injEq, Addr.mk.injEq] at hgg
        obtain ⟨rfl, rfl, -⟩ := hgg
        rw [Nat.zero_add] at hc
        have hlk := hle k hlt
        have HN := Lib.hid (fun (hp : octetB (P.getD k []) = true) => (fun j hj => by
          rcases Nat.lt_succ_iff_lt_or_eq.1 hj with h | rfl
          · exact H.out j h
          · exact hp : ∀ j, j < k + 1 → octetB (P.getD j []) = true))
        have HF := Lib.hid (HR.out k hlt)
        have hoc := octet_cases (P.getD k [])
        have hgw : g < wr.heap.size := Nat.lt_of_lt_of_le hg1 hbr.size
        clear hle
        generalize P.getD k [] = x at hc HN HF hoc hlk
        obtain ⟨X, hX⟩ : ∃ X, x.length = X := ⟨_, rfl⟩
        have hsz : (str x).size = X := by rw [str_size, hX]
        have HD := fun w => refDigitsC x X w hX (by unfold maxLen; omega)
        have HM := fun w => refNumberC x X w hX (by unfold maxLen; omega)
        rw [hX] at hoc
        clear hX hlk
        rcases hoc with ⟨o, h⟩ | ⟨h1, h3, o, h⟩ | ⟨h1, h3, hd, hn, ⟨o, h⟩ | ⟨hv, hi, o⟩⟩
        · have HF2 := Lib.hid (HF.out o)
          clear HN HF HD HM
          by_cases h1 : X < 1
          · have h1' : (X : Int) < 1 := by omega
            have h1d : decide ((X : Int) < 1) = true := decide_eq_true h1'
            go_wp2_with fail
            go_quiet (fail)
            go_wp2
            go_ret
            exact ⟨by rw [HF2.out]; rfl, below_draws hb _⟩
          · have h1' : ¬ (X : Int) < 1 := by omega
            have h3' : (3 : Int) < (X : Int) := by omega
            have h1d : decide ((X : Int) < 1) = false := decide_eq_false h1'
            have h3d : decide ((3 : Int) < (X : Int)) = true := decide_eq_true h3'
            go_wp2_with fail
            go_quiet (fail)
            go_wp2
            go_ret
            exact ⟨by rw [HF2.out]; rfl, below_draws hb _⟩
        · have HF2 := Lib.hid (HF.out o)
          clear HN HF HM
          have h1' : ¬ (X : Int) < 1 := by omega
          have h3' : ¬ (3 : Int) < (X : Int) := by omega
          have h1d : decide ((X : Int) < 1) = false := decide_eq_false h1'
          have h3d : decide ((3 : Int) < (X : Int)) = false := decide_eq_false h3'
          have hdd : (((lead x : Nat) : Int) != (X : Int)) = true := by simp; omega
          generalize lead x = d at *
          go_wp2_with fail
          go_quiet ((go_at_call 42; exact Calls.quiet_of_same ((HD _).mono fun e w' h => ⟨h.1, h.2.symm⟩)))
          go_wp2
          go_ret
          exact ⟨by rw [HF2.out]; rfl, below_draws hb _⟩
        · have HF2 := Lib.hid (HF.out o)
          clear HN HF
          have h1' : ¬ (X : Int) < 1 := by omega
          have h3' : ¬ (3 : Int) < (X : Int) := by omega
          have h1d : decide ((X : Int) < 1) = false := decide_eq_false h1'
          have h3d : decide ((3 : Int) < (X : Int)) = false := decide_eq_false h3'
          rw [hn] at HM
          rw [hd] at HD
          have hdd : ((X : Int) != (X : Int)) = false := by simp
          have hv' : (255 : Int) < (numV x : Int) := by omega
          have hvd : decide ((255 : Int) < (numV x : Int)) = true := decide_eq_true hv'
          generalize numV x = V at *
          clear hn hd
          go_wp2_with fail
          go_quiet ((go_at_call 42; exact Calls.quiet_of_same ((HD _).mono fun e w' h => ⟨h.1, h.2.symm⟩)))
          go_wp2_with (go_at_call 43; (with_reducible refine (HM _).mono ?_); rintro e w2 ⟨rfl, rfl⟩)
          go_quiet (fail)
          go_wp2
          go_ret
          exact ⟨by rw [HF2.out]; rfl, below_draws (below_draws hb _) _⟩
        · rw [o] at HF HN
          have HT := fun w => refTextC (numV x : Int) (by omega) (by omega) w
          rw [hi] at HT
          unfold GivesStr at HT
          have h1' : ¬ (X : Int) < 1 := by omega
          have h3' : ¬ (3 : Int) < (X : Int) := by omega
          have h1d : decide ((X : Int) < 1) = false := decide_eq_false h1'
          have h3d : decide ((3 : Int) < (X : Int)) = false := decide_eq_false h3'
          rw [hn] at HM
          rw [hd] at HD
          have hdd : ((X : Int) != (X : Int)) = false := by simp
          have hv' : ¬ (255 : Int) < (numV x : Int) := by omega
          have hvd : decide ((255 : Int) < (numV x : Int)) = false := decide_eq_false hv'
          generalize Lib.decDigits (numV x) = t at *
          generalize numV x = V at *
          have hk := str_toList
          clear hn hd hi o
          cases hq : (t == x) with
          | false =>
            have hq2 : (t != x) = true := by rw [bne, hq]; rfl
            have HF2 := Lib.hid (HF.out hq)
            clear HN HF
            go_wp2_with fail
            go_quiet ((go_at_call 42; exact Calls.quiet_of_same ((HD _).mono fun e w' h => ⟨h.1, h.2.symm⟩)))
            go_wp2_with (go_at_call 43; (with_reducible refine (HM _).mono ?_); rintro e w2 ⟨rfl, rfl⟩)
            refine wp_any (fun wd => Below w.heap.size w wd ∧ Below w1.heap.size w1 wd ∧ wd.cell? ⟨g, k, none⟩ = some (.string (str x)) ∧ g < wd.heap.size) ⟨below_draws hb _, below_draws hbr _, hc, hgw⟩ ?_
            clear hb hbr hc hgw
            rintro wd ⟨hb, hbr, hc, hgw⟩
            have hS0 : ∀ w', Below wd.heap.size wd w' → w'.cell? ⟨g, k, none⟩ = some (.string (str x)) := fun w' hx => (hx.cell hgw).trans hc
            have hdr : Below wd.heap.size wd wd.drew := (Below.refl _ wd).drew
            go_region_held3 (fun w' => w'.cell? ⟨g, k, none⟩ = some (.string (str x)))
              (first | exact hS0 _ hdr | exact hS0 _ (hdr.trans hx))
              (first | (go_at_call 72; (with_reducible refine (HT _).mono ?_); rintro e w3 ⟨rfl, hx⟩))
            all_goals
              go_wp2
              go_ret
              exact ⟨by rw [HF2.out]; rfl, hb.trans ((hdr.trans hx).mono hb.size)⟩
          | true =>
            have hq2 : (t != x) = false := by rw [bne, hq]; rfl
            have HN2 := Lib.hid (HN.out hq)
            clear HN HF
            go_wp2_with fail
            go_quiet ((go_at_call 42; exact Calls.quiet_of_same ((HD _).mono fun e w' h => ⟨h.1, h.2.symm⟩)))
            go_wp2_with (go_at_call 43; (with_reducible refine (HM _).mono ?_); rintro e w2 ⟨rfl, rfl⟩)
            refine wp_any (fun wd => Below w.heap.size w wd ∧ Below w1.heap.size w1 wd ∧ wd.cell? ⟨g, k, none⟩ = some (.string (str x)) ∧ g < wd.heap.size) ⟨below_draws hb _, below_draws hbr _, hc, hgw⟩ ?_
            clear hb hbr hc hgw
            rintro wd ⟨hb, hbr, hc, hgw⟩
            have hS0 : ∀ w', Below wd.heap.size wd w' → w'.cell? ⟨g, k, none⟩ = some (.string (str x)) := fun w' hx => (hx.cell hgw).trans hc
            have hdr : Below wd.heap.size wd wd.drew := (Below.refl _ wd).drew
            go_region_held3 (fun w' => w'.cell? ⟨g, k, none⟩ = some (.string (str x)))
              (first | exact hS0 _ hdr | exact hS0 _ (hdr.trans hx))
              (first | (go_at_call 72; (with_reducible refine (HT _).mono ?_); rintro e w3 ⟨rfl, hx⟩))
            all_goals
              go_wp2
              go_roundw
              case rel => exact ⟨k + 1, by omega, by go_num, HN2.out, hbr.trans ((hdr.trans hx).mono hbr.size)⟩
              case measure => simp [intOf]; omega
      · obtain rfl : k = 4 := by omega
        have HE := Lib.hid (HY.out H.out)
        clear hle
        go_wp2
        go_ret
        exact ⟨by rw [HE.out]; rfl, hb⟩
  · rw [decide_eq_false hN4]
    have hN4' : ((N : Int) != 4) = true := by simp; omega
    clear hN hle
    go_enter Tryd.func58, Tryd.ntmps58
    go_wp2_with (go_at_call 59; (with_reducible refine (HS _).mono ?_); rintro e w1 ⟨a1, c1, rfl, ho1, hx1⟩)
    go_ret
    exact ⟨rfl, hx1⟩
end Go.Proofs.YtgaodaimkojmhaaDoor
