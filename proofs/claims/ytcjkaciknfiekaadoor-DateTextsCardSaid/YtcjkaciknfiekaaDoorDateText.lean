/- Contracts of layer 7: a date's text. -/
import Derived.Test.YtcjkaciknfiekaaDoorDateTextPlain
import Derived.Deep.RegionLaw
namespace Go.Proofs.YtcjkaciknfiekaaDoor
open Go.RowKit
set_option linter.unusedVariables false

theorem addS {P : Program} (X Y Z : List UInt8) (h : X ++ Y = Z) (hl : X.length + Y.length ≤ 1000) (w : World) : (Op.stringOp .add (str X) (str Y)).run P w = .ok (.string (str Z)) w := by
  subst h
  exact run_add_str w X Y (by omega)

theorem twoC (n : Nat) (v : Int) (w : World) (hv : v = (n : Int)) (hn : n < 100) (hT : PTab Tryd.prog w) :
    Calls Tryd.prog 29 #[.int .i64 v] w (GivesStr (twoL n) w) := by
  subst hv
  have H1 := fun w (h : PTab Tryd.prog w) => textC ((n / 10 : Nat) : Int) w (by omega) (by omega) h
  have H2 := fun w (h : PTab Tryd.prog w) => textC ((n % 10 : Nat) : Int) w (by omega) (by omega) h
  rw [itoa_one _ (by omega)] at H1 H2
  have ha := fun (w : World) => addS (P := Tryd.prog) [dgt (n / 10)] [dgt (n % 10)] (twoL n) rfl (by simp) w
  unfold GivesStr at *
  generalize twoL n = T at *
  generalize [dgt (n / 10)] = X at *
  generalize [dgt (n % 10)] = Y at *
  have hb := Below.refl w.heap.size w
  push_cast at H1 H2
  go_enter Tryd.func29, Tryd.ntmps29
  go_wp2_with (go_at_call 30; first | ((with_reducible refine (H1 _ (hT.below hb)).mono ?_); rintro e ww ⟨rfl, hx⟩; have hb := hb.trans (hx.mono hb.size); clear hx) | ((with_reducible refine (H2 _ (hT.below hb)).mono ?_); rintro e ww ⟨rfl, hx⟩; have hb := hb.trans (hx.mono hb.size); clear hx))
  go_ret
  exact ⟨rfl, hb⟩

/-- Days and seconds of a time's number. -/
theorem split_time (n : Int) : ∃ (D : Int) (h mi se : Nat), n = D * 86400 + (h : Int) * 3600 + (mi : Int) * 60 + (se : Int) ∧ h < 24 ∧ mi < 60 ∧ se < 60 := by
  refine ⟨n / 86400, (n % 86400 / 3600).toNat, (n % 86400 / 60 % 60).toNat, (n % 86400 % 60).toNat, ?_, ?_, ?_, ?_⟩
  · omega
  · omega
  · omega
  · omega
theorem tsplit (n D : Int) (s : Nat) (hn : n = D * 86400 + (s : Int)) (hs : s < 86400) : (0 ≤ n.tmod 86400 ∧ n.tdiv 86400 = D ∧ n.tmod 86400 = (s : Int)) ∨ (n.tmod 86400 < 0 ∧ n.tdiv 86400 - 1 = D ∧ n.tmod 86400 + 86400 = (s : Int)) := by
  have := tmod_split n 86400 (by omega)
  omega

theorem dateTextNo (n : Int) (w : World) (h0 : -9223372036854775808 ≤ n) (h1 : n ≤ 9223372036854775807) (h : n < -134774 * 86400 ∨ 2932896 * 86400 + 86399 < n) :
    Calls Tryd.prog 17 #[.int .i64 n] w fun e w' => e = .returned (.tuple #[.string ⟨#[]⟩, .int .i64 4]) ∧ w = w' := by
  obtain ⟨D, S, hn, hS⟩ : ∃ (D : Int) (S : Nat), n = D * 86400 + (S : Int) ∧ S < 86400 := ⟨n / 86400, (n % 86400).toNat, by omega, by omega⟩
  have ht := tsplit n D S hn hS
  have HC := civilNo D w (by omega) (by omega) (by omega)
  generalize hq : n.tdiv 86400 = q at *
  generalize hr : n.tmod 86400 = r at *
  have hq0 : -106751991167301 ≤ q ∧ q ≤ 106751991167301 := by omega
  have hr0 : -86400 ≤ r ∧ r < 86400 := by omega
  clear h hn
  rcases ht with ⟨t1, rfl, rfl⟩ | ⟨t1, t2, t3⟩
  · go_enter Tryd.func17, Tryd.ntmps17
    go_wp2_with (go_at_call 11; (with_reducible refine HC.mono ?_); rintro e w2 ⟨rfl, rfl⟩)
    go_ret2
    exact ⟨rfl, rfl⟩
  · subst t2
    go_enter Tryd.func17, Tryd.ntmps17
    go_wp2_with (go_at_call 11; (with_reducible refine HC.mono ?_); rintro e w2 ⟨rfl, rfl⟩)
    go_ret2
    exact ⟨rfl, rfl⟩

set_option maxHeartbeats 2000000 in
theorem dateTextYes (n : Int) (y M d h mi se k : Nat) (w : World) (hR : RightI (y : Int) M (d : Int)) (hh : h < 24) (hmi : mi < 60) (hse : se < 60) (hk : (daysI (y : Int) M (d : Int) + 4) % 7 = (k : Int))
    (hn : n = daysI (y : Int) M (d : Int) * 86400 + (h : Int) * 3600 + (mi : Int) * 60 + (se : Int)) (hT : PTab Tryd.prog w) (hD : DTab w) :
    Calls Tryd.prog 17 #[.int .i64 n] w fun e w' => e = .returned (.tuple #[.string (str (textL k y M d h mi se)), .int .i64 0]) ∧ Below w.heap.size w w' := by
  have hin := days_in hR
  have hd31 := (longI_le (y : Int) M hR.m).2
  obtain ⟨S, hS⟩ : ∃ S : Nat, S = h * 3600 + mi * 60 + se := ⟨_, rfl⟩
  have ht := tsplit n (daysI (y : Int) M (d : Int)) S (by omega) (by omega)
  have HC := civilYes (y : Int) M (d : Int) (daysI (y : Int) M (d : Int)) ((M : Int) + 1) w rfl rfl hR hD
  have HW := fun w => weekC (daysI (y : Int) M (d : Int)) w (by omega) (by omega)
  have hy0 := hR.y0
  have hy1 := hR.y1
  have hM := hR.m
  have hd0 := hR.d0
  have hd1 := hR.d1
  have K2d := Lib.hid (fun ww (hb : Below w.heap.size w ww) => twoC d (d : Int) ww rfl (by omega) (hT.below hb))
  have K2h := Lib.hid (fun (v : Int) (hv : v = (h : Int)) ww (hb : Below w.heap.size w ww) => twoC h v ww hv (by omega) (hT.below hb))
  have K2m := Lib.hid (fun (v : Int) (hv : v = (mi : Int)) ww (hb : Below w.heap.size w ww) => twoC mi v ww hv (by omega) (hT.below hb))
  have K2s := Lib.hid (fun (v : Int) (hv : v = (se : Int)) ww (hb : Below w.heap.size w ww) => twoC se v ww hv (by omega) (hT.below hb))
  have KT : Hid (∀ ww, Below w.heap.size w ww → Calls Tryd.prog 30 #[.int .i64 (y : Int)] ww (GivesStr (fourL y) ww)) := by
    intro ww hb
    have := textC (y : Int) ww (by omega) (by omega) (hT.below hb)
    rw [itoa_four y (by omega) (by omega)] at this
    exact this
  have hmC := Lib.hid (fun ww (hb : Below w.heap.size w ww) => (hD.below hb).mon M hM)
  have hwC := Lib.hid (fun ww (hb : Below w.heap.size w ww) => (hD.below hb).wd k (by omega))
  obtain ⟨hl0, -⟩ := text_len k y M d h mi se (by omega) hM
  have hlt : ∀ k, (wdTop.getD k []).length ≤ 3 := by
    intro k
    rcases Nat.lt_or_ge k 7 with c | c
    · have : ∀ k, k < 7 → (wdTop.getD k []).length ≤ 3 := by decide
      exact this k c
    · have e : wdTop.getD k [] = [] := by
        unfold List.getD
        rw [List.getElem?_eq_none (by exact c)]
        rfl
      rw [e]; simp
  have hlm : (monTop.getD M []).length ≤ 3 := by
    have : ∀ k, k < 12 → (monTop.getD k []).length ≤ 3 := by decide
    exact this M hM
  have hlk : (wdTop[k]?.getD []).length ≤ 3 := hlt k
  have hlm2 : (monTop[M]?.getD []).length ≤ 3 := hlm
  have a1 := fun (w : World) => addS (P := Tryd.prog) (twoL d) [32] (twoL d ++ [32]) rfl (by simp [twoL]) w
  have a2 := fun (w : World) => addS (P := Tryd.prog) (twoL d ++ [32]) (monTop.getD M []) ((twoL d ++ [32]) ++ monTop.getD M []) rfl (by simp [twoL]; omega) w
  have a3 := fun (w : World) => addS (P := Tryd.prog) ((twoL d ++ [32]) ++ monTop.getD M []) [32] (((twoL d ++ [32]) ++ monTop.getD M []) ++ [32]) rfl (by simp [twoL]; omega) w
  have a4 := fun (w : World) => addS (P := Tryd.prog) (((twoL d ++ [32]) ++ monTop.getD M []) ++ [32]) (fourL y) (civL y M d) rfl (by simp [twoL, fourL]; omega) w
  have b1 := fun (w : World) => addS (P := Tryd.prog) (twoL h) [58] (twoL h ++ [58]) rfl (by simp [twoL]) w
  have b2 := fun (w : World) => addS (P := Tryd.prog) (twoL h ++ [58]) (twoL mi) ((twoL h ++ [58]) ++ twoL mi) rfl (by simp [twoL]) w
  have b3 := fun (w : World) => addS (P := Tryd.prog) ((twoL h ++ [58]) ++ twoL mi) [58] (((twoL h ++ [58]) ++ twoL mi) ++ [58]) rfl (by simp [twoL]) w
  have b4 := fun (w : World) => addS (P := Tryd.prog) (((twoL h ++ [58]) ++ twoL mi) ++ [58]) (twoL se) (clkL h mi se) rfl (by simp [twoL]) w
  have d1 := fun (w : World) => addS (P := Tryd.prog) (wdTop.getD k []) [44, 32] (wdTop.getD k [] ++ [44, 32]) rfl (by simp; omega) w
  have d2 := fun (w : World) => addS (P := Tryd.prog) (wdTop.getD k [] ++ [44, 32]) (civL y M d) ((wdTop.getD k [] ++ [44, 32]) ++ civL y M d) rfl (by simp [civL, twoL, fourL]; omega) w
  have d3 := fun (w : World) => addS (P := Tryd.prog) ((wdTop.getD k [] ++ [44, 32]) ++ civL y M d) [32] (((wdTop.getD k [] ++ [44, 32]) ++ civL y M d) ++ [32]) rfl (by simp [civL, twoL, fourL]; omega) w
  have d4 := fun (w : World) => addS (P := Tryd.prog) (((wdTop.getD k [] ++ [44, 32]) ++ civL y M d) ++ [32]) (clkL h mi se) ((((wdTop.getD k [] ++ [44, 32]) ++ civL y M d) ++ [32]) ++ clkL h mi se) rfl (by simp [civL, clkL, twoL, fourL]; omega) w
  have d5 := fun (w : World) => addS (P := Tryd.prog) ((((wdTop.getD k [] ++ [44, 32]) ++ civL y M d) ++ [32]) ++ clkL h mi se) [32, 71, 77, 84] (textL k y M d h mi se) rfl (by simp [civL, clkL, twoL, fourL]; omega) w
  have z1 : str [32] = ⟨#[32]⟩ := rfl
  have z2 : str [58] = ⟨#[58]⟩ := rfl
  have z3 : str [44, 32] = ⟨#[44, 32]⟩ := rfl
  have z4 : str [32, 71, 77, 84] = ⟨#[32, 71, 77, 84]⟩ := rfl
  rw [z1] at a1 a3 d3
  rw [z2] at b1 b3
  rw [z3] at d1
  rw [z4] at d5
  unfold GivesStr at KT
  have hk7 : k < 7 := by omega
  have u1 : Hid (h = S / 3600) := by unfold Hid; omega
  have u2 : Hid (mi = S / 60 % 60) := by unfold Hid; omega
  have u3 : Hid (se = S % 60) := by unfold Hid; omega
  have hS2 : S < 86400 := by omega
  rw [hk] at HW
  generalize daysI (y : Int) M (d : Int) = D at *
  generalize textL k y M d h mi se = TL at *
  clear hlk hlm2 hlm hlt hl0
  generalize monTop.getD M [] = mo at *
  generalize wdTop.getD k [] = wdn at *
  generalize (((wdn ++ [44, 32]) ++ civL y M d) ++ [32]) ++ clkL h mi se = e4 at *
  generalize ((wdn ++ [44, 32]) ++ civL y M d) ++ [32] = e3 at *
  generalize (wdn ++ [44, 32]) ++ civL y M d = e2 at *
  generalize wdn ++ [44, 32] = e1 at *
  generalize clkL h mi se = f5 at *
  generalize ((twoL h ++ [58]) ++ twoL mi) ++ [58] = f3 at *
  generalize (twoL h ++ [58]) ++ twoL mi = f2 at *
  generalize twoL h ++ [58] = f1 at *
  generalize civL y M d = g5 at *
  generalize ((twoL d ++ [32]) ++ mo) ++ [32] = g3 at *
  generalize (twoL d ++ [32]) ++ mo = g2 at *
  generalize twoL d ++ [32] = g1 at *
  generalize hq : n.tdiv 86400 = q at *
  generalize hr : n.tmod 86400 = r at *
  have hq0 : -106751991167301 ≤ q ∧ q ≤ 106751991167301 := by omega
  have hr0 : -86400 ≤ r ∧ r < 86400 := by omega
  have hn0 : -9223372036854775808 ≤ n ∧ n ≤ 9223372036854775807 := by omega
  obtain ⟨hn0, hn1⟩ := hn0
  have hmw := hmC.out w (Below.refl _ _)
  clear hn hR hh hmi hse hS hk hd31 hd0 hd1 hin
  have hb := Below.refl w.heap.size w
  rcases ht with ⟨t1, rfl, rfl⟩ | ⟨t1, t2, t3⟩
  · go_enter Tryd.func17, Tryd.ntmps17
    go_wp2_with (go_at_call 11; (with_reducible refine HC.mono ?_); rintro e w2 ⟨rfl, rfl⟩)
    have hM2 : (M : Int) < 12 := by omega
    have hM4 : IntKind.i64.wrap (M : Int) = (M : Int) := by rw [IntKind.wrap_i64]; omega
    go_region_law (first
      | ((try go_simp); go_at_call 29; (refine (K2d.out _ (by first | exact hb | exact hb.drew)).mono ?_); rintro e ww ⟨rfl, hx⟩; have hb : Below w.heap.size w ww := (by first | exact hb.trans (hx.mono hb.size) | exact hb.drew.trans (hx.mono hb.drew.size)); have hmw := hmC.out ww hb)
      | ((try go_simp); go_at_call 30; (refine (KT.out _ (by first | exact hb | exact hb.drew)).mono ?_); rintro e ww ⟨rfl, hx⟩; have hb : Below w.heap.size w ww := (by first | exact hb.trans (hx.mono hb.size) | exact hb.drew.trans (hx.mono hb.drew.size)); have hmw := hmC.out ww hb))
    all_goals
      have hwk := hwC.out _ hb
      have hk8 : (k : Int) < 7 := by omega
      go_wp2_with (first
        | (go_at_call 29; first
            | (refine (K2h.out _ (by have := u1.out; omega) _ hb).mono ?_; rintro e ww ⟨rfl, hx⟩; have hb : Below w.heap.size w ww := hb.trans (hx.mono hb.size); have hwk := hwC.out ww hb)
            | (refine (K2m.out _ (by have := u2.out; omega) _ hb).mono ?_; rintro e ww ⟨rfl, hx⟩; have hb : Below w.heap.size w ww := hb.trans (hx.mono hb.size); have hwk := hwC.out ww hb)
            | (refine (K2s.out _ (by have := u3.out; omega) _ hb).mono ?_; rintro e ww ⟨rfl, hx⟩; have hb : Below w.heap.size w ww := hb.trans (hx.mono hb.size); have hwk := hwC.out ww hb))
        | (go_at_call 14; (with_reducible refine (HW _).mono ?_); rintro e ww ⟨rfl, rfl⟩))
      go_ret2
      exact ⟨rfl, hb⟩
  · subst t2
    go_enter Tryd.func17, Tryd.ntmps17
    go_wp2_with (go_at_call 11; (with_reducible refine HC.mono ?_); rintro e w2 ⟨rfl, rfl⟩)
    have hM2 : (M : Int) < 12 := by omega
    have hM4 : IntKind.i64.wrap (M : Int) = (M : Int) := by rw [IntKind.wrap_i64]; omega
    go_region_law (first
      | ((try go_simp); go_at_call 29; (refine (K2d.out _ (by first | exact hb | exact hb.drew)).mono ?_); rintro e ww ⟨rfl, hx⟩; have hb : Below w.heap.size w ww := (by first | exact hb.trans (hx.mono hb.size) | exact hb.drew.trans (hx.mono hb.drew.size)); have hmw := hmC.out ww hb)
      | ((try go_simp); go_at_call 30; (refine (KT.out _ (by first | exact hb | exact hb.drew)).mono ?_); rintro e ww ⟨rfl, hx⟩; have hb : Below w.heap.size w ww := (by first | exact hb.trans (hx.mono hb.size) | exact hb.drew.trans (hx.mono hb.drew.size)); have hmw := hmC.out ww hb))
    all_goals
      have hwk := hwC.out _ hb
      have hk8 : (k : Int) < 7 := by omega
      go_wp2_with (first
        | (go_at_call 29; first
            | (refine (K2h.out _ (by have := u1.out; omega) _ hb).mono ?_; rintro e ww ⟨rfl, hx⟩; have hb : Below w.heap.size w ww := hb.trans (hx.mono hb.size); have hwk := hwC.out ww hb)
            | (refine (K2m.out _ (by have := u2.out; omega) _ hb).mono ?_; rintro e ww ⟨rfl, hx⟩; have hb : Below w.heap.size w ww := hb.trans (hx.mono hb.size); have hwk := hwC.out ww hb)
            | (refine (K2s.out _ (by have := u3.out; omega) _ hb).mono ?_; rintro e ww ⟨rfl, hx⟩; have hb : Below w.heap.size w ww := hb.trans (hx.mono hb.size); have hwk := hwC.out ww hb))
        | (go_at_call 14; (with_reducible refine (HW _).mono ?_); rintro e ww ⟨rfl, rfl⟩))
      go_ret2
      exact ⟨rfl, hb⟩
end Go.Proofs.YtcjkaciknfiekaaDoor
