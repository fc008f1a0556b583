/- Layer 7's laws on texts, walked. -/
import Derived.Test.YtcjkaciknfiekaaDoorDateLaw
import Derived.Test.YtcjkaciknfiekaaDoorDateRefParse
namespace Go.Proofs.YtcjkaciknfiekaaDoor
open Go.RowKit
set_option linter.unusedVariables false

theorem tells_zero (s : St) (h : s.tells.2 = false) : s.tells.1 = 0 := by
  cases c : (s.time.isSome && s.day.isSome && s.month.isSome && s.year.isSome) with
  | false => rw [tells_no s c]
  | true =>
    obtain ⟨h', mi, se, d, m, y, rfl⟩ := tells_yes s c
    change (tells h' mi se d m y).2 = false at h
    show (tells h' mi se d m y).1 = 0
    unfold tells at h ⊢
    split
    · rename_i hc
      rw [if_pos hc] at h
      cases h
    · rfl

theorem dateParses_walk (s : ByteArray) (w : World) (hs : s.size ≤ maxLen) (hT : LTab w) :
    Calls Tryd.prog 5 #[.string s] w fun e w' => e = .returned (.bool true) ∧ Below w.heap.size w w' := by
  obtain ⟨l, rfl⟩ : ∃ l, s = str l := ⟨_, str_of s⟩
  obtain ⟨n, hn⟩ : ∃ n, l.length = n := ⟨_, rfl⟩
  have s1 : (str l).size = n := by rw [str_size, hn]
  rw [s1] at hs
  have HA := fun w (h : LTab w) => awake07C w h
  have hb := Below.refl w.heap.size w
  by_cases h : n ≤ 500
  · have b1 : ¬ (500 : Int) < (n : Int) := by omega
    have HP := fun w (h : LTab w) => parseC l n w hn (by omega) h.2
    have HR := fun w => refParseC l n w hn (by omega)
    have hz := tells_zero ((tok [] l).foldl stepD St.none)
    change (parseL l).2 = false → (parseL l).1 = 0 at hz
    generalize parseL l = q at *
    obtain ⟨v, g⟩ := q
    simp only [] at HP HR hz
    clear hs hn h
    cases g with
    | false =>
      obtain rfl := hz rfl
      simp only [Bool.false_eq_true, if_false] at HP
      clear hz
      go_enter Tryd.func5, Tryd.ntmps5
      go_wp2_with (first
        | (go_at_call 15; (with_reducible refine (HP _ (hT.below hb)).mono ?_); rintro e ww ⟨rfl, hx⟩; have hb := hb.trans (hx.mono hb.size); clear hx)
        | (go_at_call 16; (with_reducible refine (HR _).mono ?_); rintro e ww ⟨rfl, hx⟩; have hb := hb.trans (hx.mono hb.size); clear hx)
        | (go_at_call 10; (with_reducible refine (HA _ (hT.below hb)).mono ?_); rintro e ww ⟨rfl, hx⟩; have hb := hb.trans (hx.mono hb.size); clear hx))
      go_ret
      exact ⟨rfl, hb⟩
    | true =>
      simp only [if_true] at HP
      clear hz
      go_enter Tryd.func5, Tryd.ntmps5
      go_wp2_with (first
        | (go_at_call 15; (with_reducible refine (HP _ (hT.below hb)).mono ?_); rintro e ww ⟨rfl, hx⟩; have hb := hb.trans (hx.mono hb.size); clear hx)
        | (go_at_call 16; (with_reducible refine (HR _).mono ?_); rintro e ww ⟨rfl, hx⟩; have hb := hb.trans (hx.mono hb.size); clear hx)
        | (go_at_call 10; (with_reducible refine (HA _ (hT.below hb)).mono ?_); rintro e ww ⟨rfl, hx⟩; have hb := hb.trans (hx.mono hb.size); clear hx))
      go_ret
      exact ⟨rfl, hb⟩
  · have b1 : (500 : Int) < (n : Int) := by omega
    clear hs hn
    go_enter Tryd.func5, Tryd.ntmps5
    go_wp2_with (go_at_call 10; (with_reducible refine (HA _ (hT.below hb)).mono ?_); rintro e ww ⟨rfl, hx⟩; have hb := hb.trans (hx.mono hb.size); clear hx)
    go_ret
    exact ⟨rfl, hb⟩

theorem dateTexts_walk (n : Int) (w : World) (hw : (Lit.int .i64 n).wf = true) (hT : LTab w) :
    Calls Tryd.prog 6 #[.int .i64 n] w fun e w' => e = .returned (.bool true) ∧ Below w.heap.size w w' := by
  obtain ⟨h0, h1⟩ := wfI64 hw
  clear hw
  have HA := fun w (h : LTab w) => awake07C w h
  have R1 := fun w => refDaysC 1601 1 0 1 w (by omega) ⟨by decide, by decide, by decide, by decide, by decide⟩
  have R2 := fun w => refDaysC 9999 12 11 31 w (by omega) ⟨by decide, by decide, by decide, by decide, by decide⟩
  have e1 : daysI 1601 0 1 = -134774 := by decide
  have e2 : daysI 9999 11 31 = 2932896 := by decide
  rw [e1] at R1
  rw [e2] at R2
  have hb := Below.refl w.heap.size w
  by_cases ho : n < -134774 * 86400 ∨ 2932896 * 86400 + 86399 < n
  · have HC := dateTextNo n w h0 h1 ho
    by_cases c : n < -11644473600
    · clear ho
      go_enter Tryd.func6, Tryd.ntmps6
      go_wp2_with (first
        | (go_at_call 17; (with_reducible refine HC.mono ?_); rintro e ww ⟨rfl, rfl⟩)
        | (go_at_call 12; first | ((with_reducible refine (R1 _).mono ?_); rintro e ww ⟨rfl, hx⟩; have hb := hb.trans (hx.mono hb.size); clear hx) | ((with_reducible refine (R2 _).mono ?_); rintro e ww ⟨rfl, hx⟩; have hb := hb.trans (hx.mono hb.size); clear hx))
        | (go_at_call 10; (with_reducible refine (HA _ (hT.below hb)).mono ?_); rintro e ww ⟨rfl, hx⟩; have hb := hb.trans (hx.mono hb.size); clear hx))
      go_ret
      exact ⟨rfl, hb⟩
    · have c2 : 253402300799 < n := by omega
      clear ho
      go_enter Tryd.func6, Tryd.ntmps6
      go_wp2_with (first
        | (go_at_call 17; (with_reducible refine HC.mono ?_); rintro e ww ⟨rfl, rfl⟩)
        | (go_at_call 12; first | ((with_reducible refine (R1 _).mono ?_); rintro e ww ⟨rfl, hx⟩; have hb := hb.trans (hx.mono hb.size); clear hx) | ((with_reducible refine (R2 _).mono ?_); rintro e ww ⟨rfl, hx⟩; have hb := hb.trans (hx.mono hb.size); clear hx))
        | (go_at_call 10; (with_reducible refine (HA _ (hT.below hb)).mono ?_); rintro e ww ⟨rfl, hx⟩; have hb := hb.trans (hx.mono hb.size); clear hx))
      go_ret
      exact ⟨rfl, hb⟩
  · obtain ⟨D, h, mi, se, hn, hh, hmi, hse⟩ := split_time n
    obtain ⟨y, M, d, hR, rfl⟩ := civil_ex D (by omega) (by omega)
    obtain ⟨Y, rfl⟩ : ∃ Y : Nat, y = (Y : Int) := ⟨y.toNat, by have := hR.y0; omega⟩
    obtain ⟨dd, rfl⟩ : ∃ dd : Nat, d = (dd : Int) := ⟨d.toNat, by have := hR.d0; omega⟩
    obtain ⟨k, hk⟩ : ∃ k : Nat, (daysI (Y : Int) M (dd : Int) + 4) % 7 = (k : Int) := ⟨((daysI (Y : Int) M (dd : Int) + 4) % 7).toNat, by omega⟩
    have hk7 : k < 7 := by omega
    have HC := fun w (h' : LTab w) => dateTextYes n Y M dd h mi se k w hR hh hmi hse hk hn h'.1 h'.2
    have HP := parse_text k Y M dd h mi se hk7 hR hh hmi hse
    rw [← hn] at HP
    obtain ⟨t1, t2⟩ := text_len k Y M dd h mi se hk7 hR.m
    have HR := fun w => refParseC (textL k Y M dd h mi se) 29 w t1 (by omega)
    rw [HP] at HR
    have hsz : (str (textL k Y M dd h mi se)).size = 29 := by rw [str_size, t1]
    have hx : (str (textL k Y M dd h mi se)).extract 25 29 = ⟨#[32, 71, 77, 84]⟩ := by
      rw [str_extract, t2]
      rfl
    have c1 : ¬ n < -11644473600 := by omega
    have c2 : ¬ 253402300799 < n := by omega
    generalize textL k Y M dd h mi se = T at *
    clear ho hn hR hk HP t1 t2 hh hmi hse
    go_enter Tryd.func6, Tryd.ntmps6
    go_wp2_with (first
      | (go_at_call 17; (with_reducible refine (HC _ (hT.below hb)).mono ?_); rintro e ww ⟨rfl, hx2⟩; have hb := hb.trans (hx2.mono hb.size); clear hx2)
      | (go_at_call 16; (with_reducible refine (HR _).mono ?_); rintro e ww ⟨rfl, hx2⟩; have hb := hb.trans (hx2.mono hb.size); clear hx2)
      | (go_at_call 12; first | ((with_reducible refine (R1 _).mono ?_); rintro e ww ⟨rfl, hx2⟩; have hb := hb.trans (hx2.mono hb.size); clear hx2) | ((with_reducible refine (R2 _).mono ?_); rintro e ww ⟨rfl, hx2⟩; have hb := hb.trans (hx2.mono hb.size); clear hx2))
      | (go_at_call 10; (with_reducible refine (HA _ (hT.below hb)).mono ?_); rintro e ww ⟨rfl, hx2⟩; have hb := hb.trans (hx2.mono hb.size); clear hx2))
    go_ret
    exact ⟨rfl, hb⟩
end Go.Proofs.YtcjkaciknfiekaaDoor
