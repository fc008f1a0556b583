/- A date's text in plain words, and that it is parsed as that time. No program in it. -/
import Derived.Test.YtcjkaciknfiekaaDoorDateParse
namespace Go.Proofs.YtcjkaciknfiekaaDoor
open Go.RowKit
set_option linter.unusedVariables false

def dgt (k : Nat) : UInt8 := UInt8.ofNat (48 + k)
def twoL (n : Nat) : List UInt8 := [dgt (n / 10), dgt (n % 10)]
def fourL (y : Nat) : List UInt8 := [dgt (y / 1000), dgt (y / 100 % 10), dgt (y / 10 % 10), dgt (y % 10)]
def civL (y M d : Nat) : List UInt8 := (((twoL d ++ [32]) ++ monTop.getD M []) ++ [32]) ++ fourL y
def clkL (h mi se : Nat) : List UInt8 := (((twoL h ++ [58]) ++ twoL mi) ++ [58]) ++ twoL se
def textL (k y M d h mi se : Nat) : List UInt8 := ((((wdTop.getD k [] ++ [44, 32]) ++ civL y M d) ++ [32]) ++ clkL h mi se) ++ [32, 71, 77, 84]

theorem dgt_digit (k : Nat) (h : k < 10) : digit (dgt k) = true := by
  have : ∀ k, k < 10 → digit (dgt k) = true := by decide +kernel
  exact this k h
theorem dgt_delim (k : Nat) (h : k < 10) : delim (dgt k) = false := by
  have : ∀ k, k < 10 → delim (dgt k) = false := by decide +kernel
  exact this k h

theorem itoa_one (k : Nat) (h : k < 10) : Lib.itoa (k : Int) = [dgt k] := by
  unfold Lib.itoa
  rw [if_neg (by omega), Int.toNat_natCast, Lib.decDigits_one h]
  rfl
theorem itoa_four (y : Nat) (h0 : 1000 ≤ y) (h1 : y ≤ 9999) : Lib.itoa (y : Int) = fourL y := by
  unfold Lib.itoa
  rw [if_neg (by omega), Int.toNat_natCast, decDigits_snoc y (by omega), decDigits_snoc (y / 10) (by omega), decDigits_snoc (y / 10 / 10) (by omega), Lib.decDigits_one (show y / 10 / 10 / 10 < 10 by omega)]
  have e1 : y / 10 / 10 / 10 = y / 1000 := by omega
  have e2 : y / 10 / 10 % 10 = y / 100 % 10 := by omega
  rw [e1, e2]
  rfl

theorem tok_skip {x : UInt8} (h : delim x = true) (r : List UInt8) : tok [] (x :: r) = tok [] r := by simp [tok, h]
theorem tok_more : ∀ (t a r : List UInt8), (∀ y ∈ t, delim y = false) → tok a (t ++ r) = tok (a ++ t) r := by
  intro t
  induction t with
  | nil => intro a r h; simp
  | cons y t ih =>
    intro a r h
    have hy : delim y = false := h y (by simp)
    rw [List.cons_append, tok, if_neg (by rw [hy]; simp), ih _ _ (fun z hz => h z (by simp [hz]))]
    simp
theorem tok_word {t : List UInt8} {x : UInt8} (r : List UInt8) (h0 : t.isEmpty = false) (ht : ∀ y ∈ t, delim y = false) (hx : delim x = true) : tok [] (t ++ x :: r) = t :: tok [] r := by
  rw [tok_more t [] _ ht, List.nil_append, tok, if_pos hx, if_neg (by rw [h0]; simp)]

theorem delim_consts : delim 32 = true ∧ delim 44 = true ∧ delim 58 = false := by decide +kernel
theorem mon_delim : ∀ M, M < 12 → ∀ y ∈ monTop.getD M [], delim y = false := by decide +kernel
theorem wd_delim : ∀ k, k < 7 → ∀ y ∈ wdTop.getD k [], delim y = false := by decide +kernel
theorem mon_some : ∀ M, M < 12 → (monTop.getD M []).isEmpty = false := by decide +kernel
theorem wd_some : ∀ k, k < 7 → (wdTop.getD k []).isEmpty = false := by decide +kernel

theorem clk_eq (h mi se : Nat) : clkL h mi se = dgt (h / 10) :: dgt (h % 10) :: 58 :: dgt (mi / 10) :: dgt (mi % 10) :: 58 :: dgt (se / 10) :: [dgt (se % 10)] := rfl

theorem text_tok (k y M d h mi se : Nat) (hk : k < 7) (hM : M < 12) (hy : y ≤ 9999) (hd : d < 100) (hh : h < 100) (hmi : mi < 100) (hse : se < 100) :
    tok [] (textL k y M d h mi se) = [wdTop.getD k [], twoL d, monTop.getD M [], fourL y, clkL h mi se, [71, 77, 84]] := by
  obtain ⟨c1, c2, c3⟩ := delim_consts
  have e : textL k y M d h mi se = wdTop.getD k [] ++ 44 :: (32 :: (twoL d ++ 32 :: (monTop.getD M [] ++ 32 :: (fourL y ++ 32 :: (clkL h mi se ++ 32 :: [71, 77, 84]))))) := by
    unfold textL civL
    simp
  have t2 : ∀ n, n < 100 → ∀ z ∈ twoL n, delim z = false := fun n hn z hz => by
    simp only [twoL, List.mem_cons, List.not_mem_nil, or_false] at hz
    rcases hz with rfl | rfl
    · exact dgt_delim _ (by omega)
    · exact dgt_delim _ (by omega)
  have t4 : ∀ z ∈ fourL y, delim z = false := fun z hz => by
    simp only [fourL, List.mem_cons, List.not_mem_nil, or_false] at hz
    rcases hz with rfl | rfl | rfl | rfl
    · exact dgt_delim _ (by omega)
    · exact dgt_delim _ (by omega)
    · exact dgt_delim _ (by omega)
    · exact dgt_delim _ (by omega)
  have t8 : ∀ z ∈ clkL h mi se, delim z = false := fun z hz => by
    rw [clk_eq] at hz
    simp only [List.mem_cons, List.not_mem_nil, or_false] at hz
    rcases hz with rfl | rfl | rfl | rfl | rfl | rfl | rfl | rfl
    · exact dgt_delim _ (by omega)
    · exact dgt_delim _ (by omega)
    · exact c3
    · exact dgt_delim _ (by omega)
    · exact dgt_delim _ (by omega)
    · exact c3
    · exact dgt_delim _ (by omega)
    · exact dgt_delim _ (by omega)
  rw [e, tok_word _ (wd_some k hk) (wd_delim k hk) c2, tok_skip c1, tok_word _ rfl (t2 d hd) c1, tok_word _ (mon_some M hM) (mon_delim M hM) c1, tok_word _ rfl t4 c1, tok_word _ rfl t8 c1]
  have g : tok [] [71, 77, 84] = [[71, 77, 84]] := by decide +kernel
  rw [g]

theorem wd_none : ∀ k, k < 7 → isTimeB (wdTop.getD k []) = false ∧ dig 1 2 (wdTop.getD k []) = false ∧ decide (0 < monL (wdTop.getD k [])) = false ∧ dig 2 4 (wdTop.getD k []) = false := by decide +kernel
theorem two_day : ∀ d, d < 100 → isTimeB (twoL d) = false ∧ dig 1 2 (twoL d) = true ∧ valL (twoL d) = d := by decide +kernel
theorem mon_mon : ∀ M, M < 12 → isTimeB (monTop.getD M []) = false ∧ monL (monTop.getD M []) = M + 1 := by decide +kernel

theorem lead_two (a b : Nat) (r : List UInt8) (ha : a < 10) (hb : b < 10) (hr : lead r = 0) : lead (dgt a :: dgt b :: r) = 2 := by
  unfold lead at hr ⊢
  simp [List.findIdx_cons, dgt_digit a ha, dgt_digit b hb, hr]
theorem val_two (a b : Nat) (r : List UInt8) (ha : a < 10) (hb : b < 10) (hr : lead r = 0) : valL (dgt a :: dgt b :: r) = 10 * a + b := by
  unfold valL
  rw [lead_two a b r ha hb hr]
  have h1 : (dgt a).toNat = 48 + a := digit_toNat a ha
  have h2 : (dgt b).toNat = 48 + b := digit_toNat b hb
  show numV [dgt a, dgt b] = _
  simp only [numV, List.foldl, h1, h2]
  omega
theorem lead_colon (r : List UInt8) : lead (58 :: r) = 0 := by
  have : digit 58 = false := by decide +kernel
  simp [lead, List.findIdx_cons, this]
theorem timeB_two (a b : Nat) (r : List UInt8) (ha : a < 10) (hb : b < 10) : timeB (dgt a :: dgt b :: 58 :: r) = r := by
  have hl := lead_two a b (58 :: r) ha hb (lead_colon r)
  have := timeB_yes (dgt a :: dgt b :: 58 :: r) (by rw [hl]; simp) (by rw [hl]; rfl)
  rw [this, hl]
  rfl
theorem clk_time (h mi se : Nat) (hh : h < 100) (hmi : mi < 100) (hse : se < 100) : isTimeB (clkL h mi se) = true ∧ valL (clkL h mi se) = h ∧ valL (timeB (clkL h mi se)) = mi ∧ valL (timeB (timeB (clkL h mi se))) = se := by
  rw [clk_eq]
  have e1 := timeB_two (h / 10) (h % 10) (dgt (mi / 10) :: dgt (mi % 10) :: 58 :: dgt (se / 10) :: [dgt (se % 10)]) (by omega) (by omega)
  have e2 := timeB_two (mi / 10) (mi % 10) (dgt (se / 10) :: [dgt (se % 10)]) (by omega) (by omega)
  have l1 := lead_two (h / 10) (h % 10) (58 :: dgt (mi / 10) :: dgt (mi % 10) :: 58 :: dgt (se / 10) :: [dgt (se % 10)]) (by omega) (by omega) (lead_colon _)
  have l2 := lead_two (mi / 10) (mi % 10) (58 :: dgt (se / 10) :: [dgt (se % 10)]) (by omega) (by omega) (lead_colon _)
  have l3 := lead_two (se / 10) (se % 10) [] (by omega) (by omega) rfl
  have v1 := val_two (h / 10) (h % 10) (58 :: dgt (mi / 10) :: dgt (mi % 10) :: 58 :: dgt (se / 10) :: [dgt (se % 10)]) (by omega) (by omega) (lead_colon _)
  have v2 := val_two (mi / 10) (mi % 10) (58 :: dgt (se / 10) :: [dgt (se % 10)]) (by omega) (by omega) (lead_colon _)
  have v3 := val_two (se / 10) (se % 10) [] (by omega) (by omega) rfl
  unfold isTimeB dig
  rw [e1, e2, l1, l2, l3, v1, v2, v3]
  refine ⟨rfl, ?_, ?_, ?_⟩ <;> omega
theorem four_year (y : Nat) (h0 : 1000 ≤ y) (h1 : y ≤ 9999) : isTimeB (fourL y) = false ∧ dig 2 4 (fourL y) = true ∧ valL (fourL y) = y := by
  have hl : lead (fourL y) = 4 := by
    unfold lead fourL
    simp [List.findIdx_cons, dgt_digit (y / 1000) (by omega), dgt_digit (y / 100 % 10) (by omega), dgt_digit (y / 10 % 10) (by omega), dgt_digit (y % 10) (by omega)]
  refine ⟨?_, ?_, ?_⟩
  · unfold isTimeB dig
    rw [hl]
    rfl
  · unfold dig
    rw [hl]
    rfl
  · unfold valL
    rw [hl]
    have e1 : (dgt (y / 1000)).toNat = 48 + y / 1000 := digit_toNat _ (by omega)
    have e2 : (dgt (y / 100 % 10)).toNat = 48 + y / 100 % 10 := digit_toNat _ (by omega)
    have e3 : (dgt (y / 10 % 10)).toNat = 48 + y / 10 % 10 := digit_toNat _ (by omega)
    have e4 : (dgt (y % 10)).toNat = 48 + y % 10 := digit_toNat _ (by omega)
    show numV [dgt (y / 1000), dgt (y / 100 % 10), dgt (y / 10 % 10), dgt (y % 10)] = _
    simp only [numV, List.foldl, e1, e2, e3, e4]
    omega

/-- A date's text is parsed as that time. -/
theorem parse_text (k y M d h mi se : Nat) (hk : k < 7) (hR : RightI (y : Int) M (d : Int)) (hh : h < 24) (hmi : mi < 60) (hse : se < 60) :
    parseL (textL k y M d h mi se) = (daysI (y : Int) M (d : Int) * 86400 + (h : Int) * 3600 + (mi : Int) * 60 + (se : Int), true) := by
  obtain ⟨y0, y1, hM, d0, d1⟩ := hR
  have hL := (longI_le (y : Int) M hM).2
  unfold parseL
  rw [text_tok k y M d h mi se hk hM (by omega) (by omega) (by omega) (by omega) (by omega)]
  obtain ⟨w1, w2, w3, w4⟩ := wd_none k hk
  obtain ⟨p1, p2, p3⟩ := two_day d (by omega)
  obtain ⟨q1, q2⟩ := mon_mon M hM
  obtain ⟨r1, r2, r3⟩ := four_year y (by omega) (by omega)
  obtain ⟨c1, c2, c3, c4⟩ := clk_time h mi se (by omega) (by omega) (by omega)
  have s0 : stepD St.none (wdTop.getD k []) = St.none := by
    unfold stepD St.none
    rw [w1, w2, w3, w4]
    rfl
  have s1 : stepD St.none (twoL d) = ⟨none, some d, none, none⟩ := by
    unfold stepD St.none
    rw [p1, p2, p3]
    rfl
  have s2 : stepD ⟨none, some d, none, none⟩ (monTop.getD M []) = ⟨none, some d, some (M + 1), none⟩ := by
    unfold stepD
    rw [q1, q2]
    simp
  have s3 : stepD ⟨none, some d, some (M + 1), none⟩ (fourL y) = ⟨none, some d, some (M + 1), some y⟩ := by
    unfold stepD
    rw [r1, r2, r3]
    rfl
  have s4 : stepD ⟨none, some d, some (M + 1), some y⟩ (clkL h mi se) = ⟨some (h, mi, se), some d, some (M + 1), some y⟩ := by
    unfold stepD
    rw [c1, c2, c3, c4]
    rfl
  have s5 : stepD ⟨some (h, mi, se), some d, some (M + 1), some y⟩ [71, 77, 84] = ⟨some (h, mi, se), some d, some (M + 1), some y⟩ := rfl
  have hu : yearUp y = y := by
    unfold yearUp
    rw [if_neg (by omega), if_neg (by omega)]
  simp only [List.foldl, s0, s1, s2, s3, s4, s5]
  show tells h mi se d (M + 1) y = _
  unfold tells
  rw [hu, Nat.add_sub_cancel, if_pos ⟨by omega, by omega, by omega, by omega, by omega, by omega, d1⟩]

theorem text_len (k y M d h mi se : Nat) (hk : k < 7) (hM : M < 12) : (textL k y M d h mi se).length = 29 ∧ (textL k y M d h mi se).drop 25 = [32, 71, 77, 84] := by
  have e1 : ∀ k, k < 7 → ∃ a b c, wdTop.getD k [] = [a, b, c] := by
    intro k hk
    rcases (show k = 0 ∨ k = 1 ∨ k = 2 ∨ k = 3 ∨ k = 4 ∨ k = 5 ∨ k = 6 by omega) with rfl | rfl | rfl | rfl | rfl | rfl | rfl <;> exact ⟨_, _, _, rfl⟩
  have e2 : ∀ k, k < 12 → ∃ a b c, monTop.getD k [] = [a, b, c] := by
    intro k hk
    rcases (show k = 0 ∨ k = 1 ∨ k = 2 ∨ k = 3 ∨ k = 4 ∨ k = 5 ∨ k = 6 ∨ k = 7 ∨ k = 8 ∨ k = 9 ∨ k = 10 ∨ k = 11 by omega) with rfl | rfl | rfl | rfl | rfl | rfl | rfl | rfl | rfl | rfl | rfl | rfl <;> exact ⟨_, _, _, rfl⟩
  obtain ⟨a, b, c, h1⟩ := e1 k hk
  obtain ⟨a2, b2, c2, h2⟩ := e2 M hM
  unfold textL civL clkL
  rw [h1, h2]
  exact ⟨rfl, rfl⟩
end Go.Proofs.YtcjkaciknfiekaaDoor
