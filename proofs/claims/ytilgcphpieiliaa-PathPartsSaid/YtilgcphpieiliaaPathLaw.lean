/- Layer 11's laws, walked. -/
import Derived.Test.YtilgcphpieiliaaPathProg
namespace Go.Proofs.Ytilgcphpieiliaa
open Go.RowKit
set_option linter.unusedVariables false

set_option maxRecDepth 100000 in
theorem awake11C (w : World) : Calls Try.prog 7 #[] w fun e w' => e = .returned (.bool true) ∧ Below w.heap.size w w' := by
  have hb := Below.refl w.heap.size w
  have HD : ∀ w, Calls Try.prog 8 #[.string ⟨#[47, 97, 47, 98]⟩] w fun e w' => e = .returned (.string ⟨#[47, 97]⟩) ∧ Below w.heap.size w w' := fun w => by
    have h := pathDefaultC [47, 97, 47, 98] 4 w rfl (by omega)
    have e1 : defaultL [47, 97, 47, 98] = [47, 97] := by decide +kernel
    rw [e1] at h
    exact h
  have HY : ∀ w, Calls Try.prog 11 #[.string ⟨#[47, 97, 47, 98]⟩, .string ⟨#[47, 97]⟩] w fun e w' => e = .returned (.bool true) ∧ Below w.heap.size w w' := fun w => by
    have h := pathMatchC [47, 97, 47, 98] [47, 97] 4 2 w rfl (by omega) rfl (by omega)
    have e1 : fitP [47, 97, 47, 98] [47, 97] = true := by decide +kernel
    rw [e1] at h
    exact h
  have HN : ∀ w, Calls Try.prog 11 #[.string ⟨#[47, 97, 98]⟩, .string ⟨#[47, 97]⟩] w fun e w' => e = .returned (.bool false) ∧ Below w.heap.size w w' := fun w => by
    have h := pathMatchC [47, 97, 98] [47, 97] 3 2 w rfl (by omega) rfl (by omega)
    have e1 : fitP [47, 97, 98] [47, 97] = false := by decide +kernel
    rw [e1] at h
    exact h
  have HS : ∀ w, Calls Try.prog 10 #[.string ⟨#[47, 97, 47, 98]⟩] w fun e w' => e = .returned (.int .i64 2) ∧ Below w.heap.size w w' := fun w => by
    have h := pathDepthC [47, 97, 47, 98] 4 w rfl (by omega)
    have e1 : slashN [47, 97, 47, 98] = 2 := by decide +kernel
    rw [e1] at h
    exact h
  go_enter Try.func7, Try.ntmps7
  go_wp2_with (first
    | (go_at_call 8; (with_reducible refine (HD _).mono ?_); rintro e1 w1 ⟨rfl, hx⟩; have hb := hb.trans (hx.mono hb.size); clear hx)
    | (go_at_call 11; (with_reducible refine (HY _).mono ?_); rintro e2 w2 ⟨rfl, hx⟩; have hb := hb.trans (hx.mono hb.size); clear hx)
    | (go_at_call 11; (with_reducible refine (HN _).mono ?_); rintro e3 w3 ⟨rfl, hx⟩; have hb := hb.trans (hx.mono hb.size); clear hx)
    | (go_at_call 10; (with_reducible refine (HS _).mono ?_); rintro e4 w4 ⟨rfl, hx⟩; have hb := hb.trans (hx.mono hb.size); clear hx))
  go_ret
  exact ⟨rfl, hb⟩

set_option maxRecDepth 100000 in
theorem pathMatches_walk (s t : ByteArray) (w : World) (hs : s.size ≤ maxLen) (ht : t.size ≤ maxLen) :
    Calls Try.prog 4 #[.string s, .string t] w fun e w' => e = .returned (.bool true) ∧ Below w.heap.size w w' := by
  obtain ⟨a, rfl⟩ : ∃ a, s = str a := ⟨_, str_of s⟩
  obtain ⟨b, rfl⟩ : ∃ b, t = str b := ⟨_, str_of t⟩
  obtain ⟨n, hn⟩ : ∃ n, a.length = n := ⟨_, rfl⟩
  obtain ⟨m, hm⟩ : ∃ m, b.length = m := ⟨_, rfl⟩
  have s1 : (str a).size = n := by rw [str_size, hn]
  have s2 : (str b).size = m := by rw [str_size, hm]
  rw [s1] at hs
  rw [s2] at ht
  have HA := fun w => awake11C w
  have hb := Below.refl w.heap.size w
  by_cases h1 : 500 < n
  · have b1 : (500 : Int) < (n : Int) := by omega
    clear hn hm
    go_enter Try.func4, Try.ntmps4
    go_wp2_with (go_at_call 7; (with_reducible refine (HA _).mono ?_); rintro e ww ⟨rfl, hx⟩; have hb := hb.trans (hx.mono hb.size); clear hx)
    go_ret
    exact ⟨rfl, hb⟩
  have b1 : ¬ (500 : Int) < (n : Int) := by omega
  by_cases h2 : 500 < m
  · have b2 : (500 : Int) < (m : Int) := by omega
    clear hn hm
    go_enter Try.func4, Try.ntmps4
    go_wp2_with (go_at_call 7; (with_reducible refine (HA _).mono ?_); rintro e ww ⟨rfl, hx⟩; have hb := hb.trans (hx.mono hb.size); clear hx)
    go_ret
    exact ⟨rfl, hb⟩
  have b2 : ¬ (500 : Int) < (m : Int) := by omega
  have HM := fun w => pathMatchC a b n m w hn (by omega) hm (by omega)
  have HR := fun w => refFitC a b n m w hn hs hm ht
  have HS := fun w => pathMatchC a a n n w hn (by omega) hn (by omega)
  rw [fitP_refl] at HS
  generalize fitP a b = q at *
  clear hn hm
  go_enter Try.func4, Try.ntmps4
  go_wp2_with (first
    | (go_at_call 11; (with_reducible refine (HM _).mono ?_); rintro e ww ⟨rfl, hx⟩; have hb := hb.trans (hx.mono hb.size); clear hx)
    | (go_at_call 11; (with_reducible refine (HS _).mono ?_); rintro e ww ⟨rfl, hx⟩; have hb := hb.trans (hx.mono hb.size); clear hx)
    | (go_at_call 12; (with_reducible refine (HR _).mono ?_); rintro e ww ⟨rfl, rfl⟩)
    | (go_at_call 7; (with_reducible refine (HA _).mono ?_); rintro e ww ⟨rfl, hx⟩; have hb := hb.trans (hx.mono hb.size); clear hx))
  go_ret
  exact ⟨rfl, hb⟩

set_option maxRecDepth 100000 in
theorem pathOrders_walk (s t u : ByteArray) (w : World) (hs : s.size ≤ maxLen) (ht : t.size ≤ maxLen) (hu : u.size ≤ maxLen) :
    Calls Try.prog 5 #[.string s, .string t, .string u] w fun e w' => e = .returned (.bool true) ∧ Below w.heap.size w w' := by
  obtain ⟨a, rfl⟩ : ∃ a, s = str a := ⟨_, str_of s⟩
  obtain ⟨b, rfl⟩ : ∃ b, t = str b := ⟨_, str_of t⟩
  obtain ⟨c, rfl⟩ : ∃ c, u = str c := ⟨_, str_of u⟩
  obtain ⟨n, hn⟩ : ∃ n, a.length = n := ⟨_, rfl⟩
  obtain ⟨m, hm⟩ : ∃ m, b.length = m := ⟨_, rfl⟩
  obtain ⟨r, hr⟩ : ∃ r, c.length = r := ⟨_, rfl⟩
  have s1 : (str a).size = n := by rw [str_size, hn]
  have s2 : (str b).size = m := by rw [str_size, hm]
  have s3 : (str c).size = r := by rw [str_size, hr]
  rw [s1] at hs
  rw [s2] at ht
  rw [s3] at hu
  have HA := fun w => awake11C w
  have hb := Below.refl w.heap.size w
  by_cases h1 : 500 < n
  · have b1 : (500 : Int) < (n : Int) := by omega
    clear hn hm hr
    go_enter Try.func5, Try.ntmps5
    go_wp2_with (go_at_call 7; (with_reducible refine (HA _).mono ?_); rintro e ww ⟨rfl, hx⟩; have hb := hb.trans (hx.mono hb.size); clear hx)
    go_ret
    exact ⟨rfl, hb⟩
  have b1 : ¬ (500 : Int) < (n : Int) := by omega
  by_cases h2 : 500 < m
  · have b2 : (500 : Int) < (m : Int) := by omega
    clear hn hm hr
    go_enter Try.func5, Try.ntmps5
    go_wp2_with (go_at_call 7; (with_reducible refine (HA _).mono ?_); rintro e ww ⟨rfl, hx⟩; have hb := hb.trans (hx.mono hb.size); clear hx)
    go_ret
    exact ⟨rfl, hb⟩
  have b2 : ¬ (500 : Int) < (m : Int) := by omega
  by_cases h3 : 500 < r
  · have b3 : (500 : Int) < (r : Int) := by omega
    clear hn hm hr
    go_enter Try.func5, Try.ntmps5
    go_wp2_with (go_at_call 7; (with_reducible refine (HA _).mono ?_); rintro e ww ⟨rfl, hx⟩; have hb := hb.trans (hx.mono hb.size); clear hx)
    go_ret
    exact ⟨rfl, hb⟩
  have b3 : ¬ (500 : Int) < (r : Int) := by omega
  have H1 := fun w => pathMatchC a b n m w hn (by omega) hm (by omega)
  have H2 := fun w => pathMatchC b c m r w hm (by omega) hr (by omega)
  have H3 := fun w => pathMatchC a c n r w hn (by omega) hr (by omega)
  have htr := @fitP_trans a b c
  clear hn hm hr h1 h2 h3
  generalize fitP a b = x1 at *
  generalize fitP b c = x2 at *
  generalize fitP a c = x3 at *
  have hcase : x1 = false ∨ (x1 = true ∧ x2 = false) ∨ (x1 = true ∧ x2 = true ∧ x3 = true) := by
    cases x1
    · exact .inl rfl
    · cases x2
      · exact .inr (.inl ⟨rfl, rfl⟩)
      · exact .inr (.inr ⟨rfl, rfl, htr rfl rfl⟩)
  clear htr
  rcases hcase with rfl | ⟨rfl, rfl⟩ | ⟨rfl, rfl, rfl⟩
  all_goals (
    go_enter Try.func5, Try.ntmps5
    go_wp2_with (first
      | (go_at_call 11; (with_reducible refine (H1 _).mono ?_); rintro e ww ⟨rfl, hx⟩; have hb := hb.trans (hx.mono hb.size); clear hx)
      | (go_at_call 11; (with_reducible refine (H2 _).mono ?_); rintro e ww ⟨rfl, hx⟩; have hb := hb.trans (hx.mono hb.size); clear hx)
      | (go_at_call 11; (with_reducible refine (H3 _).mono ?_); rintro e ww ⟨rfl, hx⟩; have hb := hb.trans (hx.mono hb.size); clear hx)
      | (go_at_call 7; (with_reducible refine (HA _).mono ?_); rintro e ww ⟨rfl, hx⟩; have hb := hb.trans (hx.mono hb.size); clear hx))
    go_ret
    exact ⟨rfl, hb⟩)
end Go.Proofs.Ytilgcphpieiliaa
