/- Contracts of layer 10: which requests are right, and their texts. -/
import Derived.Test.YtgaodaimkojmhaaDoorUriProg2
import Derived.Test.YtgaodaimkojmhaaDoorObj
namespace Go.Proofs.YtgaodaimkojmhaaDoor
open Go.RowKit
set_option linter.unusedVariables false

theorem right_is (h p : List UInt8) (sec : Bool) (G : Nat) (hG : G = h.length + (if sec = true then 8 else 7)) :
    rightU h p sec = (canonB h && (decide (p.length + G ≤ 1024) && (Lib.hasPrefix p [47] && p.all (butB [63, 35])))) := by
  unfold rightU
  rw [head_is, but_all]
  have e : decide (7 + h.length + p.length + (if sec = true then 1 else 0) ≤ 1024) = decide (p.length + G ≤ 1024) := decide_eq_decide.2 (by subst hG; cases sec <;> simp <;> omega)
  rw [e]
  cases canonB h <;> cases decide (p.length + G ≤ 1024) <;> cases decide (0 < p.length) <;> cases (p.getD 0 0 == 47) <;> cases p.all seenB <;> cases decide (findS p [63, 35] = p.length) <;> rfl

theorem canon_self (h : List UInt8) : ∃ (X : List UInt8) (E : Int),
    (if 256 < h.length then (Value.tuple #[.string (str []), .int .i64 3]) else if canonB (h.map low) = true then .tuple #[.string (str (h.map low)), .int .i64 0] else .tuple #[.string (str []), .int .i64 1]) = .tuple #[.string (str X), .int .i64 E] ∧
    ((E = 0 ∧ X = h ∧ canonB h = true) ∨ (E = 0 ∧ (X == h) = false ∧ canonB h = false) ∨ ((E == 0) = false ∧ canonB h = false)) := by
  by_cases c1 : 256 < h.length
  · rw [if_pos c1]
    refine ⟨_, _, rfl, .inr (.inr ⟨rfl, ?_⟩)⟩
    cases hc : canonB h with
    | false => rfl
    | true => exact absurd (canon_len hc) (by omega)
  · rw [if_neg c1]
    cases hc : canonB h with
    | true =>
      rw [map_low_host hc, if_pos hc]
      exact ⟨_, _, rfl, .inl ⟨rfl, rfl, rfl⟩⟩
    | false =>
      cases hc2 : canonB (h.map low) with
      | false => exact ⟨_, _, if_neg Bool.false_ne_true, .inr (.inr ⟨rfl, rfl⟩)⟩
      | true =>
        refine ⟨_, _, if_pos rfl, .inr (.inl ⟨rfl, ?_, rfl⟩)⟩
        rw [beq_eq_false_iff_ne]
        intro e
        rw [e, hc] at hc2
        cases hc2

set_option maxHeartbeats 2000000 in
set_option maxRecDepth 100000 in
theorem uriRightC (h p : List UInt8) (sec scr : Bool) (n m : Nat) (w : World) (hl : h.length = n) (hm : n ≤ 5000) (hl2 : p.length = m) (hm2 : m ≤ 5000) (hT : PTab Tryd.prog w) :
    Calls Tryd.prog 11 #[.agg #[.string (str h), .string (str p), .bool sec, .bool scr]] w fun e w' => e = .returned (.bool (rightU h p sec)) ∧ Below w.heap.size w w' := by
  obtain ⟨G, hG⟩ : ∃ G, G = h.length + (if sec = true then 8 else 7) := ⟨_, rfl⟩
  rw [right_is h p sec G hG]
  obtain ⟨X, E, hXE, hcase⟩ := canon_self h
  have HC := fun w (t : PTab Tryd.prog w) => canonC h n w hl (by unfold maxLen; omega) t
  unfold CanonIs at HC
  simp only [hXE] at HC
  have hk := str_toList
  have hb := below_alloc w (.cells #[.string (str h), .string (str p), .bool sec, .bool scr] 24)
  have hTW := hT.below hb
  have o := ObjAt.new w #[.string (str h), .string (str p), .bool sec, .bool scr] 24
  have hszp : (str p).size = m := by rw [str_size, hl2]
  have HWd := fun w => wordOfC h p sec scr w
  have hl1 : (schemeL sec).length ≤ 5 := by cases sec <;> decide
  have a1 := fun (w : World) => run_add_str (P := Tryd.prog) w (schemeL sec) [58, 47, 47] (by simp; omega)
  have a2 := fun (w : World) => run_add_str (P := Tryd.prog) w (schemeL sec ++ [58, 47, 47]) h (by simp; omega)
  have e58 : ({ data := #[58, 47, 47] } : ByteArray) = str [58, 47, 47] := rfl
  have hszG : (str (schemeL sec ++ [58, 47, 47] ++ h)).size = G := by
    rw [str_size, hG]
    cases sec <;> simp [schemeL] <;> omega
  have hGm : G ≤ 5008 := by rw [hG, hl]; split <;> omega
  have hB : ∀ w', Below (w.alloc (.cells #[.string (str h), .string (str p), .bool sec, .bool scr] 24)).heap.size (w.alloc (.cells #[.string (str h), .string (str p), .bool sec, .bool scr] 24)) w' → ObjAt w' w.heap.size [.string (str h), .string (str p), .bool sec, .bool scr] := fun w' hx => o.below hx o.lt
  have HH := fun w => headC p 47 w
  have HBt := fun w => butC2 [63, 35] w
  change ∀ w, Calls Tryd.prog 14 #[.string ⟨#[63, 35]⟩] w _ at HBt
  have HAl := fun b w hc => allBC [63, 35] p m b w hc hl2 (by unfold maxLen; omega)
  rw [hl2]
  generalize schemeL sec ++ [58, 47, 47] ++ h = t3 at *
  generalize schemeL sec ++ [58, 47, 47] = t2 at *
  generalize schemeL sec = t1 at *
  generalize p.all (butB [63, 35]) = ab at *
  generalize Lib.hasPrefix p [47] = hp at *
  have u0 := o.cell 0 rfl; have u1 := o.cell 1 rfl; have u2 := o.cell 2 rfl; have u3 := o.cell 3 rfl
  clear hXE hG hl1 hl hl2
  generalize hWe : w.alloc (.cells #[.string (str h), .string (str p), .bool sec, .bool scr] 24) = W at *
  rcases hcase with ⟨rfl, rfl, hcb⟩ | ⟨rfl, hX, hcb⟩ | ⟨hE, hcb⟩
  · rw [hcb, Bool.true_and]
    clear hcb
    obtain ⟨R, hR⟩ : ∃ R : Int, IntKind.i64.wrap (1024 - (G : Int)) = R := ⟨_, rfl⟩
    have hR2 : R = 1024 - (G : Int) := by rw [← hR, IntKind.wrap_i64]; omega
    by_cases c : m + G ≤ 1024
    · have c1 : decide ((m : Int) ≤ R) = true := decide_eq_true (by omega)
      have c2 : (m : Int) ≤ R := by omega
      rw [decide_eq_true c, Bool.true_and]
      clear hR2 c
      cases hp with
      | false =>
        rw [Bool.false_and]
        go_enter Tryd.func11, Tryd.ntmps11
        go_wp2_with (go_at_call 18; (with_reducible refine (HC _ hTW).mono ?_); rintro e w1 ⟨rfl, hx⟩; have o1 := hB _ hx; have hb1 := hb.trans (hx.mono hb.size); clear hx; have v0 := o1.cell 0 rfl; have v1 := o1.cell 1 rfl; have v2 := o1.cell 2 rfl; have v3 := o1.cell 3 rfl)
        have hS1 : ∀ w', Below w1.heap.size w1 w' → (w'.cell? ⟨w.heap.size, 0, none⟩ = some (.string (str X)) ∧ w'.cell? ⟨w.heap.size, 1, none⟩ = some (.string (str p)) ∧ w'.cell? ⟨w.heap.size, 2, none⟩ = some (.bool sec) ∧ w'.cell? ⟨w.heap.size, 3, none⟩ = some (.bool scr)) := fun w' hx => by
          have o2 := o1.below hx o1.lt
          exact ⟨o2.cell 0 rfl, o2.cell 1 rfl, o2.cell 2 rfl, o2.cell 3 rfl⟩
        have hdr : Below w1.heap.size w1 w1.drew := (Below.refl _ w1).drew
        go_region_held3 (fun w' => w'.cell? ⟨w.heap.size, 0, none⟩ = some (.string (str X)) ∧ w'.cell? ⟨w.heap.size, 1, none⟩ = some (.string (str p)) ∧ w'.cell? ⟨w.heap.size, 2, none⟩ = some (.bool sec) ∧ w'.cell? ⟨w.heap.size, 3, none⟩ = some (.bool scr))
          (first | exact hS1 _ hdr | exact hS1 _ (hdr.trans hx))
          (first | (go_at_call 28; (with_reducible refine (HWd _).mono ?_); rintro e w3 ⟨rfl, hx⟩))
        all_goals
          obtain ⟨v0, v1, v2, v3⟩ := hS1 _ (hdr.trans hx)
          have hb3 := hb1.trans ((hdr.trans hx).mono hb1.size)
          have hd3 : Below w3.heap.size w3 w3.drew := (Below.refl _ w3).drew
          have x1 := (hd3.cell (cell_lt v1)).trans v1
          clear hS1 hdr hx o1 u0 u1 u2 u3
          go_wp2_with fail
          go_quiet ((go_at_call 29; exact Calls.quiet_of_same ((HH _).mono fun e w' h => ⟨h.1, h.2.symm⟩)))
          go_wp2
          go_ret
          exact ⟨rfl, below_draws hb3 _⟩
      | true =>
        rw [Bool.true_and]
        go_enter Tryd.func11, Tryd.ntmps11
        go_wp2_with (go_at_call 18; (with_reducible refine (HC _ hTW).mono ?_); rintro e w1 ⟨rfl, hx⟩; have o1 := hB _ hx; have hb1 := hb.trans (hx.mono hb.size); clear hx; have v0 := o1.cell 0 rfl; have v1 := o1.cell 1 rfl; have v2 := o1.cell 2 rfl; have v3 := o1.cell 3 rfl)
        have hS1 : ∀ w', Below w1.heap.size w1 w' → (w'.cell? ⟨w.heap.size, 0, none⟩ = some (.string (str X)) ∧ w'.cell? ⟨w.heap.size, 1, none⟩ = some (.string (str p)) ∧ w'.cell? ⟨w.heap.size, 2, none⟩ = some (.bool sec) ∧ w'.cell? ⟨w.heap.size, 3, none⟩ = some (.bool scr)) := fun w' hx => by
          have o2 := o1.below hx o1.lt
          exact ⟨o2.cell 0 rfl, o2.cell 1 rfl, o2.cell 2 rfl, o2.cell 3 rfl⟩
        have hdr : Below w1.heap.size w1 w1.drew := (Below.refl _ w1).drew
        go_region_held3 (fun w' => w'.cell? ⟨w.heap.size, 0, none⟩ = some (.string (str X)) ∧ w'.cell? ⟨w.heap.size, 1, none⟩ = some (.string (str p)) ∧ w'.cell? ⟨w.heap.size, 2, none⟩ = some (.bool sec) ∧ w'.cell? ⟨w.heap.size, 3, none⟩ = some (.bool scr))
          (first | exact hS1 _ hdr | exact hS1 _ (hdr.trans hx))
          (first | (go_at_call 28; (with_reducible refine (HWd _).mono ?_); rintro e w3 ⟨rfl, hx⟩))
        all_goals
          obtain ⟨v0, v1, v2, v3⟩ := hS1 _ (hdr.trans hx)
          have hb3 := hb1.trans ((hdr.trans hx).mono hb1.size)
          have hd3 : Below w3.heap.size w3 w3.drew := (Below.refl _ w3).drew
          have x1 := (hd3.cell (cell_lt v1)).trans v1
          clear hS1 hdr hx o1 u0 u1 u2 u3
          go_wp2_with fail
          go_region_law (first
            | ((try go_simp); go_at_call 29; (refine (HH _).mono ?_); rintro e w4 ⟨rfl, rfl⟩)
            | ((try go_simp); go_at_call 14; (refine (HBt _).mono ?_); rintro e w5 ⟨bb, rfl, hcb, hx5⟩; have y1 := (hx5.cell (cell_lt x1)).trans x1)
            | ((try go_simp); go_at_call 13; (refine (HAl _ _ hcb).mono ?_); rintro e w6 ⟨rfl, rfl⟩))
          all_goals
            go_wp2
            go_ret
            exact ⟨rfl, hb3.trans ((hd3.trans hx5).mono hb3.size)⟩
    · have c1 : decide ((m : Int) ≤ R) = false := decide_eq_false (by omega)
      have c2 : ¬ (m : Int) ≤ R := by omega
      rw [decide_eq_false c, Bool.false_and]
      clear hR2 c
      go_enter Tryd.func11, Tryd.ntmps11
      go_wp2_with (go_at_call 18; (with_reducible refine (HC _ hTW).mono ?_); rintro e w1 ⟨rfl, hx⟩; have o1 := hB _ hx; have hb1 := hb.trans (hx.mono hb.size); clear hx; have v0 := o1.cell 0 rfl; have v1 := o1.cell 1 rfl; have v2 := o1.cell 2 rfl; have v3 := o1.cell 3 rfl)
      have hS1 : ∀ w', Below w1.heap.size w1 w' → (w'.cell? ⟨w.heap.size, 0, none⟩ = some (.string (str X)) ∧ w'.cell? ⟨w.heap.size, 1, none⟩ = some (.string (str p)) ∧ w'.cell? ⟨w.heap.size, 2, none⟩ = some (.bool sec) ∧ w'.cell? ⟨w.heap.size, 3, none⟩ = some (.bool scr)) := fun w' hx => by
        have o2 := o1.below hx o1.lt
        exact ⟨o2.cell 0 rfl, o2.cell 1 rfl, o2.cell 2 rfl, o2.cell 3 rfl⟩
      have hdr : Below w1.heap.size w1 w1.drew := (Below.refl _ w1).drew
      go_region_held3 (fun w' => w'.cell? ⟨w.heap.size, 0, none⟩ = some (.string (str X)) ∧ w'.cell? ⟨w.heap.size, 1, none⟩ = some (.string (str p)) ∧ w'.cell? ⟨w.heap.size, 2, none⟩ = some (.bool sec) ∧ w'.cell? ⟨w.heap.size, 3, none⟩ = some (.bool scr))
        (first | exact hS1 _ hdr | exact hS1 _ (hdr.trans hx))
        (first | (go_at_call 28; (with_reducible refine (HWd _).mono ?_); rintro e w3 ⟨rfl, hx⟩))
      all_goals
        obtain ⟨v0, v1, v2, v3⟩ := hS1 _ (hdr.trans hx)
        have hb3 := hb1.trans ((hdr.trans hx).mono hb1.size)
        have hd3 : Below w3.heap.size w3 w3.drew := (Below.refl _ w3).drew
        have x1 := (hd3.cell (cell_lt v1)).trans v1
        clear hS1 hdr hx o1 u0 u1 u2 u3
        go_wp2_with fail
        go_quiet (fail)
        go_wp2
        go_ret
        exact ⟨rfl, below_draws hb3 _⟩
  · rw [hcb, Bool.false_and]
    have hX2 : (X != h) = true := by rw [bne, hX]; rfl
    clear hcb
    go_enter Tryd.func11, Tryd.ntmps11
    go_wp2_with (go_at_call 18; (with_reducible refine (HC _ (hTW)).mono ?_); rintro e w1 ⟨rfl, hx⟩; have o1 := hB _ hx; have hb1 := hb.trans (hx.mono hb.size); clear hx; have v0 := o1.cell 0 rfl; have v1 := o1.cell 1 rfl; have v2 := o1.cell 2 rfl; have v3 := o1.cell 3 rfl)
    go_ret
    exact ⟨rfl, hb1⟩
  · rw [hcb, Bool.false_and]
    have hE2 : (E != 0) = true := by rw [bne, hE]; rfl
    clear hcb
    go_enter Tryd.func11, Tryd.ntmps11
    go_wp2_with (go_at_call 18; (with_reducible refine (HC _ (hTW)).mono ?_); rintro e w1 ⟨rfl, hx⟩; have o1 := hB _ hx; have hb1 := hb.trans (hx.mono hb.size); clear hx; have v0 := o1.cell 0 rfl; have v1 := o1.cell 1 rfl; have v2 := o1.cell 2 rfl; have v3 := o1.cell 3 rfl)
    go_ret
    exact ⟨rfl, hb1⟩

/-- A right request's text. -/
def textU (h p : List UInt8) (sec : Bool) : List UInt8 := schemeL sec ++ ([58, 47, 47] ++ (h ++ p))

set_option maxHeartbeats 2000000 in
set_option maxRecDepth 100000 in
theorem uriTextC (h p : List UInt8) (sec scr : Bool) (n m : Nat) (w : World) (hl : h.length = n) (hm : n ≤ 5000) (hl2 : p.length = m) (hm2 : m ≤ 5000) (hT : PTab Tryd.prog w) :
    Calls Tryd.prog 9 #[.agg #[.string (str h), .string (str p), .bool sec, .bool scr]] w fun e w' => e = .returned (.tuple #[.string (str (if rightU h p sec = true then textU h p sec else [])), .int .i64 (if rightU h p sec = true then 0 else 1)]) ∧ Below w.heap.size w w' := by
  have HR := fun w (t : PTab Tryd.prog w) => uriRightC h p sec scr n m w hl hm hl2 hm2 t
  have hb := below_alloc w (.cells #[.string (str h), .string (str p), .bool sec, .bool scr] 24)
  have hTW := hT.below hb
  have o := ObjAt.new w #[.string (str h), .string (str p), .bool sec, .bool scr] 24
  have HWd := fun w => wordOfC h p sec scr w
  have hl1 : (schemeL sec).length ≤ 5 := by cases sec <;> decide
  have a1 := fun (w : World) => run_add_str (P := Tryd.prog) w (schemeL sec) [58, 47, 47] (by simp; omega)
  have a2 := fun (w : World) => run_add_str (P := Tryd.prog) w (schemeL sec ++ [58, 47, 47]) h (by simp; omega)
  have a3 := fun (w : World) => run_add_str (P := Tryd.prog) w (schemeL sec ++ [58, 47, 47] ++ h) p (by simp; omega)
  have e58 : ({ data := #[58, 47, 47] } : ByteArray) = str [58, 47, 47] := rfl
  have e00 : ({ data := #[] } : ByteArray) = str [] := rfl
  have et : schemeL sec ++ [58, 47, 47] ++ h ++ p = textU h p sec := by unfold textU; simp
  rw [et] at a3
  generalize textU h p sec = t4 at *
  generalize schemeL sec ++ [58, 47, 47] ++ h = t3 at *
  generalize schemeL sec ++ [58, 47, 47] = t2 at *
  generalize schemeL sec = t1 at *
  have hB : ∀ w', Below (w.alloc (.cells #[.string (str h), .string (str p), .bool sec, .bool scr] 24)).heap.size (w.alloc (.cells #[.string (str h), .string (str p), .bool sec, .bool scr] 24)) w' → ObjAt w' w.heap.size [.string (str h), .string (str p), .bool sec, .bool scr] := fun w' hx => o.below hx o.lt
  have u0 := o.cell 0 rfl; have u1 := o.cell 1 rfl; have u2 := o.cell 2 rfl; have u3 := o.cell 3 rfl
  clear hl1 hl hl2 et
  generalize hWe : w.alloc (.cells #[.string (str h), .string (str p), .bool sec, .bool scr] 24) = W at *
  cases hr : rightU h p sec with
  | false =>
    rw [if_neg Bool.false_ne_true, if_neg Bool.false_ne_true]
    rw [hr] at HR
    go_enter Tryd.func9, Tryd.ntmps9
    go_wp2_with (go_at_call 11; (with_reducible refine (HR _ (hTW)).mono ?_); rintro e w1 ⟨rfl, hx⟩; have hb1 := hb.trans (hx.mono hb.size); clear hx)
    go_ret2
    exact ⟨rfl, hb1⟩
  | true =>
    rw [if_pos rfl, if_pos rfl]
    rw [hr] at HR
    go_enter Tryd.func9, Tryd.ntmps9
    go_wp2_with (go_at_call 11; (with_reducible refine (HR _ (hTW)).mono ?_); rintro e w1 ⟨rfl, hx⟩; have o1 := hB _ hx; have hb1 := hb.trans (hx.mono hb.size); clear hx; have v0 := o1.cell 0 rfl; have v1 := o1.cell 1 rfl; have v2 := o1.cell 2 rfl; have v3 := o1.cell 3 rfl)
    have hS1 : ∀ w', Below w1.heap.size w1 w' → (w'.cell? ⟨w.heap.size, 0, none⟩ = some (.string (str h)) ∧ w'.cell? ⟨w.heap.size, 1, none⟩ = some (.string (str p)) ∧ w'.cell? ⟨w.heap.size, 2, none⟩ = some (.bool sec) ∧ w'.cell? ⟨w.heap.size, 3, none⟩ = some (.bool scr)) := fun w' hx => by
      have o2 := o1.below hx o1.lt
      exact ⟨o2.cell 0 rfl, o2.cell 1 rfl, o2.cell 2 rfl, o2.cell 3 rfl⟩
    have hdr : Below w1.heap.size w1 w1.drew := (Below.refl _ w1).drew
    go_region_held3 (fun w' => w'.cell? ⟨w.heap.size, 0, none⟩ = some (.string (str h)) ∧ w'.cell? ⟨w.heap.size, 1, none⟩ = some (.string (str p)) ∧ w'.cell? ⟨w.heap.size, 2, none⟩ = some (.bool sec) ∧ w'.cell? ⟨w.heap.size, 3, none⟩ = some (.bool scr))
      (first | exact hS1 _ hdr | exact hS1 _ (hdr.trans hx))
      (first | (go_at_call 28; (with_reducible refine (HWd _).mono ?_); rintro e w3 ⟨rfl, hx⟩))
    all_goals
      go_wp2
      go_ret2
      exact ⟨rfl, hb1.trans ((hdr.trans hx).mono hb1.size)⟩
end Go.Proofs.YtgaodaimkojmhaaDoor
