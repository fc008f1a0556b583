/- Contracts of layer 13: what attributes say, when it ends. -/
import Derived.Test.YthefieemngmnjaaGreatDoorLibAL
namespace Go.Proofs.YthefieemngmnjaaGreatDoor
open Go.RowKit
set_option linter.unusedVariables false

theorem ObjAt.kept {p b : Nat} {vs : List Value} {w w' : World} (h : ObjAt w b vs) (hk : Kept p none w w') (hne : b ≠ p) : ObjAt w' b vs := by
  obtain ⟨e, he⟩ := h.heap
  exact ⟨e, by rw [hk.block b h.lt hne (Apart.none b)]; exact he⟩

set_option maxHeartbeats 4000000 in
set_option maxRecDepth 100000 in
theorem attrsReadC (a : Option Addr) (n c : Nat) (L : List (List UInt8 × List UInt8)) (w : World) (hL : RowOf encP 2 w a n c L) (hS : ∀ x ∈ L, x.1.length ≤ 100000 ∧ x.2.length ≤ 100000) (hT : DTab w) :
    Calls Tryz.prog 21 #[.slice a n c] w fun e w' => e = .returned (valF (readA L)) ∧ Below w.heap.size w w' := by
  have HL := Lib.hid hL
  have Hn : Hid (L.length = n) := hL.leq
  have hcm := hL.capm
  have hcl := hL.cle
  unfold maxLen at hcm
  have hk := str_toList
  have hb0 := below_alloc w (.cells #[.bool false, .bool false, .bool false, .bool false, .int .i64 0, .int .i64 0, .string ⟨#[]⟩, .string ⟨#[]⟩, .bool false, .bool false] 52)
  have o0 := ObjAt.new w #[.bool false, .bool false, .bool false, .bool false, .int .i64 0, .int .i64 0, .string ⟨#[]⟩, .string ⟨#[]⟩, .bool false, .bool false] 52
  have hs1 : (w.alloc (.cells #[.bool false, .bool false, .bool false, .bool false, .int .i64 0, .int .i64 0, .string ⟨#[]⟩, .string ⟨#[]⟩, .bool false, .bool false] 52)).heap.size = w.heap.size + 1 := by simp
  have hb1 := hb0.alloc (by omega) (.cells #[.bool false, .bool false, .bool false, .bool false, .int .i64 0, .int .i64 0, .string ⟨#[]⟩, .string ⟨#[]⟩, .bool false, .bool false] 52)
  have o1 := ObjAt.new (w.alloc (.cells #[.bool false, .bool false, .bool false, .bool false, .int .i64 0, .int .i64 0, .string ⟨#[]⟩, .string ⟨#[]⟩, .bool false, .bool false] 52)) #[.bool false, .bool false, .bool false, .bool false, .int .i64 0, .int .i64 0, .string ⟨#[]⟩, .string ⟨#[]⟩, .bool false, .bool false] 52
  have o2 := o0.below (below_alloc (w.alloc (.cells #[.bool false, .bool false, .bool false, .bool false, .int .i64 0, .int .i64 0, .string ⟨#[]⟩, .string ⟨#[]⟩, .bool false, .bool false] 52)) (.cells #[.bool false, .bool false, .bool false, .bool false, .int .i64 0, .int .i64 0, .string ⟨#[]⟩, .string ⟨#[]⟩, .bool false, .bool false] 52)) o0.lt
  rw [hs1] at o1
  clear hL hb0 hs1 o0
  go_enter Tryz.func21, Tryz.ntmps21
  go_wp2
  go_loopw [9] (fun i wr => ∃ k : Nat, k ≤ n ∧ i = .int .i64 (k : Int) ∧ ObjAt wr (w.heap.size + 1) (encF (readA (L.take k))) ∧ ObjAt wr w.heap.size #[.bool false, .bool false, .bool false, .bool false, .int .i64 0, .int .i64 0, .string ⟨#[]⟩, .string ⟨#[]⟩, .bool false, .bool false].toList ∧ Below w.heap.size w wr) (fun i _ => n - (intOf i).toNat)
  case atStart => exact ⟨0, Nat.zero_le _, rfl, o1, o2, hb1⟩
  case round =>
    clear hb1 o1 o2
    obtain ⟨k, hk2, rfl, o1, o0, hb⟩ := hrel
    by_cases hlt : k < n
    · have hlt' : (k : Int) < (n : Int) := by omega
      obtain ⟨x1, x2, g, off, hx, rfl, c0, c1⟩ := pair_at (HL.out.below hb) k hlt
      have hst := readA_take hx
      have hsx := hS (x1, x2) (by obtain ⟨h, e⟩ := List.getElem?_eq_some_iff.1 hx; exact e ▸ List.getElem_mem h)
      dsimp only at hsx
      unfold stepA at hst
      dsimp only at hst
      have H2 := Lib.hid hst
      clear hst hx
      generalize readA (L.take k) = f at *
      have o1 := o1.below (below_alloc wr (.cells #[.string (str x1), .string (str x2)] 47)) o1.lt
      have o0 := o0.below (below_alloc wr (.cells #[.string (str x1), .string (str x2)] 47)) o0.lt
      have hb := hb.alloc hb.size (.cells #[.string (str x1), .string (str x2)] 47)
      have op := ObjAt.new wr #[.string (str x1), .string (str x2)] 47
      have p0 := op.cell 0 rfl
      have p1 := op.cell 1 rfl
      clear op
      by_cases h0 : x1.map low = nExpires
      · rw [h0] at H2
        rcases hp : parseL x2 with ⟨pv, pq⟩
        cases pq with
        | true =>
          have H3 : Hid (readA (L.take (k + 1)) = { f with hexp := true, exp := pv }) := by
            unfold Hid
            rw [H2.out]
            unfold sayA
            rw [if_pos rfl, hp, if_pos rfl]
          have HS := fun w hT => saidExpC x1 x2 pv hp w hsx.1 hsx.2 h0 hT
          clear H2
          go_wp2_with (first
            | (go_at_call 51; (with_reducible refine (HS _ (hT.below hb)).mono ?_); rintro e w2 ⟨⟨b, rfl, hlo, hhi, hc⟩, hx⟩; have hne : b ≠ w.heap.size + 1 := (by have := o1.lt; omega); have o1 := o1.below hx o1.lt; have o0 := o0.below hx o0.lt; have hb := hb.trans (hx.mono hb.size); have HP := putExpC (w.heap.size + 1) f b pv w2 o1 hne hc; clear hx)
            | (go_at_call 88; (with_reducible refine HP.mono ?_); rintro e w3 ⟨rfl, o1, hk⟩; have o0 := o0.kept hk (by omega); have hb := hb.trans (hk.below (Nat.le_succ _) (fun x h => by cases h) hb.size); clear hk))
          go_roundw
          case rel => exact ⟨k + 1, by omega, by go_num, by rw [H3.out]; exact o1, o0, hb⟩
          case measure => simp [intOf]; omega
        | false =>
          have H3 : Hid (readA (L.take (k + 1)) = f) := by
            unfold Hid
            rw [H2.out]
            unfold sayA
            rw [if_pos rfl, hp, if_neg (by show ¬ (false = true); decide)]
          have HS := fun w hT => saidExpNoC x1 x2 pv hp w hsx.1 hsx.2 h0 hT
          clear H2
          go_wp2_with (first
            | (go_at_call 51; (with_reducible refine (HS _ (hT.below hb)).mono ?_); rintro e w2 ⟨rfl, hx⟩; have o1 := o1.below hx o1.lt; have o0 := o0.below hx o0.lt; have hb := hb.trans (hx.mono hb.size); have HP := putNoneC (w.heap.size + 1) f w2 o1; clear hx)
            | (go_at_call 97; (with_reducible refine HP.mono ?_); rintro e w3 ⟨rfl, o1, hk⟩; have o0 := o0.kept hk (by omega); have hb := hb.trans (hk.below (Nat.le_succ _) (fun x h => by cases h) hb.size); clear hk))
          go_roundw
          case rel => exact ⟨k + 1, by omega, by go_num, by rw [H3.out]; exact o1, o0, hb⟩
          case measure => simp [intOf]; omega
      by_cases h1 : x1.map low = nAge
      · rw [h1] at H2
        rcases hp : numL x2 with ⟨pv, pq⟩
        cases pq with
        | true =>
          have H3 : Hid (readA (L.take (k + 1)) = { f with hage := true, age := pv }) := by
            unfold Hid
            rw [H2.out]
            unfold sayA
            rw [if_neg (by decide), if_pos rfl, hp, if_pos rfl]
          have HS := fun w hT => saidAgeC x1 x2 pv hp w hsx.1 hsx.2 h0 h1 hT
          clear H2
          go_wp2_with (first
            | (go_at_call 51; (with_reducible refine (HS _ (hT.below hb)).mono ?_); rintro e w2 ⟨⟨b, rfl, hlo, hhi, hc⟩, hx⟩; have hne : b ≠ w.heap.size + 1 := (by have := o1.lt; omega); have o1 := o1.below hx o1.lt; have o0 := o0.below hx o0.lt; have hb := hb.trans (hx.mono hb.size); have HP := putAgeC (w.heap.size + 1) f b pv w2 o1 hne hc; clear hx)
            | (go_at_call 90; (with_reducible refine HP.mono ?_); rintro e w3 ⟨rfl, o1, hk⟩; have o0 := o0.kept hk (by omega); have hb := hb.trans (hk.below (Nat.le_succ _) (fun x h => by cases h) hb.size); clear hk))
          go_roundw
          case rel => exact ⟨k + 1, by omega, by go_num, by rw [H3.out]; exact o1, o0, hb⟩
          case measure => simp [intOf]; omega
        | false =>
          have H3 : Hid (readA (L.take (k + 1)) = f) := by
            unfold Hid
            rw [H2.out]
            unfold sayA
            rw [if_neg (by decide), if_pos rfl, hp, if_neg (by show ¬ (false = true); decide)]
          have HS := fun w hT => saidAgeNoC x1 x2 pv hp w hsx.1 hsx.2 h0 h1 hT
          clear H2
          go_wp2_with (first
            | (go_at_call 51; (with_reducible refine (HS _ (hT.below hb)).mono ?_); rintro e w2 ⟨rfl, hx⟩; have o1 := o1.below hx o1.lt; have o0 := o0.below hx o0.lt; have hb := hb.trans (hx.mono hb.size); have HP := putNoneC (w.heap.size + 1) f w2 o1; clear hx)
            | (go_at_call 97; (with_reducible refine HP.mono ?_); rintro e w3 ⟨rfl, o1, hk⟩; have o0 := o0.kept hk (by omega); have hb := hb.trans (hk.below (Nat.le_succ _) (fun x h => by cases h) hb.size); clear hk))
          go_roundw
          case rel => exact ⟨k + 1, by omega, by go_num, by rw [H3.out]; exact o1, o0, hb⟩
          case measure => simp [intOf]; omega
      by_cases h2 : x1.map low = nDomain
      · rw [h2] at H2
        by_cases hv : x2 = []
        · subst hv
          have H3 : Hid (readA (L.take (k + 1)) = f) := by
            unfold Hid
            rw [H2.out]
            unfold sayA
            rw [if_neg (by decide), if_neg (by decide), if_pos rfl, if_pos rfl]
          have HS := fun w hT => saidDomNoC x1 w hsx.1 h0 h1 h2 hT
          clear H2
          go_wp2_with (first
            | (go_at_call 51; (with_reducible refine (HS _ (hT.below hb)).mono ?_); rintro e w2 ⟨rfl, hx⟩; have o1 := o1.below hx o1.lt; have o0 := o0.below hx o0.lt; have hb := hb.trans (hx.mono hb.size); have HP := putNoneC (w.heap.size + 1) f w2 o1; clear hx)
            | (go_at_call 97; (with_reducible refine HP.mono ?_); rintro e w3 ⟨rfl, o1, hk⟩; have o0 := o0.kept hk (by omega); have hb := hb.trans (hk.below (Nat.le_succ _) (fun x h => by cases h) hb.size); clear hk))
          go_roundw
          case rel => exact ⟨k + 1, by omega, by go_num, by rw [H3.out]; exact o1, o0, hb⟩
          case measure => simp [intOf]; omega
        · skip
          have H3 : Hid (readA (L.take (k + 1)) = { f with hdom := true, dom := domL x2 }) := by
            unfold Hid
            rw [H2.out]
            unfold sayA
            rw [if_neg (by decide), if_neg (by decide), if_pos rfl, if_neg hv]
          have HS := fun w hT => saidDomC x1 x2 hv w hsx.1 hsx.2 h0 h1 h2 hT
          clear H2
          go_wp2_with (first
            | (go_at_call 51; (with_reducible refine (HS _ (hT.below hb)).mono ?_); rintro e w2 ⟨⟨b, rfl, hlo, hhi, hc⟩, hx⟩; have hne : b ≠ w.heap.size + 1 := (by have := o1.lt; omega); have o1 := o1.below hx o1.lt; have o0 := o0.below hx o0.lt; have hb := hb.trans (hx.mono hb.size); have HP := putDomC (w.heap.size + 1) f b (domL x2) w2 o1 hne hc; clear hx)
            | (go_at_call 92; (with_reducible refine HP.mono ?_); rintro e w3 ⟨rfl, o1, hk⟩; have o0 := o0.kept hk (by omega); have hb := hb.trans (hk.below (Nat.le_succ _) (fun x h => by cases h) hb.size); clear hk))
          go_roundw
          case rel => exact ⟨k + 1, by omega, by go_num, by rw [H3.out]; exact o1, o0, hb⟩
          case measure => simp [intOf]; omega
      by_cases h3 : x1.map low = nPath
      · rw [h3] at H2
        cases hp : pathB x2 with
        | true =>
          have H3 : Hid (readA (L.take (k + 1)) = { f with hpath := true, path := x2 }) := by
            unfold Hid
            rw [H2.out]
            unfold sayA
            rw [if_neg (by decide), if_neg (by decide), if_neg (by decide), if_pos rfl, hp, if_pos rfl]
          have HS := fun w hT => saidPathC x1 x2 hp w hsx.1 hsx.2 h0 h1 h2 h3 hT
          clear H2
          go_wp2_with (first
            | (go_at_call 51; (with_reducible refine (HS _ (hT.below hb)).mono ?_); rintro e w2 ⟨⟨b, rfl, hlo, hhi, hc⟩, hx⟩; have hne : b ≠ w.heap.size + 1 := (by have := o1.lt; omega); have o1 := o1.below hx o1.lt; have o0 := o0.below hx o0.lt; have hb := hb.trans (hx.mono hb.size); have HP := putPathC (w.heap.size + 1) f b x2 w2 o1 hne hc; clear hx)
            | (go_at_call 93; (with_reducible refine HP.mono ?_); rintro e w3 ⟨rfl, o1, hk⟩; have o0 := o0.kept hk (by omega); have hb := hb.trans (hk.below (Nat.le_succ _) (fun x h => by cases h) hb.size); clear hk))
          go_roundw
          case rel => exact ⟨k + 1, by omega, by go_num, by rw [H3.out]; exact o1, o0, hb⟩
          case measure => simp [intOf]; omega
        | false =>
          have H3 : Hid (readA (L.take (k + 1)) = { f with hpath := false, path := [] }) := by
            unfold Hid
            rw [H2.out]
            unfold sayA
            rw [if_neg (by decide), if_neg (by decide), if_neg (by decide), if_pos rfl, hp, if_neg (by show ¬ (false = true); decide)]
          have HS := fun w hT => saidPathNoC x1 x2 hp w hsx.1 hsx.2 h0 h1 h2 h3 hT
          clear H2
          go_wp2_with (first
            | (go_at_call 51; (with_reducible refine (HS _ (hT.below hb)).mono ?_); rintro e w2 ⟨rfl, hx⟩; have o1 := o1.below hx o1.lt; have o0 := o0.below hx o0.lt; have hb := hb.trans (hx.mono hb.size); have HP := putNoPathC (w.heap.size + 1) f w2 o1; clear hx)
            | (go_at_call 94; (with_reducible refine HP.mono ?_); rintro e w3 ⟨rfl, o1, hk⟩; have o0 := o0.kept hk (by omega); have hb := hb.trans (hk.below (Nat.le_succ _) (fun x h => by cases h) hb.size); clear hk))
          go_roundw
          case rel => exact ⟨k + 1, by omega, by go_num, by rw [H3.out]; exact o1, o0, hb⟩
          case measure => simp [intOf]; omega
      by_cases h4 : x1.map low = nSecure
      · rw [h4] at H2
        have H3 : Hid (readA (L.take (k + 1)) = { f with sec := true }) := by
          unfold Hid
          rw [H2.out]
          unfold sayA
          rw [if_neg (by decide), if_neg (by decide), if_neg (by decide), if_neg (by decide), if_pos rfl]
        have HS := fun w hT => saidSecC x1 x2 w hsx.1 hsx.2 h0 h1 h2 h3 h4 hT
        clear H2
        go_wp2_with (first
          | (go_at_call 51; (with_reducible refine (HS _ (hT.below hb)).mono ?_); rintro e w2 ⟨rfl, hx⟩; have o1 := o1.below hx o1.lt; have o0 := o0.below hx o0.lt; have hb := hb.trans (hx.mono hb.size); have HP := putSecC (w.heap.size + 1) f w2 o1; clear hx)
          | (go_at_call 95; (with_reducible refine HP.mono ?_); rintro e w3 ⟨rfl, o1, hk⟩; have o0 := o0.kept hk (by omega); have hb := hb.trans (hk.below (Nat.le_succ _) (fun x h => by cases h) hb.size); clear hk))
        go_roundw
        case rel => exact ⟨k + 1, by omega, by go_num, by rw [H3.out]; exact o1, o0, hb⟩
        case measure => simp [intOf]; omega
      by_cases h5 : x1.map low = nHttp
      · rw [h5] at H2
        have H3 : Hid (readA (L.take (k + 1)) = { f with http := true }) := by
          unfold Hid
          rw [H2.out]
          unfold sayA
          rw [if_neg (by decide), if_neg (by decide), if_neg (by decide), if_neg (by decide), if_neg (by decide), if_pos rfl]
        have HS := fun w hT => saidHttpC x1 x2 w hsx.1 hsx.2 h0 h1 h2 h3 h4 h5 hT
        clear H2
        go_wp2_with (first
          | (go_at_call 51; (with_reducible refine (HS _ (hT.below hb)).mono ?_); rintro e w2 ⟨rfl, hx⟩; have o1 := o1.below hx o1.lt; have o0 := o0.below hx o0.lt; have hb := hb.trans (hx.mono hb.size); have HP := putHttpC (w.heap.size + 1) f w2 o1; clear hx)
          | (go_at_call 96; (with_reducible refine HP.mono ?_); rintro e w3 ⟨rfl, o1, hk⟩; have o0 := o0.kept hk (by omega); have hb := hb.trans (hk.below (Nat.le_succ _) (fun x h => by cases h) hb.size); clear hk))
        go_roundw
        case rel => exact ⟨k + 1, by omega, by go_num, by rw [H3.out]; exact o1, o0, hb⟩
        case measure => simp [intOf]; omega
      have H3 : Hid (readA (L.take (k + 1)) = f) := by
        unfold Hid
        rw [H2.out]
        unfold sayA
        rw [if_neg h0, if_neg h1, if_neg h2, if_neg h3, if_neg h4, if_neg h5]
      have HS := fun w hT => saidNoneC x1 x2 w hsx.1 hsx.2 h0 h1 h2 h3 h4 h5 hT
      clear H2
      go_wp2_with (first
        | (go_at_call 51; (with_reducible refine (HS _ (hT.below hb)).mono ?_); rintro e w2 ⟨rfl, hx⟩; have o1 := o1.below hx o1.lt; have o0 := o0.below hx o0.lt; have hb := hb.trans (hx.mono hb.size); have HP := putNoneC (w.heap.size + 1) f w2 o1; clear hx)
        | (go_at_call 97; (with_reducible refine HP.mono ?_); rintro e w3 ⟨rfl, o1, hk⟩; have o0 := o0.kept hk (by omega); have hb := hb.trans (hk.below (Nat.le_succ _) (fun x h => by cases h) hb.size); clear hk))
      go_roundw
      case rel => exact ⟨k + 1, by omega, by go_num, by rw [H3.out]; exact o1, o0, hb⟩
      case measure => simp [intOf]; omega
    · obtain rfl : k = n := by omega
      have e : Hid (L.take k = L) := by unfold Hid; rw [List.take_of_length_le (by rw [Hn.out]; exact Nat.le_refl _)]
      generalize hf : readA (L.take k) = f at *
      have hf2 : Hid (readA L = f) := by unfold Hid; rw [← hf, e.out]
      clear hf
      have c0 := o1.cell 0 rfl
      have d0 := o0.cell 0 rfl
      have g0 := o0.free 0
      have c1 := o1.cell 1 rfl
      have d1 := o0.cell 1 rfl
      have g1 := o0.free 1
      have c2 := o1.cell 2 rfl
      have d2 := o0.cell 2 rfl
      have g2 := o0.free 2
      have c3 := o1.cell 3 rfl
      have d3 := o0.cell 3 rfl
      have g3 := o0.free 3
      have c4 := o1.cell 4 rfl
      have d4 := o0.cell 4 rfl
      have g4 := o0.free 4
      have c5 := o1.cell 5 rfl
      have d5 := o0.cell 5 rfl
      have g5 := o0.free 5
      have c6 := o1.cell 6 rfl
      have d6 := o0.cell 6 rfl
      have g6 := o0.free 6
      have c7 := o1.cell 7 rfl
      have d7 := o0.cell 7 rfl
      have g7 := o0.free 7
      have c8 := o1.cell 8 rfl
      have d8 := o0.cell 8 rfl
      have g8 := o0.free 8
      have c9 := o1.cell 9 rfl
      have d9 := o0.cell 9 rfl
      have g9 := o0.free 9
      go_wp2
      have o9 := ((((((((((o0.set 0 (.bool f.hexp)).set 1 (.bool f.hage)).set 2 (.bool f.hdom)).set 3 (.bool f.hpath)).set 4 (.int .i64 f.exp)).set 5 (.int .i64 f.age)).set 6 (.string (str f.dom))).set 7 (.string (str f.path))).set 8 (.bool f.sec)).set 9 (.bool f.http))
      have r0 := o9.cell 0 rfl
      have r1 := o9.cell 1 rfl
      have r2 := o9.cell 2 rfl
      have r3 := o9.cell 3 rfl
      have r4 := o9.cell 4 rfl
      have r5 := o9.cell 5 rfl
      have r6 := o9.cell 6 rfl
      have r7 := o9.cell 7 rfl
      have r8 := o9.cell 8 rfl
      have r9 := o9.cell 9 rfl
      exact bodyPost_ret (v := valF f) (by simp [results, Tryz.results21, go_sem, valF, r0, r1, r2, r3, r4, r5, r6, r7, r8, r9]) rfl ⟨by rw [hf2.out], ((((((((((hb.setCell (p := ⟨w.heap.size, 0, none⟩) (Nat.le_refl _) (.bool f.hexp)).setCell (p := ⟨w.heap.size, 1, none⟩) (Nat.le_refl _) (.bool f.hage)).setCell (p := ⟨w.heap.size, 2, none⟩) (Nat.le_refl _) (.bool f.hdom)).setCell (p := ⟨w.heap.size, 3, none⟩) (Nat.le_refl _) (.bool f.hpath)).setCell (p := ⟨w.heap.size, 4, none⟩) (Nat.le_refl _) (.int .i64 f.exp)).setCell (p := ⟨w.heap.size, 5, none⟩) (Nat.le_refl _) (.int .i64 f.age)).setCell (p := ⟨w.heap.size, 6, none⟩) (Nat.le_refl _) (.string (str f.dom))).setCell (p := ⟨w.heap.size, 7, none⟩) (Nat.le_refl _) (.string (str f.path))).setCell (p := ⟨w.heap.size, 8, none⟩) (Nat.le_refl _) (.bool f.sec)).setCell (p := ⟨w.heap.size, 9, none⟩) (Nat.le_refl _) (.bool f.http))⟩
end Go.Proofs.YthefieemngmnjaaGreatDoor
