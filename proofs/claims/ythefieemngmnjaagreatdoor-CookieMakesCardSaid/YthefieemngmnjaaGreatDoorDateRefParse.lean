/- Contracts of the reference of layer 7: a text as a cookie's date. -/
import Derived.Test.YthefieemngmnjaaGreatDoorLibAK
import Derived.Test.YthefieemngmnjaaGreatDoorLibAF
import Derived.Test.YthefieemngmnjaaGreatDoorDateParse
import Derived.Deep.RegionHeld3
namespace Go.Proofs.YthefieemngmnjaaGreatDoor
open Go.RowKit
set_option linter.unusedVariables false

/-- A time's three numbers, or that there are none yet, as the reference keeps them. -/
def TAt (o : Option (Nat × Nat × Nat)) (v : Value) (w : World) : Prop :=
  match o with
  | Option.none => ∃ a c, v = .slice a 0 c
  | some (h, mi, se) => ∃ a c, v = .slice a 3 c ∧ Reads w a [.int .i64 (h : Int), .int .i64 (mi : Int), .int .i64 (se : Int)]
theorem TAt.below {o : Option (Nat × Nat × Nat)} {v : Value} {w w' : World} (h : TAt o v w) (hb : Below w.heap.size w w') : TAt o v w' := by
  match o with
  | Option.none => exact h
  | some (x, y, z) =>
    obtain ⟨a, c, e, hr⟩ := h
    exact ⟨a, c, e, hr.below' hb⟩
def optI (o : Option Nat) (z : Int) : Int := match o with | Option.none => z | some n => (n : Int)

theorem optI_none (z : Int) : optI Option.none z = z := rfl
theorem optI_some (n : Nat) (z : Int) : optI (some n) z = (n : Int) := rfl

theorem timeAny (l : List UInt8) (n : Nat) (w : World) (hl : l.length = n) (hm : n ≤ 1000000000000) :
    Calls Tryz.prog 101 #[.string (str l)] w fun e w' => (∃ a m c, e = .returned (.tuple #[.slice a m c, .bool (isTimeB l)])) ∧ Below w.heap.size w w' := by
  refine (refTimeC l n w hl hm).mono ?_
  rintro e w' ⟨hb, ⟨h1, rfl⟩ | ⟨h1, a, c, rfl, ho⟩⟩
  · rw [h1]; exact ⟨⟨_, _, _, rfl⟩, hb⟩
  · rw [h1]; exact ⟨⟨_, _, _, rfl⟩, hb⟩
theorem timeYes (l : List UInt8) (n : Nat) (w : World) (hl : l.length = n) (hm : n ≤ 1000000000000) (h : isTimeB l = true) :
    Calls Tryz.prog 101 #[.string (str l)] w fun e w' => (∃ a c, e = .returned (.tuple #[.slice a 3 c, .bool true]) ∧ Reads w' a [.int .i64 (valL l : Int), .int .i64 (valL (timeB l) : Int), .int .i64 (valL (timeB (timeB l)) : Int)]) ∧ Below w.heap.size w w' := by
  refine (refTimeC l n w hl hm).mono ?_
  rintro e w' ⟨hb, ⟨h1, rfl⟩ | ⟨h1, a, c, rfl, ho⟩⟩
  · rw [h] at h1; cases h1
  · exact ⟨⟨a, c, rfl, ho.reads⟩, hb⟩
theorem strs_at {w : World} {a : Option Addr} {L : List (List UInt8)} (h : Reads w a (strs L)) (k : Nat) (hk : k < L.length) : ∃ B off, a = some ⟨B, off, none⟩ ∧ w.cell? ⟨B, off + k, none⟩ = some (.string (str (L.getD k []))) := by
  have hv : (strs L)[k]? = some (.string (str (L.getD k []))) := by
    unfold strs
    simp [List.getD, hk]
  exact h k _ hv
theorem tok_le (l : List UInt8) : ∀ T, ∀ x ∈ tok T l, x.length ≤ T.length + l.length := by
  induction l with
  | nil =>
    intro T x hx
    unfold tok at hx
    split at hx
    · cases hx
    · simp at hx; subst hx; simp
  | cons y r ih =>
    intro T x hx
    unfold tok at hx
    split at hx
    · split at hx
      · have := ih [] x hx; simp at this ⊢; omega
      · simp at hx
        rcases hx with rfl | hx
        · simp
        · have := ih [] x hx; simp at this ⊢; omega
    · have := ih _ x hx; simp at this ⊢; omega

set_option maxRecDepth 100000 in
set_option maxHeartbeats 16000000 in
theorem refParseC (l : List UInt8) (n : Nat) (w : World) (hl : l.length = n) (hm : n ≤ 1000000000000) :
    Calls Tryz.prog 62 #[.string (str l)] w fun e w' => e = .returned (.tuple #[.int .i64 (parseL l).1, .bool (parseL l).2]) ∧ Below w.heap.size w w' := by
  have HT := refTokensC l n w hl hm
  have hle := Lib.hid (fun x hx => tok_le l [] x hx)
  have hlen := tok_len l []
  unfold parseL
  generalize tok [] l = L at *
  have hln : L.length ≤ 1000000000000 := by simp at hlen; omega
  obtain ⟨LN, hLN⟩ : ∃ LN, L.length = LN := ⟨_, rfl⟩
  have hLN' := Lib.hid hLN
  have h0 : Hid (L.foldl stepD St.none = (L.drop 0).foldl stepD St.none) := rfl
  obtain ⟨F, hF⟩ : ∃ F, L.foldl stepD St.none = F := ⟨_, rfl⟩
  rw [hF] at h0 ⊢
  have HL := Lib.hid hl
  unfold GivesStrs at HT
  rw [hLN] at HT
  rw [hLN] at hln
  clear hl hF hLN hlen
  obtain ⟨G, hG⟩ : ∃ G, (fun (e : Ending) (w' : World) => e = .returned (.tuple #[.int .i64 F.tells.1, .bool F.tells.2]) ∧ Below w.heap.size w w') = G := ⟨_, rfl⟩
  rw [hG]
  have hG' := Lib.hid hG
  clear hG
  go_enter Tryz.func62, Tryz.ntmps62
  go_wp2_with (go_at_call 100; (with_reducible refine HT.mono ?_); rintro e w2 ⟨aT, cT, rfl, hoT, hbT⟩; have hrT := hoT.reads)
  have hal := below_alloc w2 (.cells #[] 3)
  go_loopw [5, 6, 7, 8, 9] (fun tv dv mv yv i wr => ∃ (k : Nat) (s : St), k ≤ LN ∧ s.Ok ∧ TAt s.time tv wr ∧ dv = .int .i64 (optI s.day (-1)) ∧ mv = .int .i64 (optI s.month 0) ∧ yv = .int .i64 (optI s.year (-1)) ∧ i = .int .i64 (k : Int) ∧ Hid (F = (L.drop k).foldl stepD s) ∧ Below w.heap.size w wr ∧ Reads wr aT (strs L)) (fun _ _ _ _ i _ => LN - (intOf i).toNat)
  case atStart => exact ⟨0, St.none, Nat.zero_le _, St.none_ok, ⟨_, _, rfl⟩, rfl, rfl, rfl, rfl, h0, hbT.trans (hal.mono hbT.size), hrT.below' hal⟩
  case round =>
    clear h0 hal hrT hoT hbT HT
    obtain ⟨k, s, hk, hok, htt, rfl, rfl, rfl, rfl, H, hb, hrd⟩ := hrel
    have HOK := Lib.hid hok
    have HB := Lib.hid hb
    have hbs := hb.size
    have HRD := Lib.hid hrd
    have HTT := Lib.hid htt
    clear hok hb
    by_cases hlt : k < LN
    · have hlt' : (k : Int) < (LN : Int) := by omega
      have hkL : k < L.length := by rw [hLN'.out]; exact hlt
      obtain ⟨B, off, rfl, c0⟩ := strs_at hrd k hkL
      have hd : L.drop k = L.getD k [] :: L.drop (k + 1) := by
        rw [List.drop_eq_getElem_cons hkL]
        simp [List.getD, hkL]
      have hmem : L.getD k [] ∈ L := by
        have e : L.getD k [] = L[k] := by simp [List.getD, hkL]
        rw [e]; exact List.getElem_mem hkL
      have H2 : Hid (F = (L.drop (k + 1)).foldl stepD (stepD s (L.getD k []))) := by
        unfold Hid
        rw [H.out, hd]
        rfl
      have htl : (L.getD k []).length ≤ 1000000000000 := by
        have := hle.out _ hmem
        rw [List.length_nil, HL.out] at this
        omega
      clear hd hmem H hrd hkL
      generalize L.getD k [] = t at *
      have htm : t.length ≤ maxLen := by unfold maxLen; omega
      have HTA := fun w => timeAny t t.length w rfl htl
      have HD12 := fun w => refDigC t t.length 1 2 1 2 w rfl htm (by omega) (by omega) rfl rfl
      have HD24 := fun w => refDigC t t.length 2 4 2 4 w rfl htm (by omega) (by omega) rfl rfl
      have HVV := fun w => refValueC t t.length w rfl htm
      have HMM := fun w => refMonthC t t.length w rfl htm
      have hv := valL_le t
      have hml := monL_le t
      have hbx := Below.refl wr.heap.size wr
      obtain ⟨tm0, dy0, mo0, ye0⟩ := s
      simp only [] at htt HTT
      clear htt
      cases tm0 with
      | none =>
        obtain ⟨tta, ttc, rfl⟩ := HTT.out
        cases y0 : isTimeB t with
        | true =>
          have HTY := fun w => timeYes t t.length w rfl htl y0
          have es := step_0 ⟨Option.none, dy0, mo0, ye0⟩ t rfl y0
          rw [es] at H2
          have HOK2 : Hid (St.Ok ⟨some (valL t, valL (timeB t), valL (timeB (timeB t))), dy0, mo0, ye0⟩) := by unfold Hid; have := stepD_ok ⟨Option.none, dy0, mo0, ye0⟩ t HOK.out; rw [es] at this; exact this
          clear es
          go_wp2_with (first | (go_at_call 101; (with_reducible refine (HTY _).mono ?_); rintro e ww ⟨⟨ta, tc, rfl, hrd⟩, hx⟩; have hbx := hbx.trans (hx.mono hbx.size); have c0 := (hx.cell (cell_lt c0)).trans c0; clear hx) | (go_at_call 102; (with_reducible refine (HD12 _).mono ?_); rintro e ww ⟨rfl, rfl⟩) | (go_at_call 102; (with_reducible refine (HD24 _).mono ?_); rintro e ww ⟨rfl, rfl⟩) | (go_at_call 103; (with_reducible refine (HVV _).mono ?_); rintro e ww ⟨rfl, rfl⟩) | (go_at_call 104; (with_reducible refine (HMM _).mono ?_); rintro e ww ⟨rfl, hx⟩; have hbx := hbx.trans (hx.mono hbx.size); have c0 := (hx.cell (cell_lt c0)).trans c0; clear hx))
          go_roundw
          case rel => exact ⟨k + 1, ⟨some (valL t, valL (timeB t), valL (timeB (timeB t))), dy0, mo0, ye0⟩, by omega, HOK2.out, ⟨ta, tc, rfl, hrd⟩, rfl, rfl, rfl, by go_num, H2, HB.out.trans (hbx.mono hbs), HRD.out.below' hbx⟩
          case measure => simp [intOf]; omega
        | false =>
          have n0 := (takes_no ⟨Option.none, dy0, mo0, ye0⟩ t).1 y0
          rw [y0] at HTA
          cases dy0 with
          | none =>
            cases y1 : dig 1 2 t with
            | true =>
              rw [y1] at HD12
              have es := step_1 ⟨Option.none, Option.none, mo0, ye0⟩ t n0 rfl y1
              rw [es] at H2
              have HOK2 : Hid (St.Ok ⟨Option.none, some (valL t), mo0, ye0⟩) := by unfold Hid; have := stepD_ok ⟨Option.none, Option.none, mo0, ye0⟩ t HOK.out; rw [es] at this; exact this
              clear es n0
              simp only [optI_none]
              go_wp2_with (first | (go_at_call 101; (with_reducible refine (HTA _).mono ?_); rintro e ww ⟨⟨ta, tm, tc, rfl⟩, hx⟩; have hbx := hbx.trans (hx.mono hbx.size); have c0 := (hx.cell (cell_lt c0)).trans c0; clear hx) | (go_at_call 102; (with_reducible refine (HD12 _).mono ?_); rintro e ww ⟨rfl, rfl⟩) | (go_at_call 102; (with_reducible refine (HD24 _).mono ?_); rintro e ww ⟨rfl, rfl⟩) | (go_at_call 103; (with_reducible refine (HVV _).mono ?_); rintro e ww ⟨rfl, rfl⟩) | (go_at_call 104; (with_reducible refine (HMM _).mono ?_); rintro e ww ⟨rfl, hx⟩; have hbx := hbx.trans (hx.mono hbx.size); have c0 := (hx.cell (cell_lt c0)).trans c0; clear hx))
              go_roundw
              case rel => exact ⟨k + 1, ⟨Option.none, some (valL t), mo0, ye0⟩, by omega, HOK2.out, HTT.out.below hbx, rfl, rfl, rfl, by go_num, H2, HB.out.trans (hbx.mono hbs), HRD.out.below' hbx⟩
              case measure => simp [intOf]; omega
            | false =>
              have n1 := (takes_no ⟨Option.none, Option.none, mo0, ye0⟩ t).2.1 y1
              rw [y1] at HD12
              cases mo0 with
              | none =>
                cases y2 : decide (0 < monL t) with
                | true =>
                  have y2' : (0 : Int) < (monL t : Int) := by simp at y2; omega
                  have es := step_2 ⟨Option.none, Option.none, Option.none, ye0⟩ t n0 n1 rfl y2
                  rw [es] at H2
                  have HOK2 : Hid (St.Ok ⟨Option.none, Option.none, some (monL t), ye0⟩) := by unfold Hid; have := stepD_ok ⟨Option.none, Option.none, Option.none, ye0⟩ t HOK.out; rw [es] at this; exact this
                  clear es n0 n1
                  simp only [optI_none]
                  go_wp2_with (first | (go_at_call 101; (with_reducible refine (HTA _).mono ?_); rintro e ww ⟨⟨ta, tm, tc, rfl⟩, hx⟩; have hbx := hbx.trans (hx.mono hbx.size); have c0 := (hx.cell (cell_lt c0)).trans c0; clear hx) | (go_at_call 102; (with_reducible refine (HD12 _).mono ?_); rintro e ww ⟨rfl, rfl⟩) | (go_at_call 102; (with_reducible refine (HD24 _).mono ?_); rintro e ww ⟨rfl, rfl⟩) | (go_at_call 103; (with_reducible refine (HVV _).mono ?_); rintro e ww ⟨rfl, rfl⟩) | (go_at_call 104; (with_reducible refine (HMM _).mono ?_); rintro e ww ⟨rfl, hx⟩; have hbx := hbx.trans (hx.mono hbx.size); have c0 := (hx.cell (cell_lt c0)).trans c0; clear hx))
                  go_roundw
                  case rel => exact ⟨k + 1, ⟨Option.none, Option.none, some (monL t), ye0⟩, by omega, HOK2.out, HTT.out.below hbx, rfl, rfl, rfl, by go_num, H2, HB.out.trans (hbx.mono hbs), HRD.out.below' hbx⟩
                  case measure => simp [intOf]; omega
                | false =>
                  have n2 := (takes_no ⟨Option.none, Option.none, Option.none, ye0⟩ t).2.2.1 y2
                  have y2' : monL t = 0 := by simp at y2; omega
                  rw [y2'] at HMM
                  cases ye0 with
                  | none =>
                    cases y3 : dig 2 4 t with
                    | true =>
                      rw [y3] at HD24
                      have es := step_3 ⟨Option.none, Option.none, Option.none, Option.none⟩ t n0 n1 n2 rfl y3
                      rw [es] at H2
                      have HOK2 : Hid (St.Ok ⟨Option.none, Option.none, Option.none, some (valL t)⟩) := by unfold Hid; have := stepD_ok ⟨Option.none, Option.none, Option.none, Option.none⟩ t HOK.out; rw [es] at this; exact this
                      clear es n0 n1 n2
                      simp only [optI_none]
                      go_wp2_with (first | (go_at_call 101; (with_reducible refine (HTA _).mono ?_); rintro e ww ⟨⟨ta, tm, tc, rfl⟩, hx⟩; have hbx := hbx.trans (hx.mono hbx.size); have c0 := (hx.cell (cell_lt c0)).trans c0; clear hx) | (go_at_call 102; (with_reducible refine (HD12 _).mono ?_); rintro e ww ⟨rfl, rfl⟩) | (go_at_call 102; (with_reducible refine (HD24 _).mono ?_); rintro e ww ⟨rfl, rfl⟩) | (go_at_call 103; (with_reducible refine (HVV _).mono ?_); rintro e ww ⟨rfl, rfl⟩) | (go_at_call 104; (with_reducible refine (HMM _).mono ?_); rintro e ww ⟨rfl, hx⟩; have hbx := hbx.trans (hx.mono hbx.size); have c0 := (hx.cell (cell_lt c0)).trans c0; clear hx))
                      go_roundw
                      case rel => exact ⟨k + 1, ⟨Option.none, Option.none, Option.none, some (valL t)⟩, by omega, HOK2.out, HTT.out.below hbx, rfl, rfl, rfl, by go_num, H2, HB.out.trans (hbx.mono hbs), HRD.out.below' hbx⟩
                      case measure => simp [intOf]; omega
                    | false =>
                      have n3 := (takes_no ⟨Option.none, Option.none, Option.none, Option.none⟩ t).2.2.2 y3
                      rw [y3] at HD24
                      have es := step_no ⟨Option.none, Option.none, Option.none, Option.none⟩ t (fun j hj => by rcases (show j = 0 ∨ j = 1 ∨ j = 2 ∨ j = 3 by omega) with rfl | rfl | rfl | rfl <;> first | exact n0 | exact n1 | exact n2 | exact n3)
                      rw [es] at H2
                      have HOK2 : Hid (St.Ok ⟨Option.none, Option.none, Option.none, Option.none⟩) := by unfold Hid; have := stepD_ok ⟨Option.none, Option.none, Option.none, Option.none⟩ t HOK.out; rw [es] at this; exact this
                      clear es n0 n1 n2 n3
                      simp only [optI_none]
                      go_wp2_with (first | (go_at_call 101; (with_reducible refine (HTA _).mono ?_); rintro e ww ⟨⟨ta, tm, tc, rfl⟩, hx⟩; have hbx := hbx.trans (hx.mono hbx.size); have c0 := (hx.cell (cell_lt c0)).trans c0; clear hx) | (go_at_call 102; (with_reducible refine (HD12 _).mono ?_); rintro e ww ⟨rfl, rfl⟩) | (go_at_call 102; (with_reducible refine (HD24 _).mono ?_); rintro e ww ⟨rfl, rfl⟩) | (go_at_call 103; (with_reducible refine (HVV _).mono ?_); rintro e ww ⟨rfl, rfl⟩) | (go_at_call 104; (with_reducible refine (HMM _).mono ?_); rintro e ww ⟨rfl, hx⟩; have hbx := hbx.trans (hx.mono hbx.size); have c0 := (hx.cell (cell_lt c0)).trans c0; clear hx))
                      go_roundw
                      case rel => exact ⟨k + 1, ⟨Option.none, Option.none, Option.none, Option.none⟩, by omega, HOK2.out, HTT.out.below hbx, rfl, rfl, rfl, by go_num, H2, HB.out.trans (hbx.mono hbs), HRD.out.below' hbx⟩
                      case measure => simp [intOf]; omega
                  | some q3 =>
                    have n3 := (takes_met ⟨Option.none, Option.none, Option.none, some q3⟩ t).2.2.2 rfl
                    have es := step_no ⟨Option.none, Option.none, Option.none, some q3⟩ t (fun j hj => by rcases (show j = 0 ∨ j = 1 ∨ j = 2 ∨ j = 3 by omega) with rfl | rfl | rfl | rfl <;> first | exact n0 | exact n1 | exact n2 | exact n3)
                    rw [es] at H2
                    have HOK2 : Hid (St.Ok ⟨Option.none, Option.none, Option.none, some q3⟩) := by unfold Hid; have := stepD_ok ⟨Option.none, Option.none, Option.none, some q3⟩ t HOK.out; rw [es] at this; exact this
                    clear es n0 n1 n2 n3
                    simp only [optI_none, optI_some]
                    go_wp2_with (first | (go_at_call 101; (with_reducible refine (HTA _).mono ?_); rintro e ww ⟨⟨ta, tm, tc, rfl⟩, hx⟩; have hbx := hbx.trans (hx.mono hbx.size); have c0 := (hx.cell (cell_lt c0)).trans c0; clear hx) | (go_at_call 102; (with_reducible refine (HD12 _).mono ?_); rintro e ww ⟨rfl, rfl⟩) | (go_at_call 102; (with_reducible refine (HD24 _).mono ?_); rintro e ww ⟨rfl, rfl⟩) | (go_at_call 103; (with_reducible refine (HVV _).mono ?_); rintro e ww ⟨rfl, rfl⟩) | (go_at_call 104; (with_reducible refine (HMM _).mono ?_); rintro e ww ⟨rfl, hx⟩; have hbx := hbx.trans (hx.mono hbx.size); have c0 := (hx.cell (cell_lt c0)).trans c0; clear hx))
                    go_roundw
                    case rel => exact ⟨k + 1, ⟨Option.none, Option.none, Option.none, some q3⟩, by omega, HOK2.out, HTT.out.below hbx, rfl, rfl, rfl, by go_num, H2, HB.out.trans (hbx.mono hbs), HRD.out.below' hbx⟩
                    case measure => simp [intOf]; omega
              | some q2 =>
                have n2 := (takes_met ⟨Option.none, Option.none, some q2, ye0⟩ t).2.2.1 rfl
                have hq2 := HOK.out.m q2 rfl
                cases ye0 with
                | none =>
                  cases y3 : dig 2 4 t with
                  | true =>
                    rw [y3] at HD24
                    have es := step_3 ⟨Option.none, Option.none, some q2, Option.none⟩ t n0 n1 n2 rfl y3
                    rw [es] at H2
                    have HOK2 : Hid (St.Ok ⟨Option.none, Option.none, some q2, some (valL t)⟩) := by unfold Hid; have := stepD_ok ⟨Option.none, Option.none, some q2, Option.none⟩ t HOK.out; rw [es] at this; exact this
                    clear es n0 n1 n2
                    simp only [optI_none, optI_some]
                    go_wp2_with (first | (go_at_call 101; (with_reducible refine (HTA _).mono ?_); rintro e ww ⟨⟨ta, tm, tc, rfl⟩, hx⟩; have hbx := hbx.trans (hx.mono hbx.size); have c0 := (hx.cell (cell_lt c0)).trans c0; clear hx) | (go_at_call 102; (with_reducible refine (HD12 _).mono ?_); rintro e ww ⟨rfl, rfl⟩) | (go_at_call 102; (with_reducible refine (HD24 _).mono ?_); rintro e ww ⟨rfl, rfl⟩) | (go_at_call 103; (with_reducible refine (HVV _).mono ?_); rintro e ww ⟨rfl, rfl⟩) | (go_at_call 104; (with_reducible refine (HMM _).mono ?_); rintro e ww ⟨rfl, hx⟩; have hbx := hbx.trans (hx.mono hbx.size); have c0 := (hx.cell (cell_lt c0)).trans c0; clear hx))
                    go_roundw
                    case rel => exact ⟨k + 1, ⟨Option.none, Option.none, some q2, some (valL t)⟩, by omega, HOK2.out, HTT.out.below hbx, rfl, rfl, rfl, by go_num, H2, HB.out.trans (hbx.mono hbs), HRD.out.below' hbx⟩
                    case measure => simp [intOf]; omega
                  | false =>
                    have n3 := (takes_no ⟨Option.none, Option.none, some q2, Option.none⟩ t).2.2.2 y3
                    rw [y3] at HD24
                    have es := step_no ⟨Option.none, Option.none, some q2, Option.none⟩ t (fun j hj => by rcases (show j = 0 ∨ j = 1 ∨ j = 2 ∨ j = 3 by omega) with rfl | rfl | rfl | rfl <;> first | exact n0 | exact n1 | exact n2 | exact n3)
                    rw [es] at H2
                    have HOK2 : Hid (St.Ok ⟨Option.none, Option.none, some q2, Option.none⟩) := by unfold Hid; have := stepD_ok ⟨Option.none, Option.none, some q2, Option.none⟩ t HOK.out; rw [es] at this; exact this
                    clear es n0 n1 n2 n3
                    simp only [optI_none, optI_some]
                    go_wp2_with (first | (go_at_call 101; (with_reducible refine (HTA _).mono ?_); rintro e ww ⟨⟨ta, tm, tc, rfl⟩, hx⟩; have hbx := hbx.trans (hx.mono hbx.size); have c0 := (hx.cell (cell_lt c0)).trans c0; clear hx) | (go_at_call 102; (with_reducible refine (HD12 _).mono ?_); rintro e ww ⟨rfl, rfl⟩) | (go_at_call 102; (with_reducible refine (HD24 _).mono ?_); rintro e ww ⟨rfl, rfl⟩) | (go_at_call 103; (with_reducible refine (HVV _).mono ?_); rintro e ww ⟨rfl, rfl⟩) | (go_at_call 104; (with_reducible refine (HMM _).mono ?_); rintro e ww ⟨rfl, hx⟩; have hbx := hbx.trans (hx.mono hbx.size); have c0 := (hx.cell (cell_lt c0)).trans c0; clear hx))
                    go_roundw
                    case rel => exact ⟨k + 1, ⟨Option.none, Option.none, some q2, Option.none⟩, by omega, HOK2.out, HTT.out.below hbx, rfl, rfl, rfl, by go_num, H2, HB.out.trans (hbx.mono hbs), HRD.out.below' hbx⟩
                    case measure => simp [intOf]; omega
                | some q3 =>
                  have n3 := (takes_met ⟨Option.none, Option.none, some q2, some q3⟩ t).2.2.2 rfl
                  have es := step_no ⟨Option.none, Option.none, some q2, some q3⟩ t (fun j hj => by rcases (show j = 0 ∨ j = 1 ∨ j = 2 ∨ j = 3 by omega) with rfl | rfl | rfl | rfl <;> first | exact n0 | exact n1 | exact n2 | exact n3)
                  rw [es] at H2
                  have HOK2 : Hid (St.Ok ⟨Option.none, Option.none, some q2, some q3⟩) := by unfold Hid; have := stepD_ok ⟨Option.none, Option.none, some q2, some q3⟩ t HOK.out; rw [es] at this; exact this
                  clear es n0 n1 n2 n3
                  simp only [optI_none, optI_some]
                  go_wp2_with (first | (go_at_call 101; (with_reducible refine (HTA _).mono ?_); rintro e ww ⟨⟨ta, tm, tc, rfl⟩, hx⟩; have hbx := hbx.trans (hx.mono hbx.size); have c0 := (hx.cell (cell_lt c0)).trans c0; clear hx) | (go_at_call 102; (with_reducible refine (HD12 _).mono ?_); rintro e ww ⟨rfl, rfl⟩) | (go_at_call 102; (with_reducible refine (HD24 _).mono ?_); rintro e ww ⟨rfl, rfl⟩) | (go_at_call 103; (with_reducible refine (HVV _).mono ?_); rintro e ww ⟨rfl, rfl⟩) | (go_at_call 104; (with_reducible refine (HMM _).mono ?_); rintro e ww ⟨rfl, hx⟩; have hbx := hbx.trans (hx.mono hbx.size); have c0 := (hx.cell (cell_lt c0)).trans c0; clear hx))
                  go_roundw
                  case rel => exact ⟨k + 1, ⟨Option.none, Option.none, some q2, some q3⟩, by omega, HOK2.out, HTT.out.below hbx, rfl, rfl, rfl, by go_num, H2, HB.out.trans (hbx.mono hbs), HRD.out.below' hbx⟩
                  case measure => simp [intOf]; omega
          | some q1 =>
            have n1 := (takes_met ⟨Option.none, some q1, mo0, ye0⟩ t).2.1 rfl
            cases mo0 with
            | none =>
              cases y2 : decide (0 < monL t) with
              | true =>
                have y2' : (0 : Int) < (monL t : Int) := by simp at y2; omega
                have es := step_2 ⟨Option.none, some q1, Option.none, ye0⟩ t n0 n1 rfl y2
                rw [es] at H2
                have HOK2 : Hid (St.Ok ⟨Option.none, some q1, some (monL t), ye0⟩) := by unfold Hid; have := stepD_ok ⟨Option.none, some q1, Option.none, ye0⟩ t HOK.out; rw [es] at this; exact this
                clear es n0 n1
                simp only [optI_none, optI_some]
                go_wp2_with (first | (go_at_call 101; (with_reducible refine (HTA _).mono ?_); rintro e ww ⟨⟨ta, tm, tc, rfl⟩, hx⟩; have hbx := hbx.trans (hx.mono hbx.size); have c0 := (hx.cell (cell_lt c0)).trans c0; clear hx) | (go_at_call 102; (with_reducible refine (HD12 _).mono ?_); rintro e ww ⟨rfl, rfl⟩) | (go_at_call 102; (with_reducible refine (HD24 _).mono ?_); rintro e ww ⟨rfl, rfl⟩) | (go_at_call 103; (with_reducible refine (HVV _).mono ?_); rintro e ww ⟨rfl, rfl⟩) | (go_at_call 104; (with_reducible refine (HMM _).mono ?_); rintro e ww ⟨rfl, hx⟩; have hbx := hbx.trans (hx.mono hbx.size); have c0 := (hx.cell (cell_lt c0)).trans c0; clear hx))
                go_roundw
                case rel => exact ⟨k + 1, ⟨Option.none, some q1, some (monL t), ye0⟩, by omega, HOK2.out, HTT.out.below hbx, rfl, rfl, rfl, by go_num, H2, HB.out.trans (hbx.mono hbs), HRD.out.below' hbx⟩
                case measure => simp [intOf]; omega
              | false =>
                have n2 := (takes_no ⟨Option.none, some q1, Option.none, ye0⟩ t).2.2.1 y2
                have y2' : monL t = 0 := by simp at y2; omega
                rw [y2'] at HMM
                cases ye0 with
                | none =>
                  cases y3 : dig 2 4 t with
                  | true =>
                    rw [y3] at HD24
                    have es := step_3 ⟨Option.none, some q1, Option.none, Option.none⟩ t n0 n1 n2 rfl y3
                    rw [es] at H2
                    have HOK2 : Hid (St.Ok ⟨Option.none, some q1, Option.none, some (valL t)⟩) := by unfold Hid; have := stepD_ok ⟨Option.none, some q1, Option.none, Option.none⟩ t HOK.out; rw [es] at this; exact this
                    clear es n0 n1 n2
                    simp only [optI_none, optI_some]
                    go_wp2_with (first | (go_at_call 101; (with_reducible refine (HTA _).mono ?_); rintro e ww ⟨⟨ta, tm, tc, rfl⟩, hx⟩; have hbx := hbx.trans (hx.mono hbx.size); have c0 := (hx.cell (cell_lt c0)).trans c0; clear hx) | (go_at_call 102; (with_reducible refine (HD12 _).mono ?_); rintro e ww ⟨rfl, rfl⟩) | (go_at_call 102; (with_reducible refine (HD24 _).mono ?_); rintro e ww ⟨rfl, rfl⟩) | (go_at_call 103; (with_reducible refine (HVV _).mono ?_); rintro e ww ⟨rfl, rfl⟩) | (go_at_call 104; (with_reducible refine (HMM _).mono ?_); rintro e ww ⟨rfl, hx⟩; have hbx := hbx.trans (hx.mono hbx.size); have c0 := (hx.cell (cell_lt c0)).trans c0; clear hx))
                    go_roundw
                    case rel => exact ⟨k + 1, ⟨Option.none, some q1, Option.none, some (valL t)⟩, by omega, HOK2.out, HTT.out.below hbx, rfl, rfl, rfl, by go_num, H2, HB.out.trans (hbx.mono hbs), HRD.out.below' hbx⟩
                    case measure => simp [intOf]; omega
                  | false =>
                    have n3 := (takes_no ⟨Option.none, some q1, Option.none, Option.none⟩ t).2.2.2 y3
                    rw [y3] at HD24
                    have es := step_no ⟨Option.none, some q1, Option.none, Option.none⟩ t (fun j hj => by rcases (show j = 0 ∨ j = 1 ∨ j = 2 ∨ j = 3 by omega) with rfl | rfl | rfl | rfl <;> first | exact n0 | exact n1 | exact n2 | exact n3)
                    rw [es] at H2
                    have HOK2 : Hid (St.Ok ⟨Option.none, some q1, Option.none, Option.none⟩) := by unfold Hid; have := stepD_ok ⟨Option.none, some q1, Option.none, Option.none⟩ t HOK.out; rw [es] at this; exact this
                    clear es n0 n1 n2 n3
                    simp only [optI_none, optI_some]
                    go_wp2_with (first | (go_at_call 101; (with_reducible refine (HTA _).mono ?_); rintro e ww ⟨⟨ta, tm, tc, rfl⟩, hx⟩; have hbx := hbx.trans (hx.mono hbx.size); have c0 := (hx.cell (cell_lt c0)).trans c0; clear hx) | (go_at_call 102; (with_reducible refine (HD12 _).mono ?_); rintro e ww ⟨rfl, rfl⟩) | (go_at_call 102; (with_reducible refine (HD24 _).mono ?_); rintro e ww ⟨rfl, rfl⟩) | (go_at_call 103; (with_reducible refine (HVV _).mono ?_); rintro e ww ⟨rfl, rfl⟩) | (go_at_call 104; (with_reducible refine (HMM _).mono ?_); rintro e ww ⟨rfl, hx⟩; have hbx := hbx.trans (hx.mono hbx.size); have c0 := (hx.cell (cell_lt c0)).trans c0; clear hx))
                    go_roundw
                    case rel => exact ⟨k + 1, ⟨Option.none, some q1, Option.none, Option.none⟩, by omega, HOK2.out, HTT.out.below hbx, rfl, rfl, rfl, by go_num, H2, HB.out.trans (hbx.mono hbs), HRD.out.below' hbx⟩
                    case measure => simp [intOf]; omega
                | some q3 =>
                  have n3 := (takes_met ⟨Option.none, some q1, Option.none, some q3⟩ t).2.2.2 rfl
                  have es := step_no ⟨Option.none, some q1, Option.none, some q3⟩ t (fun j hj => by rcases (show j = 0 ∨ j = 1 ∨ j = 2 ∨ j = 3 by omega) with rfl | rfl | rfl | rfl <;> first | exact n0 | exact n1 | exact n2 | exact n3)
                  rw [es] at H2
                  have HOK2 : Hid (St.Ok ⟨Option.none, some q1, Option.none, some q3⟩) := by unfold Hid; have := stepD_ok ⟨Option.none, some q1, Option.none, some q3⟩ t HOK.out; rw [es] at this; exact this
                  clear es n0 n1 n2 n3
                  simp only [optI_none, optI_some]
                  go_wp2_with (first | (go_at_call 101; (with_reducible refine (HTA _).mono ?_); rintro e ww ⟨⟨ta, tm, tc, rfl⟩, hx⟩; have hbx := hbx.trans (hx.mono hbx.size); have c0 := (hx.cell (cell_lt c0)).trans c0; clear hx) | (go_at_call 102; (with_reducible refine (HD12 _).mono ?_); rintro e ww ⟨rfl, rfl⟩) | (go_at_call 102; (with_reducible refine (HD24 _).mono ?_); rintro e ww ⟨rfl, rfl⟩) | (go_at_call 103; (with_reducible refine (HVV _).mono ?_); rintro e ww ⟨rfl, rfl⟩) | (go_at_call 104; (with_reducible refine (HMM _).mono ?_); rintro e ww ⟨rfl, hx⟩; have hbx := hbx.trans (hx.mono hbx.size); have c0 := (hx.cell (cell_lt c0)).trans c0; clear hx))
                  go_roundw
                  case rel => exact ⟨k + 1, ⟨Option.none, some q1, Option.none, some q3⟩, by omega, HOK2.out, HTT.out.below hbx, rfl, rfl, rfl, by go_num, H2, HB.out.trans (hbx.mono hbs), HRD.out.below' hbx⟩
                  case measure => simp [intOf]; omega
            | some q2 =>
              have n2 := (takes_met ⟨Option.none, some q1, some q2, ye0⟩ t).2.2.1 rfl
              have hq2 := HOK.out.m q2 rfl
              cases ye0 with
              | none =>
                cases y3 : dig 2 4 t with
                | true =>
                  rw [y3] at HD24
                  have es := step_3 ⟨Option.none, some q1, some q2, Option.none⟩ t n0 n1 n2 rfl y3
                  rw [es] at H2
                  have HOK2 : Hid (St.Ok ⟨Option.none, some q1, some q2, some (valL t)⟩) := by unfold Hid; have := stepD_ok ⟨Option.none, some q1, some q2, Option.none⟩ t HOK.out; rw [es] at this; exact this
                  clear es n0 n1 n2
                  simp only [optI_none, optI_some]
                  go_wp2_with (first | (go_at_call 101; (with_reducible refine (HTA _).mono ?_); rintro e ww ⟨⟨ta, tm, tc, rfl⟩, hx⟩; have hbx := hbx.trans (hx.mono hbx.size); have c0 := (hx.cell (cell_lt c0)).trans c0; clear hx) | (go_at_call 102; (with_reducible refine (HD12 _).mono ?_); rintro e ww ⟨rfl, rfl⟩) | (go_at_call 102; (with_reducible refine (HD24 _).mono ?_); rintro e ww ⟨rfl, rfl⟩) | (go_at_call 103; (with_reducible refine (HVV _).mono ?_); rintro e ww ⟨rfl, rfl⟩) | (go_at_call 104; (with_reducible refine (HMM _).mono ?_); rintro e ww ⟨rfl, hx⟩; have hbx := hbx.trans (hx.mono hbx.size); have c0 := (hx.cell (cell_lt c0)).trans c0; clear hx))
                  go_roundw
                  case rel => exact ⟨k + 1, ⟨Option.none, some q1, some q2, some (valL t)⟩, by omega, HOK2.out, HTT.out.below hbx, rfl, rfl, rfl, by go_num, H2, HB.out.trans (hbx.mono hbs), HRD.out.below' hbx⟩
                  case measure => simp [intOf]; omega
                | false =>
                  have n3 := (takes_no ⟨Option.none, some q1, some q2, Option.none⟩ t).2.2.2 y3
                  rw [y3] at HD24
                  have es := step_no ⟨Option.none, some q1, some q2, Option.none⟩ t (fun j hj => by rcases (show j = 0 ∨ j = 1 ∨ j = 2 ∨ j = 3 by omega) with rfl | rfl | rfl | rfl <;> first | exact n0 | exact n1 | exact n2 | exact n3)
                  rw [es] at H2
                  have HOK2 : Hid (St.Ok ⟨Option.none, some q1, some q2, Option.none⟩) := by unfold Hid; have := stepD_ok ⟨Option.none, some q1, some q2, Option.none⟩ t HOK.out; rw [es] at this; exact this
                  clear es n0 n1 n2 n3
                  simp only [optI_none, optI_some]
                  go_wp2_with (first | (go_at_call 101; (with_reducible refine (HTA _).mono ?_); rintro e ww ⟨⟨ta, tm, tc, rfl⟩, hx⟩; have hbx := hbx.trans (hx.mono hbx.size); have c0 := (hx.cell (cell_lt c0)).trans c0; clear hx) | (go_at_call 102; (with_reducible refine (HD12 _).mono ?_); rintro e ww ⟨rfl, rfl⟩) | (go_at_call 102; (with_reducible refine (HD24 _).mono ?_); rintro e ww ⟨rfl, rfl⟩) | (go_at_call 103; (with_reducible refine (HVV _).mono ?_); rintro e ww ⟨rfl, rfl⟩) | (go_at_call 104; (with_reducible refine (HMM _).mono ?_); rintro e ww ⟨rfl, hx⟩; have hbx := hbx.trans (hx.mono hbx.size); have c0 := (hx.cell (cell_lt c0)).trans c0; clear hx))
                  go_roundw
                  case rel => exact ⟨k + 1, ⟨Option.none, some q1, some q2, Option.none⟩, by omega, HOK2.out, HTT.out.below hbx, rfl, rfl, rfl, by go_num, H2, HB.out.trans (hbx.mono hbs), HRD.out.below' hbx⟩
                  case measure => simp [intOf]; omega
              | some q3 =>
                have n3 := (takes_met ⟨Option.none, some q1, some q2, some q3⟩ t).2.2.2 rfl
                have es := step_no ⟨Option.none, some q1, some q2, some q3⟩ t (fun j hj => by rcases (show j = 0 ∨ j = 1 ∨ j = 2 ∨ j = 3 by omega) with rfl | rfl | rfl | rfl <;> first | exact n0 | exact n1 | exact n2 | exact n3)
                rw [es] at H2
                have HOK2 : Hid (St.Ok ⟨Option.none, some q1, some q2, some q3⟩) := by unfold Hid; have := stepD_ok ⟨Option.none, some q1, some q2, some q3⟩ t HOK.out; rw [es] at this; exact this
                clear es n0 n1 n2 n3
                simp only [optI_some]
                go_wp2_with (first | (go_at_call 101; (with_reducible refine (HTA _).mono ?_); rintro e ww ⟨⟨ta, tm, tc, rfl⟩, hx⟩; have hbx := hbx.trans (hx.mono hbx.size); have c0 := (hx.cell (cell_lt c0)).trans c0; clear hx) | (go_at_call 102; (with_reducible refine (HD12 _).mono ?_); rintro e ww ⟨rfl, rfl⟩) | (go_at_call 102; (with_reducible refine (HD24 _).mono ?_); rintro e ww ⟨rfl, rfl⟩) | (go_at_call 103; (with_reducible refine (HVV _).mono ?_); rintro e ww ⟨rfl, rfl⟩) | (go_at_call 104; (with_reducible refine (HMM _).mono ?_); rintro e ww ⟨rfl, hx⟩; have hbx := hbx.trans (hx.mono hbx.size); have c0 := (hx.cell (cell_lt c0)).trans c0; clear hx))
                go_roundw
                case rel => exact ⟨k + 1, ⟨Option.none, some q1, some q2, some q3⟩, by omega, HOK2.out, HTT.out.below hbx, rfl, rfl, rfl, by go_num, H2, HB.out.trans (hbx.mono hbs), HRD.out.below' hbx⟩
                case measure => simp [intOf]; omega
      | some q0 =>
        have n0 := (takes_met ⟨some q0, dy0, mo0, ye0⟩ t).1 rfl
        obtain ⟨q0a, q0b, q0c⟩ := q0
        obtain ⟨tta, ttc, rfl, htr⟩ := HTT.out
        cases dy0 with
        | none =>
          cases y1 : dig 1 2 t with
          | true =>
            rw [y1] at HD12
            have es := step_1 ⟨some (q0a, q0b, q0c), Option.none, mo0, ye0⟩ t n0 rfl y1
            rw [es] at H2
            have HOK2 : Hid (St.Ok ⟨some (q0a, q0b, q0c), some (valL t), mo0, ye0⟩) := by unfold Hid; have := stepD_ok ⟨some (q0a, q0b, q0c), Option.none, mo0, ye0⟩ t HOK.out; rw [es] at this; exact this
            clear es n0
            simp only [optI_none]
            go_wp2_with (first | (go_at_call 101; (with_reducible refine (HTA _).mono ?_); rintro e ww ⟨⟨ta, tm, tc, rfl⟩, hx⟩; have hbx := hbx.trans (hx.mono hbx.size); have c0 := (hx.cell (cell_lt c0)).trans c0; clear hx) | (go_at_call 102; (with_reducible refine (HD12 _).mono ?_); rintro e ww ⟨rfl, rfl⟩) | (go_at_call 102; (with_reducible refine (HD24 _).mono ?_); rintro e ww ⟨rfl, rfl⟩) | (go_at_call 103; (with_reducible refine (HVV _).mono ?_); rintro e ww ⟨rfl, rfl⟩) | (go_at_call 104; (with_reducible refine (HMM _).mono ?_); rintro e ww ⟨rfl, hx⟩; have hbx := hbx.trans (hx.mono hbx.size); have c0 := (hx.cell (cell_lt c0)).trans c0; clear hx))
            go_roundw
            case rel => exact ⟨k + 1, ⟨some (q0a, q0b, q0c), some (valL t), mo0, ye0⟩, by omega, HOK2.out, HTT.out.below hbx, rfl, rfl, rfl, by go_num, H2, HB.out.trans (hbx.mono hbs), HRD.out.below' hbx⟩
            case measure => simp [intOf]; omega
          | false =>
            have n1 := (takes_no ⟨some (q0a, q0b, q0c), Option.none, mo0, ye0⟩ t).2.1 y1
            rw [y1] at HD12
            cases mo0 with
            | none =>
              cases y2 : decide (0 < monL t) with
              | true =>
                have y2' : (0 : Int) < (monL t : Int) := by simp at y2; omega
                have es := step_2 ⟨some (q0a, q0b, q0c), Option.none, Option.none, ye0⟩ t n0 n1 rfl y2
                rw [es] at H2
                have HOK2 : Hid (St.Ok ⟨some (q0a, q0b, q0c), Option.none, some (monL t), ye0⟩) := by unfold Hid; have := stepD_ok ⟨some (q0a, q0b, q0c), Option.none, Option.none, ye0⟩ t HOK.out; rw [es] at this; exact this
                clear es n0 n1
                simp only [optI_none]
                go_wp2_with (first | (go_at_call 101; (with_reducible refine (HTA _).mono ?_); rintro e ww ⟨⟨ta, tm, tc, rfl⟩, hx⟩; have hbx := hbx.trans (hx.mono hbx.size); have c0 := (hx.cell (cell_lt c0)).trans c0; clear hx) | (go_at_call 102; (with_reducible refine (HD12 _).mono ?_); rintro e ww ⟨rfl, rfl⟩) | (go_at_call 102; (with_reducible refine (HD24 _).mono ?_); rintro e ww ⟨rfl, rfl⟩) | (go_at_call 103; (with_reducible refine (HVV _).mono ?_); rintro e ww ⟨rfl, rfl⟩) | (go_at_call 104; (with_reducible refine (HMM _).mono ?_); rintro e ww ⟨rfl, hx⟩; have hbx := hbx.trans (hx.mono hbx.size); have c0 := (hx.cell (cell_lt c0)).trans c0; clear hx))
                go_roundw
                case rel => exact ⟨k + 1, ⟨some (q0a, q0b, q0c), Option.none, some (monL t), ye0⟩, by omega, HOK2.out, HTT.out.below hbx, rfl, rfl, rfl, by go_num, H2, HB.out.trans (hbx.mono hbs), HRD.out.below' hbx⟩
                case measure => simp [intOf]; omega
              | false =>
                have n2 := (takes_no ⟨some (q0a, q0b, q0c), Option.none, Option.none, ye0⟩ t).2.2.1 y2
                have y2' : monL t = 0 := by simp at y2; omega
                rw [y2'] at HMM
                cases ye0 with
                | none =>
                  cases y3 : dig 2 4 t with
                  | true =>
                    rw [y3] at HD24
                    have es := step_3 ⟨some (q0a, q0b, q0c), Option.none, Option.none, Option.none⟩ t n0 n1 n2 rfl y3
                    rw [es] at H2
                    have HOK2 : Hid (St.Ok ⟨some (q0a, q0b, q0c), Option.none, Option.none, some (valL t)⟩) := by unfold Hid; have := stepD_ok ⟨some (q0a, q0b, q0c), Option.none, Option.none, Option.none⟩ t HOK.out; rw [es] at this; exact this
                    clear es n0 n1 n2
                    simp only [optI_none]
                    go_wp2_with (first | (go_at_call 101; (with_reducible refine (HTA _).mono ?_); rintro e ww ⟨⟨ta, tm, tc, rfl⟩, hx⟩; have hbx := hbx.trans (hx.mono hbx.size); have c0 := (hx.cell (cell_lt c0)).trans c0; clear hx) | (go_at_call 102; (with_reducible refine (HD12 _).mono ?_); rintro e ww ⟨rfl, rfl⟩) | (go_at_call 102; (with_reducible refine (HD24 _).mono ?_); rintro e ww ⟨rfl, rfl⟩) | (go_at_call 103; (with_reducible refine (HVV _).mono ?_); rintro e ww ⟨rfl, rfl⟩) | (go_at_call 104; (with_reducible refine (HMM _).mono ?_); rintro e ww ⟨rfl, hx⟩; have hbx := hbx.trans (hx.mono hbx.size); have c0 := (hx.cell (cell_lt c0)).trans c0; clear hx))
                    go_roundw
                    case rel => exact ⟨k + 1, ⟨some (q0a, q0b, q0c), Option.none, Option.none, some (valL t)⟩, by omega, HOK2.out, HTT.out.below hbx, rfl, rfl, rfl, by go_num, H2, HB.out.trans (hbx.mono hbs), HRD.out.below' hbx⟩
                    case measure => simp [intOf]; omega
                  | false =>
                    have n3 := (takes_no ⟨some (q0a, q0b, q0c), Option.none, Option.none, Option.none⟩ t).2.2.2 y3
                    rw [y3] at HD24
                    have es := step_no ⟨some (q0a, q0b, q0c), Option.none, Option.none, Option.none⟩ t (fun j hj => by rcases (show j = 0 ∨ j = 1 ∨ j = 2 ∨ j = 3 by omega) with rfl | rfl | rfl | rfl <;> first | exact n0 | exact n1 | exact n2 | exact n3)
                    rw [es] at H2
                    have HOK2 : Hid (St.Ok ⟨some (q0a, q0b, q0c), Option.none, Option.none, Option.none⟩) := by unfold Hid; have := stepD_ok ⟨some (q0a, q0b, q0c), Option.none, Option.none, Option.none⟩ t HOK.out; rw [es] at this; exact this
                    clear es n0 n1 n2 n3
                    simp only [optI_none]
                    go_wp2_with (first | (go_at_call 101; (with_reducible refine (HTA _).mono ?_); rintro e ww ⟨⟨ta, tm, tc, rfl⟩, hx⟩; have hbx := hbx.trans (hx.mono hbx.size); have c0 := (hx.cell (cell_lt c0)).trans c0; clear hx) | (go_at_call 102; (with_reducible refine (HD12 _).mono ?_); rintro e ww ⟨rfl, rfl⟩) | (go_at_call 102; (with_reducible refine (HD24 _).mono ?_); rintro e ww ⟨rfl, rfl⟩) | (go_at_call 103; (with_reducible refine (HVV _).mono ?_); rintro e ww ⟨rfl, rfl⟩) | (go_at_call 104; (with_reducible refine (HMM _).mono ?_); rintro e ww ⟨rfl, hx⟩; have hbx := hbx.trans (hx.mono hbx.size); have c0 := (hx.cell (cell_lt c0)).trans c0; clear hx))
                    go_roundw
                    case rel => exact ⟨k + 1, ⟨some (q0a, q0b, q0c), Option.none, Option.none, Option.none⟩, by omega, HOK2.out, HTT.out.below hbx, rfl, rfl, rfl, by go_num, H2, HB.out.trans (hbx.mono hbs), HRD.out.below' hbx⟩
                    case measure => simp [intOf]; omega
                | some q3 =>
                  have n3 := (takes_met ⟨some (q0a, q0b, q0c), Option.none, Option.none, some q3⟩ t).2.2.2 rfl
                  have es := step_no ⟨some (q0a, q0b, q0c), Option.none, Option.none, some q3⟩ t (fun j hj => by rcases (show j = 0 ∨ j = 1 ∨ j = 2 ∨ j = 3 by omega) with rfl | rfl | rfl | rfl <;> first | exact n0 | exact n1 | exact n2 | exact n3)
                  rw [es] at H2
                  have HOK2 : Hid (St.Ok ⟨some (q0a, q0b, q0c), Option.none, Option.none, some q3⟩) := by unfold Hid; have := stepD_ok ⟨some (q0a, q0b, q0c), Option.none, Option.none, some q3⟩ t HOK.out; rw [es] at this; exact this
                  clear es n0 n1 n2 n3
                  simp only [optI_none, optI_some]
                  go_wp2_with (first | (go_at_call 101; (with_reducible refine (HTA _).mono ?_); rintro e ww ⟨⟨ta, tm, tc, rfl⟩, hx⟩; have hbx := hbx.trans (hx.mono hbx.size); have c0 := (hx.cell (cell_lt c0)).trans c0; clear hx) | (go_at_call 102; (with_reducible refine (HD12 _).mono ?_); rintro e ww ⟨rfl, rfl⟩) | (go_at_call 102; (with_reducible refine (HD24 _).mono ?_); rintro e ww ⟨rfl, rfl⟩) | (go_at_call 103; (with_reducible refine (HVV _).mono ?_); rintro e ww ⟨rfl, rfl⟩) | (go_at_call 104; (with_reducible refine (HMM _).mono ?_); rintro e ww ⟨rfl, hx⟩; have hbx := hbx.trans (hx.mono hbx.size); have c0 := (hx.cell (cell_lt c0)).trans c0; clear hx))
                  go_roundw
                  case rel => exact ⟨k + 1, ⟨some (q0a, q0b, q0c), Option.none, Option.none, some q3⟩, by omega, HOK2.out, HTT.out.below hbx, rfl, rfl, rfl, by go_num, H2, HB.out.trans (hbx.mono hbs), HRD.out.below' hbx⟩
                  case measure => simp [intOf]; omega
            | some q2 =>
              have n2 := (takes_met ⟨some (q0a, q0b, q0c), Option.none, some q2, ye0⟩ t).2.2.1 rfl
              have hq2 := HOK.out.m q2 rfl
              cases ye0 with
              | none =>
                cases y3 : dig 2 4 t with
                | true =>
                  rw [y3] at HD24
                  have es := step_3 ⟨some (q0a, q0b, q0c), Option.none, some q2, Option.none⟩ t n0 n1 n2 rfl y3
                  rw [es] at H2
                  have HOK2 : Hid (St.Ok ⟨some (q0a, q0b, q0c), Option.none, some q2, some (valL t)⟩) := by unfold Hid; have := stepD_ok ⟨some (q0a, q0b, q0c), Option.none, some q2, Option.none⟩ t HOK.out; rw [es] at this; exact this
                  clear es n0 n1 n2
                  simp only [optI_none, optI_some]
                  go_wp2_with (first | (go_at_call 101; (with_reducible refine (HTA _).mono ?_); rintro e ww ⟨⟨ta, tm, tc, rfl⟩, hx⟩; have hbx := hbx.trans (hx.mono hbx.size); have c0 := (hx.cell (cell_lt c0)).trans c0; clear hx) | (go_at_call 102; (with_reducible refine (HD12 _).mono ?_); rintro e ww ⟨rfl, rfl⟩) | (go_at_call 102; (with_reducible refine (HD24 _).mono ?_); rintro e ww ⟨rfl, rfl⟩) | (go_at_call 103; (with_reducible refine (HVV _).mono ?_); rintro e ww ⟨rfl, rfl⟩) | (go_at_call 104; (with_reducible refine (HMM _).mono ?_); rintro e ww ⟨rfl, hx⟩; have hbx := hbx.trans (hx.mono hbx.size); have c0 := (hx.cell (cell_lt c0)).trans c0; clear hx))
                  go_roundw
                  case rel => exact ⟨k + 1, ⟨some (q0a, q0b, q0c), Option.none, some q2, some (valL t)⟩, by omega, HOK2.out, HTT.out.below hbx, rfl, rfl, rfl, by go_num, H2, HB.out.trans (hbx.mono hbs), HRD.out.below' hbx⟩
                  case measure => simp [intOf]; omega
                | false =>
                  have n3 := (takes_no ⟨some (q0a, q0b, q0c), Option.none, some q2, Option.none⟩ t).2.2.2 y3
                  rw [y3] at HD24
                  have es := step_no ⟨some (q0a, q0b, q0c), Option.none, some q2, Option.none⟩ t (fun j hj => by rcases (show j = 0 ∨ j = 1 ∨ j = 2 ∨ j = 3 by omega) with rfl | rfl | rfl | rfl <;> first | exact n0 | exact n1 | exact n2 | exact n3)
                  rw [es] at H2
                  have HOK2 : Hid (St.Ok ⟨some (q0a, q0b, q0c), Option.none, some q2, Option.none⟩) := by unfold Hid; have := stepD_ok ⟨some (q0a, q0b, q0c), Option.none, some q2, Option.none⟩ t HOK.out; rw [es] at this; exact this
                  clear es n0 n1 n2 n3
                  simp only [optI_none, optI_some]
                  go_wp2_with (first | (go_at_call 101; (with_reducible refine (HTA _).mono ?_); rintro e ww ⟨⟨ta, tm, tc, rfl⟩, hx⟩; have hbx := hbx.trans (hx.mono hbx.size); have c0 := (hx.cell (cell_lt c0)).trans c0; clear hx) | (go_at_call 102; (with_reducible refine (HD12 _).mono ?_); rintro e ww ⟨rfl, rfl⟩) | (go_at_call 102; (with_reducible refine (HD24 _).mono ?_); rintro e ww ⟨rfl, rfl⟩) | (go_at_call 103; (with_reducible refine (HVV _).mono ?_); rintro e ww ⟨rfl, rfl⟩) | (go_at_call 104; (with_reducible refine (HMM _).mono ?_); rintro e ww ⟨rfl, hx⟩; have hbx := hbx.trans (hx.mono hbx.size); have c0 := (hx.cell (cell_lt c0)).trans c0; clear hx))
                  go_roundw
                  case rel => exact ⟨k + 1, ⟨some (q0a, q0b, q0c), Option.none, some q2, Option.none⟩, by omega, HOK2.out, HTT.out.below hbx, rfl, rfl, rfl, by go_num, H2, HB.out.trans (hbx.mono hbs), HRD.out.below' hbx⟩
                  case measure => simp [intOf]; omega
              | some q3 =>
                have n3 := (takes_met ⟨some (q0a, q0b, q0c), Option.none, some q2, some q3⟩ t).2.2.2 rfl
                have es := step_no ⟨some (q0a, q0b, q0c), Option.none, some q2, some q3⟩ t (fun j hj => by rcases (show j = 0 ∨ j = 1 ∨ j = 2 ∨ j = 3 by omega) with rfl | rfl | rfl | rfl <;> first | exact n0 | exact n1 | exact n2 | exact n3)
                rw [es] at H2
                have HOK2 : Hid (St.Ok ⟨some (q0a, q0b, q0c), Option.none, some q2, some q3⟩) := by unfold Hid; have := stepD_ok ⟨some (q0a, q0b, q0c), Option.none, some q2, some q3⟩ t HOK.out; rw [es] at this; exact this
                clear es n0 n1 n2 n3
                simp only [optI_none, optI_some]
                go_wp2_with (first | (go_at_call 101; (with_reducible refine (HTA _).mono ?_); rintro e ww ⟨⟨ta, tm, tc, rfl⟩, hx⟩; have hbx := hbx.trans (hx.mono hbx.size); have c0 := (hx.cell (cell_lt c0)).trans c0; clear hx) | (go_at_call 102; (with_reducible refine (HD12 _).mono ?_); rintro e ww ⟨rfl, rfl⟩) | (go_at_call 102; (with_reducible refine (HD24 _).mono ?_); rintro e ww ⟨rfl, rfl⟩) | (go_at_call 103; (with_reducible refine (HVV _).mono ?_); rintro e ww ⟨rfl, rfl⟩) | (go_at_call 104; (with_reducible refine (HMM _).mono ?_); rintro e ww ⟨rfl, hx⟩; have hbx := hbx.trans (hx.mono hbx.size); have c0 := (hx.cell (cell_lt c0)).trans c0; clear hx))
                go_roundw
                case rel => exact ⟨k + 1, ⟨some (q0a, q0b, q0c), Option.none, some q2, some q3⟩, by omega, HOK2.out, HTT.out.below hbx, rfl, rfl, rfl, by go_num, H2, HB.out.trans (hbx.mono hbs), HRD.out.below' hbx⟩
                case measure => simp [intOf]; omega
        | some q1 =>
          have n1 := (takes_met ⟨some (q0a, q0b, q0c), some q1, mo0, ye0⟩ t).2.1 rfl
          cases mo0 with
          | none =>
            cases y2 : decide (0 < monL t) with
            | true =>
              have y2' : (0 : Int) < (monL t : Int) := by simp at y2; omega
              have es := step_2 ⟨some (q0a, q0b, q0c), some q1, Option.none, ye0⟩ t n0 n1 rfl y2
              rw [es] at H2
              have HOK2 : Hid (St.Ok ⟨some (q0a, q0b, q0c), some q1, some (monL t), ye0⟩) := by unfold Hid; have := stepD_ok ⟨some (q0a, q0b, q0c), some q1, Option.none, ye0⟩ t HOK.out; rw [es] at this; exact this
              clear es n0 n1
              simp only [optI_none, optI_some]
              go_wp2_with (first | (go_at_call 101; (with_reducible refine (HTA _).mono ?_); rintro e ww ⟨⟨ta, tm, tc, rfl⟩, hx⟩; have hbx := hbx.trans (hx.mono hbx.size); have c0 := (hx.cell (cell_lt c0)).trans c0; clear hx) | (go_at_call 102; (with_reducible refine (HD12 _).mono ?_); rintro e ww ⟨rfl, rfl⟩) | (go_at_call 102; (with_reducible refine (HD24 _).mono ?_); rintro e ww ⟨rfl, rfl⟩) | (go_at_call 103; (with_reducible refine (HVV _).mono ?_); rintro e ww ⟨rfl, rfl⟩) | (go_at_call 104; (with_reducible refine (HMM _).mono ?_); rintro e ww ⟨rfl, hx⟩; have hbx := hbx.trans (hx.mono hbx.size); have c0 := (hx.cell (cell_lt c0)).trans c0; clear hx))
              go_roundw
              case rel => exact ⟨k + 1, ⟨some (q0a, q0b, q0c), some q1, some (monL t), ye0⟩, by omega, HOK2.out, HTT.out.below hbx, rfl, rfl, rfl, by go_num, H2, HB.out.trans (hbx.mono hbs), HRD.out.below' hbx⟩
              case measure => simp [intOf]; omega
            | false =>
              have n2 := (takes_no ⟨some (q0a, q0b, q0c), some q1, Option.none, ye0⟩ t).2.2.1 y2
              have y2' : monL t = 0 := by simp at y2; omega
              rw [y2'] at HMM
              cases ye0 with
              | none =>
                cases y3 : dig 2 4 t with
                | true =>
                  rw [y3] at HD24
                  have es := step_3 ⟨some (q0a, q0b, q0c), some q1, Option.none, Option.none⟩ t n0 n1 n2 rfl y3
                  rw [es] at H2
                  have HOK2 : Hid (St.Ok ⟨some (q0a, q0b, q0c), some q1, Option.none, some (valL t)⟩) := by unfold Hid; have := stepD_ok ⟨some (q0a, q0b, q0c), some q1, Option.none, Option.none⟩ t HOK.out; rw [es] at this; exact this
                  clear es n0 n1 n2
                  simp only [optI_none, optI_some]
                  go_wp2_with (first | (go_at_call 101; (with_reducible refine (HTA _).mono ?_); rintro e ww ⟨⟨ta, tm, tc, rfl⟩, hx⟩; have hbx := hbx.trans (hx.mono hbx.size); have c0 := (hx.cell (cell_lt c0)).trans c0; clear hx) | (go_at_call 102; (with_reducible refine (HD12 _).mono ?_); rintro e ww ⟨rfl, rfl⟩) | (go_at_call 102; (with_reducible refine (HD24 _).mono ?_); rintro e ww ⟨rfl, rfl⟩) | (go_at_call 103; (with_reducible refine (HVV _).mono ?_); rintro e ww ⟨rfl, rfl⟩) | (go_at_call 104; (with_reducible refine (HMM _).mono ?_); rintro e ww ⟨rfl, hx⟩; have hbx := hbx.trans (hx.mono hbx.size); have c0 := (hx.cell (cell_lt c0)).trans c0; clear hx))
                  go_roundw
                  case rel => exact ⟨k + 1, ⟨some (q0a, q0b, q0c), some q1, Option.none, some (valL t)⟩, by omega, HOK2.out, HTT.out.below hbx, rfl, rfl, rfl, by go_num, H2, HB.out.trans (hbx.mono hbs), HRD.out.below' hbx⟩
                  case measure => simp [intOf]; omega
                | false =>
                  have n3 := (takes_no ⟨some (q0a, q0b, q0c), some q1, Option.none, Option.none⟩ t).2.2.2 y3
                  rw [y3] at HD24
                  have es := step_no ⟨some (q0a, q0b, q0c), some q1, Option.none, Option.none⟩ t (fun j hj => by rcases (show j = 0 ∨ j = 1 ∨ j = 2 ∨ j = 3 by omega) with rfl | rfl | rfl | rfl <;> first | exact n0 | exact n1 | exact n2 | exact n3)
                  rw [es] at H2
                  have HOK2 : Hid (St.Ok ⟨some (q0a, q0b, q0c), some q1, Option.none, Option.none⟩) := by unfold Hid; have := stepD_ok ⟨some (q0a, q0b, q0c), some q1, Option.none, Option.none⟩ t HOK.out; rw [es] at this; exact this
                  clear es n0 n1 n2 n3
                  simp only [optI_none, optI_some]
                  go_wp2_with (first | (go_at_call 101; (with_reducible refine (HTA _).mono ?_); rintro e ww ⟨⟨ta, tm, tc, rfl⟩, hx⟩; have hbx := hbx.trans (hx.mono hbx.size); have c0 := (hx.cell (cell_lt c0)).trans c0; clear hx) | (go_at_call 102; (with_reducible refine (HD12 _).mono ?_); rintro e ww ⟨rfl, rfl⟩) | (go_at_call 102; (with_reducible refine (HD24 _).mono ?_); rintro e ww ⟨rfl, rfl⟩) | (go_at_call 103; (with_reducible refine (HVV _).mono ?_); rintro e ww ⟨rfl, rfl⟩) | (go_at_call 104; (with_reducible refine (HMM _).mono ?_); rintro e ww ⟨rfl, hx⟩; have hbx := hbx.trans (hx.mono hbx.size); have c0 := (hx.cell (cell_lt c0)).trans c0; clear hx))
                  go_roundw
                  case rel => exact ⟨k + 1, ⟨some (q0a, q0b, q0c), some q1, Option.none, Option.none⟩, by omega, HOK2.out, HTT.out.below hbx, rfl, rfl, rfl, by go_num, H2, HB.out.trans (hbx.mono hbs), HRD.out.below' hbx⟩
                  case measure => simp [intOf]; omega
              | some q3 =>
                have n3 := (takes_met ⟨some (q0a, q0b, q0c), some q1, Option.none, some q3⟩ t).2.2.2 rfl
                have es := step_no ⟨some (q0a, q0b, q0c), some q1, Option.none, some q3⟩ t (fun j hj => by rcases (show j = 0 ∨ j = 1 ∨ j = 2 ∨ j = 3 by omega) with rfl | rfl | rfl | rfl <;> first | exact n0 | exact n1 | exact n2 | exact n3)
                rw [es] at H2
                have HOK2 : Hid (St.Ok ⟨some (q0a, q0b, q0c), some q1, Option.none, some q3⟩) := by unfold Hid; have := stepD_ok ⟨some (q0a, q0b, q0c), some q1, Option.none, some q3⟩ t HOK.out; rw [es] at this; exact this
                clear es n0 n1 n2 n3
                simp only [optI_none, optI_some]
                go_wp2_with (first | (go_at_call 101; (with_reducible refine (HTA _).mono ?_); rintro e ww ⟨⟨ta, tm, tc, rfl⟩, hx⟩; have hbx := hbx.trans (hx.mono hbx.size); have c0 := (hx.cell (cell_lt c0)).trans c0; clear hx) | (go_at_call 102; (with_reducible refine (HD12 _).mono ?_); rintro e ww ⟨rfl, rfl⟩) | (go_at_call 102; (with_reducible refine (HD24 _).mono ?_); rintro e ww ⟨rfl, rfl⟩) | (go_at_call 103; (with_reducible refine (HVV _).mono ?_); rintro e ww ⟨rfl, rfl⟩) | (go_at_call 104; (with_reducible refine (HMM _).mono ?_); rintro e ww ⟨rfl, hx⟩; have hbx := hbx.trans (hx.mono hbx.size); have c0 := (hx.cell (cell_lt c0)).trans c0; clear hx))
                go_roundw
                case rel => exact ⟨k + 1, ⟨some (q0a, q0b, q0c), some q1, Option.none, some q3⟩, by omega, HOK2.out, HTT.out.below hbx, rfl, rfl, rfl, by go_num, H2, HB.out.trans (hbx.mono hbs), HRD.out.below' hbx⟩
                case measure => simp [intOf]; omega
          | some q2 =>
            have n2 := (takes_met ⟨some (q0a, q0b, q0c), some q1, some q2, ye0⟩ t).2.2.1 rfl
            have hq2 := HOK.out.m q2 rfl
            cases ye0 with
            | none =>
              cases y3 : dig 2 4 t with
              | true =>
                rw [y3] at HD24
                have es := step_3 ⟨some (q0a, q0b, q0c), some q1, some q2, Option.none⟩ t n0 n1 n2 rfl y3
                rw [es] at H2
                have HOK2 : Hid (St.Ok ⟨some (q0a, q0b, q0c), some q1, some q2, some (valL t)⟩) := by unfold Hid; have := stepD_ok ⟨some (q0a, q0b, q0c), some q1, some q2, Option.none⟩ t HOK.out; rw [es] at this; exact this
                clear es n0 n1 n2
                simp only [optI_none, optI_some]
                go_wp2_with (first | (go_at_call 101; (with_reducible refine (HTA _).mono ?_); rintro e ww ⟨⟨ta, tm, tc, rfl⟩, hx⟩; have hbx := hbx.trans (hx.mono hbx.size); have c0 := (hx.cell (cell_lt c0)).trans c0; clear hx) | (go_at_call 102; (with_reducible refine (HD12 _).mono ?_); rintro e ww ⟨rfl, rfl⟩) | (go_at_call 102; (with_reducible refine (HD24 _).mono ?_); rintro e ww ⟨rfl, rfl⟩) | (go_at_call 103; (with_reducible refine (HVV _).mono ?_); rintro e ww ⟨rfl, rfl⟩) | (go_at_call 104; (with_reducible refine (HMM _).mono ?_); rintro e ww ⟨rfl, hx⟩; have hbx := hbx.trans (hx.mono hbx.size); have c0 := (hx.cell (cell_lt c0)).trans c0; clear hx))
                go_roundw
                case rel => exact ⟨k + 1, ⟨some (q0a, q0b, q0c), some q1, some q2, some (valL t)⟩, by omega, HOK2.out, HTT.out.below hbx, rfl, rfl, rfl, by go_num, H2, HB.out.trans (hbx.mono hbs), HRD.out.below' hbx⟩
                case measure => simp [intOf]; omega
              | false =>
                have n3 := (takes_no ⟨some (q0a, q0b, q0c), some q1, some q2, Option.none⟩ t).2.2.2 y3
                rw [y3] at HD24
                have es := step_no ⟨some (q0a, q0b, q0c), some q1, some q2, Option.none⟩ t (fun j hj => by rcases (show j = 0 ∨ j = 1 ∨ j = 2 ∨ j = 3 by omega) with rfl | rfl | rfl | rfl <;> first | exact n0 | exact n1 | exact n2 | exact n3)
                rw [es] at H2
                have HOK2 : Hid (St.Ok ⟨some (q0a, q0b, q0c), some q1, some q2, Option.none⟩) := by unfold Hid; have := stepD_ok ⟨some (q0a, q0b, q0c), some q1, some q2, Option.none⟩ t HOK.out; rw [es] at this; exact this
                clear es n0 n1 n2 n3
                simp only [optI_none, optI_some]
                go_wp2_with (first | (go_at_call 101; (with_reducible refine (HTA _).mono ?_); rintro e ww ⟨⟨ta, tm, tc, rfl⟩, hx⟩; have hbx := hbx.trans (hx.mono hbx.size); have c0 := (hx.cell (cell_lt c0)).trans c0; clear hx) | (go_at_call 102; (with_reducible refine (HD12 _).mono ?_); rintro e ww ⟨rfl, rfl⟩) | (go_at_call 102; (with_reducible refine (HD24 _).mono ?_); rintro e ww ⟨rfl, rfl⟩) | (go_at_call 103; (with_reducible refine (HVV _).mono ?_); rintro e ww ⟨rfl, rfl⟩) | (go_at_call 104; (with_reducible refine (HMM _).mono ?_); rintro e ww ⟨rfl, hx⟩; have hbx := hbx.trans (hx.mono hbx.size); have c0 := (hx.cell (cell_lt c0)).trans c0; clear hx))
                go_roundw
                case rel => exact ⟨k + 1, ⟨some (q0a, q0b, q0c), some q1, some q2, Option.none⟩, by omega, HOK2.out, HTT.out.below hbx, rfl, rfl, rfl, by go_num, H2, HB.out.trans (hbx.mono hbs), HRD.out.below' hbx⟩
                case measure => simp [intOf]; omega
            | some q3 =>
              have n3 := (takes_met ⟨some (q0a, q0b, q0c), some q1, some q2, some q3⟩ t).2.2.2 rfl
              have es := step_no ⟨some (q0a, q0b, q0c), some q1, some q2, some q3⟩ t (fun j hj => by rcases (show j = 0 ∨ j = 1 ∨ j = 2 ∨ j = 3 by omega) with rfl | rfl | rfl | rfl <;> first | exact n0 | exact n1 | exact n2 | exact n3)
              rw [es] at H2
              have HOK2 : Hid (St.Ok ⟨some (q0a, q0b, q0c), some q1, some q2, some q3⟩) := by unfold Hid; have := stepD_ok ⟨some (q0a, q0b, q0c), some q1, some q2, some q3⟩ t HOK.out; rw [es] at this; exact this
              clear es n0 n1 n2 n3
              simp only [optI_some]
              go_wp2_with (first | (go_at_call 101; (with_reducible refine (HTA _).mono ?_); rintro e ww ⟨⟨ta, tm, tc, rfl⟩, hx⟩; have hbx := hbx.trans (hx.mono hbx.size); have c0 := (hx.cell (cell_lt c0)).trans c0; clear hx) | (go_at_call 102; (with_reducible refine (HD12 _).mono ?_); rintro e ww ⟨rfl, rfl⟩) | (go_at_call 102; (with_reducible refine (HD24 _).mono ?_); rintro e ww ⟨rfl, rfl⟩) | (go_at_call 103; (with_reducible refine (HVV _).mono ?_); rintro e ww ⟨rfl, rfl⟩) | (go_at_call 104; (with_reducible refine (HMM _).mono ?_); rintro e ww ⟨rfl, hx⟩; have hbx := hbx.trans (hx.mono hbx.size); have c0 := (hx.cell (cell_lt c0)).trans c0; clear hx))
              go_roundw
              case rel => exact ⟨k + 1, ⟨some (q0a, q0b, q0c), some q1, some q2, some q3⟩, by omega, HOK2.out, HTT.out.below hbx, rfl, rfl, rfl, by go_num, H2, HB.out.trans (hbx.mono hbs), HRD.out.below' hbx⟩
              case measure => simp [intOf]; omega
    · obtain rfl : k = LN := by omega
      have e1 : Hid (F = s) := by
        unfold Hid
        rw [H.out, List.drop_eq_nil_of_le (by rw [hLN'.out]; omega)]
        rfl
      have hG2 : Hid ((fun (e : Ending) (w' : World) => e = .returned (.tuple #[.int .i64 s.tells.1, .bool s.tells.2]) ∧ Below w.heap.size w w') = G) := by
        unfold Hid
        rw [← hG'.out, e1.out]
      clear H hle e1 hG'
      obtain ⟨tm0, dy0, mo0, ye0⟩ := s
      simp only [] at htt
      cases tm0 with
      | none =>
        obtain ⟨tta, ttc, rfl⟩ := htt
        clear HTT
        go_wp2
        rw [← hG2.out]
        exact ⟨rfl, HB.out⟩
      | some q0 =>
      obtain ⟨h, mi, se⟩ := q0
      obtain ⟨tta, ttc, rfl, htr⟩ := htt
      clear HTT
      cases dy0 with
      | none =>
        simp only [optI_none]
        go_wp2
        rw [← hG2.out]
        exact ⟨rfl, HB.out⟩
      | some d =>
      cases mo0 with
      | none =>
        simp only [optI_none, optI_some]
        go_wp2
        rw [← hG2.out]
        exact ⟨rfl, HB.out⟩
      | some m =>
      have hm3 := HOK.out.m m rfl
      cases ye0 with
      | none =>
        have hm4 : ((m : Int) == 0) = false := by simp; omega
        simp only [optI_none, optI_some]
        go_wp2
        rw [← hG2.out]
        exact ⟨rfl, HB.out⟩
      | some y =>
      have hm4 : ((m : Int) == 0) = false := by simp; omega
      obtain ⟨B, off, rfl, r0⟩ := htr 0 (.int .i64 (h : Int)) rfl
      rw [Nat.add_zero] at r0
      obtain ⟨B', off', e1, r1⟩ := htr 1 (.int .i64 (mi : Int)) rfl
      cases e1
      obtain ⟨B', off', e1, r2⟩ := htr 2 (.int .i64 (se : Int)) rfl
      cases e1
      have HX := Lib.hid (right_tells h mi se d m y hm3)
      have k1 := HOK.out.t h mi se rfl
      have k2 := HOK.out.d d rfl
      have k4 := HOK.out.y y rfl
      have hG3 : Hid ((fun (e : Ending) (w' : World) => e = .returned (.tuple #[.int .i64 (tells h mi se d m y).1, .bool (tells h mi se d m y).2]) ∧ Below w.heap.size w w') = G) := hG2
      clear hG2 htr HOK
      simp only [optI_some]
      obtain ⟨Y, hY⟩ : ∃ Y, yearUp y = Y := ⟨_, rfl⟩
      rw [hY] at HX
      have hYs : (y < 70 ∧ Y = y + 2000) ∨ (70 ≤ y ∧ y < 100 ∧ Y = y + 1900) ∨ (100 ≤ y ∧ Y = y) := by
        unfold yearUp at hY
        split at hY
        · exact .inl ⟨by omega, hY.symm⟩
        · split at hY
          · exact .inr (.inl ⟨by omega, by omega, hY.symm⟩)
          · exact .inr (.inr ⟨by omega, hY.symm⟩)
      clear hY
      have hm5 : (m : Int) = ((m - 1 : Nat) : Int) + 1 := by omega
      rcases HX.out with ⟨c1, c2, c3, hR, e⟩ | ⟨hw, e⟩
      · have HRt : ∀ (v : Int), v = (Y : Int) → ∀ w, Calls Tryz.prog 105 #[.int .i64 v, .int .i64 (m : Int), .int .i64 (d : Int)] w (fun e w' => e = .returned (.bool true) ∧ Below w.heap.size w w') := by
          intro v hv w
          subst hv
          exact refRightYes (Y : Int) (m : Int) (d : Int) (m - 1) w hm5 hR
        have HDy : ∀ (v : Int), v = (Y : Int) → ∀ w, Calls Tryz.prog 106 #[.int .i64 v, .int .i64 (m : Int), .int .i64 (d : Int)] w (fun e w' => e = .returned (.int .i64 (daysI (Y : Int) (m - 1) (d : Int))) ∧ Below w.heap.size w w') := by
          intro v hv w
          subst hv
          exact refDaysC (Y : Int) (m : Int) (m - 1) (d : Int) w hm5 hR
        have hin := days_in hR
        obtain ⟨h1, h2, h3, h4⟩ := hin
        obtain ⟨R, hRes⟩ : ∃ R, daysI (Y : Int) (m - 1) (d : Int) = R := ⟨_, rfl⟩
        rw [hRes] at HDy h3 h4 e
        have e' := Lib.hid e
        clear h1 h2 hR hRes HX e hm5
        have hbx := Below.refl wr.heap.size wr
        rcases hYs with ⟨y1, rfl⟩ | ⟨y1, y2, rfl⟩ | ⟨y1, rfl⟩
        all_goals
          go_wp2_with (go_at_call 105; (with_reducible refine (HRt _ (by omega) _).mono ?_); rintro e ww ⟨rfl, hx⟩; have hbx := hbx.trans (hx.mono hbx.size); have r0 := (hx.cell (cell_lt r0)).trans r0; have r1 := (hx.cell (cell_lt r1)).trans r1; have r2 := (hx.cell (cell_lt r2)).trans r2; clear hx)
          have hS0 : ∀ w', Below ww.heap.size ww w' → (w'.cell? ⟨B, off, none⟩ = some (.int .i64 (h : Int)) ∧ w'.cell? ⟨B, off + 1, none⟩ = some (.int .i64 (mi : Int)) ∧ w'.cell? ⟨B, off + 2, none⟩ = some (.int .i64 (se : Int))) := fun w' hx => ⟨(hx.cell (cell_lt r0)).trans r0, (hx.cell (cell_lt r1)).trans r1, (hx.cell (cell_lt r2)).trans r2⟩
          have hd : Below ww.heap.size ww ww.drew := (Below.refl _ ww).drew
          go_region_held3 (fun w' => w'.cell? ⟨B, off, none⟩ = some (.int .i64 (h : Int)) ∧ w'.cell? ⟨B, off + 1, none⟩ = some (.int .i64 (mi : Int)) ∧ w'.cell? ⟨B, off + 2, none⟩ = some (.int .i64 (se : Int)))
            (first | exact hS0 _ hd | exact hS0 _ (hd.trans hx))
            (first | (go_at_call 106; (with_reducible refine (HDy _ (by omega) _).mono ?_); rintro e w3 ⟨rfl, hx⟩))
          have v1 : IntKind.i64.wrap (R * 86400) = R * 86400 := by rw [IntKind.wrap_i64]; omega
          have v2 : IntKind.i64.wrap ((h : Int) * 3600) = (h : Int) * 3600 := by rw [IntKind.wrap_i64]; omega
          have v3 : IntKind.i64.wrap ((mi : Int) * 60) = (mi : Int) * 60 := by rw [IntKind.wrap_i64]; omega
          have v4 : IntKind.i64.wrap (R * 86400 + (h : Int) * 3600) = R * 86400 + (h : Int) * 3600 := by rw [IntKind.wrap_i64]; omega
          have v5 : IntKind.i64.wrap (R * 86400 + (h : Int) * 3600 + (mi : Int) * 60) = R * 86400 + (h : Int) * 3600 + (mi : Int) * 60 := by rw [IntKind.wrap_i64]; omega
          have v6 : IntKind.i64.wrap (R * 86400 + (h : Int) * 3600 + (mi : Int) * 60 + (se : Int)) = R * 86400 + (h : Int) * 3600 + (mi : Int) * 60 + (se : Int) := by rw [IntKind.wrap_i64]; omega
          all_goals
            go_wp2
            rw [← hG3.out, e'.out]
            refine ⟨?_, (HB.out.trans (hbx.mono hbs)).trans ((hd.trans hx).mono (HB.out.trans (hbx.mono hbs)).size)⟩
            show Ending.returned (.tuple #[.int .i64 (IntKind.i64.wrap (IntKind.i64.wrap (IntKind.i64.wrap (IntKind.i64.wrap (R * 86400) + IntKind.i64.wrap ((h : Int) * 3600)) + IntKind.i64.wrap ((mi : Int) * 60)) + (se : Int))), .bool true]) = Ending.returned (.tuple #[.int .i64 (R * 86400 + (h : Int) * 3600 + (mi : Int) * 60 + (se : Int)), .bool true])
            rw [v1, v2, v3, v4, v5, v6]
      · have e' := Lib.hid e
        clear HX e
        by_cases c1 : 23 < h
        · go_wp2
          rw [← hG3.out, e'.out]
          exact ⟨rfl, HB.out⟩
        by_cases c2 : 59 < mi
        · go_wp2
          rw [← hG3.out, e'.out]
          exact ⟨rfl, HB.out⟩
        by_cases c3 : 59 < se
        · go_wp2
          rw [← hG3.out, e'.out]
          exact ⟨rfl, HB.out⟩
        have hW : WrongI (Y : Int) (m : Int) (d : Int) := by
          rcases hw with hw | hw | hw | hw
          · exact absurd hw c1
          · exact absurd hw c2
          · exact absurd hw c3
          · exact hw
        have HRt : ∀ (v : Int), v = (Y : Int) → ∀ w, Calls Tryz.prog 105 #[.int .i64 v, .int .i64 (m : Int), .int .i64 (d : Int)] w (fun e w' => e = .returned (.bool false) ∧ Below w.heap.size w w') := by
          intro v hv w
          subst hv
          exact refRightNo (Y : Int) (m : Int) (d : Int) w hW (by omega) (by omega) (by omega) (by omega) (by omega) (by omega)
        clear hw hW hm5
        rcases hYs with ⟨y1, rfl⟩ | ⟨y1, y2, rfl⟩ | ⟨y1, rfl⟩
        all_goals
          go_wp2_with (go_at_call 105; (with_reducible refine (HRt _ (by omega) _).mono ?_); rintro e ww ⟨rfl, hx⟩)
          rw [← hG3.out, e'.out]
          exact ⟨rfl, HB.out.trans (hx.mono hbs)⟩
end Go.Proofs.YthefieemngmnjaaGreatDoor
