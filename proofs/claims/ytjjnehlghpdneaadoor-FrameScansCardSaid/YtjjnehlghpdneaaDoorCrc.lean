/- Contracts of layer 3's functions and of its reference. -/
import Derived.Test.YtjjnehlghpdneaaDoorRows
import Derived.Test.YtjjnehlghpdneaaDoorCrcPlain
import Derived.Test.YtjjnehlghpdneaaDoorOwn
import Derived.ProofKit
import Derived.OpenShut
import Derived.BigQuiet
import Derived.Deep.QuietTactic
import Derived.IntWalk
import Derived.Lib.SlBytesConst
namespace Go.Proofs.YtjjnehlghpdneaaDoor
open Go.RowKit
set_option linter.unusedVariables false

/-- The table of four steps lies where the program has it. -/
def CTab (w : World) : Prop := ∀ i, i < 16 → w.cell? ⟨0, i, none⟩ = some (.int .u32 ((cTab.getD i 0 : Nat) : Int))
theorem CTab.below {w w' : World} (h : CTab w) (hb : Below w.heap.size w w') : CTab w' := fun i hi =>
  (hb.cell (p := ⟨0, i, none⟩) (cell_lt (h i hi))).trans (h i hi)

theorem and15 (X : Nat) (h : X < 4294967296) : bits BinOp.and IntKind.u32 (X : Int) 15 = ((X % 16 : Nat) : Int) := by
  have := u32_and_nat X 15 h (by omega)
  rw [show ((15 : Nat) : Int) = 15 from rfl] at this
  rw [this, show X &&& 15 = X % 16 from Nat.and_two_pow_sub_one_eq_mod _ 4]

theorem takeC (s c : Nat) (w : World) (hs : s < 4294967296) (hc : c < 256) (hT : CTab w) :
    Calls Tryd.prog 39 #[.int .u32 (s : Int), .int .u8 (c : Int)] w fun e w' => e = .returned (.int .u32 ((cByte s c : Nat) : Int)) ∧ w = w' := by
  have e1 := u32_xor_nat s c hs (by omega)
  have hX := xor_lt s c hs (by omega)
  have hE : cByte s c = cStep8 (s ^^^ c) := rfl
  rw [hE]
  clear hE
  generalize s ^^^ c = X at e1 hX ⊢
  have e2 := and15 X hX
  have c2 := hT (X % 16) (Nat.mod_lt _ (by decide))
  have ht := cTab_lt (X % 16)
  have e3 := u32_xor_nat (X / 16) (cTab.getD (X % 16) 0) (by omega) ht
  rw [cStep4_tab, show ((X / 16 : Nat) : Int) = (X : Int) / 16 by omega] at e3
  have hE : cStep8 X = cStep4 (cStep4 X) := rfl
  rw [hE]
  clear hE
  have hY := cStep4_lt X hX
  generalize cTab.getD (X % 16) 0 = T at c2 ht e3
  generalize cStep4 X = Y at e3 hY ⊢
  have e4 := and15 Y hY
  have c4 := hT (Y % 16) (Nat.mod_lt _ (by decide))
  have ht' := cTab_lt (Y % 16)
  have e5 := u32_xor_nat (Y / 16) (cTab.getD (Y % 16) 0) (by omega) ht'
  rw [cStep4_tab, show ((Y / 16 : Nat) : Int) = (Y : Int) / 16 by omega] at e5
  generalize cTab.getD (Y % 16) 0 = T' at c4 ht' e5
  generalize cStep4 Y = Z at e5
  have b1 : X % 16 < 16 := Nat.mod_lt _ (by decide)
  have b2 : Y % 16 < 16 := Nat.mod_lt _ (by decide)
  clear hT
  go_enter Tryd.func39, Tryd.ntmps39
  go_wp2
  go_ret
  exact ⟨rfl, rfl⟩

theorem take0 (s : Nat) (w : World) (hs : s < 4294967296) (hT : CTab w) :
    Calls Tryd.prog 39 #[.int .u32 (s : Int), .int .u8 0] w fun e w' => e = .returned (.int .u32 ((cStep8 s : Nat) : Int)) ∧ w = w' := by
  have h := takeC s 0 w hs (by omega) hT
  rw [cByte_zero] at h
  exact h

/-- What a call that can err tells: a sum and the error's number. -/
def SumErr (s : Nat) (e : Int) (w : World) (en : Ending) (w' : World) : Prop := en = .returned (.tuple #[.int .u32 (s : Int), .int .i64 e]) ∧ w = w'

theorem not32 (s : Nat) (h : s < 4294967296) : bits BinOp.xor IntKind.u32 IntKind.u32.max (s : Int) = ((4294967295 - s : Nat) : Int) := by
  have := u32_xor_nat 4294967295 s (by omega) h
  rw [show IntKind.u32.max = ((4294967295 : Nat) : Int) from rfl, this, Nat.xor_comm, ← ones_xor _ h]

theorem take00 (c : Nat) (w : World) (hc : c < 256) (hT : CTab w) :
    Calls Tryd.prog 39 #[.int .u32 0, .int .u8 (c : Int)] w fun e w' => e = .returned (.int .u32 ((cByte 0 c : Nat) : Int)) ∧ w = w' := takeC 0 c w (by omega) hc hT

theorem newC (w : World) : Calls Tryd.prog 30 #[] w fun e w' => e = .returned (.agg #[.int .u32 0]) ∧ Below w.heap.size w w' := by
  go_enter Tryd.func30, Tryd.ntmps30
  go_wp2
  exact bodyPost_ret (v := .agg #[.int .u32 0]) (by simp [results, Tryd.results30, go_sem]) rfl ⟨rfl, (Below.refl _ _).alloc (Nat.le_refl _) _⟩

theorem stateSumC (s : Int) (w : World) : Calls Tryd.prog 32 #[.agg #[.int .u32 s]] w fun e w' => e = .returned (.int .u32 s) ∧ Below w.heap.size w w' := by
  go_enter Tryd.func32, Tryd.ntmps32
  go_wp2
  go_ret
  exact ⟨rfl, (Below.refl _ _).alloc (Nat.le_refl _) _⟩

theorem getD_nat {l : List Int} (hb : IsBytes l) (k : Nat) : ∃ c : Nat, l.getD k 0 = (c : Int) ∧ c < 256 := by
  have := hb.getD k
  obtain ⟨c, hc⟩ := Int.eq_ofNat_of_zero_le this.1
  exact ⟨c, hc, by omega⟩

/-- What a state behind more bytes is. -/
def StateIs (s : Nat) (w : World) (e : Ending) (w' : World) : Prop := e = .returned (.agg #[.int .u32 (s : Int)]) ∧ Below w.heap.size w w'
/-- A sum that is told by a call that makes memory. -/
def SumIs (s : Nat) (w : World) (e : Ending) (w' : World) : Prop := e = .returned (.int .u32 (s : Int)) ∧ Below w.heap.size w w'

theorem addC (l : List Int) (n s : Nat) (a : Option Addr) (c : Nat) (w : World) (hl : l.length = n) (ha : Reads w a (l.map (Value.int .u8))) (hb : IsBytes l) (hm : n ≤ maxLen) (hs : s < 4294967296) (hT : CTab w) :
    Calls Tryd.prog 31 #[.agg #[.int .u32 (s : Int)], .slice a n c] w (StateIs (4294967295 - cRun (4294967295 - s) l) w) := by
  unfold maxLen at hm
  have HN := Lib.hid hl
  have HB := Lib.hid hb
  have HT := Lib.hid hT
  clear hl hb hT
  have hz : 4294967295 - s < 4294967296 := by omega
  have e1 := not32 s hs
  generalize 4294967295 - s = z at e1 hz ⊢
  go_enter Tryd.func31, Tryd.ntmps31
  go_wp2
  have hb2 : Below w.heap.size w ((w.alloc (.cells #[.int .u32 (s : Int)] 54)).alloc (.cells #[.int .u32 0] 54)) := ((Below.refl _ _).alloc (Nat.le_refl _) _).alloc (by simp) _
  have ha2 := ha.below' hb2
  have HT2 := Lib.hid (HT.out.below hb2)
  clear ha HT e1
  go_loop [5, 13] (fun v i => ∃ k x : Nat, k ≤ n ∧ x < 4294967296 ∧ i = .int .i64 (k : Int) ∧ v = .int .u32 (x : Int) ∧ Hid (cRun z (l.take k) = x)) (fun _ i => n - (intOf i).toNat)
  case atStart => exact ⟨0, z, Nat.zero_le _, hz, rfl, rfl, rfl⟩
  case round =>
    obtain ⟨k, x, hk, hx, rfl, rfl, H⟩ := hrel
    by_cases hlt : k < n
    · obtain ⟨B, off, rfl, c0⟩ := ha2.at k (by rw [HN.out]; exact hlt)
      have hr := cRun_take z l k (by rw [HN.out]; exact hlt)
      obtain ⟨y, hy, hy2⟩ := getD_nat HB.out k
      rw [hy, H.out, Int.toNat_natCast] at hr
      rw [hy] at c0
      have HR := Lib.hid hr
      have hB := cByte_lt x y hx (by omega)
      have HC := takeC x y
      generalize cByte x y = x' at HC hB HR
      clear hy hr ha2 hb2
      go_wp2_with (go_at_call 39; (with_reducible refine (HC _ hx hy2 HT2.out).mono ?_); rintro e w' ⟨rfl, rfl⟩)
      go_round
      case rel => exact ⟨k + 1, x', by omega, hB, by go_num, rfl, HR⟩
      case measure => simp [intOf]; omega
    · have h := H.out
      rw [List.take_of_length_le (by rw [HN.out]; omega)] at h
      have HH := Lib.hid h
      clear h H
      have e2 := not32 x hx
      generalize hr : 4294967295 - x = r at e2
      have HR := Lib.hid hr
      clear hr
      go_wp2
      exact bodyPost_ret (v := .agg #[.int .u32 (r : Int)]) (by simp [results, Tryd.results31, go_sem]) rfl ⟨by rw [← HR.out, ← HH.out], ((Below.refl _ _).alloc (Nat.le_refl _) _).alloc (by simp) _⟩

theorem sumC (l : List Int) (n : Nat) (a : Option Addr) (c : Nat) (w : World) (hl : l.length = n) (ha : Reads w a (l.map (Value.int .u8))) (hb : IsBytes l) (hm : n ≤ maxLen) (hT : CTab w) :
    Calls Tryd.prog 19 #[.slice a n c] w (SumIs (cSum l) w) := by
  have HA := fun w ha hT => addC l n 0 a c w hl ha hb hm (by omega) hT
  unfold StateIs at HA
  rw [show 4294967295 - 0 = 4294967295 from rfl, show 4294967295 - cRun 4294967295 l = cSum l from rfl] at HA
  generalize cSum l = r at HA ⊢
  have HT := Lib.hid hT
  clear hl hb hT
  go_enter Tryd.func19, Tryd.ntmps19
  go_wp2_with (first
    | (go_at_call 30; (with_reducible refine (newC _).mono ?_); rintro e w1 ⟨rfl, hb1⟩)
    | (go_at_call 31; refine (HA _ (ha.below' hb1) (HT.out.below hb1)).mono ?_; rintro e w2 ⟨rfl, hb2⟩)
    | (go_at_call 32; (with_reducible refine (stateSumC _ _).mono ?_); rintro e w3 ⟨rfl, hb3⟩))
  go_ret
  exact ⟨rfl, hb1.trans ((hb2.mono hb1.size).trans (hb3.mono (Nat.le_trans hb1.size hb2.size)))⟩

/-- The reference's byte. -/
def nStep (x : Nat) : Nat → Nat
  | 0 => x
  | n + 1 => nStep (cStep x) n
theorem nStep_succ (x n : Nat) : nStep x (n + 1) = nStep (cStep x) n := rfl
theorem nStep8 (x : Nat) : nStep x 8 = cStep8 x := rfl

theorem refByteC (s c : Nat) (w : World) (hs : s < 4294967296) (hc : c < 256) :
    Calls Tryd.prog 33 #[.int .u32 (s : Int), .int .u8 (c : Int)] w fun e w' => e = .returned (.int .u32 ((cByte s c : Nat) : Int)) ∧ w = w' := by
  have e1 := u32_xor_nat s c hs (by omega)
  have hX := xor_lt s c hs (by omega)
  have hE : cByte s c = nStep (s ^^^ c) 8 := rfl
  rw [hE]
  clear hE
  generalize s ^^^ c = X at e1 hX ⊢
  generalize hg : nStep X 8 = r
  have HG := Lib.hid hg
  clear hg
  go_enter Tryd.func33, Tryd.ntmps33
  go_wp2
  go_loop [0, 5] (fun v i => ∃ k x : Nat, k ≤ 8 ∧ x < 4294967296 ∧ i = .int .i64 (k : Int) ∧ v = .int .u32 (x : Int) ∧ Hid (nStep x (8 - k) = r)) (fun _ i => 8 - (intOf i).toNat)
  case atStart => exact ⟨0, X, by omega, hX, rfl, rfl, HG⟩
  case round =>
    obtain ⟨k, x, hk, hx, rfl, rfl, H⟩ := hrel
    by_cases hlt : k < 8
    · have h := H.out
      rw [show 8 - k = 8 - (k + 1) + 1 by omega, nStep_succ] at h
      have hs' := cStep_lt x hx
      have e2 := u32_xor_nat (x / 2) 3988292384 (by omega) (by omega)
      rw [show ((x / 2 : Nat) : Int) = (x : Int) / 2 by omega, show ((3988292384 : Nat) : Int) = 3988292384 from rfl] at e2
      by_cases ho : x % 2 = 1
      · have hv : cStep x = x / 2 ^^^ 3988292384 := by unfold cStep; rw [if_pos ho]
        rw [← hv] at e2
        generalize cStep x = y at h hs' e2
        have H2 := Lib.hid h
        have t : ((x : Int) % 2 == 1) = true := by simp; omega
        clear h hv ho
        go_wp2
        go_round
        case rel => exact ⟨k + 1, y, by omega, hs', by go_num, rfl, H2⟩
        case measure => simp [intOf]; omega
      · have hv : cStep x = x / 2 := by unfold cStep; rw [if_neg ho]
        rw [hv] at h
        have H2 := Lib.hid h
        have t : ((x : Int) % 2 == 1) = false := by simp; omega
        clear h hv ho e2 hs'
        go_wp2
        go_round
        case rel => exact ⟨k + 1, x / 2, by omega, by omega, by go_num, rfl, H2⟩
        case measure => simp [intOf]; omega
    · go_wp2
      go_ret
      have h := H.out
      rw [show 8 - k = 0 by omega] at h
      exact ⟨ret_int (by rw [← h]; rfl), rfl⟩

theorem refSumC (l : List Int) (n : Nat) (a : Option Addr) (c : Nat) (w : World) (hl : l.length = n) (ha : Reads w a (l.map (Value.int .u8))) (hb : IsBytes l) (hm : n ≤ maxLen) :
    Calls Tryd.prog 23 #[.slice a n c] w fun e w' => e = .returned (.int .u32 ((cSum l : Nat) : Int)) ∧ w = w' := by
  unfold maxLen at hm
  have HN := Lib.hid hl
  have HB := Lib.hid hb
  have hS : cSum l = 4294967295 - cRun 4294967295 l := rfl
  generalize cSum l = r at hS ⊢
  have HS := Lib.hid hS
  clear hl hb hS
  go_enter Tryd.func23, Tryd.ntmps23
  go_wp2
  go_loop [3, 4] (fun v i => ∃ k x : Nat, k ≤ n ∧ x < 4294967296 ∧ i = .int .i64 (k : Int) ∧ v = .int .u32 (x : Int) ∧ Hid (cRun 4294967295 (l.take k) = x)) (fun _ i => n - (intOf i).toNat)
  case atStart => exact ⟨0, 4294967295, Nat.zero_le _, by omega, rfl, rfl, rfl⟩
  case round =>
    obtain ⟨k, x, hk, hx, rfl, rfl, H⟩ := hrel
    by_cases hlt : k < n
    · obtain ⟨B, off, rfl, c0⟩ := ha.at k (by rw [HN.out]; exact hlt)
      have hr := cRun_take 4294967295 l k (by rw [HN.out]; exact hlt)
      obtain ⟨y, hy, hy2⟩ := getD_nat HB.out k
      rw [hy, H.out, Int.toNat_natCast] at hr
      rw [hy] at c0
      have HR := Lib.hid hr
      have hB := cByte_lt x y hx (by omega)
      have HC := refByteC x y
      generalize cByte x y = x' at HC hB HR
      clear hy hr ha
      have hlt' : (k : Int) < (n : Int) := by omega
      go_wp2_with (go_at_call 33; (with_reducible refine (HC _ hx hy2).mono ?_); rintro e w' ⟨rfl, rfl⟩)
      go_round
      case rel => exact ⟨k + 1, x', by omega, hB, by go_num, rfl, HR⟩
      case measure => simp [intOf]; omega
    · have h := H.out
      rw [List.take_of_length_le (by rw [HN.out]; omega)] at h
      have hv := HS.out
      rw [h] at hv
      have HV := Lib.hid hv
      clear h hv H
      go_wp2
      go_ret
      exact ⟨ret_int (by have := HV.out; omega), rfl⟩

/-- A literal's values, in a new block that bears a mark. -/
theorem reads_mark (w : World) (xs : List Value) (e : TypeId) (fr : Nat × Nat) : Reads (w.alloc (.cells xs.toArray e fr)) (some ⟨w.heap.size, 0, none⟩) xs := fun i v hv => by
  refine ⟨w.heap.size, 0, rfl, ?_⟩
  rw [Nat.zero_add, World.cell?_alloc_mark]
  simpa using hv

end Go.Proofs.YtjjnehlghpdneaaDoor
