/- The walks of layer 2's laws on what is got. -/
import Derived.Test.YtnabkohepmcjoaaVarLaw
import Derived.Deep.RegionHeld3
namespace Go.Proofs.Ytnabkohepmcjoaa
open Go.RowKit
set_option linter.unusedVariables false

theorem varintGets_walk (a0 : Option Addr) (n0 c0 : Nat) (z0 : List Int) (w : World) (w0 : IsRow .u8 w a0 n0 c0 z0) :
    Calls Try.prog 4 #[.slice a0 n0 c0] w fun e w' => e = .returned (.bool true) ∧ Below w.heap.size w w' := by
  obtain ⟨ha, hn, h1, h2, _⟩ := isRow_reads w0
  have hl := isRow_bytes w0
  generalize z0.take n0 = l at ha hn hl
  subst hn
  have hm : l.length ≤ maxLen := by omega
  have hr := got_range l 0 0 hl (by omega) (by omega) (by decide)
  have HG := fun w h => getC l a0 c0 w h hl hm
  have HI := fun w h => getIntC l a0 c0 w h hl hm
  have HR := fun w h => refGetC l a0 c0 w h hl hm
  unfold GotIs at HG HR
  generalize got l 0 0 = r at HG HI HR hr
  obtain ⟨x, k, e⟩ := r
  simp only [] at hr HI HG HR
  have hu := unfoldI_le x hr.1 hr.2
  have HF := fun w => refFoldC (unfoldI x) w hu.1 hu.2
  rw [fold_unfold x hr.1] at HF
  generalize unfoldI x = y at HI HF
  go_enter Try.func4, Try.ntmps4
  go_wp2_with (first
    | (go_at_call 14; (with_reducible refine (HG _ ha).mono ?_); rintro e w' ⟨rfl, rfl⟩)
    | (go_at_call 15; (with_reducible refine (HI _ ha).mono ?_); rintro e w' ⟨rfl, rfl⟩)
    | (go_at_call 16; (with_reducible refine (HR _ ha).mono ?_); rintro e w' ⟨rfl, rfl⟩)
    | (go_at_call 17; (with_reducible refine (HF _).mono ?_); rintro e w' ⟨rfl, rfl⟩)
    | (go_at_call 7; (with_reducible refine (awake02C _).mono ?_); rintro e w' ⟨rfl, hb⟩))
  go_ret
  exact ⟨rfl, hb⟩

theorem got_err (l : List Int) : ∀ (i : Nat) (n : Int), (got l i n).2.2 = 0 ∨ (got l i n).2.2 = 1 ∨ (got l i n).2.2 = 2 := by
  induction l with
  | nil => intro i n; simp [got]
  | cons c r ih =>
    intro i n
    rw [got]
    split
    · simp
    · split
      · simp
      · exact ih _ _

set_option maxRecDepth 100000 in
set_option maxHeartbeats 4000000 in
theorem varintOnly_walk (a0 : Option Addr) (n0 c0 : Nat) (z0 : List Int) (n m : Int) (w : World) (w0 : IsRow .u8 w a0 n0 c0 z0) (w1 : (Lit.int .u64 n).wf = true) (w2 : (Lit.int .u64 m).wf = true) :
    Calls Try.prog 6 #[.slice a0 n0 c0, .int .u64 n, .int .u64 m] w fun e w' => e = .returned (.bool true) ∧ Below w.heap.size w w' := by
  have b1 := wfU64 w1
  have b2 := wfU64 w2
  obtain ⟨N, rfl⟩ := Int.eq_ofNat_of_zero_le b1.1
  obtain ⟨M, rfl⟩ := Int.eq_ofNat_of_zero_le b2.1
  have hNM := short_mono N M
  have hS1 := fun w => sizeC N w (by omega)
  have hS2 := fun w => sizeC M w (by omega)
  generalize (short N).length = s1 at hNM hS1
  generalize (short M).length = s2 at hNM hS2
  obtain ⟨ha, hn, h1, h2, _⟩ := isRow_reads w0
  have hl := isRow_bytes w0
  generalize z0.take n0 = l at ha hn hl
  have hm : l.length ≤ maxLen := by omega
  have HG := fun w h => getC l a0 c0 w h hl hm
  unfold GotIs at HG
  have he := got_err l 0 0
  have hone := got_one l (got l 0 0).1 (got l 0 0).2.1 hl
  have hrg := got_range l 0 0 hl (by omega) (by omega) (by decide)
  generalize got l 0 0 = r at HG he hone hrg
  obtain ⟨x, k, e⟩ := r
  simp only [Prod.mk.injEq, true_and] at HG he hone hrg
  rw [hn] at HG
  have hmono : ¬ (M : Int) < (N : Int) → (s1 : Int) ≤ (s2 : Int) := by omega
  have HMO := Lib.hid hmono
  clear hmono hNM
  by_cases h0 : e = 0
  · subst h0
    obtain ⟨X, L, rfl, rfl, hL1, hL2, ht⟩ := hone rfl
    have hX : X ≤ 18446744073709551615 := by omega
    have hlen : (short X).length = L := by rw [← ht, List.length_take_of_le hL2]
    obtain ⟨B, off, rfl, _⟩ := ha.at 0 (by omega)
    have HP := fun w => putO [] (short X) 0 L none 0 X w rfl rfl (by simpa using hlen) (Reads.nil _ _) (fun _ => rfl) (by omega) hX
    have hrd : Reads w (some ⟨B, off, none⟩) ((short X).map (Value.int .u8)) := by
      rw [← ht]
      have ha' := ha
      rw [← List.take_append_drop L l, List.map_append] at ha'
      exact ha'.head
    rw [List.nil_append] at HP
    have HT := Lib.hid hlen
    generalize short X = q at HP hrd HT
    rw [hn] at hL2
    have hc1 : decide ((L : Int) < 1) = false := decide_eq_false (by omega)
    have hc2 : decide (n0 < L) = false := decide_eq_false (by omega)
    have hc3 : ¬ n0 < L := by omega
    have hmin : min (L : Int) (n0 : Int) = (L : Int) := by omega
    have q1 : (L : Int) ≤ (c0 : Int) := by omega
    have q2 : (0 : Int) ≤ (L : Int) := by omega
    have q3 : L ≤ c0 := by omega
    clear ht hone hlen
    go_enter Try.func6, Try.ntmps6
    go_wp2_with (go_at_call 14; (with_reducible refine (HG _ ha).mono ?_); rintro e w' ⟨rfl, rfl⟩)
    have hm2 : L ≤ maxLen := by omega
    have HS := fun (w : World) (a b : Option Addr) (c d : Nat) h h' => sameO q L HT.out a b c d w h h' hm2
    have hrd' : Reads w.drew (some ⟨B, off, none⟩) (q.map (Value.int .u8)) := hrd.same (fun x => by simp)
    clear HG ha hl hrd
    go_region_held3 (fun _ => True) (trivial) (first
      | (go_at_call 8; (with_reducible refine (HP _).mono ?_); rintro e w3 ⟨a3, c3, rfl, ho3, hb3⟩)
      | (go_at_call 11; (with_reducible refine (HS _ _ _ _ _ ho3.reads (hrd'.below' hb3)).mono ?_); rintro e w' ⟨rfl, d, rfl⟩))
    all_goals
      have hb13 : Below w.heap.size w w3 := ((Below.refl _ w).drew).trans hb3
      have hbb := below_drewN hb13 d
      clear ho3 hb3 hb13 hrd'
      by_cases hlt : M < N
      · have g1 : decide (M < N) = true := decide_eq_true hlt
        have g3 : decide ((M : Int) < (N : Int)) = true := decide_eq_true (by omega)
        go_wp2_with (first
          | (go_at_call 7; go_loud (with_reducible refine (awake02C _).mono ?_); go_loud (rintro e w9 ⟨rfl, hb9⟩)))
        go_ret
        exact ⟨rfl, hbb.trans (hb9.mono hbb.size)⟩
      · have g1 : decide (M < N) = false := decide_eq_false hlt
        have g3 : decide ((M : Int) < (N : Int)) = false := decide_eq_false (by omega)
        have g2 := HMO.out (by omega)
        go_wp2_with (first
          | (go_at_call_of 13 N; (with_reducible refine (hS1 _).mono ?_); rintro e w' ⟨rfl, rfl⟩)
          | (go_at_call_of 13 M; (with_reducible refine (hS2 _).mono ?_); rintro e w' ⟨rfl, rfl⟩)
          | (go_at_call 7; (with_reducible refine (awake02C _).mono ?_); rintro e w9 ⟨rfl, hb9⟩))
        go_ret
        exact ⟨rfl, hbb.trans (hb9.mono hbb.size)⟩
  · have he0 : (e == 0) = false := by simpa using h0
    go_enter Try.func6, Try.ntmps6
    go_wp2_with (go_at_call 14; (with_reducible refine (HG _ ha).mono ?_); rintro e w' ⟨rfl, rfl⟩)
    clear HG ha hl hone hrg
    go_quiet (fail)
    have hbb := below_drewN (Below.refl w.heap.size w) nq
    by_cases hlt : M < N
    · have g1 : decide (M < N) = true := decide_eq_true hlt
      have g3 : decide ((M : Int) < (N : Int)) = true := decide_eq_true (by omega)
      go_wp2_with (first
        | (go_at_call 7; (with_reducible refine (awake02C _).mono ?_); rintro e w9 ⟨rfl, hb9⟩))
      go_ret
      exact ⟨rfl, hbb.trans (hb9.mono hbb.size)⟩
    · have g1 : decide (M < N) = false := decide_eq_false hlt
      have g3 : decide ((M : Int) < (N : Int)) = false := decide_eq_false (by omega)
      have g2 := HMO.out (by omega)
      go_wp2_with (first
        | (go_at_call_of 13 N; (with_reducible refine (hS1 _).mono ?_); rintro e w' ⟨rfl, rfl⟩)
        | (go_at_call_of 13 M; (with_reducible refine (hS2 _).mono ?_); rintro e w' ⟨rfl, rfl⟩)
        | (go_at_call 7; (with_reducible refine (awake02C _).mono ?_); rintro e w9 ⟨rfl, hb9⟩))
      go_ret
      exact ⟨rfl, hbb.trans (hb9.mono hbb.size)⟩
end Go.Proofs.Ytnabkohepmcjoaa
