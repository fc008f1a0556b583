/- The walk of layer 2's law on numbers put one behind the other. -/
import Derived.Test.YtnabkohepmcjoaaVarLaw
namespace Go.Proofs.Ytnabkohepmcjoaa
open Go.RowKit
set_option linter.unusedVariables false

/-- Numbers' short bytes, one behind the other. -/
def flat (ns : List Int) : List Int := ns.flatMap fun n => short n.toNat
theorem flat_take (ns : List Int) (k : Nat) (h : k < ns.length) : flat (ns.take (k + 1)) = flat (ns.take k) ++ short (ns.getD k 0).toNat := by
  unfold flat
  rw [List.take_succ_eq_append_getElem h, List.flatMap_append, getD_of_lt ns k h]
  simp
theorem flat_drop (ns : List Int) (k : Nat) (h : k < ns.length) : flat (ns.drop k) = short (ns.getD k 0).toNat ++ flat (ns.drop (k + 1)) := by
  unfold flat
  rw [List.drop_eq_getElem_cons h, getD_of_lt ns k h, List.flatMap_cons]
theorem flat_bytes (ns : List Int) : IsBytes (flat ns) := fun x hx => by
  obtain ⟨n, _, h⟩ := List.mem_flatMap.mp hx
  exact short_bytes _ x h

theorem varintBack_long (a0 a1 : Option Addr) (n0 c0 n1 c1 : Nat) (w : World) (h : 100 < n0 ∨ n0 ≤ 100 ∧ 1000 < n1) :
    Calls Try.prog 5 #[.slice a0 n0 c0, .slice a1 n1 c1] w fun e w' => e = .returned (.bool true) ∧ Below w.heap.size w w' := by
  rcases h with h | ⟨h, h'⟩
  all_goals
    go_enter Try.func5, Try.ntmps5
    go_wp2_with (go_at_call 7; (with_reducible refine (awake02C _).mono ?_); rintro e w' ⟨rfl, hb⟩)
    go_ret
    exact ⟨rfl, hb⟩

set_option maxRecDepth 100000 in
theorem varintBack_short (ns bs : List Int) (a0 a1 : Option Addr) (n0 c0 n1 c1 : Nat) (w : World) (h : n0 ≤ 100) (h' : n1 ≤ 1000) (ha : Reads w a0 (ns.map (Value.int .u64))) (hn : ns.length = n0) (hns : ∀ x ∈ ns, 0 ≤ x ∧ x ≤ 18446744073709551615)
    (hb : Reads w a1 (bs.map (Value.int .u8))) (hm : bs.length = n1) (hbb : IsBytes bs) (hc : a1 = none → c1 = 0) :
    Calls Try.prog 5 #[.slice a0 n0 c0, .slice a1 n1 c1] w fun e w' => e = .returned (.bool true) ∧ Below w.heap.size w w' := by
  obtain ⟨i0, hi, hz0, hz1, hz2⟩ := info_parts info8
  have HN := Lib.hid hn
  have HM := Lib.hid hm
  have HNS := Lib.hid hns
  clear hn hm hns
  go_enter Try.func5, Try.ntmps5
  go_wp2
  go_loopw [5, 6] (fun v i wr => ∃ (k L : Nat) (a : Option Addr) (c : Nat), k ≤ n0 ∧ i = .int .i64 k ∧ v = .slice a L c ∧ L ≤ 10 * k ∧ Hid ((flat (ns.take k)).length = L) ∧ Owned w.heap.size 5 a L c ((flat (ns.take k)).map (Value.int .u8)) wr ∧ Below w.heap.size w wr) (fun _ i _ => n0 - (intOf i).toNat)
  case atStart => exact ⟨0, 0, _, 0, Nat.zero_le _, rfl, rfl, by omega, rfl, owned_lit w _, below_alloc w _⟩
  case round =>
    obtain ⟨k, L, a, c, hk, rfl, rfl, hL, HL, ho, hbw⟩ := hrel
    have har := ha.below' hbw
    by_cases hlt : k < n0
    · obtain ⟨B, off, rfl, c0'⟩ := har.at k (by rw [HN.out]; exact hlt)
      have hft := flat_take ns k (by rw [HN.out]; exact hlt)
      have hx := HNS.out (ns.getD k 0) (by rw [getD_of_lt ns k (by rw [HN.out]; exact hlt)]; exact List.getElem_mem _)
      generalize ns.getD k 0 = x at hft hx c0'
      obtain ⟨N, rfl⟩ := Int.eq_ofNat_of_zero_le hx.1
      rw [Int.toNat_natCast] at hft
      have hN : N ≤ 18446744073709551615 := by omega
      have hten := short_ten N hN
      have hL' : (flat (ns.take k) ++ short N).length = L + (short N).length := by rw [List.length_append, HL.out]
      generalize hq : short N = q at hft hten hL'
      generalize hkk : q.length = kk at hten hL'
      have HFT := Lib.hid hft
      have HQ := Lib.hid hq
      have HL' := Lib.hid hL'
      have hr := ho.reads
      have hcc := ho.nil0
      have hsz := hbw.size
      have hlt' : (k : Int) < (n0 : Int) := by omega
      clear hft hq hL' hkk har ho
      go_wp2_with (go_at_call 8; (with_reducible refine (putO (flat (ns.take k)) q L (L + kk) _ _ N _ HQ.out HL.out HL'.out hr hcc (by omega) hN).mono ?_); rintro e w3 ⟨a3, c3, rfl, ho3, hb3⟩)
      go_roundw
      case rel => exact ⟨k + 1, L + kk, a3, c3, by omega, by go_num, rfl, by omega, by unfold Hid; rw [HFT.out, HL'.out], by rw [HFT.out]; exact ho3.base hsz, hbw.trans (hb3.mono hsz)⟩
      case measure => simp [intOf]; omega
    · have hkn : k = n0 := by omega
      subst hkn
      have hfa : flat (ns.take k) = flat ns := by rw [List.take_of_length_le (by rw [HN.out]; omega)]
      have hLa := HL.out
      rw [hfa] at ho hLa
      have hbr := hb.below' hbw
      have HLA := Lib.hid hLa
      clear hfa hLa HL ha hb
      go_wp2_with (first
        | (at_builtin; refine wpList_append_lit rfl (.tmp 33) (.tmp 34) 22 rfl 5 i0 (.int .u8 0) 1 Try.underlying22 hi hz0 hz1 hz2 rfl rfl ho.reads rfl (by rw [List.length_map, HLA.out]) ho.nil0 (bytes_one _ .u8) (by unfold maxLen; omega) (by omega) ?_; intro a4 c4 w4 ho4 hb4)
        | (at_builtin; refine wpList_append_to rfl (.tmp 35) (.tmp 36) 22 rfl 5 i0 (.int .u8 0) 1 Try.underlying22 hi hz0 hz1 hz2 rfl ho4 rfl (hbr.below' hb4) rfl (by rw [List.length_map, HM.out]) hc (bytes_one bs .u8) (L + n1) rfl (by unfold maxLen; omega) (by omega) hb4.size ?_; intro a5 c5 w5 ho5 hb5; rw [← List.map_append] at ho5; have hb45 := hb4.trans hb5))
      have hb05 : Below w.heap.size w w5 := hbw.trans (hb45.mono hbw.size)
      have har5 := har.below' hb45
      have hbr5 := hbr.below' hb45
      have hr5 := ho5.reads
      have hcap5 := ho5.2.2.2.1
      have hcm5 := ho5.2.2.2.2.1
      clear ho ho4 ho5 hb4 hb5 hb45 hbw har hbr
      go_loopw [5, 7] (fun v i wr => ∃ (j L : Nat) (a : Option Addr) (c d : Nat), j ≤ k ∧ i = .int .i64 j ∧ v = .slice a L c ∧ L ≤ c ∧ c ≤ maxLen ∧ Hid ((flat (ns.drop j) ++ bs).length = L) ∧ Reads w5 a ((flat (ns.drop j) ++ bs).map (Value.int .u8)) ∧ wr = w5.drewN d) (fun _ i _ => k - (intOf i).toNat)
      case atStart => exact ⟨0, L + n1, a5, c5, 0, Nat.zero_le _, rfl, rfl, hcap5, hcm5, by unfold Hid; rw [List.drop_zero, List.length_append, HLA.out, HM.out], by rw [List.drop_zero]; exact hr5, rfl⟩
      case round =>
        obtain ⟨j, L', a', c', d, hj, rfl, rfl, hLc, hcm, HLL, hr, rfl⟩ := hrel
        by_cases hlt : j < k
        · obtain ⟨B, off, rfl, c0'⟩ := har5.at j (by rw [HN.out]; exact hlt)
          have hfd := flat_drop ns j (by rw [HN.out]; exact hlt)
          have hx := HNS.out (ns.getD j 0) (by rw [getD_of_lt ns j (by rw [HN.out]; exact hlt)]; exact List.getElem_mem _)
          generalize ns.getD j 0 = x at hfd hx c0'
          obtain ⟨N, rfl⟩ := Int.eq_ofNat_of_zero_le hx.1
          rw [Int.toNat_natCast] at hfd
          have hN : N ≤ 18446744073709551615 := by omega
          have hgb := got_back N (flat (ns.drop (j + 1)) ++ bs) hN
          have hq1 := (short_bounds N).1
          have hby : IsBytes (short N ++ (flat (ns.drop (j + 1)) ++ bs)) := fun y hy => by
            rcases List.mem_append.mp hy with h | h
            · exact short_bytes N y h
            · rcases List.mem_append.mp h with h | h
              · exact flat_bytes _ y h
              · exact hbb y h
          rw [hfd, List.append_assoc] at hr HLL
          have hlen := HLL.out
          rw [List.length_append] at hlen
          have HG := fun w h hm => getC (short N ++ (flat (ns.drop (j + 1)) ++ bs)) a' c' w h hby hm
          unfold GotIs at HG
          rw [hgb, HLL.out] at HG
          obtain ⟨B', off', rfl, _⟩ := hr.at 0 (by rw [HLL.out]; omega)
          have hr' := hr
          rw [List.map_append] at hr'
          have hql : ((short N).map (Value.int .u8)).length = (short N).length := List.length_map _
          generalize (short N).length = q at hgb hq1 hlen HG hql
          have HR := Lib.hid hlen
          generalize hrest : flat (ns.drop (j + 1)) ++ bs = rest at HG hr hr' hlen HR hgb hby HLL
          have HREST := Lib.hid hrest
          have hcut := hr'.cut_if (c := c') q hql (fun e => by
            have : rest.length = 0 := by omega
            rw [List.length_eq_zero_iff.mp this]; rfl)
          have hrd := hr.drewN d
          simp only [] at HG
          have t1 : ¬ (q : Int) < 1 := by omega
          have t2 : q ≤ L' := by omega
          have t3 : ¬ (L' : Int) < (q : Int) := by omega
          clear hgb hby HLL hlen hfd hr hr' hr5 hrest hql
          have hlt' : (j : Int) < (k : Int) := by omega
          go_wp2_with (go_at_call 14; (with_reducible refine (HG _ hrd (by omega)).mono ?_); rintro e w' ⟨rfl, rfl⟩)
          go_roundw
          case rel =>
            exact ⟨j + 1, L' - q, _, c' - q, d, by omega, by go_num, rfl, by omega, by omega, by unfold Hid; rw [HREST.out]; have := HR.out; omega, by rw [HREST.out]; exact hcut, rfl⟩
          case measure => simp [intOf]; omega
        · have hjk : j = k := by omega
          subst hjk
          have hdn : flat (ns.drop j) ++ bs = bs := by rw [List.drop_of_length_le (by rw [HN.out]; omega)]; rfl
          rw [hdn] at hr HLL
          have hLn : L' = n1 := HLL.out.symm.trans HM.out
          subst hLn
          have hrd := hr.drewN d
          have hbd := hbr5.drewN d
          go_wp2_with (first
            | (go_at_call 11; (with_reducible refine (sameO bs L' HM.out _ _ _ _ _ hrd hbd (by omega)).mono ?_); rintro e w' ⟨rfl, d', rfl⟩; have hb9 := below_drewN hb05 (d + d'))
            | (go_at_call 7; (with_reducible refine (awake02C _).mono ?_); rintro e w9 ⟨rfl, hb10⟩))
          go_ret
          exact ⟨rfl, hb9.trans (hb10.mono hb9.size)⟩

theorem varintBack_walk (a0 : Option Addr) (n0 c0 : Nat) (z0 : List Int) (a1 : Option Addr) (n1 c1 : Nat) (z1 : List Int) (w : World) (w0 : IsRow .u64 w a0 n0 c0 z0) (w1 : IsRow .u8 w a1 n1 c1 z1) :
    Calls Try.prog 5 #[.slice a0 n0 c0, .slice a1 n1 c1] w fun e w' => e = .returned (.bool true) ∧ Below w.heap.size w w' := by
  by_cases h : 100 < n0
  · exact varintBack_long a0 a1 n0 c0 n1 c1 w (.inl h)
  · by_cases h' : 1000 < n1
    · exact varintBack_long a0 a1 n0 c0 n1 c1 w (.inr ⟨by omega, h'⟩)
    · obtain ⟨r1, r2, _, _, r5⟩ := isRow_reads w0
      obtain ⟨s1, s2, _, _, s5⟩ := isRow_reads w1
      exact varintBack_short _ _ a0 a1 n0 c0 n1 c1 w (by omega) (by omega) r1 r2 (fun x hx => wfU64 (r5 x hx)) s1 s2 (isRow_bytes w1) (isRow_nil w1)
end Go.Proofs.Ytnabkohepmcjoaa
