/- slices.symMergeCmpFunc at rows of structs, where one element stands ahead, or one behind. -/
import Derived.Test.YtjocnhkapiiblaaDoorLibAA
namespace Go.Proofs.YtjocnhkapiiblaaDoor
open Go.Shelf Go.RowKit Go.Lib Go.Sort
set_option linter.unusedVariables false
variable {P : Program} {α : Type} [Inhabited α]

set_option maxHeartbeats 8000000 in
set_option maxRecDepth 1000000 in
theorem symHeadS (L : PL P) (k : Nat) (aE : ∀ w, (isAgg 27).run P w = .ok true w) (zE : ∀ w, (Go.sizeOf 27).run P w = .ok k w) (enc : α → List Value) (cf : α → α → Int) (tag : α → Nat) (hS : SWO (ltOf cf)) (g : Nat) (cb : Array Value) (blk off cap a m b : Nat) (d0 d : Array α) (w0 w : World)
    (eg : ∀ args w, (callFunc g args).run P w = .ok (.enter g args) w) (hcmp : CmpLays P g cb enc k cf blk off d0.size w0) (R : RowK enc k w0 blk off d0) (hs : d0.size = d.size) (S : SWK enc k w0 blk off d w) (ham : a < m) (hmb : m < b) (hb : b ≤ d.size) (hsz : d.size < 2305843009213693952) (hp : Pre (ltOf cf) tag d a m b) (h1 : m = a + 1) :
    Calls P 29 #[.slice (some ⟨blk, off, none⟩) d.size cap, .int .i64 a, .int .i64 m, .int .i64 b, .func (.func g) #[] cb] w fun e w' => e = .returned (.tuple #[]) ∧ ∃ d', SWK enc k w0 blk off d' w' ∧ Merged (ltOf cf) tag d d' a b := by
  have mixed := L.mixed; have t0 := L.t0; have a0 := L.a0; have z0 := L.z0; have v0 := L.v0; have t3 := L.t3; have a3 := L.a3; have z3 := L.z3; have v3 := L.v3; have t4 := L.t4; have a4 := L.a4; have z4 := L.z4; have v4 := L.v4; have tS := L.tS; have aS := L.aS; have zS := L.zS; have vS := L.vS; have tF := L.tF; have aF := L.aF; have zF := L.zF; have vF := L.vF; have tU := L.tU; have aU := L.aU; have zU := L.zU; have vU := L.vU
  have FG := L.fSym
  have HC : Aside _ := hcmp
  have S0 : Aside (SWK enc k w0 blk off d w) := S
  have HP : Aside _ := hp
  clear hcmp S hp L
  have ma : (m : Int) - (a : Int) = 1 := by omega
  have H1 : Hid (m = a + 1) := h1
  have hma : m ≤ a + 1 := by omega
  clear h1
  go_enter FG, Tryd.ntmps29
  go_wp2
  go_loopg [10, 11] (b - a) (fun kx s10 s11 wr => ∃ (i j : Nat), s10 = .int .i64 i ∧ s11 = .int .i64 j ∧ m ≤ i ∧ i ≤ j ∧ j ≤ b ∧ j - i ≤ kx ∧ Aside (SWK enc k w0 blk off d wr) ∧ Hid ((i = m ∨ Sb (ltOf cf) tag d[i - 1]! d[a]!) ∧ (j = b ∨ Sb (ltOf cf) tag d[a]! d[j]!)))
  case atStart => exact ⟨m, b, rfl, rfl, Nat.le_refl _, by omega, Nat.le_refl _, by omega, S0, (show Hid _ from ⟨.inl rfl, .inl rfl⟩)⟩
  case round =>
    clear S0
    obtain ⟨i, j, rfl, rfl, hi, hij, hj, hkx, S1, HE⟩ := hrel
    by_cases hlt : i < j
    · have hltz : (i : Int) < (j : Int) := by omega
      obtain ⟨h, hhz⟩ : ∃ h : Nat, ((i : Int) + (j : Int)) / 2 = (h : Int) := ⟨(i + j) / 2, by omega⟩
      have hh1 : i ≤ h := by omega
      have hh2 : h < j := by omega
      cases hL : ltOf cf d[h]! d[a]! with
      | true =>
        have ea1y : ((h : Int)).toNat = h := by omega
        have pa1y : (0 : Int) ≤ (h : Int) := by omega
        have ba1y : (h : Int) < (d.size : Int) := by omega
        have ra1y : IntKind.i64.wrap ((h : Int)) = (h : Int) := by rw [IntKind.wrap_i64]; omega
        have ec1y : ((a : Int)).toNat = a := by omega
        have pc1y : (0 : Int) ≤ (a : Int) := by omega
        have bc1y : (a : Int) < (d.size : Int) := by omega
        have rc1y : IntKind.i64.wrap ((a : Int)) = (a : Int) := by rw [IntKind.wrap_i64]; omega
        obtain ⟨x1y, hx1y⟩ : ∃ x, x = d[h]! := ⟨_, rfl⟩
        obtain ⟨y1y, hy1y⟩ : ∃ x, x = d[a]! := ⟨_, rfl⟩
        have l1ya := S1.out.ld R (by omega) P (h) (by omega)
        have l1yb := S1.out.ld R (by omega) P (a) (by omega)
        rw [← hx1y] at l1ya
        rw [← hy1y] at l1yb
        have hc1y := S1.out.cmp HC.out (by omega) x1y y1y
        have hv1y : cf x1y y1y < 0 := by rw [hx1y, hy1y]; exact of_decide_eq_true hL
        have hd1y : decide (cf x1y y1y < 0) = true := decide_eq_true hv1y
        clear hx1y hy1y
        go_wp2_with fail
        go_quiet_grown (first | (go_at_fn g; refine Calls.grown_of (hc1y _ _)))
        have S2 : Aside (SWK enc k w0 blk off d (grow (wr.drewN nq) osq)) := S1.out.grown nq osq
        clear l1ya l1yb hc1y S1
        generalize grow (wr.drewN nq) osq = w2 at S2 ⊢
        clear nq osq
        go_wp2
        go_roundg (j - (h + 1))
        case measure => omega
        case rel => exact ⟨h + 1, j, by go_num, rfl, by omega, by omega, hj, Nat.le_refl _, S2, (show Hid _ from ⟨.inr (by rw [Nat.add_sub_cancel]; exact Sb.of_yes hL), HE.out.2⟩)⟩
      | false =>
        have ea1n : ((h : Int)).toNat = h := by omega
        have pa1n : (0 : Int) ≤ (h : Int) := by omega
        have ba1n : (h : Int) < (d.size : Int) := by omega
        have ra1n : IntKind.i64.wrap ((h : Int)) = (h : Int) := by rw [IntKind.wrap_i64]; omega
        have ec1n : ((a : Int)).toNat = a := by omega
        have pc1n : (0 : Int) ≤ (a : Int) := by omega
        have bc1n : (a : Int) < (d.size : Int) := by omega
        have rc1n : IntKind.i64.wrap ((a : Int)) = (a : Int) := by rw [IntKind.wrap_i64]; omega
        obtain ⟨x1n, hx1n⟩ : ∃ x, x = d[h]! := ⟨_, rfl⟩
        obtain ⟨y1n, hy1n⟩ : ∃ x, x = d[a]! := ⟨_, rfl⟩
        have l1na := S1.out.ld R (by omega) P (h) (by omega)
        have l1nb := S1.out.ld R (by omega) P (a) (by omega)
        rw [← hx1n] at l1na
        rw [← hy1n] at l1nb
        have hc1n := S1.out.cmp HC.out (by omega) x1n y1n
        have hv1n : ¬ cf x1n y1n < 0 := by rw [hx1n, hy1n]; exact of_decide_eq_false hL
        have hd1n : decide (cf x1n y1n < 0) = false := decide_eq_false hv1n
        clear hx1n hy1n
        go_wp2_with fail
        go_quiet_grown (first | (go_at_fn g; refine Calls.grown_of (hc1n _ _)))
        have S2 : Aside (SWK enc k w0 blk off d (grow (wr.drewN nq) osq)) := S1.out.grown nq osq
        clear l1na l1nb hc1n S1
        generalize grow (wr.drewN nq) osq = w2 at S2 ⊢
        clear nq osq
        go_wp2
        go_roundg (h - i)
        case measure => omega
        case rel => exact ⟨i, h, rfl, rfl, hi, hh1, by omega, Nat.le_refl _, S2, (show Hid _ from ⟨HE.out.1, .inr (Sb.of_no hL (HP.out.tags a h (Nat.le_refl _) (by omega) (by omega) (by omega)))⟩)⟩
    · obtain rfl : i = j := by omega
      obtain ⟨i1, hi1⟩ : ∃ x : Nat, (i : Int) - 1 = (x : Int) := ⟨i - 1, by omega⟩
      go_wp2
      go_loopg [13] (b - a) (fun kx s13 wr => ∃ (x : Nat) (dk : Array α), s13 = .int .i64 x ∧ a ≤ x ∧ x ≤ i1 ∧ i1 - x ≤ kx ∧ dk.size = d.size ∧ Aside (SWK enc k w0 blk off dk wr) ∧ Hid (Is d dk (rotF a (a + 1) (x + 1)) ∧ PermIn a b d dk))
      case atStart => exact ⟨a, d, rfl, Nat.le_refl _, by omega, by omega, rfl, S1, (show Hid _ from ⟨Is.noturn (by omega) (by omega) (by omega), permIn_refl d a b⟩)⟩
      case round =>
        clear S1
        obtain ⟨x, dk, rfl, hx, hxi, hkq, hds, S1, HQ⟩ := hrel
        by_cases hlt2 : x < i1
        · have hltz2 : (x : Int) < (i1 : Int) := by omega
          go_wp2_with fail
          have ea2 : ((x : Int)).toNat = x := by omega
          have pa2 : (0 : Int) ≤ (x : Int) := by omega
          have ba2 : (x : Int) < (d.size : Int) := by omega
          have ra2 : IntKind.i64.wrap ((x : Int)) = (x : Int) := by rw [IntKind.wrap_i64]; omega
          have ec2 : ((x : Int) + 1).toNat = x + 1 := by omega
          have pc2 : (0 : Int) ≤ (x : Int) + 1 := by omega
          have bc2 : (x : Int) + 1 < (d.size : Int) := by omega
          have rc2 : IntKind.i64.wrap ((x : Int) + 1) = (x : Int) + 1 := by rw [IntKind.wrap_i64]; omega
          have S2 : Aside (SWK enc k w0 blk off (swp dk (x) (x + 1)) ((wr.drew.setCells blk (off + (x) * k) (enc dk[x + 1]!)).setCells blk (off + (x + 1) * k) (enc dk[x]!))) := S1.out.swapped R (x) (x + 1) (by omega) (by omega)
          have l2a := S1.out.ld1 R (by omega) P (x) (by omega)
          have l2b := S1.out.ld1 R (by omega) P (x + 1) (by omega)
          have s2a := S1.out.st1 R (by omega) P (x) (by omega) dk[x + 1]!
          have s2b := S1.out.st2 R (by omega) P (x) (x + 1) (by omega) (by omega) dk[x + 1]! dk[x]!
          have n2a : (enc dk[x]!).length = k := R.hk _
          have n2b : (enc dk[x + 1]!).length = k := R.hk _
          generalize enc dk[x]! = cI2 at S2 l2a s2b n2a
          generalize enc dk[x + 1]! = cJ2 at S2 l2b s2a s2b n2b
          clear S1
          go_wp2_with fail
          go_big_region_o
          clear l2a l2b s2a s2b
          generalize (wr.drew.setCells blk (off + (x) * k) cJ2).setCells blk (off + (x + 1) * k) cI2 = w2 at S2 ⊢
          go_wp2
          go_roundg (i1 - (x + 1))
          case measure => omega
          case rel => exact ⟨x + 1, swp dk x (x + 1), by go_num, by omega, by omega, Nat.le_refl _, by rw [size_swp]; exact hds, S2, (show Hid _ from ⟨HQ.out.1.right hx (by omega), permIn_trans _ _ _ _ _ HQ.out.2 (swp_permIn dk a b x (x + 1) (by omega) (by omega) (by omega) (by omega) (by omega))⟩)⟩
        · obtain rfl : x = i1 := by omega
          have hx1 : x + 1 = i := by omega
          go_wp2
          (try simp only [Exit.inBlock, Exit.then]); refine bodyPost_ret (results_none rfl _ _ _) rfl ?_
          refine ⟨rfl, dk, S1.out, HQ.out.2, ?_⟩
          exact merge_head hS (by rw [← H1.out]; exact HP.out.right) hb (by omega) hj (by rw [← H1.out]; exact HE.out.1) HE.out.2 (by rw [← hx1]; exact HQ.out.1)

set_option maxHeartbeats 8000000 in
set_option maxRecDepth 1000000 in
theorem symLastS (L : PL P) (k : Nat) (aE : ∀ w, (isAgg 27).run P w = .ok true w) (zE : ∀ w, (Go.sizeOf 27).run P w = .ok k w) (enc : α → List Value) (cf : α → α → Int) (tag : α → Nat) (hS : SWO (ltOf cf)) (g : Nat) (cb : Array Value) (blk off cap a m b : Nat) (d0 d : Array α) (w0 w : World)
    (eg : ∀ args w, (callFunc g args).run P w = .ok (.enter g args) w) (hcmp : CmpLays P g cb enc k cf blk off d0.size w0) (R : RowK enc k w0 blk off d0) (hs : d0.size = d.size) (S : SWK enc k w0 blk off d w) (ham : a < m) (hmb : m < b) (hb : b ≤ d.size) (hsz : d.size < 2305843009213693952) (hp : Pre (ltOf cf) tag d a m b) (h1 : b = m + 1) (h2 : a + 1 < m) :
    Calls P 29 #[.slice (some ⟨blk, off, none⟩) d.size cap, .int .i64 a, .int .i64 m, .int .i64 b, .func (.func g) #[] cb] w fun e w' => e = .returned (.tuple #[]) ∧ ∃ d', SWK enc k w0 blk off d' w' ∧ Merged (ltOf cf) tag d d' a b := by
  have mixed := L.mixed; have t0 := L.t0; have a0 := L.a0; have z0 := L.z0; have v0 := L.v0; have t3 := L.t3; have a3 := L.a3; have z3 := L.z3; have v3 := L.v3; have t4 := L.t4; have a4 := L.a4; have z4 := L.z4; have v4 := L.v4; have tS := L.tS; have aS := L.aS; have zS := L.zS; have vS := L.vS; have tF := L.tF; have aF := L.aF; have zF := L.zF; have vF := L.vF; have tU := L.tU; have aU := L.aU; have zU := L.zU; have vU := L.vU
  have FG := L.fSym
  have HC : Aside _ := hcmp
  have S0 : Aside (SWK enc k w0 blk off d w) := S
  have HP : Aside _ := hp
  clear hcmp S hp L
  have mb : (b : Int) - (m : Int) = 1 := by omega
  have H1 : Hid (b = m + 1) := h1
  clear h1
  obtain ⟨q, hq⟩ : ∃ x : Nat, (m : Int) - (a : Int) = (x : Int) := ⟨m - a, by omega⟩
  have q1 : ((q : Int) == 1) = false := by simp; omega
  have q2 : ¬ (q : Int) = 1 := by omega
  go_enter FG, Tryd.ntmps29
  go_wp2
  go_loopg [14, 15] (m - a) (fun kx s14 s15 wr => ∃ (i j : Nat), s14 = .int .i64 i ∧ s15 = .int .i64 j ∧ a ≤ i ∧ i ≤ j ∧ j ≤ m ∧ j - i ≤ kx ∧ Aside (SWK enc k w0 blk off d wr) ∧ Hid ((i = a ∨ Sb (ltOf cf) tag d[i - 1]! d[m]!) ∧ (j = m ∨ Sb (ltOf cf) tag d[m]! d[j]!)))
  case atStart => exact ⟨a, m, rfl, rfl, Nat.le_refl _, by omega, Nat.le_refl _, by omega, S0, (show Hid _ from ⟨.inl rfl, .inl rfl⟩)⟩
  case round =>
    clear S0
    obtain ⟨i, j, rfl, rfl, hi, hij, hj, hkx, S1, HE⟩ := hrel
    by_cases hlt : i < j
    · have hltz : (i : Int) < (j : Int) := by omega
      obtain ⟨h, hhz⟩ : ∃ h : Nat, ((i : Int) + (j : Int)) / 2 = (h : Int) := ⟨(i + j) / 2, by omega⟩
      have hh1 : i ≤ h := by omega
      have hh2 : h < j := by omega
      cases hL : ltOf cf d[m]! d[h]! with
      | true =>
        have ea3y : ((m : Int)).toNat = m := by omega
        have pa3y : (0 : Int) ≤ (m : Int) := by omega
        have ba3y : (m : Int) < (d.size : Int) := by omega
        have ra3y : IntKind.i64.wrap ((m : Int)) = (m : Int) := by rw [IntKind.wrap_i64]; omega
        have ec3y : ((h : Int)).toNat = h := by omega
        have pc3y : (0 : Int) ≤ (h : Int) := by omega
        have bc3y : (h : Int) < (d.size : Int) := by omega
        have rc3y : IntKind.i64.wrap ((h : Int)) = (h : Int) := by rw [IntKind.wrap_i64]; omega
        obtain ⟨x3y, hx3y⟩ : ∃ x, x = d[m]! := ⟨_, rfl⟩
        obtain ⟨y3y, hy3y⟩ : ∃ x, x = d[h]! := ⟨_, rfl⟩
        have l3ya := S1.out.ld R (by omega) P (m) (by omega)
        have l3yb := S1.out.ld R (by omega) P (h) (by omega)
        rw [← hx3y] at l3ya
        rw [← hy3y] at l3yb
        have hc3y := S1.out.cmp HC.out (by omega) x3y y3y
        have hv3y : cf x3y y3y < 0 := by rw [hx3y, hy3y]; exact of_decide_eq_true hL
        have hd3y : decide (cf x3y y3y < 0) = true := decide_eq_true hv3y
        clear hx3y hy3y
        go_wp2_with fail
        go_quiet_grown (first | (go_at_fn g; refine Calls.grown_of (hc3y _ _)))
        have S2 : Aside (SWK enc k w0 blk off d (grow (wr.drewN nq) osq)) := S1.out.grown nq osq
        clear l3ya l3yb hc3y S1
        generalize grow (wr.drewN nq) osq = w2 at S2 ⊢
        clear nq osq
        go_wp2
        go_roundg (h - i)
        case measure => omega
        case rel => exact ⟨i, h, rfl, rfl, hi, hh1, by omega, Nat.le_refl _, S2, (show Hid _ from ⟨HE.out.1, .inr (Sb.of_yes hL)⟩)⟩
      | false =>
        have ea3n : ((m : Int)).toNat = m := by omega
        have pa3n : (0 : Int) ≤ (m : Int) := by omega
        have ba3n : (m : Int) < (d.size : Int) := by omega
        have ra3n : IntKind.i64.wrap ((m : Int)) = (m : Int) := by rw [IntKind.wrap_i64]; omega
        have ec3n : ((h : Int)).toNat = h := by omega
        have pc3n : (0 : Int) ≤ (h : Int) := by omega
        have bc3n : (h : Int) < (d.size : Int) := by omega
        have rc3n : IntKind.i64.wrap ((h : Int)) = (h : Int) := by rw [IntKind.wrap_i64]; omega
        obtain ⟨x3n, hx3n⟩ : ∃ x, x = d[m]! := ⟨_, rfl⟩
        obtain ⟨y3n, hy3n⟩ : ∃ x, x = d[h]! := ⟨_, rfl⟩
        have l3na := S1.out.ld R (by omega) P (m) (by omega)
        have l3nb := S1.out.ld R (by omega) P (h) (by omega)
        rw [← hx3n] at l3na
        rw [← hy3n] at l3nb
        have hc3n := S1.out.cmp HC.out (by omega) x3n y3n
        have hv3n : ¬ cf x3n y3n < 0 := by rw [hx3n, hy3n]; exact of_decide_eq_false hL
        have hd3n : decide (cf x3n y3n < 0) = false := decide_eq_false hv3n
        clear hx3n hy3n
        go_wp2_with fail
        go_quiet_grown (first | (go_at_fn g; refine Calls.grown_of (hc3n _ _)))
        have S2 : Aside (SWK enc k w0 blk off d (grow (wr.drewN nq) osq)) := S1.out.grown nq osq
        clear l3na l3nb hc3n S1
        generalize grow (wr.drewN nq) osq = w2 at S2 ⊢
        clear nq osq
        go_wp2
        go_roundg (j - (h + 1))
        case measure => omega
        case rel => exact ⟨h + 1, j, by go_num, rfl, by omega, by omega, hj, Nat.le_refl _, S2, (show Hid _ from ⟨.inr (by rw [Nat.add_sub_cancel]; exact Sb.of_no hL (HP.out.tags h m (by omega) (by omega) (Nat.le_refl _) (by omega))), HE.out.2⟩)⟩
    · obtain rfl : i = j := by omega
      go_wp2
      go_loopg [17] (m - a) (fun kx s17 wr => ∃ (x : Nat) (dk : Array α), s17 = .int .i64 x ∧ i ≤ x ∧ x ≤ m ∧ x - i ≤ kx ∧ dk.size = d.size ∧ Aside (SWK enc k w0 blk off dk wr) ∧ Hid (Is d dk (rotF x m (m + 1)) ∧ PermIn a b d dk))
      case atStart => exact ⟨m, d, rfl, by omega, Nat.le_refl _, by omega, rfl, S1, (show Hid _ from ⟨Is.noturn (by omega) (by omega) (by omega), permIn_refl d a b⟩)⟩
      case round =>
        clear S1
        obtain ⟨x, dk, rfl, hx, hxi, hkq, hds, S1, HQ⟩ := hrel
        by_cases hlt2 : i < x
        · have hltz2 : (i : Int) < (x : Int) := by omega
          go_wp2_with fail
          have ea4 : ((x : Int)).toNat = x := by omega
          have pa4 : (0 : Int) ≤ (x : Int) := by omega
          have ba4 : (x : Int) < (d.size : Int) := by omega
          have ra4 : IntKind.i64.wrap ((x : Int)) = (x : Int) := by rw [IntKind.wrap_i64]; omega
          have ec4 : ((x : Int) - 1).toNat = x - 1 := by omega
          have pc4 : (0 : Int) ≤ (x : Int) - 1 := by omega
          have bc4 : (x : Int) - 1 < (d.size : Int) := by omega
          have rc4 : IntKind.i64.wrap ((x : Int) - 1) = (x : Int) - 1 := by rw [IntKind.wrap_i64]; omega
          have S2 : Aside (SWK enc k w0 blk off (swp dk (x) (x - 1)) ((wr.drew.setCells blk (off + (x) * k) (enc dk[x - 1]!)).setCells blk (off + (x - 1) * k) (enc dk[x]!))) := S1.out.swapped R (x) (x - 1) (by omega) (by omega)
          have l4a := S1.out.ld1 R (by omega) P (x) (by omega)
          have l4b := S1.out.ld1 R (by omega) P (x - 1) (by omega)
          have s4a := S1.out.st1 R (by omega) P (x) (by omega) dk[x - 1]!
          have s4b := S1.out.st2 R (by omega) P (x) (x - 1) (by omega) (by omega) dk[x - 1]! dk[x]!
          have n4a : (enc dk[x]!).length = k := R.hk _
          have n4b : (enc dk[x - 1]!).length = k := R.hk _
          generalize enc dk[x]! = cI4 at S2 l4a s4b n4a
          generalize enc dk[x - 1]! = cJ4 at S2 l4b s4a s4b n4b
          clear S1
          go_wp2_with fail
          go_big_region_o
          clear l4a l4b s4a s4b
          generalize (wr.drew.setCells blk (off + (x) * k) cJ4).setCells blk (off + (x - 1) * k) cI4 = w2 at S2 ⊢
          go_wp2
          go_roundg (x - 1 - i)
          case measure => omega
          case rel => exact ⟨x - 1, swp dk x (x - 1), by congr 1; omega, by omega, by omega, Nat.le_refl _, by rw [size_swp]; exact hds, S2, (show Hid _ from ⟨HQ.out.1.left (by omega) hxi (by omega), permIn_trans _ _ _ _ _ HQ.out.2 (swp_permIn dk a b x (x - 1) (by omega) (by omega) (by omega) (by omega) (by omega))⟩)⟩
        · obtain rfl : i = x := by omega
          go_wp2
          (try simp only [Exit.inBlock, Exit.then]); refine bodyPost_ret (results_none rfl _ _ _) rfl ?_
          refine ⟨rfl, dk, S1.out, HQ.out.2, ?_⟩
          rw [H1.out]; exact merge_last hS HP.out.left (by omega) hi hj HE.out.1 HE.out.2 HQ.out.1
end Go.Proofs.YtjocnhkapiiblaaDoor
