/- slices.symMergeCmpFunc at rows of structs, where many stand on both sides: the middle lies at the seam, or behind it. -/
import Derived.Test.YtjocnhkapiiblaaDoorLibAA
namespace Go.Proofs.YtjocnhkapiiblaaDoor
open Go.Shelf Go.RowKit Go.Lib Go.Sort
set_option linter.unusedVariables false
variable {P : Program} {α : Type} [Inhabited α]

set_option maxHeartbeats 8000000 in
set_option maxRecDepth 1000000 in
theorem symMid2S (L : PL P) (k : Nat) (aE : ∀ w, (isAgg 27).run P w = .ok true w) (zE : ∀ w, (Go.sizeOf 27).run P w = .ok k w) (enc : α → List Value) (cf : α → α → Int) (tag : α → Nat) (hS : SWO (ltOf cf)) (g : Nat) (cb : Array Value) (blk off cap a m b : Nat) (d0 d : Array α) (w0 w : World)
    (eg : ∀ args w, (callFunc g args).run P w = .ok (.enter g args) w) (hcmp : CmpLays P g cb enc k cf blk off d0.size w0) (R : RowK enc k w0 blk off d0) (hs : d0.size = d.size) (S : SWK enc k w0 blk off d w) (ham : a < m) (hmb : m < b) (hb : b ≤ d.size) (hsz : d.size < 2305843009213693952) (hp : Pre (ltOf cf) tag d a m b) (h1 : a + 1 < m) (h2 : m + 1 < b) (mid : Nat) (hmid : (a + b) / 2 = mid) (hup : m ≤ mid)
    (REC : ∀ (a' m' b' : Nat) (d' : Array α) (w' : World), a' < m' → m' < b' → b' ≤ b → b' - a' < b - a → d'.size = d.size → SWK enc k w0 blk off d' w' → Pre (ltOf cf) tag d' a' m' b' → Calls P 29 #[.slice (some ⟨blk, off, none⟩) d.size cap, .int .i64 a', .int .i64 m', .int .i64 b', .func (.func g) #[] cb] w' fun e w2 => e = .returned (.tuple #[]) ∧ ∃ d2, SWK enc k w0 blk off d2 w2 ∧ Merged (ltOf cf) tag d' d2 a' b') :
    Calls P 29 #[.slice (some ⟨blk, off, none⟩) d.size cap, .int .i64 a, .int .i64 m, .int .i64 b, .func (.func g) #[] cb] w fun e w' => e = .returned (.tuple #[]) ∧ ∃ d', SWK enc k w0 blk off d' w' ∧ Merged (ltOf cf) tag d d' a b := by
  have mixed := L.mixed; have t0 := L.t0; have a0 := L.a0; have z0 := L.z0; have v0 := L.v0; have t3 := L.t3; have a3 := L.a3; have z3 := L.z3; have v3 := L.v3; have t4 := L.t4; have a4 := L.a4; have z4 := L.z4; have v4 := L.v4; have tS := L.tS; have aS := L.aS; have zS := L.zS; have vS := L.vS; have tF := L.tF; have aF := L.aF; have zF := L.zF; have vF := L.vF; have tU := L.tU; have aU := L.aU; have zU := L.zU; have vU := L.vU
  have FG := L.fSym
  have HC : Aside _ := hcmp
  have S0 : Aside (SWK enc k w0 blk off d w) := S
  have HP : Aside _ := hp
  have eR : ∀ args w, (callFunc 35 args).run P w = .ok (.enter 35 args) w := enters_of L.fRot (by kernel_rfl) rfl
  have eY : ∀ args w, (callFunc 29 args).run P w = .ok (.enter 29 args) w := enters_of L.fSym (by kernel_rfl) rfl
  have HROT := fun (x y z : Nat) (wr : World) (S : Aside (SWK enc k w0 blk off d wr)) (h1 : x < y) (h2 : y < z) (h3 : z ≤ d.size) => rotateS L k aE zE enc g cb blk off cap x y z d0 d w0 wr R hs S.out h1 h2 h3 (by omega)
  have HR0 : Aside _ := HROT
  have REC0 : Aside _ := REC
  clear hcmp S hp L HROT REC
  obtain ⟨N, hN⟩ : ∃ x : Nat, (mid : Int) + (m : Int) = (x : Int) := ⟨mid + m, by omega⟩
  obtain ⟨p, hpp⟩ : ∃ x : Nat, (N : Int) - 1 = (x : Int) := ⟨N - 1, by omega⟩
  have hmz : ((a : Int) + (b : Int)) / 2 = (mid : Int) := by omega
  have hm1 : a < mid := by omega
  have hm2 : mid < b := by omega
  have hm3 : 2 * mid ≤ a + b := by omega
  have hm4 : a + b ≤ 2 * mid + 1 := by omega
  clear hmid
  obtain ⟨q, hq⟩ : ∃ x : Nat, (m : Int) - (a : Int) = (x : Int) := ⟨m - a, by omega⟩
  have q1 : ((q : Int) == 1) = false := by simp; omega
  have q2 : ¬ (q : Int) = 1 := by omega
  obtain ⟨u, hu⟩ : ∃ x : Nat, (b : Int) - (m : Int) = (x : Int) := ⟨b - m, by omega⟩
  have u1 : ((u : Int) == 1) = false := by simp; omega
  have u2 : ¬ (u : Int) = 1 := by omega
  have hz : ¬ (mid : Int) < (m : Int) := by omega
  go_enter FG, Tryd.ntmps29
  go_wp2
  go_loopg [20, 21] (b - a) (fun kx s20 s21 wr => ∃ (s r : Nat), s20 = .int .i64 s ∧ s21 = .int .i64 r ∧ a ≤ s ∧ s ≤ r ∧ r ≤ m ∧ r - s ≤ kx ∧ Aside (SWK enc k w0 blk off d wr) ∧ Hid ((s = a ∨ Sb (ltOf cf) tag d[s - 1]! d[N - s]!) ∧ (r = m ∨ Sb (ltOf cf) tag d[N - 1 - r]! d[r]!)))
  case atStart => exact ⟨a, m, rfl, rfl, Nat.le_refl _, by omega, Nat.le_refl _, by omega, S0, (show Hid _ from ⟨.inl rfl, .inl rfl⟩)⟩
  case round =>
    clear S0
    obtain ⟨s, r, rfl, rfl, hls, hsr, hrh, hkx, S1, HE⟩ := hrel
    by_cases hlt : s < r
    · have hltz : (s : Int) < (r : Int) := by omega
      obtain ⟨c, hcz⟩ : ∃ h : Nat, ((s : Int) + (r : Int)) / 2 = (h : Int) := ⟨(s + r) / 2, by omega⟩
      have hh1 : s ≤ c := by omega
      have hh2 : c < r := by omega
      obtain ⟨z, hz1⟩ : ∃ x : Nat, (p : Int) - (c : Int) = (x : Int) := ⟨p - c, by omega⟩
      have HZ : Hid (N - 1 - c = z) := by show _ = _; omega
      have hz2 : m ≤ z := by omega
      have hz3 : z < b := by omega
      have hz4 : c < m := by omega
      have hz5 : a ≤ c := by omega
      cases hL : ltOf cf d[z]! d[c]! with
      | true =>
        have ea5y : ((z : Int)).toNat = z := by omega
        have pa5y : (0 : Int) ≤ (z : Int) := by omega
        have ba5y : (z : Int) < (d.size : Int) := by omega
        have ra5y : IntKind.i64.wrap ((z : Int)) = (z : Int) := by rw [IntKind.wrap_i64]; omega
        have ec5y : ((c : Int)).toNat = c := by omega
        have pc5y : (0 : Int) ≤ (c : Int) := by omega
        have bc5y : (c : Int) < (d.size : Int) := by omega
        have rc5y : IntKind.i64.wrap ((c : Int)) = (c : Int) := by rw [IntKind.wrap_i64]; omega
        obtain ⟨x5y, hx5y⟩ : ∃ x, x = d[z]! := ⟨_, rfl⟩
        obtain ⟨y5y, hy5y⟩ : ∃ x, x = d[c]! := ⟨_, rfl⟩
        have l5ya := S1.out.ld R (by omega) P (z) (by omega)
        have l5yb := S1.out.ld R (by omega) P (c) (by omega)
        rw [← hx5y] at l5ya
        rw [← hy5y] at l5yb
        have hc5y := S1.out.cmp HC.out (by omega) x5y y5y
        have hv5y : cf x5y y5y < 0 := by rw [hx5y, hy5y]; exact of_decide_eq_true hL
        have hd5y : decide (cf x5y y5y < 0) = true := decide_eq_true hv5y
        clear hx5y hy5y
        go_wp2_with fail
        go_quiet_grown (first | (go_at_fn g; refine Calls.grown_of (hc5y _ _)))
        have S2 : Aside (SWK enc k w0 blk off d (grow (wr.drewN nq) osq)) := S1.out.grown nq osq
        clear l5ya l5yb hc5y S1
        generalize grow (wr.drewN nq) osq = w2 at S2 ⊢
        clear nq osq
        go_wp2
        go_roundg (c - s)
        case measure => omega
        case rel => exact ⟨s, c, rfl, rfl, hls, hh1, by omega, Nat.le_refl _, S2, (show Hid _ from ⟨HE.out.1, .inr (by rw [HZ.out]; exact Sb.of_yes hL)⟩)⟩
      | false =>
        have ea5n : ((z : Int)).toNat = z := by omega
        have pa5n : (0 : Int) ≤ (z : Int) := by omega
        have ba5n : (z : Int) < (d.size : Int) := by omega
        have ra5n : IntKind.i64.wrap ((z : Int)) = (z : Int) := by rw [IntKind.wrap_i64]; omega
        have ec5n : ((c : Int)).toNat = c := by omega
        have pc5n : (0 : Int) ≤ (c : Int) := by omega
        have bc5n : (c : Int) < (d.size : Int) := by omega
        have rc5n : IntKind.i64.wrap ((c : Int)) = (c : Int) := by rw [IntKind.wrap_i64]; omega
        obtain ⟨x5n, hx5n⟩ : ∃ x, x = d[z]! := ⟨_, rfl⟩
        obtain ⟨y5n, hy5n⟩ : ∃ x, x = d[c]! := ⟨_, rfl⟩
        have l5na := S1.out.ld R (by omega) P (z) (by omega)
        have l5nb := S1.out.ld R (by omega) P (c) (by omega)
        rw [← hx5n] at l5na
        rw [← hy5n] at l5nb
        have hc5n := S1.out.cmp HC.out (by omega) x5n y5n
        have hv5n : ¬ cf x5n y5n < 0 := by rw [hx5n, hy5n]; exact of_decide_eq_false hL
        have hd5n : decide (cf x5n y5n < 0) = false := decide_eq_false hv5n
        clear hx5n hy5n
        go_wp2_with fail
        go_quiet_grown (first | (go_at_fn g; refine Calls.grown_of (hc5n _ _)))
        have S2 : Aside (SWK enc k w0 blk off d (grow (wr.drewN nq) osq)) := S1.out.grown nq osq
        clear l5na l5nb hc5n S1
        generalize grow (wr.drewN nq) osq = w2 at S2 ⊢
        clear nq osq
        go_wp2
        go_roundg (r - (c + 1))
        case measure => omega
        case rel => exact ⟨c + 1, r, by go_num, rfl, by omega, by omega, hrh, Nat.le_refl _, S2, (show Hid _ from ⟨.inr (by rw [Nat.add_sub_cancel, show N - (c + 1) = z from by have := HZ.out; omega]; exact Sb.of_no hL (HP.out.tags c z hz5 hz4 hz2 hz3)), HE.out.2⟩)⟩
    · obtain rfl : s = r := by omega
      obtain ⟨e, he⟩ : ∃ x : Nat, (N : Int) - (s : Int) = (x : Int) := ⟨N - s, by omega⟩
      have hsm : s ≤ m := by omega
      have hme : m ≤ e := by omega
      have heb : e ≤ b := by omega
      have hes : Hid (mid = s + (e - m)) := by show _ = _; omega
      have has : a ≤ s := by omega
      have eN : N - s = e := by omega
      have eN2 : N - 1 - s = e - 1 := by omega
      have TURN : Aside _ := fun (d1 : Array α) (hI : Is d d1 (rotF s m e)) => merge_turn hS HP.out has hsm hme heb hb hes.out (HE.out.1.elim (fun h => .inl h) (fun h => .inr (.inr (by rw [← eN]; exact h)))) (HE.out.2.elim (fun h => .inl h) (fun h => .inr (.inr (by rw [← eN2]; exact h)))) hI
      clear hkx eN eN2 HE
      by_cases k1 : s < m
      · by_cases k2 : a < s
        · skip
          have f0 : (s : Int) < (m : Int) := by omega
          have f1 : (m : Int) < (e : Int) := by omega
          have f2 : (a : Int) < (s : Int) := by omega
          have f3 : (s : Int) < (mid : Int) := by omega
          have f4 : (mid : Int) < (e : Int) := by omega
          have f5 : (e : Int) < (b : Int) := by omega
          have H1 := HR0.out s m e wr S1 (by omega) (by omega) (by omega)
          go_wp2_with (first
            | (go_at_fn 35; refine H1.mono ?_; rintro e1 w1 ⟨rfl, d1, S2, hI, hP⟩; have PR : Aside (PermIn a b d d1) := (permIn_mono _ _ s e a b (by omega) heb hb hP); have z1 : d1.size = d.size := hI.1; have S3 : Aside _ := S2; clear S2 hP; obtain ⟨P1, P2, PC⟩ := TURN.out d1 hI; have PC0 : Aside _ := PC; clear PC; have RL := REC0.out a s mid d1 w1 (by omega) (by omega) (by omega) (by omega) z1 S3.out P1; have P20 : Aside _ := P2; clear P1 P2; clear hI)
            | (go_at_fn 29; refine RL.mono ?_; rintro e2 w2 ⟨rfl, d2, S4, hM1⟩; clear RL; have P2 := P20.out; have z2 : d2.size = d.size := hM1.perm.1.trans z1; have S5 : Aside _ := S4; clear S4; have RR := REC0.out mid e b d2 w2 (by omega) (by omega) (by omega) (by omega) z2 S5.out (P2.congr (by omega) (by omega) (fun i hi hj => hM1.perm.2.1 i (.inr hi))); have M1 : Aside _ := hM1; clear hM1; clear P2)
            | (go_at_fn 29; refine RR.mono ?_; rintro e3 w3 ⟨rfl, d3, S6, hM2⟩; have S7 : Aside _ := S6; have M2 : Aside _ := hM2; clear S6 hM2 RR))
          go_end0
          exact ⟨rfl, d3, S7.out, Merged.behind PR.out (merge_join (by omega) (by omega) (by omega) PC0.out M1.out M2.out)⟩
        · by_cases k3 : e < b
          · skip
            have f0 : (s : Int) < (m : Int) := by omega
            have f1 : (m : Int) < (e : Int) := by omega
            have f2 : ¬ (a : Int) < (s : Int) := by omega
            have f3 : (mid : Int) < (e : Int) := by omega
            have f4 : (e : Int) < (b : Int) := by omega
            have H1 := HR0.out s m e wr S1 (by omega) (by omega) (by omega)
            go_wp2_with (first
              | (go_at_fn 35; refine H1.mono ?_; rintro e1 w1 ⟨rfl, d1, S2, hI, hP⟩; have PR : Aside (PermIn a b d d1) := (permIn_mono _ _ s e a b (by omega) heb hb hP); have z1 : d1.size = d.size := hI.1; have S3 : Aside _ := S2; clear S2 hP; obtain ⟨P1, P2, PC⟩ := TURN.out d1 hI; have PC0 : Aside _ := PC; clear PC; have hM1 : Merged (ltOf cf) tag d1 d1 a mid := Merged.refl (P1.right.part (by omega) (Nat.le_refl _)); have RR := REC0.out mid e b d1 w1 (by omega) (by omega) (by omega) (by omega) z1 S3.out (P2.congr (by omega) (by omega) (fun i hi hj => hM1.perm.2.1 i (.inr hi))); have M1 : Aside _ := hM1; clear hM1 P1 P2; clear hI)
              | (go_at_fn 29; refine RR.mono ?_; rintro e3 w3 ⟨rfl, d3, S6, hM2⟩; have S7 : Aside _ := S6; have M2 : Aside _ := hM2; clear S6 hM2 RR))
            go_end0
            exact ⟨rfl, d3, S7.out, Merged.behind PR.out (merge_join (by omega) (by omega) (by omega) PC0.out M1.out M2.out)⟩
          · skip
            have f0 : (s : Int) < (m : Int) := by omega
            have f1 : (m : Int) < (e : Int) := by omega
            have f2 : ¬ (a : Int) < (s : Int) := by omega
            have f3 : (mid : Int) < (e : Int) := by omega
            have f4 : ¬ (e : Int) < (b : Int) := by omega
            have H1 := HR0.out s m e wr S1 (by omega) (by omega) (by omega)
            go_wp2_with (first
              | (go_at_fn 35; refine H1.mono ?_; rintro e1 w1 ⟨rfl, d1, S2, hI, hP⟩; have PR : Aside (PermIn a b d d1) := (permIn_mono _ _ s e a b (by omega) heb hb hP); have z1 : d1.size = d.size := hI.1; have S3 : Aside _ := S2; clear S2 hP; obtain ⟨P1, P2, PC⟩ := TURN.out d1 hI; have PC0 : Aside _ := PC; clear PC; have hM1 : Merged (ltOf cf) tag d1 d1 a mid := Merged.refl (P1.right.part (by omega) (Nat.le_refl _)); have hM2 : Merged (ltOf cf) tag d1 d1 mid b := Merged.refl ((P2.left.part (Nat.le_refl _) (by omega)).congr (fun i hi hj => hM1.perm.2.1 i (.inr (by omega)))); have M1 : Aside _ := hM1; have M2 : Aside _ := hM2; clear hM1 hM2 P1 P2; clear hI))
            go_end0
            exact ⟨rfl, d1, S3.out, Merged.behind PR.out (merge_join (by omega) (by omega) (by omega) PC0.out M1.out M2.out)⟩
      · by_cases k2 : m < mid
        · skip
          have f0 : ¬ (s : Int) < (m : Int) := by omega
          have f1 : (a : Int) < (s : Int) := by omega
          have f2 : (s : Int) < (mid : Int) := by omega
          have f3 : ¬ (mid : Int) < (e : Int) := by omega
          obtain ⟨d1, hd1⟩ : ∃ x, x = d := ⟨d, rfl⟩
          have hI : Is d d1 (rotF s m e) := by rw [hd1]; exact Is.noturn hsm hme (by omega)
          have PR : Aside (PermIn a b d d1) := by show PermIn a b d d1; rw [hd1]; exact permIn_refl d a b
          have z1 : d1.size = d.size := by rw [hd1]
          have S3 : Aside (SWK enc k w0 blk off d1 wr) := by rw [hd1]; exact S1
          obtain ⟨P1, P2, PC⟩ := TURN.out d1 hI
          have PC0 : Aside _ := PC
          clear PC
          have RL := REC0.out a s mid d1 wr (by omega) (by omega) (by omega) (by omega) z1 S3.out P1
          have P20 : Aside _ := P2
          clear P1 P2
          clear hI hd1
          go_wp2_with (first
            | (go_at_fn 29; refine RL.mono ?_; rintro e2 w2 ⟨rfl, d2, S4, hM1⟩; clear RL; have P2 := P20.out; have z2 : d2.size = d.size := hM1.perm.1.trans z1; have S5 : Aside _ := S4; clear S4; have hM2 : Merged (ltOf cf) tag d2 d2 mid b := Merged.refl ((P2.right.part (by omega) (Nat.le_refl _)).congr (fun i hi hj => hM1.perm.2.1 i (.inr (by omega)))); have M1 : Aside _ := hM1; have M2 : Aside _ := hM2; clear hM1 hM2; clear P2))
          go_end0
          exact ⟨rfl, d2, S5.out, Merged.behind PR.out (merge_join (by omega) (by omega) (by omega) PC0.out M1.out M2.out)⟩
        · skip
          have f0 : ¬ (s : Int) < (m : Int) := by omega
          have f1 : (a : Int) < (s : Int) := by omega
          have f2 : ¬ (s : Int) < (mid : Int) := by omega
          have f3 : ¬ (mid : Int) < (e : Int) := by omega
          obtain ⟨d1, hd1⟩ : ∃ x, x = d := ⟨d, rfl⟩
          have hI : Is d d1 (rotF s m e) := by rw [hd1]; exact Is.noturn hsm hme (by omega)
          have PR : Aside (PermIn a b d d1) := by show PermIn a b d d1; rw [hd1]; exact permIn_refl d a b
          have z1 : d1.size = d.size := by rw [hd1]
          have S3 : Aside (SWK enc k w0 blk off d1 wr) := by rw [hd1]; exact S1
          obtain ⟨P1, P2, PC⟩ := TURN.out d1 hI
          have PC0 : Aside _ := PC
          clear PC
          have hM1 : Merged (ltOf cf) tag d1 d1 a mid := Merged.refl (P1.left.part (Nat.le_refl _) (by omega))
          have hM2 : Merged (ltOf cf) tag d1 d1 mid b := Merged.refl ((P2.right.part (by omega) (Nat.le_refl _)).congr (fun i hi hj => hM1.perm.2.1 i (.inr (by omega))))
          have M1 : Aside _ := hM1
          have M2 : Aside _ := hM2
          clear hM1 hM2 P1 P2
          clear hI hd1
          go_wp2
          go_end0
          exact ⟨rfl, d1, S3.out, Merged.behind PR.out (merge_join (by omega) (by omega) (by omega) PC0.out M1.out M2.out)⟩
end Go.Proofs.YtjocnhkapiiblaaDoor
