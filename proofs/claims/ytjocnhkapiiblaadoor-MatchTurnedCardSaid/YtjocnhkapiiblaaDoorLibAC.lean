/- Contracts and plain words that the laws' proofs stand on, put together. -/
import Derived.Test.YtjocnhkapiiblaaDoorLibAB
import Derived.Lib.ItoaLen
import Derived.Lib.AppendIntMem
import Derived.Test.YtjocnhkapiiblaaDoorStabB
import Derived.Test.YtjocnhkapiiblaaDoorStabC
import Derived.Test.YtjocnhkapiiblaaDoorStabD
import Derived.Test.YtjocnhkapiiblaaDoorLibAA
import Derived.Test.YtjocnhkapiiblaaDoorShelf
/- Blanks at the ends of a text: what is left without them. No program in it. -/
namespace Go.Proofs.YtjocnhkapiiblaaDoor
set_option linter.unusedVariables false

end Go.Proofs.YtjocnhkapiiblaaDoor

/- Decimal digits of a number: plain, with no program in it. -/
namespace Go.Proofs.YtjocnhkapiiblaaDoor
open Go.RowKit
set_option linter.unusedVariables false

/-- What the library's functions read of its variables: the table that numerals are written by; the number that a search asks for. -/
structure PTab (P : Program) (w : World) : Prop where
  tab : Lib.TabIs P w "internal/strconv.uint64pow10" .u64 Lib.pow10Tab
  most : ∀ g, P.globalNamed "internal/bytealg.MaxLen" = some g → ∃ m, w.cell? ⟨g, 0, none⟩ = some (.int .i64 m)
theorem PTab.below {P : Program} {w w' : World} (h : PTab P w) (hb : Below w.heap.size w w') : PTab P w' := by
  refine ⟨?_, fun g hg => ?_⟩
  · have h := h.tab
    unfold Lib.TabIs at h ⊢
    unfold World.var? at h ⊢
    cases hg : P.globalNamed "internal/strconv.uint64pow10" with
    | none => rw [hg] at h; cases h
    | some g =>
      rw [hg] at h
      simp only [Option.bind_some] at h ⊢
      have hlt : g < w.heap.size := by
        rcases Nat.lt_or_ge g w.heap.size with h1 | h1
        · exact h1
        · rw [Array.getElem?_eq_none h1] at h; cases h
      rw [hb.block g hlt]
      exact h
  · obtain ⟨m, hm⟩ := h.most g hg
    have hlt : g < w.heap.size := by
      rcases Nat.lt_or_ge g w.heap.size with h1 | h1
      · exact h1
      · unfold World.cell? at hm
        rw [Array.getElem?_eq_none h1] at hm; cases hm
    exact ⟨m, (hb.cell hlt).trans hm⟩

end Go.Proofs.YtjocnhkapiiblaaDoor

/- slices.symMergeCmpFunc, stableCmpFunc and SortStableFunc at rows of structs: what is sorted is in order, and what is alike stands as it stood. -/
namespace Go.Proofs.YtjocnhkapiiblaaDoor
open Go.Shelf Go.RowKit Go.Lib Go.Sort
set_option linter.unusedVariables false
variable {P : Program} {α : Type} [Inhabited α]

theorem symMergeS (L : PL P) (k : Nat) (aE : ∀ w, (isAgg 27).run P w = .ok true w) (zE : ∀ w, (Go.sizeOf 27).run P w = .ok k w) (enc : α → List Value) (cf : α → α → Int) (tag : α → Nat) (hS : SWO (ltOf cf)) (g : Nat) (cb : Array Value) (blk off cap : Nat) (d0 : Array α) (w0 : World)
    (eg : ∀ args w, (callFunc g args).run P w = .ok (.enter g args) w) (hcmp : CmpLays P g cb enc k cf blk off d0.size w0) (R : RowK enc k w0 blk off d0) (hsz : d0.size < 2305843009213693952) :
    ∀ (N a m b : Nat) (d : Array α) (w : World), b - a ≤ N → d0.size = d.size → SWK enc k w0 blk off d w → a < m → m < b → b ≤ d.size → Pre (ltOf cf) tag d a m b →
    Calls P 29 #[.slice (some ⟨blk, off, none⟩) d.size cap, .int .i64 a, .int .i64 m, .int .i64 b, .func (.func g) #[] cb] w fun e w' => e = .returned (.tuple #[]) ∧ ∃ d', SWK enc k w0 blk off d' w' ∧ Merged (ltOf cf) tag d d' a b := by
  intro N
  induction N with
  | zero => intro a m b d w hN hs S ham hmb; omega
  | succ N ih =>
    intro a m b d w hN hs S ham hmb hb hp
    by_cases h1 : m = a + 1
    · exact symHeadS L k aE zE enc cf tag hS g cb blk off cap a m b d0 d w0 w eg hcmp R hs S ham hmb hb (by omega) hp h1
    by_cases h2 : b = m + 1
    · exact symLastS L k aE zE enc cf tag hS g cb blk off cap a m b d0 d w0 w eg hcmp R hs S ham hmb hb (by omega) hp h2 (by omega)
    have REC : ∀ (a' m' b' : Nat) (d' : Array α) (w' : World), a' < m' → m' < b' → b' ≤ b → b' - a' < b - a → d'.size = d.size → SWK enc k w0 blk off d' w' → Pre (ltOf cf) tag d' a' m' b' → Calls P 29 #[.slice (some ⟨blk, off, none⟩) d.size cap, .int .i64 a', .int .i64 m', .int .i64 b', .func (.func g) #[] cb] w' fun e w2 => e = .returned (.tuple #[]) ∧ ∃ d2, SWK enc k w0 blk off d2 w2 ∧ Merged (ltOf cf) tag d' d2 a' b' := by
      intro a' m' b' d' w' k1 k2 k3 k4 k5 k6 k7
      have := ih a' m' b' d' w' (by omega) (by omega) k6 k1 k2 (by omega) k7
      rw [k5] at this
      exact this
    by_cases hm : (a + b) / 2 < m
    · exact symMidS L k aE zE enc cf tag hS g cb blk off cap a m b d0 d w0 w eg hcmp R hs S ham hmb hb (by omega) hp (by omega) (by omega) _ rfl hm REC
    · exact symMid2S L k aE zE enc cf tag hS g cb blk off cap a m b d0 d w0 w eg hcmp R hs S ham hmb hb (by omega) hp (by omega) (by omega) _ rfl (by omega) REC

theorem insS (LI : Go.Proofs.SlLaysF0.n20 P Tryd.insItems_ren) (k : Nat) (aE : ∀ w, (isAgg 27).run P w = .ok true w) (zE : ∀ w, (Go.sizeOf 27).run P w = .ok k w) (enc : α → List Value) (cf : α → α → Int) (tag : α → Nat) (hS : SWO (ltOf cf)) (g : Nat) (cb : Array Value) (blk off cap a b : Nat) (d0 d : Array α) (w0 w : World)
    (eg : ∀ args w, (callFunc g args).run P w = .ok (.enter g args) w) (hcmp : CmpLays P g cb enc k cf blk off d0.size w0) (R : RowK enc k w0 blk off d0) (hs : d0.size = d.size) (S : SWK enc k w0 blk off d w) (hab : a ≤ b) (hb : b ≤ d.size) (hsz : d.size < 2305843009213693952) (ht : ∀ p q, a ≤ p → p < q → q < b → tag d[p]! < tag d[q]!) :
    Calls P 28 #[.slice (some ⟨blk, off, none⟩) d.size cap, .int .i64 a, .int .i64 b, .func (.func g) #[] cb] w fun e w' => e = .returned (.tuple #[]) ∧ ∃ d', SWK enc k w0 blk off d' w' ∧ Merged (ltOf cf) tag d d' a b := by
  have hm := insertion_asc (lt := ltOf cf) (tag := tag) hS hab hb ht
  have hC : CmpLays P g cb enc k cf blk off d.size w := fun m os dk hdk x y => by
    obtain ⟨n0, os0, rfl⟩ := S
    rw [sortWorldK_on enc k w0 blk off n0 m d dk os0 os R.hblk hdk]
    exact hcmp _ _ dk (by omega) x y
  have h := AnyQ.insertionSortCmpFunc LI k aE zE enc R.hk R.h1 cf g cb blk off cap a b d w eg hC (S.holds R.hblk R.hH hs.symm) (S.lt R.hblk) hab hb (by omega)
  change Calls P 28 _ w _ at h
  refine h.mono ?_
  rintro e w' ⟨rfl, n, os, rfl⟩
  exact ⟨rfl, _, S.on R.hblk n _ os hm.perm.1, hm⟩

set_option maxHeartbeats 8000000 in
set_option maxRecDepth 1000000 in
theorem stableS (L : PL P) (LI : Go.Proofs.SlLaysF0.n20 P Tryd.insItems_ren) (k : Nat) (aE : ∀ w, (isAgg 27).run P w = .ok true w) (zE : ∀ w, (Go.sizeOf 27).run P w = .ok k w) (enc : α → List Value) (cf : α → α → Int) (tag : α → Nat) (hS : SWO (ltOf cf)) (g : Nat) (cb : Array Value) (blk off cap n : Nat) (d : Array α) (w : World)
    (eg : ∀ args w, (callFunc g args).run P w = .ok (.enter g args) w) (hcmp : CmpLays P g cb enc k cf blk off d.size w) (R : RowK enc k w blk off d) (hn : d.size = n) (hsz : n < 1152921504606846976) (ht : ∀ p q, p < q → q < n → tag d[p]! < tag d[q]!) :
    Calls P 23 #[.slice (some ⟨blk, off, none⟩) n cap, .int .i64 n, .func (.func g) #[] cb] w fun e w' => e = .returned (.tuple #[]) ∧ ∃ d', SWK enc k w blk off d' w' ∧ Merged (ltOf cf) tag d d' 0 n := by
  have mixed := L.mixed; have t0 := L.t0; have a0 := L.a0; have z0 := L.z0; have v0 := L.v0; have t3 := L.t3; have a3 := L.a3; have z3 := L.z3; have v3 := L.v3; have t4 := L.t4; have a4 := L.a4; have z4 := L.z4; have v4 := L.v4; have tS := L.tS; have aS := L.aS; have zS := L.zS; have vS := L.vS; have tF := L.tF; have aF := L.aF; have zF := L.zF; have vF := L.vF
  have FG := L.fStable
  have eI : ∀ args w, (callFunc 28 args).run P w = .ok (.enter 28 args) w := enters_of L.fIns (by kernel_rfl) rfl
  have eY : ∀ args w, (callFunc 29 args).run P w = .ok (.enter 29 args) w := enters_of L.fSym (by kernel_rfl) rfl
  have HI0 : Aside _ := fun (x y : Nat) (dk : Array α) (wr : World) (S : Aside (SWK enc k w blk off dk wr)) (hd : dk.size = n) (h1 : x ≤ y) (h2 : y ≤ n) (h3 : ∀ p q, x ≤ p → p < q → q < y → tag dk[p]! < tag dk[q]!) => insS LI k aE zE enc cf tag hS g cb blk off cap x y d dk w wr eg hcmp R (by omega) S.out h1 (by omega) (by omega) h3
  have HY0 : Aside _ := fun (x m y : Nat) (dk : Array α) (wr : World) (S : Aside (SWK enc k w blk off dk wr)) (hd : dk.size = n) (h1 : x < m) (h2 : m < y) (h3 : y ≤ n) (hp : Pre (ltOf cf) tag dk x m y) => symMergeS L k aE zE enc cf tag hS g cb blk off cap d w eg hcmp R (by omega) (y - x) x m y dk wr (Nat.le_refl _) (by omega) S.out h1 h2 (by omega) hp
  have S0 : Aside (SWK enc k w blk off d w) := SWK.start R.hH
  have T0 : Aside _ := ht
  have Z0 : Hid (d.size = n) := hn
  clear hcmp L LI ht hn
  go_enter FG, Tryd.ntmps23
  go_wp2
  go_loopg [7, 8] n (fun kx s7 s8 wr => ∃ (x y : Nat) (dk : Array α), s7 = .int .i64 x ∧ s8 = .int .i64 y ∧ y = x + 20 ∧ x ≤ n ∧ n - x ≤ kx ∧ Aside (SWK enc k w blk off dk wr) ∧ Hid (dk.size = n ∧ Fin2 (ltOf cf) tag dk n 20 x ∧ PermIn 0 n d dk ∧ ∀ p q, x ≤ p → p < q → q < n → tag dk[p]! < tag dk[q]!))
  case atStart => exact ⟨0, 20, d, rfl, rfl, rfl, Nat.zero_le _, Nat.le_refl _, S0, (show Hid _ from ⟨Z0.out, Fin2.start d n 20, permIn_refl d 0 n, fun p q _ h1 h2 => T0.out p q h1 h2⟩)⟩
  case round =>
    clear S0 T0
    obtain ⟨x, y, dk, rfl, rfl, hxy, hx, hkx, S1, HE⟩ := hrel
    by_cases hlt : y ≤ n
    · have hltz : (y : Int) ≤ (n : Int) := by omega
      have H1 := HI0.out x y dk wr S1 HE.out.1 (by omega) hlt (fun p q h1 h2 h3 => HE.out.2.2.2 p q h1 h2 (by omega))
      rw [HE.out.1] at H1
      have HXY : Hid (y = x + 20) := hxy
      have hdec : n - y < n - x := by omega
      clear hxy
      go_wp2_with (go_at_fn 28; refine H1.mono ?_; rintro e w2 ⟨rfl, d2, S2, hM⟩)
      go_roundg (n - y)
      case measure => omega
      case rel =>
        refine ⟨y, y + 20, d2, rfl, by go_num, rfl, hlt, Nat.le_refl _, S2, (show Hid _ from ⟨hM.perm.1.trans HE.out.1, ?_, permIn_trans _ _ _ _ _ HE.out.2.2.1 (permIn_mono _ _ x y 0 n (Nat.zero_le _) hlt (by rw [HE.out.1]; exact Nat.le_refl _) hM.perm), fun p q h1 h2 h3 => ?_⟩)⟩
        · rw [HXY.out] at hM ⊢
          exact HE.out.2.1.step hM (by have := HXY.out; omega) (by rw [HE.out.1]; exact Nat.le_refl _) (fun i j h1 h2 h3 h4 => HE.out.2.2.2 i j h1 (by omega) h4)
        · rw [hM.perm.2.1 p (.inr h1), hM.perm.2.1 q (.inr (by omega))]
          exact HE.out.2.2.2 p q (by have := HXY.out; omega) h2 h3
    · have hltz : ¬ (y : Int) ≤ (n : Int) := by omega
      have H1 := HI0.out x n dk wr S1 HE.out.1 hx (Nat.le_refl _) HE.out.2.2.2
      rw [HE.out.1] at H1
      have HXY : Hid (n ≤ x + 20) := by show _ ≤ _; omega
      clear hxy
      go_wp2_with (go_at_fn 28; refine H1.mono ?_; rintro e w2 ⟨rfl, d2, S2, hM⟩)
      have HQ : Hid (d2.size = n ∧ Run (ltOf cf) tag d2 n 20 0 ∧ PermIn 0 n d d2) := ⟨hM.perm.1.trans HE.out.1, HE.out.2.1.last hM HXY.out, permIn_trans _ _ _ _ _ HE.out.2.2.1 (permIn_mono _ _ x n 0 n (Nat.zero_le _) (Nat.le_refl _) (by rw [HE.out.1]; exact Nat.le_refl _) hM.perm)⟩
      have S3 : Aside (SWK enc k w blk off d2 w2) := S2
      clear H1 S1 S2 hM HE HXY
      go_loopg [6] n (fun kx s6 wr => ∃ (bs : Nat) (dk : Array α), s6 = .int .i64 bs ∧ 0 < bs ∧ bs ≤ 2 * n + 20 ∧ n - bs ≤ kx ∧ Aside (SWK enc k w blk off dk wr) ∧ Hid (dk.size = n ∧ Run (ltOf cf) tag dk n bs 0 ∧ PermIn 0 n d dk))
      case atStart => exact ⟨20, d2, rfl, by omega, by omega, by omega, S3, HQ⟩
      case round =>
        clear S3 HQ
        obtain ⟨bs, dk, rfl, hb0, hb1, hkb, S1, HE⟩ := hrel
        by_cases hlb : bs < n
        · have hlbz : (bs : Int) < (n : Int) := by omega
          obtain ⟨b2, hb2⟩ : ∃ x : Nat, 2 * (bs : Int) = (x : Int) := ⟨2 * bs, by omega⟩
          have hb3 : (bs : Int) * 2 = (b2 : Int) := by omega
          have HB : Hid (b2 = 2 * bs) := by show _ = _; omega
          have hbb : bs < b2 := by omega
          have hbn : b2 < 2 * n := by omega
          go_wp2
          go_loopg [7, 8] n (fun kx s7 s8 wr2 => ∃ (x y : Nat) (dj : Array α), s7 = .int .i64 x ∧ s8 = .int .i64 y ∧ y = x + b2 ∧ x ≤ n ∧ n - x ≤ kx ∧ Aside (SWK enc k w blk off dj wr2) ∧ Hid (dj.size = n ∧ Fin2 (ltOf cf) tag dj n b2 x ∧ Run (ltOf cf) tag dj n bs x ∧ PermIn 0 n d dj))
          case atStart => exact ⟨0, b2, dk, rfl, rfl, by omega, Nat.zero_le _, Nat.le_refl _, S1, (show Hid _ from ⟨HE.out.1, Fin2.start dk n b2, HE.out.2.1, HE.out.2.2⟩)⟩
          case round =>
            clear S1 HE
            obtain ⟨x, y, dj, rfl, rfl, hxy, hx, hkx2, S1, HE⟩ := hrel
            obtain ⟨m, hm⟩ : ∃ z : Nat, (x : Int) + (bs : Int) = (z : Int) := ⟨x + bs, by omega⟩
            have HM : Hid (m = x + bs) := by show _ = _; omega
            have HXY : Hid (y = x + b2) := hxy
            by_cases hlt2 : y ≤ n
            · have hltz2 : (y : Int) ≤ (n : Int) := by omega
              have hpre : Pre (ltOf cf) tag dj x m y := by
                rw [HM.out]
                exact HE.out.2.2.1.pre hb0 (by omega) (by have := HXY.out; have := HB.out; omega)
              have H1 := HY0.out x m y dj wr S1 HE.out.1 (by omega) (by omega) hlt2 hpre
              rw [HE.out.1] at H1
              obtain ⟨y2, hy2⟩ : ∃ z : Nat, (y : Int) + (b2 : Int) = (z : Int) := ⟨y + b2, by omega⟩
              have HY : Hid (y2 = y + b2) := by show _ = _; omega
              have hyb : x + b2 ≤ n := by omega
              have hdec : n - y < n - x := by omega
              clear hxy hpre
              go_wp2_with (go_at_fn 29; refine H1.mono ?_; rintro e w2 ⟨rfl, d2, S2, hM⟩)
              go_roundg (n - y)
              case measure => omega
              case rel =>
                have hM' : Merged (ltOf cf) tag dj d2 x (x + b2) := by rw [← HXY.out]; exact hM
                have htwo := Run.two HE.out.2.2.1 hb0 (by rw [← HB.out]; exact hyb)
                rw [← HB.out] at htwo
                refine ⟨y, y2, d2, rfl, rfl, HY.out, hlt2, Nat.le_refl _, S2, (show Hid _ from ⟨hM.perm.1.trans HE.out.1, ?_, ?_, permIn_trans _ _ _ _ _ HE.out.2.2.2 (permIn_mono _ _ x y 0 n (Nat.zero_le _) hlt2 (by rw [HE.out.1]; exact Nat.le_refl _) hM.perm)⟩)⟩
                · rw [HXY.out]
                  exact HE.out.2.1.step hM' hyb (by rw [HE.out.1]; exact Nat.le_refl _) htwo.1
                · rw [HXY.out]
                  exact htwo.2.congr fun i hi => hM'.perm.2.1 i (.inr hi)
            · have hltz2 : ¬ (y : Int) ≤ (n : Int) := by omega
              by_cases hmn : m < n
              · have hmnz : (m : Int) < (n : Int) := by omega
                have hpre : Pre (ltOf cf) tag dj x m n := by
                  rw [HM.out]
                  exact HE.out.2.2.1.pre hb0 (by omega) (by have := HXY.out; have := HB.out; omega)
                have H1 := HY0.out x m n dj wr S1 HE.out.1 (by omega) hmn (Nat.le_refl _) hpre
                rw [HE.out.1] at H1
                have hyb : n ≤ x + b2 := by omega
                clear hxy hpre
                go_wp2_with (go_at_fn 29; refine H1.mono ?_; rintro e w2 ⟨rfl, d2, S2, hM⟩)
                go_roundg (n - b2)
                case measure => omega
                case rel => exact ⟨b2, d2, rfl, by omega, by omega, Nat.le_refl _, S2, (show Hid _ from ⟨hM.perm.1.trans HE.out.1, HE.out.2.1.last hM hyb, permIn_trans _ _ _ _ _ HE.out.2.2.2 (permIn_mono _ _ x n 0 n (Nat.zero_le _) (Nat.le_refl _) (by rw [HE.out.1]; exact Nat.le_refl _) hM.perm)⟩)⟩
              · have hmnz : ¬ (m : Int) < (n : Int) := by omega
                have hmb : n ≤ x + bs := by have := HM.out; omega
                clear hxy
                go_wp2
                go_roundg (n - b2)
                case measure => omega
                case rel =>
                  refine ⟨b2, dj, rfl, by omega, by omega, Nat.le_refl _, S1, (show Hid _ from ⟨HE.out.1, ?_, HE.out.2.2.2⟩)⟩
                  have hf := HE.out.2.1
                  rw [HB.out] at hf ⊢
                  exact hf.rest HE.out.2.2.1 hmb
        · have hlbz : ¬ (bs : Int) < (n : Int) := by omega
          go_wp2
          go_end0
          exact ⟨rfl, dk, S1.out, HE.out.2.2, HE.out.2.1.all (by omega)⟩
end Go.Proofs.YtjocnhkapiiblaaDoor
