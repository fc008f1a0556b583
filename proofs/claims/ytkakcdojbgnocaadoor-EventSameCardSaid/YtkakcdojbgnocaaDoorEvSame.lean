/- The program's own contracts of layer 20: a clone; the same events. -/
import Derived.Test.YtkakcdojbgnocaaDoorLibAT
import Derived.Test.YtkakcdojbgnocaaDoorLibAA
import Derived.Lib.LazyBuf
import Derived.BigQuiet
import Derived.Deep.RegionHeld3
namespace Go.Proofs.YtkakcdojbgnocaaDoor
open Go.RowKit
set_option linter.unusedVariables false

theorem drawn_more {B : Nat} {a w : World} (h : Below B a w) (k : Nat) : Below B a (w.drewN k) := ⟨h.os, h.tape, h.output, by simpa using h.size, by simpa using h.block⟩

set_option maxRecDepth 100000 in
theorem dotEqualC (a b : Option Addr) (n m c1 c2 : Nat) (L M : List DotN) (w : World) (hL : RowOf encD 3 w a n c1 L) (hM : RowOf encD 3 w b m c2 M) :
    Calls Tryd.prog 15 #[.slice a n c1, .slice b m c2] w fun e w' => e = .returned (.bool (sameDs L M)) ∧ ∃ k, w' = w.drewN k := by
  have hn := hL.leq
  have hm := hM.leq
  by_cases hnm : n = m
  · subst hnm
    have hcm := hL.capm
    have hcl := hL.cle
    unfold maxLen at hcm
    have HL := Lib.hid hL
    have HM := Lib.hid hM
    have Hn := Lib.hid hn
    have Hm := Lib.hid hm
    have hdr : ∀ k, Below w.heap.size w (w.drewN k) := fun k => below_drawn (Below.refl _ w) k
    clear hL hM hn hm
    go_enter Tryd.func15, Tryd.ntmps15
    go_wp2
    go_loopw [13] (fun i wr => ∃ k q : Nat, k ≤ n ∧ i = .int .i64 (k : Int) ∧ Hid (L.take k = M.take k) ∧ wr = w.drewN q) (fun i _ => n - (intOf i).toNat)
    case atStart => exact ⟨0, 0, Nat.zero_le _, rfl, rfl, rfl⟩
    case round =>
      obtain ⟨k, q, hk, rfl, hs, rfl⟩ := hrel
      by_cases hlt : k < n
      · have hlt' : (k : Int) < (n : Int) := by omega
        obtain ⟨x, g1, o1, hx, rfl, cx0, cx1, cx2⟩ := dot_at HL.out k hlt
        obtain ⟨y, g2, o2, hy, rfl, cy0, cy1, cy2⟩ := dot_at HM.out k hlt
        have hT : Hid (x = y → L.take (k + 1) = M.take (k + 1)) := fun e => by
          obtain ⟨h1, e1⟩ := List.getElem?_eq_some_iff.1 hx
          obtain ⟨h2, e2⟩ := List.getElem?_eq_some_iff.1 hy
          rw [List.take_succ_eq_append_getElem h1, List.take_succ_eq_append_getElem h2, hs.out, e1, e2, e]
        have hN : Hid (x ≠ y → (sameDs L M) = false) := fun e => by
          rw [Bool.eq_false_iff]
          intro c0
          obtain rfl := sameDs_iff.1 c0
          rw [hx] at hy
          exact e (by cases hy; rfl)
        have hE := fun v => eqDot x y v
        clear hx hy
        by_cases hxy : x = y
        · have h2 := hT.out hxy
          have h3 := Lib.hid h2
          clear h2 hT hN hs
          cases hxy
          rw [sameD_iff.2 rfl] at hE
          go_wp2_with fail
          go_quiet (fail)
          go_wp2
          go_roundw
          case rel => exact ⟨k + 1, _, by omega, by go_num, h3, by first | rfl | simp⟩
          case measure => simp [intOf]; omega
        · have h2 := Lib.hid (hN.out hxy)
          have e : sameD x y = false := by rw [Bool.eq_false_iff]; exact fun c => hxy (sameD_iff.1 c)
          rw [e] at hE
          clear hT hN hs hxy e
          go_wp2_with fail
          go_quiet (fail)
          go_wp2
          go_ret
          exact ⟨by rw [h2.out]; rfl, _, World.drewN_drewN _ _ _⟩
      · obtain rfl : k = n := by omega
        have e : Hid ((sameDs L M) = true) := by
          have h1 := hs.out
          rw [List.take_of_length_le (by rw [Hn.out]; exact Nat.le_refl _), List.take_of_length_le (by rw [Hm.out]; exact Nat.le_refl _)] at h1
          unfold Hid
          rw [h1]
          exact sameDs_iff.2 rfl
        go_wp2
        go_ret
        exact ⟨by rw [e.out]; rfl, q, rfl⟩
  · have h1 : (sameDs L M) = false := by
      rw [Bool.eq_false_iff]
      intro c0
      obtain rfl := sameDs_iff.1 c0
      exact hnm (hn.symm.trans hm)
    have h2 : ¬ (n : Int) = (m : Int) := by omega
    have h3 : ((n : Int) == (m : Int)) = false := beq_eq_false_iff_ne.2 h2
    rw [h1]
    clear hL hM hn hm
    go_enter Tryd.func15, Tryd.ntmps15
    go_wp2
    go_ret
    exact ⟨rfl, 0, rfl⟩

set_option maxRecDepth 100000 in
theorem dotCloneC (a : Option Addr) (n c : Nat) (L : List DotN) (w : World) (hL : RowOf encD 3 w a n c L) (hn : n ≤ 100000) :
    Calls Tryd.prog 13 #[.slice a n c] w (GivesZ encD 3 25 L n w) := by
  obtain ⟨i0, hi, hz0, hz1, hz2⟩ := info_parts infoDot
  have kn := fun (w : World) (a : Option Addr) (n c : Nat) => Go.run_eql_slice_nil (P := Tryd.prog) w 32 25 a n c Tryd.underlying32
  have hleq := hL.leq
  unfold GivesZ
  cases a with
  | none =>
    have hc0 : c = 0 := hL.nil0 rfl
    have hcl := hL.cle
    obtain rfl : c = 0 := hc0
    obtain rfl : n = 0 := by omega
    obtain rfl : L = [] := List.eq_nil_of_length_eq_zero hleq
    go_enter Tryd.func13, Tryd.ntmps13
    go_wp2
    go_ret
    exact ⟨none, 0, rfl, OwnZ.none _ _ _ _ _, Below.refl _ _⟩
  | some x =>
    have hown0 := OwnZ.lit encD 3 25 w
    have hbel0 := below_alloc w (.cells #[] 25)
    have hL0 := hL.below hbel0
    have hcm := hL.capm
    have hcl := hL.cle
    have HQ := Lib.hid hleq
    clear hL hleq
    go_enter Tryd.func13, Tryd.ntmps13
    go_wp2_with (at_builtin; refine wpList_append_rows encD_len (by decide) encD_one (by rfl) (.tmp 5) (.tmp 6) 32 (by rfl) 25 i0 (.agg #[.int .i64 0, .int .i64 0, .int .i64 0]) 24 Tryd.underlying32 hi hz0 hz1 hz2 rfl hown0 rfl hL0 rfl n (by omega) (by unfold maxLen; omega) (by omega) hbel0.size ?_; intro a2 c2 w2 hO2 hb2 hg2 ha2; have hB2 := hbel0.trans hb2)
    go_ret
    exact ⟨a2, c2, rfl, hO2, hB2⟩

set_option maxHeartbeats 4000000 in
set_option maxRecDepth 100000 in
theorem eventCloneC0 (e : EventN) (a : Option Addr) (n c : Nat) (w : World) (h : RowOf encD 3 w a n c e.over) (hl : lightE e = true) :
    Calls Tryd.prog 7 #[.agg #[.int .i64 e.dot.dev, .int .i64 e.dot.inc, .int .i64 e.dot.seq, .int .i64 e.stamp.wall, .int .i64 e.stamp.count, .int .i64 e.stamp.dev, .int .i64 e.kind, .string (str e.item.name), .string (str e.item.dom), .string (str e.item.path), .string (str e.item.val), .bool e.item.host, .bool e.item.sec, .bool e.item.http, .bool e.item.pers, .int .i64 e.item.exp, .int .i64 e.item.made, .int .i64 e.item.used, .slice a n c]] w fun en w' => ∃ b d, en = .returned (.agg #[.int .i64 e.dot.dev, .int .i64 e.dot.inc, .int .i64 e.dot.seq, .int .i64 e.stamp.wall, .int .i64 e.stamp.count, .int .i64 e.stamp.dev, .int .i64 e.kind, .string (str e.item.name), .string (str e.item.dom), .string (str e.item.path), .string (str e.item.val), .bool e.item.host, .bool e.item.sec, .bool e.item.http, .bool e.item.pers, .int .i64 e.item.exp, .int .i64 e.item.made, .int .i64 e.item.used, .slice b n d]) ∧ OwnZ encD 3 w.heap.size 25 b n d e.over w' ∧ Below w.heap.size w w' := by
  have hn := h.leq
  have hn2 : n ≤ 100000 := by
    unfold lightE at hl
    simp only [Bool.and_eq_true, decide_eq_true_eq] at hl
    omega
  have hb := below_alloc w (.cells #[.int .i64 e.dot.dev, .int .i64 e.dot.inc, .int .i64 e.dot.seq, .int .i64 e.stamp.wall, .int .i64 e.stamp.count, .int .i64 e.stamp.dev, .int .i64 e.kind, .string (str e.item.name), .string (str e.item.dom), .string (str e.item.path), .string (str e.item.val), .bool e.item.host, .bool e.item.sec, .bool e.item.http, .bool e.item.pers, .int .i64 e.item.exp, .int .i64 e.item.made, .int .i64 e.item.used, .slice a n c] 34)
  have O := ObjAt.new w #[.int .i64 e.dot.dev, .int .i64 e.dot.inc, .int .i64 e.dot.seq, .int .i64 e.stamp.wall, .int .i64 e.stamp.count, .int .i64 e.stamp.dev, .int .i64 e.kind, .string (str e.item.name), .string (str e.item.dom), .string (str e.item.path), .string (str e.item.val), .bool e.item.host, .bool e.item.sec, .bool e.item.http, .bool e.item.pers, .int .i64 e.item.exp, .int .i64 e.item.made, .int .i64 e.item.used, .slice a n c] 34
  have s1 : (w.alloc (.cells #[.int .i64 e.dot.dev, .int .i64 e.dot.inc, .int .i64 e.dot.seq, .int .i64 e.stamp.wall, .int .i64 e.stamp.count, .int .i64 e.stamp.dev, .int .i64 e.kind, .string (str e.item.name), .string (str e.item.dom), .string (str e.item.path), .string (str e.item.val), .bool e.item.host, .bool e.item.sec, .bool e.item.http, .bool e.item.pers, .int .i64 e.item.exp, .int .i64 e.item.made, .int .i64 e.item.used, .slice a n c] 34)).heap.size = w.heap.size + 1 := by simp
  generalize hv : w.alloc (.cells #[.int .i64 e.dot.dev, .int .i64 e.dot.inc, .int .i64 e.dot.seq, .int .i64 e.stamp.wall, .int .i64 e.stamp.count, .int .i64 e.stamp.dev, .int .i64 e.kind, .string (str e.item.name), .string (str e.item.dom), .string (str e.item.path), .string (str e.item.val), .bool e.item.host, .bool e.item.sec, .bool e.item.http, .bool e.item.pers, .int .i64 e.item.exp, .int .i64 e.item.made, .int .i64 e.item.used, .slice a n c] 34) = v at *
  have b2 := below_alloc v (.cells #[.int .i64 0, .int .i64 0, .int .i64 0, .int .i64 0, .int .i64 0, .int .i64 0, .int .i64 0, .string ⟨#[]⟩, .string ⟨#[]⟩, .string ⟨#[]⟩, .string ⟨#[]⟩, .bool false, .bool false, .bool false, .bool false, .int .i64 0, .int .i64 0, .int .i64 0, .slice none 0 0] 34)
  have oR := ObjAt.new v #[.int .i64 0, .int .i64 0, .int .i64 0, .int .i64 0, .int .i64 0, .int .i64 0, .int .i64 0, .string ⟨#[]⟩, .string ⟨#[]⟩, .string ⟨#[]⟩, .string ⟨#[]⟩, .bool false, .bool false, .bool false, .bool false, .int .i64 0, .int .i64 0, .int .i64 0, .slice none 0 0] 34
  rw [s1] at oR
  replace O := O.below b2 O.lt
  replace hb := hb.trans (b2.mono hb.size)
  generalize hv2 : v.alloc (.cells #[.int .i64 0, .int .i64 0, .int .i64 0, .int .i64 0, .int .i64 0, .int .i64 0, .int .i64 0, .string ⟨#[]⟩, .string ⟨#[]⟩, .string ⟨#[]⟩, .string ⟨#[]⟩, .bool false, .bool false, .bool false, .bool false, .int .i64 0, .int .i64 0, .int .i64 0, .slice none 0 0] 34) = v2 at *
  have HS2 := Lib.hid oR.lt
  have HC := dotCloneC a n c e.over v2 (h.below hb) hn2
  unfold GivesZ at HC
  have c18 := O.cell 18 rfl
  obtain ⟨A, hA⟩ : ∃ A, (#[.int .i64 e.dot.dev, .int .i64 e.dot.inc, .int .i64 e.dot.seq, .int .i64 e.stamp.wall, .int .i64 e.stamp.count, .int .i64 e.stamp.dev, .int .i64 e.kind, .string (str e.item.name), .string (str e.item.dom), .string (str e.item.path), .string (str e.item.val), .bool e.item.host, .bool e.item.sec, .bool e.item.http, .bool e.item.pers, .int .i64 e.item.exp, .int .i64 e.item.made, .int .i64 e.item.used, .slice a n c] : Array Value) = A := ⟨_, rfl⟩
  rw [hA] at hv O
  rw [hA]
  have hset : ∀ u, (A.toList.set 18 u) = (A.setIfInBounds 18 u).toList := fun u => by simp
  have hA2 : ∀ a2 c2, A.setIfInBounds 18 (.slice a2 n c2) = #[.int .i64 e.dot.dev, .int .i64 e.dot.inc, .int .i64 e.dot.seq, .int .i64 e.stamp.wall, .int .i64 e.stamp.count, .int .i64 e.stamp.dev, .int .i64 e.kind, .string (str e.item.name), .string (str e.item.dom), .string (str e.item.path), .string (str e.item.val), .bool e.item.host, .bool e.item.sec, .bool e.item.http, .bool e.item.pers, .int .i64 e.item.exp, .int .i64 e.item.made, .int .i64 e.item.used, .slice a2 n c2] := fun a2 c2 => by rw [← hA]; rfl
  clear h hA hl hn
  go_enter Tryd.func7, Tryd.ntmps7
  go_wp2_with (first
    | (go_at_call 13; (with_reducible refine HC.mono ?_); rintro e3 w3 ⟨a2, c2, rfl, ho, hx⟩; replace O := O.below hx O.lt; replace oR := oR.below hx oR.lt; replace hb := hb.trans (hx.mono hb.size); have d18 := (hx.cell (p := ⟨w.heap.size, 18, none⟩) (cell_lt c18)).trans c18; have f18 := O.free 18; have hat := Lib.hid ho.lt'; replace ho := ho.base (base' := w.heap.size) (by have := HS2.out; omega); have O2 := O.set 18 (.slice a2 n c2); rw [hset, hA2] at O2; have oR2 := oR.other (p := ⟨w.heap.size, 18, none⟩) (by simp) (.slice a2 n c2); obtain ⟨A2, hA2e⟩ : ∃ X, (#[.int .i64 e.dot.dev, .int .i64 e.dot.inc, .int .i64 e.dot.seq, .int .i64 e.stamp.wall, .int .i64 e.stamp.count, .int .i64 e.stamp.dev, .int .i64 e.kind, .string (str e.item.name), .string (str e.item.dom), .string (str e.item.path), .string (str e.item.val), .bool e.item.host, .bool e.item.sec, .bool e.item.http, .bool e.item.pers, .int .i64 e.item.exp, .int .i64 e.item.made, .int .i64 e.item.used, .slice a2 n c2] : Array Value) = X := ⟨_, rfl⟩; have hsz : A2.size = 19 := (by rw [← hA2e]; rfl); have oA : A2.all (·.oneCell') = true := (by rw [← hA2e]; simp [Value.oneCell']); rw [hA2e] at O2)
    | ((with_reducible change wpList _ _ _ _ _ (World.setCell _ _ _)); refine wpList_loadAll rfl 34 _ rfl w.heap.size 19 A2 rfl O2 Tryd.isAgg34 Tryd.sizeOf34 hsz ?_)
    | ((with_reducible change wpList _ _ _ _ _ (World.setCell _ _ _)); refine wpList_storeOver rfl 34 _ _ rfl (w.heap.size + 1) _ A2 19 rfl rfl oR2 (by kernel_rfl) rfl hsz oA ?_))
  have hne : w.heap.size + 1 ≠ w.heap.size := by omega
  have ho2 := ho.setCell (p := ⟨w.heap.size, 18, none⟩) (apart_iff.2 fun hk => by have := (hat.out w.heap.size hk).1; have := HS2.out; omega) (.slice a2 n c2)
  have HLV := loadVarBig (P := Tryd.prog) 34 (w.heap.size + 1) 19 A2 (oR2.setRow A2) Tryd.isAgg34 Tryd.sizeOf34 hsz
  have KR := (Keeps.refl (fun k => k = w.heap.size + 1) (w3.setCell ⟨w.heap.size, 18, none⟩ (.slice a2 n c2))).setRow rfl A2
  exact bodyPost_ret (v := .agg A2) (results_big1 Tryd.results7 rfl HLV) rfl ⟨a2, c2, by rw [hA2e], ho2.keeps KR (fun j h1 h2 => by have := (hat.out j h1).1; have := HS2.out; omega), below_rowSet (hb.setCell (p := ⟨w.heap.size, 18, none⟩) (Nat.le_refl _) _) (by omega) A2⟩

set_option maxHeartbeats 8000000 in
set_option maxRecDepth 100000 in
theorem eventSameC0 (e f : EventN) (a b : Option Addr) (n c m d : Nat) (w : World) (h : RowOf encD 3 w a n c e.over) (k : RowOf encD 3 w b m d f.over) :
    Calls Tryd.prog 8 #[.agg #[.int .i64 e.dot.dev, .int .i64 e.dot.inc, .int .i64 e.dot.seq, .int .i64 e.stamp.wall, .int .i64 e.stamp.count, .int .i64 e.stamp.dev, .int .i64 e.kind, .string (str e.item.name), .string (str e.item.dom), .string (str e.item.path), .string (str e.item.val), .bool e.item.host, .bool e.item.sec, .bool e.item.http, .bool e.item.pers, .int .i64 e.item.exp, .int .i64 e.item.made, .int .i64 e.item.used, .slice a n c], .agg #[.int .i64 f.dot.dev, .int .i64 f.dot.inc, .int .i64 f.dot.seq, .int .i64 f.stamp.wall, .int .i64 f.stamp.count, .int .i64 f.stamp.dev, .int .i64 f.kind, .string (str f.item.name), .string (str f.item.dom), .string (str f.item.path), .string (str f.item.val), .bool f.item.host, .bool f.item.sec, .bool f.item.http, .bool f.item.pers, .int .i64 f.item.exp, .int .i64 f.item.made, .int .i64 f.item.used, .slice b m d]] w fun en w' => en = .returned (.bool (sameE e f)) ∧ Below w.heap.size w w' := by
  obtain ⟨o1, o2, hb⟩ := objsE2 w #[.int .i64 e.dot.dev, .int .i64 e.dot.inc, .int .i64 e.dot.seq, .int .i64 e.stamp.wall, .int .i64 e.stamp.count, .int .i64 e.stamp.dev, .int .i64 e.kind, .string (str e.item.name), .string (str e.item.dom), .string (str e.item.path), .string (str e.item.val), .bool e.item.host, .bool e.item.sec, .bool e.item.http, .bool e.item.pers, .int .i64 e.item.exp, .int .i64 e.item.made, .int .i64 e.item.used, .slice a n c] #[.int .i64 f.dot.dev, .int .i64 f.dot.inc, .int .i64 f.dot.seq, .int .i64 f.stamp.wall, .int .i64 f.stamp.count, .int .i64 f.stamp.dev, .int .i64 f.kind, .string (str f.item.name), .string (str f.item.dom), .string (str f.item.path), .string (str f.item.val), .bool f.item.host, .bool f.item.sec, .bool f.item.http, .bool f.item.pers, .int .i64 f.item.exp, .int .i64 f.item.made, .int .i64 f.item.used, .slice b m d] 34 34
  have HI1 := fun v => itemE e a n c v
  have HI2 := fun v => itemE f b m d v
  have hE1 := eqDot e.dot f.dot
  have hE2 := eqStampE e.stamp f.stamp
  have hE4 := eqItem2 e.item f.item
  obtain ⟨A, hA⟩ : ∃ A, (#[.int .i64 e.dot.dev, .int .i64 e.dot.inc, .int .i64 e.dot.seq, .int .i64 e.stamp.wall, .int .i64 e.stamp.count, .int .i64 e.stamp.dev, .int .i64 e.kind, .string (str e.item.name), .string (str e.item.dom), .string (str e.item.path), .string (str e.item.val), .bool e.item.host, .bool e.item.sec, .bool e.item.http, .bool e.item.pers, .int .i64 e.item.exp, .int .i64 e.item.made, .int .i64 e.item.used, .slice a n c] : Array Value) = A := ⟨_, rfl⟩
  obtain ⟨B, hB⟩ : ∃ B, (#[.int .i64 f.dot.dev, .int .i64 f.dot.inc, .int .i64 f.dot.seq, .int .i64 f.stamp.wall, .int .i64 f.stamp.count, .int .i64 f.stamp.dev, .int .i64 f.kind, .string (str f.item.name), .string (str f.item.dom), .string (str f.item.path), .string (str f.item.val), .bool f.item.host, .bool f.item.sec, .bool f.item.http, .bool f.item.pers, .int .i64 f.item.exp, .int .i64 f.item.made, .int .i64 f.item.used, .slice b m d] : Array Value) = B := ⟨_, rfl⟩
  have zA : A.size = 19 := by rw [← hA]; rfl
  have zB : B.size = 19 := by rw [← hB]; rfl
  have a0 : (A.toList.drop 0).take 3 = [.int .i64 e.dot.dev, .int .i64 e.dot.inc, .int .i64 e.dot.seq] := by rw [← hA]; rfl
  have b0 : (B.toList.drop 0).take 3 = [.int .i64 f.dot.dev, .int .i64 f.dot.inc, .int .i64 f.dot.seq] := by rw [← hB]; rfl
  have a3 : (A.toList.drop 3).take 3 = [.int .i64 e.stamp.wall, .int .i64 e.stamp.count, .int .i64 e.stamp.dev] := by rw [← hA]; rfl
  have b3 : (B.toList.drop 3).take 3 = [.int .i64 f.stamp.wall, .int .i64 f.stamp.count, .int .i64 f.stamp.dev] := by rw [← hB]; rfl
  have a6 : A.toList[6]? = some (.int .i64 e.kind) := by rw [← hA]; rfl
  have b6 : B.toList[6]? = some (.int .i64 f.kind) := by rw [← hB]; rfl
  have a18 : A.toList[18]? = some (.slice a n c) := by rw [← hA]; rfl
  have b18 : B.toList[18]? = some (.slice b m d) := by rw [← hB]; rfl
  rw [hA, hB] at o1 o2 hb
  rw [hA, hB]
  rw [hA] at HI1
  rw [hB] at HI2
  generalize hv : (w.alloc (.cells A 34)).alloc (.cells B 34) = v at *
  have HQ := fun u (hu : Below v.heap.size v u) => dotEqualC a b n m c d e.over f.over u (h.below (hb.trans (hu.mono hb.size))) (k.below (hb.trans (hu.mono hb.size)))
  have hup := fun u (hu : Below v.heap.size v u) => hb.trans (hu.mono hb.size)
  have hlt1 := o1.lt
  have hlt2 := o2.lt
  have E0 : Hid (sameE e f = (sameD e.dot f.dot && (sameT e.stamp f.stamp && ((e.kind == f.kind) && (sameI e.item f.item && sameDs e.over f.over))))) := by
    show _ = _
    rw [same_like2]
    unfold sameE
    cases sameKey e.item f.item <;> rfl
  rw [E0.out]
  generalize sameDs e.over f.over = r5 at *
  generalize sameI e.item f.item = r4 at *
  obtain ⟨r3, hr3⟩ : ∃ r, (e.kind == f.kind) = r := ⟨_, rfl⟩
  rw [hr3]
  generalize sameT e.stamp f.stamp = r2 at *
  generalize sameD e.dot f.dot = r1 at *
  clear E0 hA hB h k
  have hC1 : Below v.heap.size v v.drew := (Below.refl _ v).drew
  cases r1 with
  | false =>
    go_enter Tryd.func8, Tryd.ntmps8
    go_wp2_with fail
    refine wp_region_held_drew (S := fun w' => ObjAt w' w.heap.size A.toList ∧ ObjAt w' (w.heap.size + 1) B.toList) (by kernel_rfl) (⟨o1.below hC1 hlt1, o2.below hC1 hlt2⟩) (fun hHeld => ?_)
    first
      | (refine wpAnyH_take (i := 0) rfl (by kernel_rfl) (by kernel_rfl) (by kernel_rfl) (fun _ _ _ h => h) (Or.inr ⟨by rfl, rfl⟩) (by assumption) ?_)
      | (refine wpAnyH_take (i := 0) (v := ?vb1) rfl (by kernel_rfl) (by kernel_rfl) (by kernel_rfl) (fun _ _ _ h => h) (Or.inl ⟨by rfl, ?hyb1⟩) (by assumption) ?rb1; case hyb1 => (rintro w' hS; obtain ⟨s1, s2⟩ := hS; have x6 := s1.cell 6 a6; have y6 := s2.cell 6 b6; have x18 := s1.cell 18 a18; have y18 := s2.cell 18 b18; go_simp; try with_reducible rfl))
    try simp only [List.getElem_toArray, List.getElem_cons_zero, Act.put, List.setIfInBounds_toArray, List.set_cons_zero, List.set_cons_succ]
    refine wpAnyH_take (i := 1) rfl (by kernel_rfl) (by kernel_rfl) (by kernel_rfl) (fun _ _ _ h => h) (Or.inl ⟨by rfl, fun w' hS => execLoadPart 25 _ rfl (w.heap.size) 0 3 A _ rfl hS.1 Tryd.isAgg25 Tryd.sizeOf25 a0 rfl⟩) (by assumption) ?_
    try simp only [List.getElem_toArray, List.getElem_cons_zero, List.getElem_cons_succ, Act.put, List.setIfInBounds_toArray, List.set_cons_zero, List.set_cons_succ]
    first
      | (refine wpAnyH_take (i := 2) rfl (by kernel_rfl) (by kernel_rfl) (by kernel_rfl) (fun _ _ _ h => h) (Or.inr ⟨by rfl, rfl⟩) (by assumption) ?_)
      | (refine wpAnyH_take (i := 2) (v := ?vb2) rfl (by kernel_rfl) (by kernel_rfl) (by kernel_rfl) (fun _ _ _ h => h) (Or.inl ⟨by rfl, ?hyb2⟩) (by assumption) ?rb2; case hyb2 => (rintro w' hS; obtain ⟨s1, s2⟩ := hS; have x6 := s1.cell 6 a6; have y6 := s2.cell 6 b6; have x18 := s1.cell 18 a18; have y18 := s2.cell 18 b18; go_simp; try with_reducible rfl))
    try simp only [List.getElem_toArray, List.getElem_cons_zero, List.getElem_cons_succ, Act.put, List.setIfInBounds_toArray, List.set_cons_zero, List.set_cons_succ]
    refine wpAnyH_take (i := 3) rfl (by kernel_rfl) (by kernel_rfl) (by kernel_rfl) (fun _ _ _ h => h) (Or.inl ⟨by rfl, fun w' hS => execLoadPart 25 _ rfl (w.heap.size + 1) 0 3 B _ rfl hS.2 Tryd.isAgg25 Tryd.sizeOf25 b0 rfl⟩) (by assumption) ?_
    try simp only [List.getElem_toArray, List.getElem_cons_zero, List.getElem_cons_succ, Act.put, List.setIfInBounds_toArray, List.set_cons_zero, List.set_cons_succ]
    first
      | (refine wpAnyH_take (i := 4) rfl (by kernel_rfl) (by kernel_rfl) (by kernel_rfl) (fun _ _ _ h => h) (Or.inr ⟨by rfl, rfl⟩) (by assumption) ?_)
      | (refine wpAnyH_take (i := 4) (v := ?vb3) rfl (by kernel_rfl) (by kernel_rfl) (by kernel_rfl) (fun _ _ _ h => h) (Or.inl ⟨by rfl, ?hyb3⟩) (by assumption) ?rb3; case hyb3 => (rintro w' hS; obtain ⟨s1, s2⟩ := hS; have x6 := s1.cell 6 a6; have y6 := s2.cell 6 b6; have x18 := s1.cell 18 a18; have y18 := s2.cell 18 b18; go_simp; try with_reducible rfl))
    try simp only [List.getElem_toArray, List.getElem_cons_zero, List.getElem_cons_succ, Act.put, List.setIfInBounds_toArray, List.set_cons_zero, List.set_cons_succ]
    first
      | (refine wpAnyH_take (i := 5) rfl (by kernel_rfl) (by kernel_rfl) (by kernel_rfl) (fun _ _ _ h => h) (Or.inr ⟨by rfl, rfl⟩) (by assumption) ?_)
      | (refine wpAnyH_take (i := 5) (v := ?vb4) rfl (by kernel_rfl) (by kernel_rfl) (by kernel_rfl) (fun _ _ _ h => h) (Or.inl ⟨by rfl, ?hyb4⟩) (by assumption) ?rb4; case hyb4 => (rintro w' hS; obtain ⟨s1, s2⟩ := hS; have x6 := s1.cell 6 a6; have y6 := s2.cell 6 b6; have x18 := s1.cell 18 a18; have y18 := s2.cell 18 b18; go_simp; try with_reducible rfl))
    try simp only [List.getElem_toArray, List.getElem_cons_zero, List.getElem_cons_succ, Act.put, List.setIfInBounds_toArray, List.set_cons_zero, List.set_cons_succ]
    first
      | (refine wpAnyH_take (i := 6) rfl (by kernel_rfl) (by kernel_rfl) (by kernel_rfl) (fun _ _ _ h => h) (Or.inr ⟨by rfl, rfl⟩) (by assumption) ?_)
      | (refine wpAnyH_take (i := 6) (v := ?vb5) rfl (by kernel_rfl) (by kernel_rfl) (by kernel_rfl) (fun _ _ _ h => h) (Or.inl ⟨by rfl, ?hyb5⟩) (by assumption) ?rb5; case hyb5 => (rintro w' hS; obtain ⟨s1, s2⟩ := hS; have x6 := s1.cell 6 a6; have y6 := s2.cell 6 b6; have x18 := s1.cell 18 a18; have y18 := s2.cell 18 b18; go_simp; try with_reducible rfl))
    try simp only [List.getElem_toArray, List.getElem_cons_zero, List.getElem_cons_succ, Act.put, List.setIfInBounds_toArray, List.set_cons_zero, List.set_cons_succ]
    first
      | (refine wpAnyH_take (i := 7) rfl (by kernel_rfl) (by kernel_rfl) (by kernel_rfl) (fun _ _ _ h => h) (Or.inr ⟨by rfl, rfl⟩) (by assumption) ?_)
      | (refine wpAnyH_take (i := 7) (v := ?vb6) rfl (by kernel_rfl) (by kernel_rfl) (by kernel_rfl) (fun _ _ _ h => h) (Or.inl ⟨by rfl, ?hyb6⟩) (by assumption) ?rb6; case hyb6 => (rintro w' hS; obtain ⟨s1, s2⟩ := hS; have x6 := s1.cell 6 a6; have y6 := s2.cell 6 b6; have x18 := s1.cell 18 a18; have y18 := s2.cell 18 b18; go_simp; try with_reducible rfl))
    try simp only [List.getElem_toArray, List.getElem_cons_zero, List.getElem_cons_succ, Act.put, List.setIfInBounds_toArray, List.set_cons_zero, List.set_cons_succ]
    first
      | (refine wpAnyH_take (i := 8) rfl (by kernel_rfl) (by kernel_rfl) (by kernel_rfl) (fun _ _ _ h => h) (Or.inr ⟨by rfl, rfl⟩) (by assumption) ?_)
      | (refine wpAnyH_take (i := 8) (v := ?vb7) rfl (by kernel_rfl) (by kernel_rfl) (by kernel_rfl) (fun _ _ _ h => h) (Or.inl ⟨by rfl, ?hyb7⟩) (by assumption) ?rb7; case hyb7 => (rintro w' hS; obtain ⟨s1, s2⟩ := hS; have x6 := s1.cell 6 a6; have y6 := s2.cell 6 b6; have x18 := s1.cell 18 a18; have y18 := s2.cell 18 b18; go_simp; try with_reducible rfl))
    try simp only [List.getElem_toArray, List.getElem_cons_zero, List.getElem_cons_succ, Act.put, List.setIfInBounds_toArray, List.set_cons_zero, List.set_cons_succ]
    first
      | (refine wpAnyH_take (i := 9) rfl (by kernel_rfl) (by kernel_rfl) (by kernel_rfl) (fun _ _ _ h => h) (Or.inr ⟨by rfl, rfl⟩) (by assumption) ?_)
      | (refine wpAnyH_take (i := 9) (v := ?vb8) rfl (by kernel_rfl) (by kernel_rfl) (by kernel_rfl) (fun _ _ _ h => h) (Or.inl ⟨by rfl, ?hyb8⟩) (by assumption) ?rb8; case hyb8 => (rintro w' hS; obtain ⟨s1, s2⟩ := hS; have x6 := s1.cell 6 a6; have y6 := s2.cell 6 b6; have x18 := s1.cell 18 a18; have y18 := s2.cell 18 b18; go_simp; try with_reducible rfl))
    try simp only [List.getElem_toArray, List.getElem_cons_zero, List.getElem_cons_succ, Act.put, List.setIfInBounds_toArray, List.set_cons_zero, List.set_cons_succ]
    first
      | (refine wpAnyH_take (i := 10) rfl (by kernel_rfl) (by kernel_rfl) (by kernel_rfl) (fun _ _ _ h => h) (Or.inr ⟨by rfl, rfl⟩) (by assumption) ?_)
      | (refine wpAnyH_take (i := 10) (v := ?vb9) rfl (by kernel_rfl) (by kernel_rfl) (by kernel_rfl) (fun _ _ _ h => h) (Or.inl ⟨by rfl, ?hyb9⟩) (by assumption) ?rb9; case hyb9 => (rintro w' hS; obtain ⟨s1, s2⟩ := hS; have x6 := s1.cell 6 a6; have y6 := s2.cell 6 b6; have x18 := s1.cell 18 a18; have y18 := s2.cell 18 b18; go_simp; try with_reducible rfl))
    try simp only [List.getElem_toArray, List.getElem_cons_zero, List.getElem_cons_succ, Act.put, List.setIfInBounds_toArray, List.set_cons_zero, List.set_cons_succ]
    first
      | (refine wpAnyH_take (i := 11) rfl (by kernel_rfl) (by kernel_rfl) (by kernel_rfl) (fun _ _ _ h => h) (Or.inr ⟨by rfl, rfl⟩) (by assumption) ?_)
      | (refine wpAnyH_take (i := 11) (v := ?vb10) rfl (by kernel_rfl) (by kernel_rfl) (by kernel_rfl) (fun _ _ _ h => h) (Or.inl ⟨by rfl, ?hyb10⟩) (by assumption) ?rb10; case hyb10 => (rintro w' hS; obtain ⟨s1, s2⟩ := hS; have x6 := s1.cell 6 a6; have y6 := s2.cell 6 b6; have x18 := s1.cell 18 a18; have y18 := s2.cell 18 b18; go_simp; try with_reducible rfl))
    try simp only [List.getElem_toArray, List.getElem_cons_zero, List.getElem_cons_succ, Act.put, List.setIfInBounds_toArray, List.set_cons_zero, List.set_cons_succ]
    first
      | (refine wpAnyH_take (i := 12) rfl (by kernel_rfl) (by kernel_rfl) (by kernel_rfl) (fun _ _ _ h => h) (Or.inr ⟨by rfl, rfl⟩) (by assumption) ?_)
      | (refine wpAnyH_take (i := 12) (v := ?vb11) rfl (by kernel_rfl) (by kernel_rfl) (by kernel_rfl) (fun _ _ _ h => h) (Or.inl ⟨by rfl, ?hyb11⟩) (by assumption) ?rb11; case hyb11 => (rintro w' hS; obtain ⟨s1, s2⟩ := hS; have x6 := s1.cell 6 a6; have y6 := s2.cell 6 b6; have x18 := s1.cell 18 a18; have y18 := s2.cell 18 b18; go_simp; try with_reducible rfl))
    try simp only [List.getElem_toArray, List.getElem_cons_zero, List.getElem_cons_succ, Act.put, List.setIfInBounds_toArray, List.set_cons_zero, List.set_cons_succ]
    first
      | (refine wpAnyH_take (i := 13) rfl (by kernel_rfl) (by kernel_rfl) (by kernel_rfl) (fun _ _ _ h => h) (Or.inr ⟨by rfl, rfl⟩) (by assumption) ?_)
      | (refine wpAnyH_take (i := 13) (v := ?vb12) rfl (by kernel_rfl) (by kernel_rfl) (by kernel_rfl) (fun _ _ _ h => h) (Or.inl ⟨by rfl, ?hyb12⟩) (by assumption) ?rb12; case hyb12 => (rintro w' hS; obtain ⟨s1, s2⟩ := hS; have x6 := s1.cell 6 a6; have y6 := s2.cell 6 b6; have x18 := s1.cell 18 a18; have y18 := s2.cell 18 b18; go_simp; try with_reducible rfl))
    try simp only [List.getElem_toArray, List.getElem_cons_zero, List.getElem_cons_succ, Act.put, List.setIfInBounds_toArray, List.set_cons_zero, List.set_cons_succ]
    first
      | (refine wpAnyH_take (i := 14) rfl (by kernel_rfl) (by kernel_rfl) (by kernel_rfl) (fun _ _ _ h => h) (Or.inr ⟨by rfl, rfl⟩) (by assumption) ?_)
      | (refine wpAnyH_take (i := 14) (v := ?vb13) rfl (by kernel_rfl) (by kernel_rfl) (by kernel_rfl) (fun _ _ _ h => h) (Or.inl ⟨by rfl, ?hyb13⟩) (by assumption) ?rb13; case hyb13 => (rintro w' hS; obtain ⟨s1, s2⟩ := hS; have x6 := s1.cell 6 a6; have y6 := s2.cell 6 b6; have x18 := s1.cell 18 a18; have y18 := s2.cell 18 b18; go_simp; try with_reducible rfl))
    try simp only [List.getElem_toArray, List.getElem_cons_zero, List.getElem_cons_succ, Act.put, List.setIfInBounds_toArray, List.set_cons_zero, List.set_cons_succ]
    first
      | (refine wpAnyH_take (i := 15) rfl (by kernel_rfl) (by kernel_rfl) (by kernel_rfl) (fun _ _ _ h => h) (Or.inr ⟨by rfl, rfl⟩) (by assumption) ?_)
      | (refine wpAnyH_take (i := 15) (v := ?vb14) rfl (by kernel_rfl) (by kernel_rfl) (by kernel_rfl) (fun _ _ _ h => h) (Or.inl ⟨by rfl, ?hyb14⟩) (by assumption) ?rb14; case hyb14 => (rintro w' hS; obtain ⟨s1, s2⟩ := hS; have x6 := s1.cell 6 a6; have y6 := s2.cell 6 b6; have x18 := s1.cell 18 a18; have y18 := s2.cell 18 b18; go_simp; try with_reducible rfl))
    try simp only [List.getElem_toArray, List.getElem_cons_zero, List.getElem_cons_succ, Act.put, List.setIfInBounds_toArray, List.set_cons_zero, List.set_cons_succ]
    first
      | (refine wpAnyH_take (i := 16) rfl (by kernel_rfl) (by kernel_rfl) (by kernel_rfl) (fun _ _ _ h => h) (Or.inr ⟨by rfl, rfl⟩) (by assumption) ?_)
      | (refine wpAnyH_take (i := 16) (v := ?vb15) rfl (by kernel_rfl) (by kernel_rfl) (by kernel_rfl) (fun _ _ _ h => h) (Or.inl ⟨by rfl, ?hyb15⟩) (by assumption) ?rb15; case hyb15 => (rintro w' hS; obtain ⟨s1, s2⟩ := hS; have x6 := s1.cell 6 a6; have y6 := s2.cell 6 b6; have x18 := s1.cell 18 a18; have y18 := s2.cell 18 b18; go_simp; try with_reducible rfl))
    try simp only [List.getElem_toArray, List.getElem_cons_zero, List.getElem_cons_succ, Act.put, List.setIfInBounds_toArray, List.set_cons_zero, List.set_cons_succ]
    first
      | (refine wpAnyH_take (i := 17) rfl (by kernel_rfl) (by kernel_rfl) (by kernel_rfl) (fun _ _ _ h => h) (Or.inr ⟨by rfl, rfl⟩) (by assumption) ?_)
      | (refine wpAnyH_take (i := 17) (v := ?vb16) rfl (by kernel_rfl) (by kernel_rfl) (by kernel_rfl) (fun _ _ _ h => h) (Or.inl ⟨by rfl, ?hyb16⟩) (by assumption) ?rb16; case hyb16 => (rintro w' hS; obtain ⟨s1, s2⟩ := hS; have x6 := s1.cell 6 a6; have y6 := s2.cell 6 b6; have x18 := s1.cell 18 a18; have y18 := s2.cell 18 b18; go_simp; try with_reducible rfl))
    try simp only [List.getElem_toArray, List.getElem_cons_zero, List.getElem_cons_succ, Act.put, List.setIfInBounds_toArray, List.set_cons_zero, List.set_cons_succ]
    first
      | (refine wpAnyH_take (i := 18) rfl (by kernel_rfl) (by kernel_rfl) (by kernel_rfl) (fun _ _ _ h => h) (Or.inr ⟨by rfl, rfl⟩) (by assumption) ?_)
      | (refine wpAnyH_take (i := 18) (v := ?vb17) rfl (by kernel_rfl) (by kernel_rfl) (by kernel_rfl) (fun _ _ _ h => h) (Or.inl ⟨by rfl, ?hyb17⟩) (by assumption) ?rb17; case hyb17 => (rintro w' hS; obtain ⟨s1, s2⟩ := hS; have x6 := s1.cell 6 a6; have y6 := s2.cell 6 b6; have x18 := s1.cell 18 a18; have y18 := s2.cell 18 b18; go_simp; try with_reducible rfl))
    try simp only [List.getElem_toArray, List.getElem_cons_zero, List.getElem_cons_succ, Act.put, List.setIfInBounds_toArray, List.set_cons_zero, List.set_cons_succ]
    first
      | (refine wpAnyH_take (i := 19) rfl (by kernel_rfl) (by kernel_rfl) (by kernel_rfl) (fun _ _ _ h => h) (Or.inr ⟨by rfl, rfl⟩) (by assumption) ?_)
      | (refine wpAnyH_take (i := 19) (v := ?vb18) rfl (by kernel_rfl) (by kernel_rfl) (by kernel_rfl) (fun _ _ _ h => h) (Or.inl ⟨by rfl, ?hyb18⟩) (by assumption) ?rb18; case hyb18 => (rintro w' hS; obtain ⟨s1, s2⟩ := hS; have x6 := s1.cell 6 a6; have y6 := s2.cell 6 b6; have x18 := s1.cell 18 a18; have y18 := s2.cell 18 b18; go_simp; try with_reducible rfl))
    try simp only [List.getElem_toArray, List.getElem_cons_zero, List.getElem_cons_succ, Act.put, List.setIfInBounds_toArray, List.set_cons_zero, List.set_cons_succ]
    first
      | (refine wpAnyH_take (i := 20) rfl (by kernel_rfl) (by kernel_rfl) (by kernel_rfl) (fun _ _ _ h => h) (Or.inr ⟨by rfl, rfl⟩) (by assumption) ?_)
      | (refine wpAnyH_take (i := 20) (v := ?vb19) rfl (by kernel_rfl) (by kernel_rfl) (by kernel_rfl) (fun _ _ _ h => h) (Or.inl ⟨by rfl, ?hyb19⟩) (by assumption) ?rb19; case hyb19 => (rintro w' hS; obtain ⟨s1, s2⟩ := hS; have x6 := s1.cell 6 a6; have y6 := s2.cell 6 b6; have x18 := s1.cell 18 a18; have y18 := s2.cell 18 b18; go_simp; try with_reducible rfl))
    try simp only [List.getElem_toArray, List.getElem_cons_zero, List.getElem_cons_succ, Act.put, List.setIfInBounds_toArray, List.set_cons_zero, List.set_cons_succ]
    first
      | (refine wpAnyH_take (i := 21) rfl (by kernel_rfl) (by kernel_rfl) (by kernel_rfl) (fun _ _ _ h => h) (Or.inr ⟨by rfl, rfl⟩) (by assumption) ?_)
      | (refine wpAnyH_take (i := 21) (v := ?vb20) rfl (by kernel_rfl) (by kernel_rfl) (by kernel_rfl) (fun _ _ _ h => h) (Or.inl ⟨by rfl, ?hyb20⟩) (by assumption) ?rb20; case hyb20 => (rintro w' hS; obtain ⟨s1, s2⟩ := hS; have x6 := s1.cell 6 a6; have y6 := s2.cell 6 b6; have x18 := s1.cell 18 a18; have y18 := s2.cell 18 b18; go_simp; try with_reducible rfl))
    try simp only [List.getElem_toArray, List.getElem_cons_zero, List.getElem_cons_succ, Act.put, List.setIfInBounds_toArray, List.set_cons_zero, List.set_cons_succ]
    first
      | (refine wpAnyH_take (i := 22) rfl (by kernel_rfl) (by kernel_rfl) (by kernel_rfl) (fun _ _ _ h => h) (Or.inr ⟨by rfl, rfl⟩) (by assumption) ?_)
      | (refine wpAnyH_take (i := 22) (v := ?vb21) rfl (by kernel_rfl) (by kernel_rfl) (by kernel_rfl) (fun _ _ _ h => h) (Or.inl ⟨by rfl, ?hyb21⟩) (by assumption) ?rb21; case hyb21 => (rintro w' hS; obtain ⟨s1, s2⟩ := hS; have x6 := s1.cell 6 a6; have y6 := s2.cell 6 b6; have x18 := s1.cell 18 a18; have y18 := s2.cell 18 b18; go_simp; try with_reducible rfl))
    try simp only [List.getElem_toArray, List.getElem_cons_zero, List.getElem_cons_succ, Act.put, List.setIfInBounds_toArray, List.set_cons_zero, List.set_cons_succ]
    first
      | (refine wpAnyH_take (i := 23) rfl (by kernel_rfl) (by kernel_rfl) (by kernel_rfl) (fun _ _ _ h => h) (Or.inr ⟨by rfl, rfl⟩) (by assumption) ?_)
      | (refine wpAnyH_take (i := 23) (v := ?vb22) rfl (by kernel_rfl) (by kernel_rfl) (by kernel_rfl) (fun _ _ _ h => h) (Or.inl ⟨by rfl, ?hyb22⟩) (by assumption) ?rb22; case hyb22 => (rintro w' hS; obtain ⟨s1, s2⟩ := hS; have x6 := s1.cell 6 a6; have y6 := s2.cell 6 b6; have x18 := s1.cell 18 a18; have y18 := s2.cell 18 b18; go_simp; try with_reducible rfl))
    try simp only [List.getElem_toArray, List.getElem_cons_zero, List.getElem_cons_succ, Act.put, List.setIfInBounds_toArray, List.set_cons_zero, List.set_cons_succ]
    first
      | (refine wpAnyH_take (i := 24) rfl (by kernel_rfl) (by kernel_rfl) (by kernel_rfl) (fun _ _ _ h => h) (Or.inr ⟨by rfl, rfl⟩) (by assumption) ?_)
      | (refine wpAnyH_take (i := 24) (v := ?vb23) rfl (by kernel_rfl) (by kernel_rfl) (by kernel_rfl) (fun _ _ _ h => h) (Or.inl ⟨by rfl, ?hyb23⟩) (by assumption) ?rb23; case hyb23 => (rintro w' hS; obtain ⟨s1, s2⟩ := hS; have x6 := s1.cell 6 a6; have y6 := s2.cell 6 b6; have x18 := s1.cell 18 a18; have y18 := s2.cell 18 b18; go_simp; try with_reducible rfl))
    try simp only [List.getElem_toArray, List.getElem_cons_zero, List.getElem_cons_succ, Act.put, List.setIfInBounds_toArray, List.set_cons_zero, List.set_cons_succ]
    first
      | (refine wpAnyH_take (i := 25) rfl (by kernel_rfl) (by kernel_rfl) (by kernel_rfl) (fun _ _ _ h => h) (Or.inr ⟨by rfl, rfl⟩) (by assumption) ?_)
      | (refine wpAnyH_take (i := 25) (v := ?vb24) rfl (by kernel_rfl) (by kernel_rfl) (by kernel_rfl) (fun _ _ _ h => h) (Or.inl ⟨by rfl, ?hyb24⟩) (by assumption) ?rb24; case hyb24 => (rintro w' hS; obtain ⟨s1, s2⟩ := hS; have x6 := s1.cell 6 a6; have y6 := s2.cell 6 b6; have x18 := s1.cell 18 a18; have y18 := s2.cell 18 b18; go_simp; try with_reducible rfl))
    try simp only [List.getElem_toArray, List.getElem_cons_zero, List.getElem_cons_succ, Act.put, List.setIfInBounds_toArray, List.set_cons_zero, List.set_cons_succ]
    first
      | (refine wpAnyH_take (i := 26) rfl (by kernel_rfl) (by kernel_rfl) (by kernel_rfl) (fun _ _ _ h => h) (Or.inr ⟨by rfl, rfl⟩) (by assumption) ?_)
      | (refine wpAnyH_take (i := 26) (v := ?vb25) rfl (by kernel_rfl) (by kernel_rfl) (by kernel_rfl) (fun _ _ _ h => h) (Or.inl ⟨by rfl, ?hyb25⟩) (by assumption) ?rb25; case hyb25 => (rintro w' hS; obtain ⟨s1, s2⟩ := hS; have x6 := s1.cell 6 a6; have y6 := s2.cell 6 b6; have x18 := s1.cell 18 a18; have y18 := s2.cell 18 b18; go_simp; try with_reducible rfl))
    try simp only [List.getElem_toArray, List.getElem_cons_zero, List.getElem_cons_succ, Act.put, List.setIfInBounds_toArray, List.set_cons_zero, List.set_cons_succ]
    first
      | (refine wpAnyH_take (i := 27) rfl (by kernel_rfl) (by kernel_rfl) (by kernel_rfl) (fun _ _ _ h => h) (Or.inr ⟨by rfl, rfl⟩) (by assumption) ?_)
      | (refine wpAnyH_take (i := 27) (v := ?vb26) rfl (by kernel_rfl) (by kernel_rfl) (by kernel_rfl) (fun _ _ _ h => h) (Or.inl ⟨by rfl, ?hyb26⟩) (by assumption) ?rb26; case hyb26 => (rintro w' hS; obtain ⟨s1, s2⟩ := hS; have x6 := s1.cell 6 a6; have y6 := s2.cell 6 b6; have x18 := s1.cell 18 a18; have y18 := s2.cell 18 b18; go_simp; try with_reducible rfl))
    try simp only [List.getElem_toArray, List.getElem_cons_zero, List.getElem_cons_succ, Act.put, List.setIfInBounds_toArray, List.set_cons_zero, List.set_cons_succ]
    first
      | (refine wpAnyH_take (i := 28) rfl (by kernel_rfl) (by kernel_rfl) (by kernel_rfl) (fun _ _ _ h => h) (Or.inr ⟨by rfl, rfl⟩) (by assumption) ?_)
      | (refine wpAnyH_take (i := 28) (v := ?vb27) rfl (by kernel_rfl) (by kernel_rfl) (by kernel_rfl) (fun _ _ _ h => h) (Or.inl ⟨by rfl, ?hyb27⟩) (by assumption) ?rb27; case hyb27 => (rintro w' hS; obtain ⟨s1, s2⟩ := hS; have x6 := s1.cell 6 a6; have y6 := s2.cell 6 b6; have x18 := s1.cell 18 a18; have y18 := s2.cell 18 b18; go_simp; try with_reducible rfl))
    try simp only [List.getElem_toArray, List.getElem_cons_zero, List.getElem_cons_succ, Act.put, List.setIfInBounds_toArray, List.set_cons_zero, List.set_cons_succ]
    first
      | (refine wpAnyH_take (i := 29) rfl (by kernel_rfl) (by kernel_rfl) (by kernel_rfl) (fun _ _ _ h => h) (Or.inr ⟨by rfl, rfl⟩) (by assumption) ?_)
      | (refine wpAnyH_take (i := 29) (v := ?vb28) rfl (by kernel_rfl) (by kernel_rfl) (by kernel_rfl) (fun _ _ _ h => h) (Or.inl ⟨by rfl, ?hyb28⟩) (by assumption) ?rb28; case hyb28 => (rintro w' hS; obtain ⟨s1, s2⟩ := hS; have x6 := s1.cell 6 a6; have y6 := s2.cell 6 b6; have x18 := s1.cell 18 a18; have y18 := s2.cell 18 b18; go_simp; try with_reducible rfl))
    try simp only [List.getElem_toArray, List.getElem_cons_zero, List.getElem_cons_succ, Act.put, List.setIfInBounds_toArray, List.set_cons_zero, List.set_cons_succ]
    first
      | (refine wpAnyH_take (i := 30) rfl (by kernel_rfl) (by kernel_rfl) (by kernel_rfl) (fun _ _ _ h => h) (Or.inr ⟨by rfl, rfl⟩) (by assumption) ?_)
      | (refine wpAnyH_take (i := 30) (v := ?vb29) rfl (by kernel_rfl) (by kernel_rfl) (by kernel_rfl) (fun _ _ _ h => h) (Or.inl ⟨by rfl, ?hyb29⟩) (by assumption) ?rb29; case hyb29 => (rintro w' hS; obtain ⟨s1, s2⟩ := hS; have x6 := s1.cell 6 a6; have y6 := s2.cell 6 b6; have x18 := s1.cell 18 a18; have y18 := s2.cell 18 b18; go_simp; try with_reducible rfl))
    try simp only [List.getElem_toArray, List.getElem_cons_zero, List.getElem_cons_succ, Act.put, List.setIfInBounds_toArray, List.set_cons_zero, List.set_cons_succ]
    first
      | (refine wpAnyH_take (i := 31) rfl (by kernel_rfl) (by kernel_rfl) (by kernel_rfl) (fun _ _ _ h => h) (Or.inr ⟨by rfl, rfl⟩) (by assumption) ?_)
      | (refine wpAnyH_take (i := 31) (v := ?vb30) rfl (by kernel_rfl) (by kernel_rfl) (by kernel_rfl) (fun _ _ _ h => h) (Or.inl ⟨by rfl, ?hyb30⟩) (by assumption) ?rb30; case hyb30 => (rintro w' hS; obtain ⟨s1, s2⟩ := hS; have x6 := s1.cell 6 a6; have y6 := s2.cell 6 b6; have x18 := s1.cell 18 a18; have y18 := s2.cell 18 b18; go_simp; try with_reducible rfl))
    try simp only [List.getElem_toArray, List.getElem_cons_zero, List.getElem_cons_succ, Act.put, List.setIfInBounds_toArray, List.set_cons_zero, List.set_cons_succ]
    first
      | (refine wpAnyH_take (i := 32) rfl (by kernel_rfl) (by kernel_rfl) (by kernel_rfl) (fun _ _ _ h => h) (Or.inr ⟨by rfl, rfl⟩) (by assumption) ?_)
      | (refine wpAnyH_take (i := 32) (v := ?vb31) rfl (by kernel_rfl) (by kernel_rfl) (by kernel_rfl) (fun _ _ _ h => h) (Or.inl ⟨by rfl, ?hyb31⟩) (by assumption) ?rb31; case hyb31 => (rintro w' hS; obtain ⟨s1, s2⟩ := hS; have x6 := s1.cell 6 a6; have y6 := s2.cell 6 b6; have x18 := s1.cell 18 a18; have y18 := s2.cell 18 b18; go_simp; try with_reducible rfl))
    try simp only [List.getElem_toArray, List.getElem_cons_zero, List.getElem_cons_succ, Act.put, List.setIfInBounds_toArray, List.set_cons_zero, List.set_cons_succ]
    first
      | (refine wpAnyH_take (i := 33) rfl (by kernel_rfl) (by kernel_rfl) (by kernel_rfl) (fun _ _ _ h => h) (Or.inr ⟨by rfl, rfl⟩) (by assumption) ?_)
      | (refine wpAnyH_take (i := 33) (v := ?vb32) rfl (by kernel_rfl) (by kernel_rfl) (by kernel_rfl) (fun _ _ _ h => h) (Or.inl ⟨by rfl, ?hyb32⟩) (by assumption) ?rb32; case hyb32 => (rintro w' hS; obtain ⟨s1, s2⟩ := hS; have x6 := s1.cell 6 a6; have y6 := s2.cell 6 b6; have x18 := s1.cell 18 a18; have y18 := s2.cell 18 b18; go_simp; try with_reducible rfl))
    try simp only [List.getElem_toArray, List.getElem_cons_zero, List.getElem_cons_succ, Act.put, List.setIfInBounds_toArray, List.set_cons_zero, List.set_cons_succ]
    refine wpAnyH_done (by kernel_rfl) ?_ _
    go_wp2
    go_ret
    exact ⟨rfl, hup _ hC1⟩
  | true =>
  cases r2 with
  | false =>
    go_enter Tryd.func8, Tryd.ntmps8
    go_wp2_with fail
    refine wp_region_held_drew (S := fun w' => ObjAt w' w.heap.size A.toList ∧ ObjAt w' (w.heap.size + 1) B.toList) (by kernel_rfl) (⟨o1.below hC1 hlt1, o2.below hC1 hlt2⟩) (fun hHeld => ?_)
    first
      | (refine wpAnyH_take (i := 0) rfl (by kernel_rfl) (by kernel_rfl) (by kernel_rfl) (fun _ _ _ h => h) (Or.inr ⟨by rfl, rfl⟩) (by assumption) ?_)
      | (refine wpAnyH_take (i := 0) (v := ?vb33) rfl (by kernel_rfl) (by kernel_rfl) (by kernel_rfl) (fun _ _ _ h => h) (Or.inl ⟨by rfl, ?hyb33⟩) (by assumption) ?rb33; case hyb33 => (rintro w' hS; obtain ⟨s1, s2⟩ := hS; have x6 := s1.cell 6 a6; have y6 := s2.cell 6 b6; have x18 := s1.cell 18 a18; have y18 := s2.cell 18 b18; go_simp; try with_reducible rfl))
    try simp only [List.getElem_toArray, List.getElem_cons_zero, Act.put, List.setIfInBounds_toArray, List.set_cons_zero, List.set_cons_succ]
    refine wpAnyH_take (i := 1) rfl (by kernel_rfl) (by kernel_rfl) (by kernel_rfl) (fun _ _ _ h => h) (Or.inl ⟨by rfl, fun w' hS => execLoadPart 25 _ rfl (w.heap.size) 0 3 A _ rfl hS.1 Tryd.isAgg25 Tryd.sizeOf25 a0 rfl⟩) (by assumption) ?_
    try simp only [List.getElem_toArray, List.getElem_cons_zero, List.getElem_cons_succ, Act.put, List.setIfInBounds_toArray, List.set_cons_zero, List.set_cons_succ]
    first
      | (refine wpAnyH_take (i := 2) rfl (by kernel_rfl) (by kernel_rfl) (by kernel_rfl) (fun _ _ _ h => h) (Or.inr ⟨by rfl, rfl⟩) (by assumption) ?_)
      | (refine wpAnyH_take (i := 2) (v := ?vb34) rfl (by kernel_rfl) (by kernel_rfl) (by kernel_rfl) (fun _ _ _ h => h) (Or.inl ⟨by rfl, ?hyb34⟩) (by assumption) ?rb34; case hyb34 => (rintro w' hS; obtain ⟨s1, s2⟩ := hS; have x6 := s1.cell 6 a6; have y6 := s2.cell 6 b6; have x18 := s1.cell 18 a18; have y18 := s2.cell 18 b18; go_simp; try with_reducible rfl))
    try simp only [List.getElem_toArray, List.getElem_cons_zero, List.getElem_cons_succ, Act.put, List.setIfInBounds_toArray, List.set_cons_zero, List.set_cons_succ]
    refine wpAnyH_take (i := 3) rfl (by kernel_rfl) (by kernel_rfl) (by kernel_rfl) (fun _ _ _ h => h) (Or.inl ⟨by rfl, fun w' hS => execLoadPart 25 _ rfl (w.heap.size + 1) 0 3 B _ rfl hS.2 Tryd.isAgg25 Tryd.sizeOf25 b0 rfl⟩) (by assumption) ?_
    try simp only [List.getElem_toArray, List.getElem_cons_zero, List.getElem_cons_succ, Act.put, List.setIfInBounds_toArray, List.set_cons_zero, List.set_cons_succ]
    first
      | (refine wpAnyH_take (i := 4) rfl (by kernel_rfl) (by kernel_rfl) (by kernel_rfl) (fun _ _ _ h => h) (Or.inr ⟨by rfl, rfl⟩) (by assumption) ?_)
      | (refine wpAnyH_take (i := 4) (v := ?vb35) rfl (by kernel_rfl) (by kernel_rfl) (by kernel_rfl) (fun _ _ _ h => h) (Or.inl ⟨by rfl, ?hyb35⟩) (by assumption) ?rb35; case hyb35 => (rintro w' hS; obtain ⟨s1, s2⟩ := hS; have x6 := s1.cell 6 a6; have y6 := s2.cell 6 b6; have x18 := s1.cell 18 a18; have y18 := s2.cell 18 b18; go_simp; try with_reducible rfl))
    try simp only [List.getElem_toArray, List.getElem_cons_zero, List.getElem_cons_succ, Act.put, List.setIfInBounds_toArray, List.set_cons_zero, List.set_cons_succ]
    first
      | (refine wpAnyH_take (i := 5) rfl (by kernel_rfl) (by kernel_rfl) (by kernel_rfl) (fun _ _ _ h => h) (Or.inr ⟨by rfl, rfl⟩) (by assumption) ?_)
      | (refine wpAnyH_take (i := 5) (v := ?vb36) rfl (by kernel_rfl) (by kernel_rfl) (by kernel_rfl) (fun _ _ _ h => h) (Or.inl ⟨by rfl, ?hyb36⟩) (by assumption) ?rb36; case hyb36 => (rintro w' hS; obtain ⟨s1, s2⟩ := hS; have x6 := s1.cell 6 a6; have y6 := s2.cell 6 b6; have x18 := s1.cell 18 a18; have y18 := s2.cell 18 b18; go_simp; try with_reducible rfl))
    try simp only [List.getElem_toArray, List.getElem_cons_zero, List.getElem_cons_succ, Act.put, List.setIfInBounds_toArray, List.set_cons_zero, List.set_cons_succ]
    first
      | (refine wpAnyH_take (i := 6) rfl (by kernel_rfl) (by kernel_rfl) (by kernel_rfl) (fun _ _ _ h => h) (Or.inr ⟨by rfl, rfl⟩) (by assumption) ?_)
      | (refine wpAnyH_take (i := 6) (v := ?vb37) rfl (by kernel_rfl) (by kernel_rfl) (by kernel_rfl) (fun _ _ _ h => h) (Or.inl ⟨by rfl, ?hyb37⟩) (by assumption) ?rb37; case hyb37 => (rintro w' hS; obtain ⟨s1, s2⟩ := hS; have x6 := s1.cell 6 a6; have y6 := s2.cell 6 b6; have x18 := s1.cell 18 a18; have y18 := s2.cell 18 b18; go_simp; try with_reducible rfl))
    try simp only [List.getElem_toArray, List.getElem_cons_zero, List.getElem_cons_succ, Act.put, List.setIfInBounds_toArray, List.set_cons_zero, List.set_cons_succ]
    refine wpAnyH_take (i := 7) rfl (by kernel_rfl) (by kernel_rfl) (by kernel_rfl) (fun _ _ _ h => h) (Or.inl ⟨by rfl, fun w' hS => execLoadPart 27 _ rfl (w.heap.size) 3 3 A _ rfl hS.1 Tryd.isAgg27 Tryd.sizeOf27 a3 rfl⟩) (by assumption) ?_
    try simp only [List.getElem_toArray, List.getElem_cons_zero, List.getElem_cons_succ, Act.put, List.setIfInBounds_toArray, List.set_cons_zero, List.set_cons_succ]
    first
      | (refine wpAnyH_take (i := 8) rfl (by kernel_rfl) (by kernel_rfl) (by kernel_rfl) (fun _ _ _ h => h) (Or.inr ⟨by rfl, rfl⟩) (by assumption) ?_)
      | (refine wpAnyH_take (i := 8) (v := ?vb38) rfl (by kernel_rfl) (by kernel_rfl) (by kernel_rfl) (fun _ _ _ h => h) (Or.inl ⟨by rfl, ?hyb38⟩) (by assumption) ?rb38; case hyb38 => (rintro w' hS; obtain ⟨s1, s2⟩ := hS; have x6 := s1.cell 6 a6; have y6 := s2.cell 6 b6; have x18 := s1.cell 18 a18; have y18 := s2.cell 18 b18; go_simp; try with_reducible rfl))
    try simp only [List.getElem_toArray, List.getElem_cons_zero, List.getElem_cons_succ, Act.put, List.setIfInBounds_toArray, List.set_cons_zero, List.set_cons_succ]
    refine wpAnyH_take (i := 9) rfl (by kernel_rfl) (by kernel_rfl) (by kernel_rfl) (fun _ _ _ h => h) (Or.inl ⟨by rfl, fun w' hS => execLoadPart 27 _ rfl (w.heap.size + 1) 3 3 B _ rfl hS.2 Tryd.isAgg27 Tryd.sizeOf27 b3 rfl⟩) (by assumption) ?_
    try simp only [List.getElem_toArray, List.getElem_cons_zero, List.getElem_cons_succ, Act.put, List.setIfInBounds_toArray, List.set_cons_zero, List.set_cons_succ]
    first
      | (refine wpAnyH_take (i := 10) rfl (by kernel_rfl) (by kernel_rfl) (by kernel_rfl) (fun _ _ _ h => h) (Or.inr ⟨by rfl, rfl⟩) (by assumption) ?_)
      | (refine wpAnyH_take (i := 10) (v := ?vb39) rfl (by kernel_rfl) (by kernel_rfl) (by kernel_rfl) (fun _ _ _ h => h) (Or.inl ⟨by rfl, ?hyb39⟩) (by assumption) ?rb39; case hyb39 => (rintro w' hS; obtain ⟨s1, s2⟩ := hS; have x6 := s1.cell 6 a6; have y6 := s2.cell 6 b6; have x18 := s1.cell 18 a18; have y18 := s2.cell 18 b18; go_simp; try with_reducible rfl))
    try simp only [List.getElem_toArray, List.getElem_cons_zero, List.getElem_cons_succ, Act.put, List.setIfInBounds_toArray, List.set_cons_zero, List.set_cons_succ]
    first
      | (refine wpAnyH_take (i := 11) rfl (by kernel_rfl) (by kernel_rfl) (by kernel_rfl) (fun _ _ _ h => h) (Or.inr ⟨by rfl, rfl⟩) (by assumption) ?_)
      | (refine wpAnyH_take (i := 11) (v := ?vb40) rfl (by kernel_rfl) (by kernel_rfl) (by kernel_rfl) (fun _ _ _ h => h) (Or.inl ⟨by rfl, ?hyb40⟩) (by assumption) ?rb40; case hyb40 => (rintro w' hS; obtain ⟨s1, s2⟩ := hS; have x6 := s1.cell 6 a6; have y6 := s2.cell 6 b6; have x18 := s1.cell 18 a18; have y18 := s2.cell 18 b18; go_simp; try with_reducible rfl))
    try simp only [List.getElem_toArray, List.getElem_cons_zero, List.getElem_cons_succ, Act.put, List.setIfInBounds_toArray, List.set_cons_zero, List.set_cons_succ]
    first
      | (refine wpAnyH_take (i := 12) rfl (by kernel_rfl) (by kernel_rfl) (by kernel_rfl) (fun _ _ _ h => h) (Or.inr ⟨by rfl, rfl⟩) (by assumption) ?_)
      | (refine wpAnyH_take (i := 12) (v := ?vb41) rfl (by kernel_rfl) (by kernel_rfl) (by kernel_rfl) (fun _ _ _ h => h) (Or.inl ⟨by rfl, ?hyb41⟩) (by assumption) ?rb41; case hyb41 => (rintro w' hS; obtain ⟨s1, s2⟩ := hS; have x6 := s1.cell 6 a6; have y6 := s2.cell 6 b6; have x18 := s1.cell 18 a18; have y18 := s2.cell 18 b18; go_simp; try with_reducible rfl))
    try simp only [List.getElem_toArray, List.getElem_cons_zero, List.getElem_cons_succ, Act.put, List.setIfInBounds_toArray, List.set_cons_zero, List.set_cons_succ]
    first
      | (refine wpAnyH_take (i := 13) rfl (by kernel_rfl) (by kernel_rfl) (by kernel_rfl) (fun _ _ _ h => h) (Or.inr ⟨by rfl, rfl⟩) (by assumption) ?_)
      | (refine wpAnyH_take (i := 13) (v := ?vb42) rfl (by kernel_rfl) (by kernel_rfl) (by kernel_rfl) (fun _ _ _ h => h) (Or.inl ⟨by rfl, ?hyb42⟩) (by assumption) ?rb42; case hyb42 => (rintro w' hS; obtain ⟨s1, s2⟩ := hS; have x6 := s1.cell 6 a6; have y6 := s2.cell 6 b6; have x18 := s1.cell 18 a18; have y18 := s2.cell 18 b18; go_simp; try with_reducible rfl))
    try simp only [List.getElem_toArray, List.getElem_cons_zero, List.getElem_cons_succ, Act.put, List.setIfInBounds_toArray, List.set_cons_zero, List.set_cons_succ]
    first
      | (refine wpAnyH_take (i := 14) rfl (by kernel_rfl) (by kernel_rfl) (by kernel_rfl) (fun _ _ _ h => h) (Or.inr ⟨by rfl, rfl⟩) (by assumption) ?_)
      | (refine wpAnyH_take (i := 14) (v := ?vb43) rfl (by kernel_rfl) (by kernel_rfl) (by kernel_rfl) (fun _ _ _ h => h) (Or.inl ⟨by rfl, ?hyb43⟩) (by assumption) ?rb43; case hyb43 => (rintro w' hS; obtain ⟨s1, s2⟩ := hS; have x6 := s1.cell 6 a6; have y6 := s2.cell 6 b6; have x18 := s1.cell 18 a18; have y18 := s2.cell 18 b18; go_simp; try with_reducible rfl))
    try simp only [List.getElem_toArray, List.getElem_cons_zero, List.getElem_cons_succ, Act.put, List.setIfInBounds_toArray, List.set_cons_zero, List.set_cons_succ]
    first
      | (refine wpAnyH_take (i := 15) rfl (by kernel_rfl) (by kernel_rfl) (by kernel_rfl) (fun _ _ _ h => h) (Or.inr ⟨by rfl, rfl⟩) (by assumption) ?_)
      | (refine wpAnyH_take (i := 15) (v := ?vb44) rfl (by kernel_rfl) (by kernel_rfl) (by kernel_rfl) (fun _ _ _ h => h) (Or.inl ⟨by rfl, ?hyb44⟩) (by assumption) ?rb44; case hyb44 => (rintro w' hS; obtain ⟨s1, s2⟩ := hS; have x6 := s1.cell 6 a6; have y6 := s2.cell 6 b6; have x18 := s1.cell 18 a18; have y18 := s2.cell 18 b18; go_simp; try with_reducible rfl))
    try simp only [List.getElem_toArray, List.getElem_cons_zero, List.getElem_cons_succ, Act.put, List.setIfInBounds_toArray, List.set_cons_zero, List.set_cons_succ]
    first
      | (refine wpAnyH_take (i := 16) rfl (by kernel_rfl) (by kernel_rfl) (by kernel_rfl) (fun _ _ _ h => h) (Or.inr ⟨by rfl, rfl⟩) (by assumption) ?_)
      | (refine wpAnyH_take (i := 16) (v := ?vb45) rfl (by kernel_rfl) (by kernel_rfl) (by kernel_rfl) (fun _ _ _ h => h) (Or.inl ⟨by rfl, ?hyb45⟩) (by assumption) ?rb45; case hyb45 => (rintro w' hS; obtain ⟨s1, s2⟩ := hS; have x6 := s1.cell 6 a6; have y6 := s2.cell 6 b6; have x18 := s1.cell 18 a18; have y18 := s2.cell 18 b18; go_simp; try with_reducible rfl))
    try simp only [List.getElem_toArray, List.getElem_cons_zero, List.getElem_cons_succ, Act.put, List.setIfInBounds_toArray, List.set_cons_zero, List.set_cons_succ]
    first
      | (refine wpAnyH_take (i := 17) rfl (by kernel_rfl) (by kernel_rfl) (by kernel_rfl) (fun _ _ _ h => h) (Or.inr ⟨by rfl, rfl⟩) (by assumption) ?_)
      | (refine wpAnyH_take (i := 17) (v := ?vb46) rfl (by kernel_rfl) (by kernel_rfl) (by kernel_rfl) (fun _ _ _ h => h) (Or.inl ⟨by rfl, ?hyb46⟩) (by assumption) ?rb46; case hyb46 => (rintro w' hS; obtain ⟨s1, s2⟩ := hS; have x6 := s1.cell 6 a6; have y6 := s2.cell 6 b6; have x18 := s1.cell 18 a18; have y18 := s2.cell 18 b18; go_simp; try with_reducible rfl))
    try simp only [List.getElem_toArray, List.getElem_cons_zero, List.getElem_cons_succ, Act.put, List.setIfInBounds_toArray, List.set_cons_zero, List.set_cons_succ]
    first
      | (refine wpAnyH_take (i := 18) rfl (by kernel_rfl) (by kernel_rfl) (by kernel_rfl) (fun _ _ _ h => h) (Or.inr ⟨by rfl, rfl⟩) (by assumption) ?_)
      | (refine wpAnyH_take (i := 18) (v := ?vb47) rfl (by kernel_rfl) (by kernel_rfl) (by kernel_rfl) (fun _ _ _ h => h) (Or.inl ⟨by rfl, ?hyb47⟩) (by assumption) ?rb47; case hyb47 => (rintro w' hS; obtain ⟨s1, s2⟩ := hS; have x6 := s1.cell 6 a6; have y6 := s2.cell 6 b6; have x18 := s1.cell 18 a18; have y18 := s2.cell 18 b18; go_simp; try with_reducible rfl))
    try simp only [List.getElem_toArray, List.getElem_cons_zero, List.getElem_cons_succ, Act.put, List.setIfInBounds_toArray, List.set_cons_zero, List.set_cons_succ]
    first
      | (refine wpAnyH_take (i := 19) rfl (by kernel_rfl) (by kernel_rfl) (by kernel_rfl) (fun _ _ _ h => h) (Or.inr ⟨by rfl, rfl⟩) (by assumption) ?_)
      | (refine wpAnyH_take (i := 19) (v := ?vb48) rfl (by kernel_rfl) (by kernel_rfl) (by kernel_rfl) (fun _ _ _ h => h) (Or.inl ⟨by rfl, ?hyb48⟩) (by assumption) ?rb48; case hyb48 => (rintro w' hS; obtain ⟨s1, s2⟩ := hS; have x6 := s1.cell 6 a6; have y6 := s2.cell 6 b6; have x18 := s1.cell 18 a18; have y18 := s2.cell 18 b18; go_simp; try with_reducible rfl))
    try simp only [List.getElem_toArray, List.getElem_cons_zero, List.getElem_cons_succ, Act.put, List.setIfInBounds_toArray, List.set_cons_zero, List.set_cons_succ]
    first
      | (refine wpAnyH_take (i := 20) rfl (by kernel_rfl) (by kernel_rfl) (by kernel_rfl) (fun _ _ _ h => h) (Or.inr ⟨by rfl, rfl⟩) (by assumption) ?_)
      | (refine wpAnyH_take (i := 20) (v := ?vb49) rfl (by kernel_rfl) (by kernel_rfl) (by kernel_rfl) (fun _ _ _ h => h) (Or.inl ⟨by rfl, ?hyb49⟩) (by assumption) ?rb49; case hyb49 => (rintro w' hS; obtain ⟨s1, s2⟩ := hS; have x6 := s1.cell 6 a6; have y6 := s2.cell 6 b6; have x18 := s1.cell 18 a18; have y18 := s2.cell 18 b18; go_simp; try with_reducible rfl))
    try simp only [List.getElem_toArray, List.getElem_cons_zero, List.getElem_cons_succ, Act.put, List.setIfInBounds_toArray, List.set_cons_zero, List.set_cons_succ]
    first
      | (refine wpAnyH_take (i := 21) rfl (by kernel_rfl) (by kernel_rfl) (by kernel_rfl) (fun _ _ _ h => h) (Or.inr ⟨by rfl, rfl⟩) (by assumption) ?_)
      | (refine wpAnyH_take (i := 21) (v := ?vb50) rfl (by kernel_rfl) (by kernel_rfl) (by kernel_rfl) (fun _ _ _ h => h) (Or.inl ⟨by rfl, ?hyb50⟩) (by assumption) ?rb50; case hyb50 => (rintro w' hS; obtain ⟨s1, s2⟩ := hS; have x6 := s1.cell 6 a6; have y6 := s2.cell 6 b6; have x18 := s1.cell 18 a18; have y18 := s2.cell 18 b18; go_simp; try with_reducible rfl))
    try simp only [List.getElem_toArray, List.getElem_cons_zero, List.getElem_cons_succ, Act.put, List.setIfInBounds_toArray, List.set_cons_zero, List.set_cons_succ]
    first
      | (refine wpAnyH_take (i := 22) rfl (by kernel_rfl) (by kernel_rfl) (by kernel_rfl) (fun _ _ _ h => h) (Or.inr ⟨by rfl, rfl⟩) (by assumption) ?_)
      | (refine wpAnyH_take (i := 22) (v := ?vb51) rfl (by kernel_rfl) (by kernel_rfl) (by kernel_rfl) (fun _ _ _ h => h) (Or.inl ⟨by rfl, ?hyb51⟩) (by assumption) ?rb51; case hyb51 => (rintro w' hS; obtain ⟨s1, s2⟩ := hS; have x6 := s1.cell 6 a6; have y6 := s2.cell 6 b6; have x18 := s1.cell 18 a18; have y18 := s2.cell 18 b18; go_simp; try with_reducible rfl))
    try simp only [List.getElem_toArray, List.getElem_cons_zero, List.getElem_cons_succ, Act.put, List.setIfInBounds_toArray, List.set_cons_zero, List.set_cons_succ]
    first
      | (refine wpAnyH_take (i := 23) rfl (by kernel_rfl) (by kernel_rfl) (by kernel_rfl) (fun _ _ _ h => h) (Or.inr ⟨by rfl, rfl⟩) (by assumption) ?_)
      | (refine wpAnyH_take (i := 23) (v := ?vb52) rfl (by kernel_rfl) (by kernel_rfl) (by kernel_rfl) (fun _ _ _ h => h) (Or.inl ⟨by rfl, ?hyb52⟩) (by assumption) ?rb52; case hyb52 => (rintro w' hS; obtain ⟨s1, s2⟩ := hS; have x6 := s1.cell 6 a6; have y6 := s2.cell 6 b6; have x18 := s1.cell 18 a18; have y18 := s2.cell 18 b18; go_simp; try with_reducible rfl))
    try simp only [List.getElem_toArray, List.getElem_cons_zero, List.getElem_cons_succ, Act.put, List.setIfInBounds_toArray, List.set_cons_zero, List.set_cons_succ]
    first
      | (refine wpAnyH_take (i := 24) rfl (by kernel_rfl) (by kernel_rfl) (by kernel_rfl) (fun _ _ _ h => h) (Or.inr ⟨by rfl, rfl⟩) (by assumption) ?_)
      | (refine wpAnyH_take (i := 24) (v := ?vb53) rfl (by kernel_rfl) (by kernel_rfl) (by kernel_rfl) (fun _ _ _ h => h) (Or.inl ⟨by rfl, ?hyb53⟩) (by assumption) ?rb53; case hyb53 => (rintro w' hS; obtain ⟨s1, s2⟩ := hS; have x6 := s1.cell 6 a6; have y6 := s2.cell 6 b6; have x18 := s1.cell 18 a18; have y18 := s2.cell 18 b18; go_simp; try with_reducible rfl))
    try simp only [List.getElem_toArray, List.getElem_cons_zero, List.getElem_cons_succ, Act.put, List.setIfInBounds_toArray, List.set_cons_zero, List.set_cons_succ]
    first
      | (refine wpAnyH_take (i := 25) rfl (by kernel_rfl) (by kernel_rfl) (by kernel_rfl) (fun _ _ _ h => h) (Or.inr ⟨by rfl, rfl⟩) (by assumption) ?_)
      | (refine wpAnyH_take (i := 25) (v := ?vb54) rfl (by kernel_rfl) (by kernel_rfl) (by kernel_rfl) (fun _ _ _ h => h) (Or.inl ⟨by rfl, ?hyb54⟩) (by assumption) ?rb54; case hyb54 => (rintro w' hS; obtain ⟨s1, s2⟩ := hS; have x6 := s1.cell 6 a6; have y6 := s2.cell 6 b6; have x18 := s1.cell 18 a18; have y18 := s2.cell 18 b18; go_simp; try with_reducible rfl))
    try simp only [List.getElem_toArray, List.getElem_cons_zero, List.getElem_cons_succ, Act.put, List.setIfInBounds_toArray, List.set_cons_zero, List.set_cons_succ]
    first
      | (refine wpAnyH_take (i := 26) rfl (by kernel_rfl) (by kernel_rfl) (by kernel_rfl) (fun _ _ _ h => h) (Or.inr ⟨by rfl, rfl⟩) (by assumption) ?_)
      | (refine wpAnyH_take (i := 26) (v := ?vb55) rfl (by kernel_rfl) (by kernel_rfl) (by kernel_rfl) (fun _ _ _ h => h) (Or.inl ⟨by rfl, ?hyb55⟩) (by assumption) ?rb55; case hyb55 => (rintro w' hS; obtain ⟨s1, s2⟩ := hS; have x6 := s1.cell 6 a6; have y6 := s2.cell 6 b6; have x18 := s1.cell 18 a18; have y18 := s2.cell 18 b18; go_simp; try with_reducible rfl))
    try simp only [List.getElem_toArray, List.getElem_cons_zero, List.getElem_cons_succ, Act.put, List.setIfInBounds_toArray, List.set_cons_zero, List.set_cons_succ]
    first
      | (refine wpAnyH_take (i := 27) rfl (by kernel_rfl) (by kernel_rfl) (by kernel_rfl) (fun _ _ _ h => h) (Or.inr ⟨by rfl, rfl⟩) (by assumption) ?_)
      | (refine wpAnyH_take (i := 27) (v := ?vb56) rfl (by kernel_rfl) (by kernel_rfl) (by kernel_rfl) (fun _ _ _ h => h) (Or.inl ⟨by rfl, ?hyb56⟩) (by assumption) ?rb56; case hyb56 => (rintro w' hS; obtain ⟨s1, s2⟩ := hS; have x6 := s1.cell 6 a6; have y6 := s2.cell 6 b6; have x18 := s1.cell 18 a18; have y18 := s2.cell 18 b18; go_simp; try with_reducible rfl))
    try simp only [List.getElem_toArray, List.getElem_cons_zero, List.getElem_cons_succ, Act.put, List.setIfInBounds_toArray, List.set_cons_zero, List.set_cons_succ]
    first
      | (refine wpAnyH_take (i := 28) rfl (by kernel_rfl) (by kernel_rfl) (by kernel_rfl) (fun _ _ _ h => h) (Or.inr ⟨by rfl, rfl⟩) (by assumption) ?_)
      | (refine wpAnyH_take (i := 28) (v := ?vb57) rfl (by kernel_rfl) (by kernel_rfl) (by kernel_rfl) (fun _ _ _ h => h) (Or.inl ⟨by rfl, ?hyb57⟩) (by assumption) ?rb57; case hyb57 => (rintro w' hS; obtain ⟨s1, s2⟩ := hS; have x6 := s1.cell 6 a6; have y6 := s2.cell 6 b6; have x18 := s1.cell 18 a18; have y18 := s2.cell 18 b18; go_simp; try with_reducible rfl))
    try simp only [List.getElem_toArray, List.getElem_cons_zero, List.getElem_cons_succ, Act.put, List.setIfInBounds_toArray, List.set_cons_zero, List.set_cons_succ]
    first
      | (refine wpAnyH_take (i := 29) rfl (by kernel_rfl) (by kernel_rfl) (by kernel_rfl) (fun _ _ _ h => h) (Or.inr ⟨by rfl, rfl⟩) (by assumption) ?_)
      | (refine wpAnyH_take (i := 29) (v := ?vb58) rfl (by kernel_rfl) (by kernel_rfl) (by kernel_rfl) (fun _ _ _ h => h) (Or.inl ⟨by rfl, ?hyb58⟩) (by assumption) ?rb58; case hyb58 => (rintro w' hS; obtain ⟨s1, s2⟩ := hS; have x6 := s1.cell 6 a6; have y6 := s2.cell 6 b6; have x18 := s1.cell 18 a18; have y18 := s2.cell 18 b18; go_simp; try with_reducible rfl))
    try simp only [List.getElem_toArray, List.getElem_cons_zero, List.getElem_cons_succ, Act.put, List.setIfInBounds_toArray, List.set_cons_zero, List.set_cons_succ]
    first
      | (refine wpAnyH_take (i := 30) rfl (by kernel_rfl) (by kernel_rfl) (by kernel_rfl) (fun _ _ _ h => h) (Or.inr ⟨by rfl, rfl⟩) (by assumption) ?_)
      | (refine wpAnyH_take (i := 30) (v := ?vb59) rfl (by kernel_rfl) (by kernel_rfl) (by kernel_rfl) (fun _ _ _ h => h) (Or.inl ⟨by rfl, ?hyb59⟩) (by assumption) ?rb59; case hyb59 => (rintro w' hS; obtain ⟨s1, s2⟩ := hS; have x6 := s1.cell 6 a6; have y6 := s2.cell 6 b6; have x18 := s1.cell 18 a18; have y18 := s2.cell 18 b18; go_simp; try with_reducible rfl))
    try simp only [List.getElem_toArray, List.getElem_cons_zero, List.getElem_cons_succ, Act.put, List.setIfInBounds_toArray, List.set_cons_zero, List.set_cons_succ]
    first
      | (refine wpAnyH_take (i := 31) rfl (by kernel_rfl) (by kernel_rfl) (by kernel_rfl) (fun _ _ _ h => h) (Or.inr ⟨by rfl, rfl⟩) (by assumption) ?_)
      | (refine wpAnyH_take (i := 31) (v := ?vb60) rfl (by kernel_rfl) (by kernel_rfl) (by kernel_rfl) (fun _ _ _ h => h) (Or.inl ⟨by rfl, ?hyb60⟩) (by assumption) ?rb60; case hyb60 => (rintro w' hS; obtain ⟨s1, s2⟩ := hS; have x6 := s1.cell 6 a6; have y6 := s2.cell 6 b6; have x18 := s1.cell 18 a18; have y18 := s2.cell 18 b18; go_simp; try with_reducible rfl))
    try simp only [List.getElem_toArray, List.getElem_cons_zero, List.getElem_cons_succ, Act.put, List.setIfInBounds_toArray, List.set_cons_zero, List.set_cons_succ]
    first
      | (refine wpAnyH_take (i := 32) rfl (by kernel_rfl) (by kernel_rfl) (by kernel_rfl) (fun _ _ _ h => h) (Or.inr ⟨by rfl, rfl⟩) (by assumption) ?_)
      | (refine wpAnyH_take (i := 32) (v := ?vb61) rfl (by kernel_rfl) (by kernel_rfl) (by kernel_rfl) (fun _ _ _ h => h) (Or.inl ⟨by rfl, ?hyb61⟩) (by assumption) ?rb61; case hyb61 => (rintro w' hS; obtain ⟨s1, s2⟩ := hS; have x6 := s1.cell 6 a6; have y6 := s2.cell 6 b6; have x18 := s1.cell 18 a18; have y18 := s2.cell 18 b18; go_simp; try with_reducible rfl))
    try simp only [List.getElem_toArray, List.getElem_cons_zero, List.getElem_cons_succ, Act.put, List.setIfInBounds_toArray, List.set_cons_zero, List.set_cons_succ]
    first
      | (refine wpAnyH_take (i := 33) rfl (by kernel_rfl) (by kernel_rfl) (by kernel_rfl) (fun _ _ _ h => h) (Or.inr ⟨by rfl, rfl⟩) (by assumption) ?_)
      | (refine wpAnyH_take (i := 33) (v := ?vb62) rfl (by kernel_rfl) (by kernel_rfl) (by kernel_rfl) (fun _ _ _ h => h) (Or.inl ⟨by rfl, ?hyb62⟩) (by assumption) ?rb62; case hyb62 => (rintro w' hS; obtain ⟨s1, s2⟩ := hS; have x6 := s1.cell 6 a6; have y6 := s2.cell 6 b6; have x18 := s1.cell 18 a18; have y18 := s2.cell 18 b18; go_simp; try with_reducible rfl))
    try simp only [List.getElem_toArray, List.getElem_cons_zero, List.getElem_cons_succ, Act.put, List.setIfInBounds_toArray, List.set_cons_zero, List.set_cons_succ]
    refine wpAnyH_done (by kernel_rfl) ?_ _
    go_wp2
    go_ret
    exact ⟨rfl, hup _ hC1⟩
  | true =>
  cases r3 with
  | false =>
    go_enter Tryd.func8, Tryd.ntmps8
    go_wp2_with fail
    refine wp_region_held_drew (S := fun w' => ObjAt w' w.heap.size A.toList ∧ ObjAt w' (w.heap.size + 1) B.toList) (by kernel_rfl) (⟨o1.below hC1 hlt1, o2.below hC1 hlt2⟩) (fun hHeld => ?_)
    first
      | (refine wpAnyH_take (i := 0) rfl (by kernel_rfl) (by kernel_rfl) (by kernel_rfl) (fun _ _ _ h => h) (Or.inr ⟨by rfl, rfl⟩) (by assumption) ?_)
      | (refine wpAnyH_take (i := 0) (v := ?vb63) rfl (by kernel_rfl) (by kernel_rfl) (by kernel_rfl) (fun _ _ _ h => h) (Or.inl ⟨by rfl, ?hyb63⟩) (by assumption) ?rb63; case hyb63 => (rintro w' hS; obtain ⟨s1, s2⟩ := hS; have x6 := s1.cell 6 a6; have y6 := s2.cell 6 b6; have x18 := s1.cell 18 a18; have y18 := s2.cell 18 b18; go_simp; try with_reducible rfl))
    try simp only [List.getElem_toArray, List.getElem_cons_zero, Act.put, List.setIfInBounds_toArray, List.set_cons_zero, List.set_cons_succ]
    refine wpAnyH_take (i := 1) rfl (by kernel_rfl) (by kernel_rfl) (by kernel_rfl) (fun _ _ _ h => h) (Or.inl ⟨by rfl, fun w' hS => execLoadPart 25 _ rfl (w.heap.size) 0 3 A _ rfl hS.1 Tryd.isAgg25 Tryd.sizeOf25 a0 rfl⟩) (by assumption) ?_
    try simp only [List.getElem_toArray, List.getElem_cons_zero, List.getElem_cons_succ, Act.put, List.setIfInBounds_toArray, List.set_cons_zero, List.set_cons_succ]
    first
      | (refine wpAnyH_take (i := 2) rfl (by kernel_rfl) (by kernel_rfl) (by kernel_rfl) (fun _ _ _ h => h) (Or.inr ⟨by rfl, rfl⟩) (by assumption) ?_)
      | (refine wpAnyH_take (i := 2) (v := ?vb64) rfl (by kernel_rfl) (by kernel_rfl) (by kernel_rfl) (fun _ _ _ h => h) (Or.inl ⟨by rfl, ?hyb64⟩) (by assumption) ?rb64; case hyb64 => (rintro w' hS; obtain ⟨s1, s2⟩ := hS; have x6 := s1.cell 6 a6; have y6 := s2.cell 6 b6; have x18 := s1.cell 18 a18; have y18 := s2.cell 18 b18; go_simp; try with_reducible rfl))
    try simp only [List.getElem_toArray, List.getElem_cons_zero, List.getElem_cons_succ, Act.put, List.setIfInBounds_toArray, List.set_cons_zero, List.set_cons_succ]
    refine wpAnyH_take (i := 3) rfl (by kernel_rfl) (by kernel_rfl) (by kernel_rfl) (fun _ _ _ h => h) (Or.inl ⟨by rfl, fun w' hS => execLoadPart 25 _ rfl (w.heap.size + 1) 0 3 B _ rfl hS.2 Tryd.isAgg25 Tryd.sizeOf25 b0 rfl⟩) (by assumption) ?_
    try simp only [List.getElem_toArray, List.getElem_cons_zero, List.getElem_cons_succ, Act.put, List.setIfInBounds_toArray, List.set_cons_zero, List.set_cons_succ]
    first
      | (refine wpAnyH_take (i := 4) rfl (by kernel_rfl) (by kernel_rfl) (by kernel_rfl) (fun _ _ _ h => h) (Or.inr ⟨by rfl, rfl⟩) (by assumption) ?_)
      | (refine wpAnyH_take (i := 4) (v := ?vb65) rfl (by kernel_rfl) (by kernel_rfl) (by kernel_rfl) (fun _ _ _ h => h) (Or.inl ⟨by rfl, ?hyb65⟩) (by assumption) ?rb65; case hyb65 => (rintro w' hS; obtain ⟨s1, s2⟩ := hS; have x6 := s1.cell 6 a6; have y6 := s2.cell 6 b6; have x18 := s1.cell 18 a18; have y18 := s2.cell 18 b18; go_simp; try with_reducible rfl))
    try simp only [List.getElem_toArray, List.getElem_cons_zero, List.getElem_cons_succ, Act.put, List.setIfInBounds_toArray, List.set_cons_zero, List.set_cons_succ]
    first
      | (refine wpAnyH_take (i := 5) rfl (by kernel_rfl) (by kernel_rfl) (by kernel_rfl) (fun _ _ _ h => h) (Or.inr ⟨by rfl, rfl⟩) (by assumption) ?_)
      | (refine wpAnyH_take (i := 5) (v := ?vb66) rfl (by kernel_rfl) (by kernel_rfl) (by kernel_rfl) (fun _ _ _ h => h) (Or.inl ⟨by rfl, ?hyb66⟩) (by assumption) ?rb66; case hyb66 => (rintro w' hS; obtain ⟨s1, s2⟩ := hS; have x6 := s1.cell 6 a6; have y6 := s2.cell 6 b6; have x18 := s1.cell 18 a18; have y18 := s2.cell 18 b18; go_simp; try with_reducible rfl))
    try simp only [List.getElem_toArray, List.getElem_cons_zero, List.getElem_cons_succ, Act.put, List.setIfInBounds_toArray, List.set_cons_zero, List.set_cons_succ]
    first
      | (refine wpAnyH_take (i := 6) rfl (by kernel_rfl) (by kernel_rfl) (by kernel_rfl) (fun _ _ _ h => h) (Or.inr ⟨by rfl, rfl⟩) (by assumption) ?_)
      | (refine wpAnyH_take (i := 6) (v := ?vb67) rfl (by kernel_rfl) (by kernel_rfl) (by kernel_rfl) (fun _ _ _ h => h) (Or.inl ⟨by rfl, ?hyb67⟩) (by assumption) ?rb67; case hyb67 => (rintro w' hS; obtain ⟨s1, s2⟩ := hS; have x6 := s1.cell 6 a6; have y6 := s2.cell 6 b6; have x18 := s1.cell 18 a18; have y18 := s2.cell 18 b18; go_simp; try with_reducible rfl))
    try simp only [List.getElem_toArray, List.getElem_cons_zero, List.getElem_cons_succ, Act.put, List.setIfInBounds_toArray, List.set_cons_zero, List.set_cons_succ]
    refine wpAnyH_take (i := 7) rfl (by kernel_rfl) (by kernel_rfl) (by kernel_rfl) (fun _ _ _ h => h) (Or.inl ⟨by rfl, fun w' hS => execLoadPart 27 _ rfl (w.heap.size) 3 3 A _ rfl hS.1 Tryd.isAgg27 Tryd.sizeOf27 a3 rfl⟩) (by assumption) ?_
    try simp only [List.getElem_toArray, List.getElem_cons_zero, List.getElem_cons_succ, Act.put, List.setIfInBounds_toArray, List.set_cons_zero, List.set_cons_succ]
    first
      | (refine wpAnyH_take (i := 8) rfl (by kernel_rfl) (by kernel_rfl) (by kernel_rfl) (fun _ _ _ h => h) (Or.inr ⟨by rfl, rfl⟩) (by assumption) ?_)
      | (refine wpAnyH_take (i := 8) (v := ?vb68) rfl (by kernel_rfl) (by kernel_rfl) (by kernel_rfl) (fun _ _ _ h => h) (Or.inl ⟨by rfl, ?hyb68⟩) (by assumption) ?rb68; case hyb68 => (rintro w' hS; obtain ⟨s1, s2⟩ := hS; have x6 := s1.cell 6 a6; have y6 := s2.cell 6 b6; have x18 := s1.cell 18 a18; have y18 := s2.cell 18 b18; go_simp; try with_reducible rfl))
    try simp only [List.getElem_toArray, List.getElem_cons_zero, List.getElem_cons_succ, Act.put, List.setIfInBounds_toArray, List.set_cons_zero, List.set_cons_succ]
    refine wpAnyH_take (i := 9) rfl (by kernel_rfl) (by kernel_rfl) (by kernel_rfl) (fun _ _ _ h => h) (Or.inl ⟨by rfl, fun w' hS => execLoadPart 27 _ rfl (w.heap.size + 1) 3 3 B _ rfl hS.2 Tryd.isAgg27 Tryd.sizeOf27 b3 rfl⟩) (by assumption) ?_
    try simp only [List.getElem_toArray, List.getElem_cons_zero, List.getElem_cons_succ, Act.put, List.setIfInBounds_toArray, List.set_cons_zero, List.set_cons_succ]
    first
      | (refine wpAnyH_take (i := 10) rfl (by kernel_rfl) (by kernel_rfl) (by kernel_rfl) (fun _ _ _ h => h) (Or.inr ⟨by rfl, rfl⟩) (by assumption) ?_)
      | (refine wpAnyH_take (i := 10) (v := ?vb69) rfl (by kernel_rfl) (by kernel_rfl) (by kernel_rfl) (fun _ _ _ h => h) (Or.inl ⟨by rfl, ?hyb69⟩) (by assumption) ?rb69; case hyb69 => (rintro w' hS; obtain ⟨s1, s2⟩ := hS; have x6 := s1.cell 6 a6; have y6 := s2.cell 6 b6; have x18 := s1.cell 18 a18; have y18 := s2.cell 18 b18; go_simp; try with_reducible rfl))
    try simp only [List.getElem_toArray, List.getElem_cons_zero, List.getElem_cons_succ, Act.put, List.setIfInBounds_toArray, List.set_cons_zero, List.set_cons_succ]
    first
      | (refine wpAnyH_take (i := 11) rfl (by kernel_rfl) (by kernel_rfl) (by kernel_rfl) (fun _ _ _ h => h) (Or.inr ⟨by rfl, rfl⟩) (by assumption) ?_)
      | (refine wpAnyH_take (i := 11) (v := ?vb70) rfl (by kernel_rfl) (by kernel_rfl) (by kernel_rfl) (fun _ _ _ h => h) (Or.inl ⟨by rfl, ?hyb70⟩) (by assumption) ?rb70; case hyb70 => (rintro w' hS; obtain ⟨s1, s2⟩ := hS; have x6 := s1.cell 6 a6; have y6 := s2.cell 6 b6; have x18 := s1.cell 18 a18; have y18 := s2.cell 18 b18; go_simp; try with_reducible rfl))
    try simp only [List.getElem_toArray, List.getElem_cons_zero, List.getElem_cons_succ, Act.put, List.setIfInBounds_toArray, List.set_cons_zero, List.set_cons_succ]
    first
      | (refine wpAnyH_take (i := 12) rfl (by kernel_rfl) (by kernel_rfl) (by kernel_rfl) (fun _ _ _ h => h) (Or.inr ⟨by rfl, rfl⟩) (by assumption) ?_)
      | (refine wpAnyH_take (i := 12) (v := ?vb71) rfl (by kernel_rfl) (by kernel_rfl) (by kernel_rfl) (fun _ _ _ h => h) (Or.inl ⟨by rfl, ?hyb71⟩) (by assumption) ?rb71; case hyb71 => (rintro w' hS; obtain ⟨s1, s2⟩ := hS; have x6 := s1.cell 6 a6; have y6 := s2.cell 6 b6; have x18 := s1.cell 18 a18; have y18 := s2.cell 18 b18; go_simp; try with_reducible rfl))
    try simp only [List.getElem_toArray, List.getElem_cons_zero, List.getElem_cons_succ, Act.put, List.setIfInBounds_toArray, List.set_cons_zero, List.set_cons_succ]
    first
      | (refine wpAnyH_take (i := 13) rfl (by kernel_rfl) (by kernel_rfl) (by kernel_rfl) (fun _ _ _ h => h) (Or.inr ⟨by rfl, rfl⟩) (by assumption) ?_)
      | (refine wpAnyH_take (i := 13) (v := ?vb72) rfl (by kernel_rfl) (by kernel_rfl) (by kernel_rfl) (fun _ _ _ h => h) (Or.inl ⟨by rfl, ?hyb72⟩) (by assumption) ?rb72; case hyb72 => (rintro w' hS; obtain ⟨s1, s2⟩ := hS; have x6 := s1.cell 6 a6; have y6 := s2.cell 6 b6; have x18 := s1.cell 18 a18; have y18 := s2.cell 18 b18; go_simp; try with_reducible rfl))
    try simp only [List.getElem_toArray, List.getElem_cons_zero, List.getElem_cons_succ, Act.put, List.setIfInBounds_toArray, List.set_cons_zero, List.set_cons_succ]
    first
      | (refine wpAnyH_take (i := 14) rfl (by kernel_rfl) (by kernel_rfl) (by kernel_rfl) (fun _ _ _ h => h) (Or.inr ⟨by rfl, rfl⟩) (by assumption) ?_)
      | (refine wpAnyH_take (i := 14) (v := ?vb73) rfl (by kernel_rfl) (by kernel_rfl) (by kernel_rfl) (fun _ _ _ h => h) (Or.inl ⟨by rfl, ?hyb73⟩) (by assumption) ?rb73; case hyb73 => (rintro w' hS; obtain ⟨s1, s2⟩ := hS; have x6 := s1.cell 6 a6; have y6 := s2.cell 6 b6; have x18 := s1.cell 18 a18; have y18 := s2.cell 18 b18; go_simp; try with_reducible rfl))
    try simp only [List.getElem_toArray, List.getElem_cons_zero, List.getElem_cons_succ, Act.put, List.setIfInBounds_toArray, List.set_cons_zero, List.set_cons_succ]
    first
      | (refine wpAnyH_take (i := 15) rfl (by kernel_rfl) (by kernel_rfl) (by kernel_rfl) (fun _ _ _ h => h) (Or.inr ⟨by rfl, rfl⟩) (by assumption) ?_)
      | (refine wpAnyH_take (i := 15) (v := ?vb74) rfl (by kernel_rfl) (by kernel_rfl) (by kernel_rfl) (fun _ _ _ h => h) (Or.inl ⟨by rfl, ?hyb74⟩) (by assumption) ?rb74; case hyb74 => (rintro w' hS; obtain ⟨s1, s2⟩ := hS; have x6 := s1.cell 6 a6; have y6 := s2.cell 6 b6; have x18 := s1.cell 18 a18; have y18 := s2.cell 18 b18; go_simp; try with_reducible rfl))
    try simp only [List.getElem_toArray, List.getElem_cons_zero, List.getElem_cons_succ, Act.put, List.setIfInBounds_toArray, List.set_cons_zero, List.set_cons_succ]
    first
      | (refine wpAnyH_take (i := 16) rfl (by kernel_rfl) (by kernel_rfl) (by kernel_rfl) (fun _ _ _ h => h) (Or.inr ⟨by rfl, rfl⟩) (by assumption) ?_)
      | (refine wpAnyH_take (i := 16) (v := ?vb75) rfl (by kernel_rfl) (by kernel_rfl) (by kernel_rfl) (fun _ _ _ h => h) (Or.inl ⟨by rfl, ?hyb75⟩) (by assumption) ?rb75; case hyb75 => (rintro w' hS; obtain ⟨s1, s2⟩ := hS; have x6 := s1.cell 6 a6; have y6 := s2.cell 6 b6; have x18 := s1.cell 18 a18; have y18 := s2.cell 18 b18; go_simp; try with_reducible rfl))
    try simp only [List.getElem_toArray, List.getElem_cons_zero, List.getElem_cons_succ, Act.put, List.setIfInBounds_toArray, List.set_cons_zero, List.set_cons_succ]
    first
      | (refine wpAnyH_take (i := 17) rfl (by kernel_rfl) (by kernel_rfl) (by kernel_rfl) (fun _ _ _ h => h) (Or.inr ⟨by rfl, rfl⟩) (by assumption) ?_)
      | (refine wpAnyH_take (i := 17) (v := ?vb76) rfl (by kernel_rfl) (by kernel_rfl) (by kernel_rfl) (fun _ _ _ h => h) (Or.inl ⟨by rfl, ?hyb76⟩) (by assumption) ?rb76; case hyb76 => (rintro w' hS; obtain ⟨s1, s2⟩ := hS; have x6 := s1.cell 6 a6; have y6 := s2.cell 6 b6; have x18 := s1.cell 18 a18; have y18 := s2.cell 18 b18; go_simp; try with_reducible rfl))
    try simp only [List.getElem_toArray, List.getElem_cons_zero, List.getElem_cons_succ, Act.put, List.setIfInBounds_toArray, List.set_cons_zero, List.set_cons_succ]
    first
      | (refine wpAnyH_take (i := 18) rfl (by kernel_rfl) (by kernel_rfl) (by kernel_rfl) (fun _ _ _ h => h) (Or.inr ⟨by rfl, rfl⟩) (by assumption) ?_)
      | (refine wpAnyH_take (i := 18) (v := ?vb77) rfl (by kernel_rfl) (by kernel_rfl) (by kernel_rfl) (fun _ _ _ h => h) (Or.inl ⟨by rfl, ?hyb77⟩) (by assumption) ?rb77; case hyb77 => (rintro w' hS; obtain ⟨s1, s2⟩ := hS; have x6 := s1.cell 6 a6; have y6 := s2.cell 6 b6; have x18 := s1.cell 18 a18; have y18 := s2.cell 18 b18; go_simp; try with_reducible rfl))
    try simp only [List.getElem_toArray, List.getElem_cons_zero, List.getElem_cons_succ, Act.put, List.setIfInBounds_toArray, List.set_cons_zero, List.set_cons_succ]
    first
      | (refine wpAnyH_take (i := 19) rfl (by kernel_rfl) (by kernel_rfl) (by kernel_rfl) (fun _ _ _ h => h) (Or.inr ⟨by rfl, rfl⟩) (by assumption) ?_)
      | (refine wpAnyH_take (i := 19) (v := ?vb78) rfl (by kernel_rfl) (by kernel_rfl) (by kernel_rfl) (fun _ _ _ h => h) (Or.inl ⟨by rfl, ?hyb78⟩) (by assumption) ?rb78; case hyb78 => (rintro w' hS; obtain ⟨s1, s2⟩ := hS; have x6 := s1.cell 6 a6; have y6 := s2.cell 6 b6; have x18 := s1.cell 18 a18; have y18 := s2.cell 18 b18; go_simp; try with_reducible rfl))
    try simp only [List.getElem_toArray, List.getElem_cons_zero, List.getElem_cons_succ, Act.put, List.setIfInBounds_toArray, List.set_cons_zero, List.set_cons_succ]
    first
      | (refine wpAnyH_take (i := 20) rfl (by kernel_rfl) (by kernel_rfl) (by kernel_rfl) (fun _ _ _ h => h) (Or.inr ⟨by rfl, rfl⟩) (by assumption) ?_)
      | (refine wpAnyH_take (i := 20) (v := ?vb79) rfl (by kernel_rfl) (by kernel_rfl) (by kernel_rfl) (fun _ _ _ h => h) (Or.inl ⟨by rfl, ?hyb79⟩) (by assumption) ?rb79; case hyb79 => (rintro w' hS; obtain ⟨s1, s2⟩ := hS; have x6 := s1.cell 6 a6; have y6 := s2.cell 6 b6; have x18 := s1.cell 18 a18; have y18 := s2.cell 18 b18; go_simp; try with_reducible rfl))
    try simp only [List.getElem_toArray, List.getElem_cons_zero, List.getElem_cons_succ, Act.put, List.setIfInBounds_toArray, List.set_cons_zero, List.set_cons_succ]
    first
      | (refine wpAnyH_take (i := 21) rfl (by kernel_rfl) (by kernel_rfl) (by kernel_rfl) (fun _ _ _ h => h) (Or.inr ⟨by rfl, rfl⟩) (by assumption) ?_)
      | (refine wpAnyH_take (i := 21) (v := ?vb80) rfl (by kernel_rfl) (by kernel_rfl) (by kernel_rfl) (fun _ _ _ h => h) (Or.inl ⟨by rfl, ?hyb80⟩) (by assumption) ?rb80; case hyb80 => (rintro w' hS; obtain ⟨s1, s2⟩ := hS; have x6 := s1.cell 6 a6; have y6 := s2.cell 6 b6; have x18 := s1.cell 18 a18; have y18 := s2.cell 18 b18; go_simp; try with_reducible rfl))
    try simp only [List.getElem_toArray, List.getElem_cons_zero, List.getElem_cons_succ, Act.put, List.setIfInBounds_toArray, List.set_cons_zero, List.set_cons_succ]
    first
      | (refine wpAnyH_take (i := 22) rfl (by kernel_rfl) (by kernel_rfl) (by kernel_rfl) (fun _ _ _ h => h) (Or.inr ⟨by rfl, rfl⟩) (by assumption) ?_)
      | (refine wpAnyH_take (i := 22) (v := ?vb81) rfl (by kernel_rfl) (by kernel_rfl) (by kernel_rfl) (fun _ _ _ h => h) (Or.inl ⟨by rfl, ?hyb81⟩) (by assumption) ?rb81; case hyb81 => (rintro w' hS; obtain ⟨s1, s2⟩ := hS; have x6 := s1.cell 6 a6; have y6 := s2.cell 6 b6; have x18 := s1.cell 18 a18; have y18 := s2.cell 18 b18; go_simp; try with_reducible rfl))
    try simp only [List.getElem_toArray, List.getElem_cons_zero, List.getElem_cons_succ, Act.put, List.setIfInBounds_toArray, List.set_cons_zero, List.set_cons_succ]
    first
      | (refine wpAnyH_take (i := 23) rfl (by kernel_rfl) (by kernel_rfl) (by kernel_rfl) (fun _ _ _ h => h) (Or.inr ⟨by rfl, rfl⟩) (by assumption) ?_)
      | (refine wpAnyH_take (i := 23) (v := ?vb82) rfl (by kernel_rfl) (by kernel_rfl) (by kernel_rfl) (fun _ _ _ h => h) (Or.inl ⟨by rfl, ?hyb82⟩) (by assumption) ?rb82; case hyb82 => (rintro w' hS; obtain ⟨s1, s2⟩ := hS; have x6 := s1.cell 6 a6; have y6 := s2.cell 6 b6; have x18 := s1.cell 18 a18; have y18 := s2.cell 18 b18; go_simp; try with_reducible rfl))
    try simp only [List.getElem_toArray, List.getElem_cons_zero, List.getElem_cons_succ, Act.put, List.setIfInBounds_toArray, List.set_cons_zero, List.set_cons_succ]
    first
      | (refine wpAnyH_take (i := 24) rfl (by kernel_rfl) (by kernel_rfl) (by kernel_rfl) (fun _ _ _ h => h) (Or.inr ⟨by rfl, rfl⟩) (by assumption) ?_)
      | (refine wpAnyH_take (i := 24) (v := ?vb83) rfl (by kernel_rfl) (by kernel_rfl) (by kernel_rfl) (fun _ _ _ h => h) (Or.inl ⟨by rfl, ?hyb83⟩) (by assumption) ?rb83; case hyb83 => (rintro w' hS; obtain ⟨s1, s2⟩ := hS; have x6 := s1.cell 6 a6; have y6 := s2.cell 6 b6; have x18 := s1.cell 18 a18; have y18 := s2.cell 18 b18; go_simp; try with_reducible rfl))
    try simp only [List.getElem_toArray, List.getElem_cons_zero, List.getElem_cons_succ, Act.put, List.setIfInBounds_toArray, List.set_cons_zero, List.set_cons_succ]
    first
      | (refine wpAnyH_take (i := 25) rfl (by kernel_rfl) (by kernel_rfl) (by kernel_rfl) (fun _ _ _ h => h) (Or.inr ⟨by rfl, rfl⟩) (by assumption) ?_)
      | (refine wpAnyH_take (i := 25) (v := ?vb84) rfl (by kernel_rfl) (by kernel_rfl) (by kernel_rfl) (fun _ _ _ h => h) (Or.inl ⟨by rfl, ?hyb84⟩) (by assumption) ?rb84; case hyb84 => (rintro w' hS; obtain ⟨s1, s2⟩ := hS; have x6 := s1.cell 6 a6; have y6 := s2.cell 6 b6; have x18 := s1.cell 18 a18; have y18 := s2.cell 18 b18; go_simp; try with_reducible rfl))
    try simp only [List.getElem_toArray, List.getElem_cons_zero, List.getElem_cons_succ, Act.put, List.setIfInBounds_toArray, List.set_cons_zero, List.set_cons_succ]
    first
      | (refine wpAnyH_take (i := 26) rfl (by kernel_rfl) (by kernel_rfl) (by kernel_rfl) (fun _ _ _ h => h) (Or.inr ⟨by rfl, rfl⟩) (by assumption) ?_)
      | (refine wpAnyH_take (i := 26) (v := ?vb85) rfl (by kernel_rfl) (by kernel_rfl) (by kernel_rfl) (fun _ _ _ h => h) (Or.inl ⟨by rfl, ?hyb85⟩) (by assumption) ?rb85; case hyb85 => (rintro w' hS; obtain ⟨s1, s2⟩ := hS; have x6 := s1.cell 6 a6; have y6 := s2.cell 6 b6; have x18 := s1.cell 18 a18; have y18 := s2.cell 18 b18; go_simp; try with_reducible rfl))
    try simp only [List.getElem_toArray, List.getElem_cons_zero, List.getElem_cons_succ, Act.put, List.setIfInBounds_toArray, List.set_cons_zero, List.set_cons_succ]
    first
      | (refine wpAnyH_take (i := 27) rfl (by kernel_rfl) (by kernel_rfl) (by kernel_rfl) (fun _ _ _ h => h) (Or.inr ⟨by rfl, rfl⟩) (by assumption) ?_)
      | (refine wpAnyH_take (i := 27) (v := ?vb86) rfl (by kernel_rfl) (by kernel_rfl) (by kernel_rfl) (fun _ _ _ h => h) (Or.inl ⟨by rfl, ?hyb86⟩) (by assumption) ?rb86; case hyb86 => (rintro w' hS; obtain ⟨s1, s2⟩ := hS; have x6 := s1.cell 6 a6; have y6 := s2.cell 6 b6; have x18 := s1.cell 18 a18; have y18 := s2.cell 18 b18; go_simp; try with_reducible rfl))
    try simp only [List.getElem_toArray, List.getElem_cons_zero, List.getElem_cons_succ, Act.put, List.setIfInBounds_toArray, List.set_cons_zero, List.set_cons_succ]
    first
      | (refine wpAnyH_take (i := 28) rfl (by kernel_rfl) (by kernel_rfl) (by kernel_rfl) (fun _ _ _ h => h) (Or.inr ⟨by rfl, rfl⟩) (by assumption) ?_)
      | (refine wpAnyH_take (i := 28) (v := ?vb87) rfl (by kernel_rfl) (by kernel_rfl) (by kernel_rfl) (fun _ _ _ h => h) (Or.inl ⟨by rfl, ?hyb87⟩) (by assumption) ?rb87; case hyb87 => (rintro w' hS; obtain ⟨s1, s2⟩ := hS; have x6 := s1.cell 6 a6; have y6 := s2.cell 6 b6; have x18 := s1.cell 18 a18; have y18 := s2.cell 18 b18; go_simp; try with_reducible rfl))
    try simp only [List.getElem_toArray, List.getElem_cons_zero, List.getElem_cons_succ, Act.put, List.setIfInBounds_toArray, List.set_cons_zero, List.set_cons_succ]
    first
      | (refine wpAnyH_take (i := 29) rfl (by kernel_rfl) (by kernel_rfl) (by kernel_rfl) (fun _ _ _ h => h) (Or.inr ⟨by rfl, rfl⟩) (by assumption) ?_)
      | (refine wpAnyH_take (i := 29) (v := ?vb88) rfl (by kernel_rfl) (by kernel_rfl) (by kernel_rfl) (fun _ _ _ h => h) (Or.inl ⟨by rfl, ?hyb88⟩) (by assumption) ?rb88; case hyb88 => (rintro w' hS; obtain ⟨s1, s2⟩ := hS; have x6 := s1.cell 6 a6; have y6 := s2.cell 6 b6; have x18 := s1.cell 18 a18; have y18 := s2.cell 18 b18; go_simp; try with_reducible rfl))
    try simp only [List.getElem_toArray, List.getElem_cons_zero, List.getElem_cons_succ, Act.put, List.setIfInBounds_toArray, List.set_cons_zero, List.set_cons_succ]
    first
      | (refine wpAnyH_take (i := 30) rfl (by kernel_rfl) (by kernel_rfl) (by kernel_rfl) (fun _ _ _ h => h) (Or.inr ⟨by rfl, rfl⟩) (by assumption) ?_)
      | (refine wpAnyH_take (i := 30) (v := ?vb89) rfl (by kernel_rfl) (by kernel_rfl) (by kernel_rfl) (fun _ _ _ h => h) (Or.inl ⟨by rfl, ?hyb89⟩) (by assumption) ?rb89; case hyb89 => (rintro w' hS; obtain ⟨s1, s2⟩ := hS; have x6 := s1.cell 6 a6; have y6 := s2.cell 6 b6; have x18 := s1.cell 18 a18; have y18 := s2.cell 18 b18; go_simp; try with_reducible rfl))
    try simp only [List.getElem_toArray, List.getElem_cons_zero, List.getElem_cons_succ, Act.put, List.setIfInBounds_toArray, List.set_cons_zero, List.set_cons_succ]
    first
      | (refine wpAnyH_take (i := 31) rfl (by kernel_rfl) (by kernel_rfl) (by kernel_rfl) (fun _ _ _ h => h) (Or.inr ⟨by rfl, rfl⟩) (by assumption) ?_)
      | (refine wpAnyH_take (i := 31) (v := ?vb90) rfl (by kernel_rfl) (by kernel_rfl) (by kernel_rfl) (fun _ _ _ h => h) (Or.inl ⟨by rfl, ?hyb90⟩) (by assumption) ?rb90; case hyb90 => (rintro w' hS; obtain ⟨s1, s2⟩ := hS; have x6 := s1.cell 6 a6; have y6 := s2.cell 6 b6; have x18 := s1.cell 18 a18; have y18 := s2.cell 18 b18; go_simp; try with_reducible rfl))
    try simp only [List.getElem_toArray, List.getElem_cons_zero, List.getElem_cons_succ, Act.put, List.setIfInBounds_toArray, List.set_cons_zero, List.set_cons_succ]
    first
      | (refine wpAnyH_take (i := 32) rfl (by kernel_rfl) (by kernel_rfl) (by kernel_rfl) (fun _ _ _ h => h) (Or.inr ⟨by rfl, rfl⟩) (by assumption) ?_)
      | (refine wpAnyH_take (i := 32) (v := ?vb91) rfl (by kernel_rfl) (by kernel_rfl) (by kernel_rfl) (fun _ _ _ h => h) (Or.inl ⟨by rfl, ?hyb91⟩) (by assumption) ?rb91; case hyb91 => (rintro w' hS; obtain ⟨s1, s2⟩ := hS; have x6 := s1.cell 6 a6; have y6 := s2.cell 6 b6; have x18 := s1.cell 18 a18; have y18 := s2.cell 18 b18; go_simp; try with_reducible rfl))
    try simp only [List.getElem_toArray, List.getElem_cons_zero, List.getElem_cons_succ, Act.put, List.setIfInBounds_toArray, List.set_cons_zero, List.set_cons_succ]
    first
      | (refine wpAnyH_take (i := 33) rfl (by kernel_rfl) (by kernel_rfl) (by kernel_rfl) (fun _ _ _ h => h) (Or.inr ⟨by rfl, rfl⟩) (by assumption) ?_)
      | (refine wpAnyH_take (i := 33) (v := ?vb92) rfl (by kernel_rfl) (by kernel_rfl) (by kernel_rfl) (fun _ _ _ h => h) (Or.inl ⟨by rfl, ?hyb92⟩) (by assumption) ?rb92; case hyb92 => (rintro w' hS; obtain ⟨s1, s2⟩ := hS; have x6 := s1.cell 6 a6; have y6 := s2.cell 6 b6; have x18 := s1.cell 18 a18; have y18 := s2.cell 18 b18; go_simp; try with_reducible rfl))
    try simp only [List.getElem_toArray, List.getElem_cons_zero, List.getElem_cons_succ, Act.put, List.setIfInBounds_toArray, List.set_cons_zero, List.set_cons_succ]
    refine wpAnyH_done (by kernel_rfl) ?_ _
    go_wp2
    go_ret
    exact ⟨rfl, hup _ hC1⟩
  | true =>
  cases r4 with
  | false =>
    go_enter Tryd.func8, Tryd.ntmps8
    go_wp2_with fail
    refine wp_region_held_drew (S := fun w' => ObjAt w' w.heap.size A.toList ∧ ObjAt w' (w.heap.size + 1) B.toList) (by kernel_rfl) (⟨o1.below hC1 hlt1, o2.below hC1 hlt2⟩) (fun hHeld => ?_)
    first
      | (refine wpAnyH_take (i := 0) rfl (by kernel_rfl) (by kernel_rfl) (by kernel_rfl) (fun _ _ _ h => h) (Or.inr ⟨by rfl, rfl⟩) (by assumption) ?_)
      | (refine wpAnyH_take (i := 0) (v := ?vb93) rfl (by kernel_rfl) (by kernel_rfl) (by kernel_rfl) (fun _ _ _ h => h) (Or.inl ⟨by rfl, ?hyb93⟩) (by assumption) ?rb93; case hyb93 => (rintro w' hS; obtain ⟨s1, s2⟩ := hS; have x6 := s1.cell 6 a6; have y6 := s2.cell 6 b6; have x18 := s1.cell 18 a18; have y18 := s2.cell 18 b18; go_simp; try with_reducible rfl))
    try simp only [List.getElem_toArray, List.getElem_cons_zero, Act.put, List.setIfInBounds_toArray, List.set_cons_zero, List.set_cons_succ]
    refine wpAnyH_take (i := 1) rfl (by kernel_rfl) (by kernel_rfl) (by kernel_rfl) (fun _ _ _ h => h) (Or.inl ⟨by rfl, fun w' hS => execLoadPart 25 _ rfl (w.heap.size) 0 3 A _ rfl hS.1 Tryd.isAgg25 Tryd.sizeOf25 a0 rfl⟩) (by assumption) ?_
    try simp only [List.getElem_toArray, List.getElem_cons_zero, List.getElem_cons_succ, Act.put, List.setIfInBounds_toArray, List.set_cons_zero, List.set_cons_succ]
    first
      | (refine wpAnyH_take (i := 2) rfl (by kernel_rfl) (by kernel_rfl) (by kernel_rfl) (fun _ _ _ h => h) (Or.inr ⟨by rfl, rfl⟩) (by assumption) ?_)
      | (refine wpAnyH_take (i := 2) (v := ?vb94) rfl (by kernel_rfl) (by kernel_rfl) (by kernel_rfl) (fun _ _ _ h => h) (Or.inl ⟨by rfl, ?hyb94⟩) (by assumption) ?rb94; case hyb94 => (rintro w' hS; obtain ⟨s1, s2⟩ := hS; have x6 := s1.cell 6 a6; have y6 := s2.cell 6 b6; have x18 := s1.cell 18 a18; have y18 := s2.cell 18 b18; go_simp; try with_reducible rfl))
    try simp only [List.getElem_toArray, List.getElem_cons_zero, List.getElem_cons_succ, Act.put, List.setIfInBounds_toArray, List.set_cons_zero, List.set_cons_succ]
    refine wpAnyH_take (i := 3) rfl (by kernel_rfl) (by kernel_rfl) (by kernel_rfl) (fun _ _ _ h => h) (Or.inl ⟨by rfl, fun w' hS => execLoadPart 25 _ rfl (w.heap.size + 1) 0 3 B _ rfl hS.2 Tryd.isAgg25 Tryd.sizeOf25 b0 rfl⟩) (by assumption) ?_
    try simp only [List.getElem_toArray, List.getElem_cons_zero, List.getElem_cons_succ, Act.put, List.setIfInBounds_toArray, List.set_cons_zero, List.set_cons_succ]
    first
      | (refine wpAnyH_take (i := 4) rfl (by kernel_rfl) (by kernel_rfl) (by kernel_rfl) (fun _ _ _ h => h) (Or.inr ⟨by rfl, rfl⟩) (by assumption) ?_)
      | (refine wpAnyH_take (i := 4) (v := ?vb95) rfl (by kernel_rfl) (by kernel_rfl) (by kernel_rfl) (fun _ _ _ h => h) (Or.inl ⟨by rfl, ?hyb95⟩) (by assumption) ?rb95; case hyb95 => (rintro w' hS; obtain ⟨s1, s2⟩ := hS; have x6 := s1.cell 6 a6; have y6 := s2.cell 6 b6; have x18 := s1.cell 18 a18; have y18 := s2.cell 18 b18; go_simp; try with_reducible rfl))
    try simp only [List.getElem_toArray, List.getElem_cons_zero, List.getElem_cons_succ, Act.put, List.setIfInBounds_toArray, List.set_cons_zero, List.set_cons_succ]
    first
      | (refine wpAnyH_take (i := 5) rfl (by kernel_rfl) (by kernel_rfl) (by kernel_rfl) (fun _ _ _ h => h) (Or.inr ⟨by rfl, rfl⟩) (by assumption) ?_)
      | (refine wpAnyH_take (i := 5) (v := ?vb96) rfl (by kernel_rfl) (by kernel_rfl) (by kernel_rfl) (fun _ _ _ h => h) (Or.inl ⟨by rfl, ?hyb96⟩) (by assumption) ?rb96; case hyb96 => (rintro w' hS; obtain ⟨s1, s2⟩ := hS; have x6 := s1.cell 6 a6; have y6 := s2.cell 6 b6; have x18 := s1.cell 18 a18; have y18 := s2.cell 18 b18; go_simp; try with_reducible rfl))
    try simp only [List.getElem_toArray, List.getElem_cons_zero, List.getElem_cons_succ, Act.put, List.setIfInBounds_toArray, List.set_cons_zero, List.set_cons_succ]
    first
      | (refine wpAnyH_take (i := 6) rfl (by kernel_rfl) (by kernel_rfl) (by kernel_rfl) (fun _ _ _ h => h) (Or.inr ⟨by rfl, rfl⟩) (by assumption) ?_)
      | (refine wpAnyH_take (i := 6) (v := ?vb97) rfl (by kernel_rfl) (by kernel_rfl) (by kernel_rfl) (fun _ _ _ h => h) (Or.inl ⟨by rfl, ?hyb97⟩) (by assumption) ?rb97; case hyb97 => (rintro w' hS; obtain ⟨s1, s2⟩ := hS; have x6 := s1.cell 6 a6; have y6 := s2.cell 6 b6; have x18 := s1.cell 18 a18; have y18 := s2.cell 18 b18; go_simp; try with_reducible rfl))
    try simp only [List.getElem_toArray, List.getElem_cons_zero, List.getElem_cons_succ, Act.put, List.setIfInBounds_toArray, List.set_cons_zero, List.set_cons_succ]
    refine wpAnyH_take (i := 7) rfl (by kernel_rfl) (by kernel_rfl) (by kernel_rfl) (fun _ _ _ h => h) (Or.inl ⟨by rfl, fun w' hS => execLoadPart 27 _ rfl (w.heap.size) 3 3 A _ rfl hS.1 Tryd.isAgg27 Tryd.sizeOf27 a3 rfl⟩) (by assumption) ?_
    try simp only [List.getElem_toArray, List.getElem_cons_zero, List.getElem_cons_succ, Act.put, List.setIfInBounds_toArray, List.set_cons_zero, List.set_cons_succ]
    first
      | (refine wpAnyH_take (i := 8) rfl (by kernel_rfl) (by kernel_rfl) (by kernel_rfl) (fun _ _ _ h => h) (Or.inr ⟨by rfl, rfl⟩) (by assumption) ?_)
      | (refine wpAnyH_take (i := 8) (v := ?vb98) rfl (by kernel_rfl) (by kernel_rfl) (by kernel_rfl) (fun _ _ _ h => h) (Or.inl ⟨by rfl, ?hyb98⟩) (by assumption) ?rb98; case hyb98 => (rintro w' hS; obtain ⟨s1, s2⟩ := hS; have x6 := s1.cell 6 a6; have y6 := s2.cell 6 b6; have x18 := s1.cell 18 a18; have y18 := s2.cell 18 b18; go_simp; try with_reducible rfl))
    try simp only [List.getElem_toArray, List.getElem_cons_zero, List.getElem_cons_succ, Act.put, List.setIfInBounds_toArray, List.set_cons_zero, List.set_cons_succ]
    refine wpAnyH_take (i := 9) rfl (by kernel_rfl) (by kernel_rfl) (by kernel_rfl) (fun _ _ _ h => h) (Or.inl ⟨by rfl, fun w' hS => execLoadPart 27 _ rfl (w.heap.size + 1) 3 3 B _ rfl hS.2 Tryd.isAgg27 Tryd.sizeOf27 b3 rfl⟩) (by assumption) ?_
    try simp only [List.getElem_toArray, List.getElem_cons_zero, List.getElem_cons_succ, Act.put, List.setIfInBounds_toArray, List.set_cons_zero, List.set_cons_succ]
    first
      | (refine wpAnyH_take (i := 10) rfl (by kernel_rfl) (by kernel_rfl) (by kernel_rfl) (fun _ _ _ h => h) (Or.inr ⟨by rfl, rfl⟩) (by assumption) ?_)
      | (refine wpAnyH_take (i := 10) (v := ?vb99) rfl (by kernel_rfl) (by kernel_rfl) (by kernel_rfl) (fun _ _ _ h => h) (Or.inl ⟨by rfl, ?hyb99⟩) (by assumption) ?rb99; case hyb99 => (rintro w' hS; obtain ⟨s1, s2⟩ := hS; have x6 := s1.cell 6 a6; have y6 := s2.cell 6 b6; have x18 := s1.cell 18 a18; have y18 := s2.cell 18 b18; go_simp; try with_reducible rfl))
    try simp only [List.getElem_toArray, List.getElem_cons_zero, List.getElem_cons_succ, Act.put, List.setIfInBounds_toArray, List.set_cons_zero, List.set_cons_succ]
    first
      | (refine wpAnyH_take (i := 11) rfl (by kernel_rfl) (by kernel_rfl) (by kernel_rfl) (fun _ _ _ h => h) (Or.inr ⟨by rfl, rfl⟩) (by assumption) ?_)
      | (refine wpAnyH_take (i := 11) (v := ?vb100) rfl (by kernel_rfl) (by kernel_rfl) (by kernel_rfl) (fun _ _ _ h => h) (Or.inl ⟨by rfl, ?hyb100⟩) (by assumption) ?rb100; case hyb100 => (rintro w' hS; obtain ⟨s1, s2⟩ := hS; have x6 := s1.cell 6 a6; have y6 := s2.cell 6 b6; have x18 := s1.cell 18 a18; have y18 := s2.cell 18 b18; go_simp; try with_reducible rfl))
    try simp only [List.getElem_toArray, List.getElem_cons_zero, List.getElem_cons_succ, Act.put, List.setIfInBounds_toArray, List.set_cons_zero, List.set_cons_succ]
    first
      | (refine wpAnyH_take (i := 12) rfl (by kernel_rfl) (by kernel_rfl) (by kernel_rfl) (fun _ _ _ h => h) (Or.inr ⟨by rfl, rfl⟩) (by assumption) ?_)
      | (refine wpAnyH_take (i := 12) (v := ?vb101) rfl (by kernel_rfl) (by kernel_rfl) (by kernel_rfl) (fun _ _ _ h => h) (Or.inl ⟨by rfl, ?hyb101⟩) (by assumption) ?rb101; case hyb101 => (rintro w' hS; obtain ⟨s1, s2⟩ := hS; have x6 := s1.cell 6 a6; have y6 := s2.cell 6 b6; have x18 := s1.cell 18 a18; have y18 := s2.cell 18 b18; go_simp; try with_reducible rfl))
    try simp only [List.getElem_toArray, List.getElem_cons_zero, List.getElem_cons_succ, Act.put, List.setIfInBounds_toArray, List.set_cons_zero, List.set_cons_succ]
    first
      | (refine wpAnyH_take (i := 13) rfl (by kernel_rfl) (by kernel_rfl) (by kernel_rfl) (fun _ _ _ h => h) (Or.inr ⟨by rfl, rfl⟩) (by assumption) ?_)
      | (refine wpAnyH_take (i := 13) (v := ?vb102) rfl (by kernel_rfl) (by kernel_rfl) (by kernel_rfl) (fun _ _ _ h => h) (Or.inl ⟨by rfl, ?hyb102⟩) (by assumption) ?rb102; case hyb102 => (rintro w' hS; obtain ⟨s1, s2⟩ := hS; have x6 := s1.cell 6 a6; have y6 := s2.cell 6 b6; have x18 := s1.cell 18 a18; have y18 := s2.cell 18 b18; go_simp; try with_reducible rfl))
    try simp only [List.getElem_toArray, List.getElem_cons_zero, List.getElem_cons_succ, Act.put, List.setIfInBounds_toArray, List.set_cons_zero, List.set_cons_succ]
    first
      | (refine wpAnyH_take (i := 14) rfl (by kernel_rfl) (by kernel_rfl) (by kernel_rfl) (fun _ _ _ h => h) (Or.inr ⟨by rfl, rfl⟩) (by assumption) ?_)
      | (refine wpAnyH_take (i := 14) (v := ?vb103) rfl (by kernel_rfl) (by kernel_rfl) (by kernel_rfl) (fun _ _ _ h => h) (Or.inl ⟨by rfl, ?hyb103⟩) (by assumption) ?rb103; case hyb103 => (rintro w' hS; obtain ⟨s1, s2⟩ := hS; have x6 := s1.cell 6 a6; have y6 := s2.cell 6 b6; have x18 := s1.cell 18 a18; have y18 := s2.cell 18 b18; go_simp; try with_reducible rfl))
    try simp only [List.getElem_toArray, List.getElem_cons_zero, List.getElem_cons_succ, Act.put, List.setIfInBounds_toArray, List.set_cons_zero, List.set_cons_succ]
    first
      | (refine wpAnyH_take (i := 15) rfl (by kernel_rfl) (by kernel_rfl) (by kernel_rfl) (fun _ _ _ h => h) (Or.inr ⟨by rfl, rfl⟩) (by assumption) ?_)
      | (refine wpAnyH_take (i := 15) (v := ?vb104) rfl (by kernel_rfl) (by kernel_rfl) (by kernel_rfl) (fun _ _ _ h => h) (Or.inl ⟨by rfl, ?hyb104⟩) (by assumption) ?rb104; case hyb104 => (rintro w' hS; obtain ⟨s1, s2⟩ := hS; have x6 := s1.cell 6 a6; have y6 := s2.cell 6 b6; have x18 := s1.cell 18 a18; have y18 := s2.cell 18 b18; go_simp; try with_reducible rfl))
    try simp only [List.getElem_toArray, List.getElem_cons_zero, List.getElem_cons_succ, Act.put, List.setIfInBounds_toArray, List.set_cons_zero, List.set_cons_succ]
    first
      | (refine wpAnyH_take (i := 16) rfl (by kernel_rfl) (by kernel_rfl) (by kernel_rfl) (fun _ _ _ h => h) (Or.inr ⟨by rfl, rfl⟩) (by assumption) ?_)
      | (refine wpAnyH_take (i := 16) (v := ?vb105) rfl (by kernel_rfl) (by kernel_rfl) (by kernel_rfl) (fun _ _ _ h => h) (Or.inl ⟨by rfl, ?hyb105⟩) (by assumption) ?rb105; case hyb105 => (rintro w' hS; obtain ⟨s1, s2⟩ := hS; have x6 := s1.cell 6 a6; have y6 := s2.cell 6 b6; have x18 := s1.cell 18 a18; have y18 := s2.cell 18 b18; go_simp; try with_reducible rfl))
    try simp only [List.getElem_toArray, List.getElem_cons_zero, List.getElem_cons_succ, Act.put, List.setIfInBounds_toArray, List.set_cons_zero, List.set_cons_succ]
    first
      | (refine wpAnyH_take (i := 17) rfl (by kernel_rfl) (by kernel_rfl) (by kernel_rfl) (fun _ _ _ h => h) (Or.inr ⟨by rfl, rfl⟩) (by assumption) ?_)
      | (refine wpAnyH_take (i := 17) (v := ?vb106) rfl (by kernel_rfl) (by kernel_rfl) (by kernel_rfl) (fun _ _ _ h => h) (Or.inl ⟨by rfl, ?hyb106⟩) (by assumption) ?rb106; case hyb106 => (rintro w' hS; obtain ⟨s1, s2⟩ := hS; have x6 := s1.cell 6 a6; have y6 := s2.cell 6 b6; have x18 := s1.cell 18 a18; have y18 := s2.cell 18 b18; go_simp; try with_reducible rfl))
    try simp only [List.getElem_toArray, List.getElem_cons_zero, List.getElem_cons_succ, Act.put, List.setIfInBounds_toArray, List.set_cons_zero, List.set_cons_succ]
    first
      | (refine wpAnyH_take (i := 18) rfl (by kernel_rfl) (by kernel_rfl) (by kernel_rfl) (fun _ _ _ h => h) (Or.inr ⟨by rfl, rfl⟩) (by assumption) ?_)
      | (refine wpAnyH_take (i := 18) (v := ?vb107) rfl (by kernel_rfl) (by kernel_rfl) (by kernel_rfl) (fun _ _ _ h => h) (Or.inl ⟨by rfl, ?hyb107⟩) (by assumption) ?rb107; case hyb107 => (rintro w' hS; obtain ⟨s1, s2⟩ := hS; have x6 := s1.cell 6 a6; have y6 := s2.cell 6 b6; have x18 := s1.cell 18 a18; have y18 := s2.cell 18 b18; go_simp; try with_reducible rfl))
    try simp only [List.getElem_toArray, List.getElem_cons_zero, List.getElem_cons_succ, Act.put, List.setIfInBounds_toArray, List.set_cons_zero, List.set_cons_succ]
    first
      | (refine wpAnyH_take (i := 19) rfl (by kernel_rfl) (by kernel_rfl) (by kernel_rfl) (fun _ _ _ h => h) (Or.inr ⟨by rfl, rfl⟩) (by assumption) ?_)
      | (refine wpAnyH_take (i := 19) (v := ?vb108) rfl (by kernel_rfl) (by kernel_rfl) (by kernel_rfl) (fun _ _ _ h => h) (Or.inl ⟨by rfl, ?hyb108⟩) (by assumption) ?rb108; case hyb108 => (rintro w' hS; obtain ⟨s1, s2⟩ := hS; have x6 := s1.cell 6 a6; have y6 := s2.cell 6 b6; have x18 := s1.cell 18 a18; have y18 := s2.cell 18 b18; go_simp; try with_reducible rfl))
    try simp only [List.getElem_toArray, List.getElem_cons_zero, List.getElem_cons_succ, Act.put, List.setIfInBounds_toArray, List.set_cons_zero, List.set_cons_succ]
    refine wpAnyH_take (i := 20) rfl (by kernel_rfl) (by kernel_rfl) (by kernel_rfl) (fun _ _ _ h => h) (Or.inl ⟨by rfl, fun w' hS => execLoadAll 34 _ rfl (w.heap.size) 19 A rfl hS.1 Tryd.isAgg34 Tryd.sizeOf34 zA⟩) (by assumption) ?_
    try simp only [List.getElem_toArray, List.getElem_cons_zero, List.getElem_cons_succ, Act.put, List.setIfInBounds_toArray, List.set_cons_zero, List.set_cons_succ]
    refine wpAnyH_take (i := 22) rfl (by kernel_rfl) (by kernel_rfl) (by kernel_rfl) (fun _ _ _ h => h) (Or.inl ⟨by rfl, fun w' hS => execLoadAll 34 _ rfl (w.heap.size + 1) 19 B rfl hS.2 Tryd.isAgg34 Tryd.sizeOf34 zB⟩) (by assumption) ?_
    try simp only [List.getElem_toArray, List.getElem_cons_zero, List.getElem_cons_succ, Act.put, List.setIfInBounds_toArray, List.set_cons_zero, List.set_cons_succ]
    refine wpAnyH_ready (rs := [21]) (by kernel_rfl) (by simp) ?_
    refine AllReadyH.cons (o := _) rfl (fun K hK => ?_) AllReadyH.nil
    go_simp
    go_at_call 14; (with_reducible refine (HI1 _).mono ?_); rintro ex wx ⟨rfl, hx⟩; have hC1 := hC1.trans (hx.mono hC1.size); clear hx
    dsimp only
    refine hK.out _ _ (⟨o1.below hC1 hlt1, o2.below hC1 hlt2⟩) (fun hHeld => ?_)
    clear hK K
    try simp only [List.getElem_toArray, List.getElem_cons_zero, List.getElem_cons_succ, Act.put, List.setIfInBounds_toArray, List.set_cons_zero, List.set_cons_succ]
    refine wpAnyH_ready (rs := [23]) (by kernel_rfl) (by simp) ?_
    refine AllReadyH.cons (o := _) rfl (fun K hK => ?_) AllReadyH.nil
    go_simp
    go_at_call 14; (with_reducible refine (HI2 _).mono ?_); rintro ex wx ⟨rfl, hx⟩; have hC1 := hC1.trans (hx.mono hC1.size); clear hx
    dsimp only
    refine hK.out _ _ (⟨o1.below hC1 hlt1, o2.below hC1 hlt2⟩) (fun hHeld => ?_)
    clear hK K
    try simp only [List.getElem_toArray, List.getElem_cons_zero, List.getElem_cons_succ, Act.put, List.setIfInBounds_toArray, List.set_cons_zero, List.set_cons_succ]
    first
      | (refine wpAnyH_take (i := 24) rfl (by kernel_rfl) (by kernel_rfl) (by kernel_rfl) (fun _ _ _ h => h) (Or.inr ⟨by rfl, rfl⟩) (by assumption) ?_)
      | (refine wpAnyH_take (i := 24) (v := ?vb109) rfl (by kernel_rfl) (by kernel_rfl) (by kernel_rfl) (fun _ _ _ h => h) (Or.inl ⟨by rfl, ?hyb109⟩) (by assumption) ?rb109; case hyb109 => (rintro w' hS; obtain ⟨s1, s2⟩ := hS; have x6 := s1.cell 6 a6; have y6 := s2.cell 6 b6; have x18 := s1.cell 18 a18; have y18 := s2.cell 18 b18; go_simp; try with_reducible rfl))
    try simp only [List.getElem_toArray, List.getElem_cons_zero, List.getElem_cons_succ, Act.put, List.setIfInBounds_toArray, List.set_cons_zero, List.set_cons_succ]
    first
      | (refine wpAnyH_take (i := 25) rfl (by kernel_rfl) (by kernel_rfl) (by kernel_rfl) (fun _ _ _ h => h) (Or.inr ⟨by rfl, rfl⟩) (by assumption) ?_)
      | (refine wpAnyH_take (i := 25) (v := ?vb110) rfl (by kernel_rfl) (by kernel_rfl) (by kernel_rfl) (fun _ _ _ h => h) (Or.inl ⟨by rfl, ?hyb110⟩) (by assumption) ?rb110; case hyb110 => (rintro w' hS; obtain ⟨s1, s2⟩ := hS; have x6 := s1.cell 6 a6; have y6 := s2.cell 6 b6; have x18 := s1.cell 18 a18; have y18 := s2.cell 18 b18; go_simp; try with_reducible rfl))
    try simp only [List.getElem_toArray, List.getElem_cons_zero, List.getElem_cons_succ, Act.put, List.setIfInBounds_toArray, List.set_cons_zero, List.set_cons_succ]
    first
      | (refine wpAnyH_take (i := 26) rfl (by kernel_rfl) (by kernel_rfl) (by kernel_rfl) (fun _ _ _ h => h) (Or.inr ⟨by rfl, rfl⟩) (by assumption) ?_)
      | (refine wpAnyH_take (i := 26) (v := ?vb111) rfl (by kernel_rfl) (by kernel_rfl) (by kernel_rfl) (fun _ _ _ h => h) (Or.inl ⟨by rfl, ?hyb111⟩) (by assumption) ?rb111; case hyb111 => (rintro w' hS; obtain ⟨s1, s2⟩ := hS; have x6 := s1.cell 6 a6; have y6 := s2.cell 6 b6; have x18 := s1.cell 18 a18; have y18 := s2.cell 18 b18; go_simp; try with_reducible rfl))
    try simp only [List.getElem_toArray, List.getElem_cons_zero, List.getElem_cons_succ, Act.put, List.setIfInBounds_toArray, List.set_cons_zero, List.set_cons_succ]
    first
      | (refine wpAnyH_take (i := 27) rfl (by kernel_rfl) (by kernel_rfl) (by kernel_rfl) (fun _ _ _ h => h) (Or.inr ⟨by rfl, rfl⟩) (by assumption) ?_)
      | (refine wpAnyH_take (i := 27) (v := ?vb112) rfl (by kernel_rfl) (by kernel_rfl) (by kernel_rfl) (fun _ _ _ h => h) (Or.inl ⟨by rfl, ?hyb112⟩) (by assumption) ?rb112; case hyb112 => (rintro w' hS; obtain ⟨s1, s2⟩ := hS; have x6 := s1.cell 6 a6; have y6 := s2.cell 6 b6; have x18 := s1.cell 18 a18; have y18 := s2.cell 18 b18; go_simp; try with_reducible rfl))
    try simp only [List.getElem_toArray, List.getElem_cons_zero, List.getElem_cons_succ, Act.put, List.setIfInBounds_toArray, List.set_cons_zero, List.set_cons_succ]
    first
      | (refine wpAnyH_take (i := 28) rfl (by kernel_rfl) (by kernel_rfl) (by kernel_rfl) (fun _ _ _ h => h) (Or.inr ⟨by rfl, rfl⟩) (by assumption) ?_)
      | (refine wpAnyH_take (i := 28) (v := ?vb113) rfl (by kernel_rfl) (by kernel_rfl) (by kernel_rfl) (fun _ _ _ h => h) (Or.inl ⟨by rfl, ?hyb113⟩) (by assumption) ?rb113; case hyb113 => (rintro w' hS; obtain ⟨s1, s2⟩ := hS; have x6 := s1.cell 6 a6; have y6 := s2.cell 6 b6; have x18 := s1.cell 18 a18; have y18 := s2.cell 18 b18; go_simp; try with_reducible rfl))
    try simp only [List.getElem_toArray, List.getElem_cons_zero, List.getElem_cons_succ, Act.put, List.setIfInBounds_toArray, List.set_cons_zero, List.set_cons_succ]
    first
      | (refine wpAnyH_take (i := 29) rfl (by kernel_rfl) (by kernel_rfl) (by kernel_rfl) (fun _ _ _ h => h) (Or.inr ⟨by rfl, rfl⟩) (by assumption) ?_)
      | (refine wpAnyH_take (i := 29) (v := ?vb114) rfl (by kernel_rfl) (by kernel_rfl) (by kernel_rfl) (fun _ _ _ h => h) (Or.inl ⟨by rfl, ?hyb114⟩) (by assumption) ?rb114; case hyb114 => (rintro w' hS; obtain ⟨s1, s2⟩ := hS; have x6 := s1.cell 6 a6; have y6 := s2.cell 6 b6; have x18 := s1.cell 18 a18; have y18 := s2.cell 18 b18; go_simp; try with_reducible rfl))
    try simp only [List.getElem_toArray, List.getElem_cons_zero, List.getElem_cons_succ, Act.put, List.setIfInBounds_toArray, List.set_cons_zero, List.set_cons_succ]
    first
      | (refine wpAnyH_take (i := 30) rfl (by kernel_rfl) (by kernel_rfl) (by kernel_rfl) (fun _ _ _ h => h) (Or.inr ⟨by rfl, rfl⟩) (by assumption) ?_)
      | (refine wpAnyH_take (i := 30) (v := ?vb115) rfl (by kernel_rfl) (by kernel_rfl) (by kernel_rfl) (fun _ _ _ h => h) (Or.inl ⟨by rfl, ?hyb115⟩) (by assumption) ?rb115; case hyb115 => (rintro w' hS; obtain ⟨s1, s2⟩ := hS; have x6 := s1.cell 6 a6; have y6 := s2.cell 6 b6; have x18 := s1.cell 18 a18; have y18 := s2.cell 18 b18; go_simp; try with_reducible rfl))
    try simp only [List.getElem_toArray, List.getElem_cons_zero, List.getElem_cons_succ, Act.put, List.setIfInBounds_toArray, List.set_cons_zero, List.set_cons_succ]
    first
      | (refine wpAnyH_take (i := 31) rfl (by kernel_rfl) (by kernel_rfl) (by kernel_rfl) (fun _ _ _ h => h) (Or.inr ⟨by rfl, rfl⟩) (by assumption) ?_)
      | (refine wpAnyH_take (i := 31) (v := ?vb116) rfl (by kernel_rfl) (by kernel_rfl) (by kernel_rfl) (fun _ _ _ h => h) (Or.inl ⟨by rfl, ?hyb116⟩) (by assumption) ?rb116; case hyb116 => (rintro w' hS; obtain ⟨s1, s2⟩ := hS; have x6 := s1.cell 6 a6; have y6 := s2.cell 6 b6; have x18 := s1.cell 18 a18; have y18 := s2.cell 18 b18; go_simp; try with_reducible rfl))
    try simp only [List.getElem_toArray, List.getElem_cons_zero, List.getElem_cons_succ, Act.put, List.setIfInBounds_toArray, List.set_cons_zero, List.set_cons_succ]
    first
      | (refine wpAnyH_take (i := 32) rfl (by kernel_rfl) (by kernel_rfl) (by kernel_rfl) (fun _ _ _ h => h) (Or.inr ⟨by rfl, rfl⟩) (by assumption) ?_)
      | (refine wpAnyH_take (i := 32) (v := ?vb117) rfl (by kernel_rfl) (by kernel_rfl) (by kernel_rfl) (fun _ _ _ h => h) (Or.inl ⟨by rfl, ?hyb117⟩) (by assumption) ?rb117; case hyb117 => (rintro w' hS; obtain ⟨s1, s2⟩ := hS; have x6 := s1.cell 6 a6; have y6 := s2.cell 6 b6; have x18 := s1.cell 18 a18; have y18 := s2.cell 18 b18; go_simp; try with_reducible rfl))
    try simp only [List.getElem_toArray, List.getElem_cons_zero, List.getElem_cons_succ, Act.put, List.setIfInBounds_toArray, List.set_cons_zero, List.set_cons_succ]
    first
      | (refine wpAnyH_take (i := 33) rfl (by kernel_rfl) (by kernel_rfl) (by kernel_rfl) (fun _ _ _ h => h) (Or.inr ⟨by rfl, rfl⟩) (by assumption) ?_)
      | (refine wpAnyH_take (i := 33) (v := ?vb118) rfl (by kernel_rfl) (by kernel_rfl) (by kernel_rfl) (fun _ _ _ h => h) (Or.inl ⟨by rfl, ?hyb118⟩) (by assumption) ?rb118; case hyb118 => (rintro w' hS; obtain ⟨s1, s2⟩ := hS; have x6 := s1.cell 6 a6; have y6 := s2.cell 6 b6; have x18 := s1.cell 18 a18; have y18 := s2.cell 18 b18; go_simp; try with_reducible rfl))
    try simp only [List.getElem_toArray, List.getElem_cons_zero, List.getElem_cons_succ, Act.put, List.setIfInBounds_toArray, List.set_cons_zero, List.set_cons_succ]
    refine wpAnyH_done (by kernel_rfl) ?_ _
    go_wp2
    go_ret
    exact ⟨rfl, hup _ hC1⟩
  | true =>
  go_enter Tryd.func8, Tryd.ntmps8
  go_wp2_with fail
  refine wp_region_held_drew (S := fun w' => ObjAt w' w.heap.size A.toList ∧ ObjAt w' (w.heap.size + 1) B.toList) (by kernel_rfl) (⟨o1.below hC1 hlt1, o2.below hC1 hlt2⟩) (fun hHeld => ?_)
  first
    | (refine wpAnyH_take (i := 0) rfl (by kernel_rfl) (by kernel_rfl) (by kernel_rfl) (fun _ _ _ h => h) (Or.inr ⟨by rfl, rfl⟩) (by assumption) ?_)
    | (refine wpAnyH_take (i := 0) (v := ?vb119) rfl (by kernel_rfl) (by kernel_rfl) (by kernel_rfl) (fun _ _ _ h => h) (Or.inl ⟨by rfl, ?hyb119⟩) (by assumption) ?rb119; case hyb119 => (rintro w' hS; obtain ⟨s1, s2⟩ := hS; have x6 := s1.cell 6 a6; have y6 := s2.cell 6 b6; have x18 := s1.cell 18 a18; have y18 := s2.cell 18 b18; go_simp; try with_reducible rfl))
  try simp only [List.getElem_toArray, List.getElem_cons_zero, Act.put, List.setIfInBounds_toArray, List.set_cons_zero, List.set_cons_succ]
  refine wpAnyH_take (i := 1) rfl (by kernel_rfl) (by kernel_rfl) (by kernel_rfl) (fun _ _ _ h => h) (Or.inl ⟨by rfl, fun w' hS => execLoadPart 25 _ rfl (w.heap.size) 0 3 A _ rfl hS.1 Tryd.isAgg25 Tryd.sizeOf25 a0 rfl⟩) (by assumption) ?_
  try simp only [List.getElem_toArray, List.getElem_cons_zero, List.getElem_cons_succ, Act.put, List.setIfInBounds_toArray, List.set_cons_zero, List.set_cons_succ]
  first
    | (refine wpAnyH_take (i := 2) rfl (by kernel_rfl) (by kernel_rfl) (by kernel_rfl) (fun _ _ _ h => h) (Or.inr ⟨by rfl, rfl⟩) (by assumption) ?_)
    | (refine wpAnyH_take (i := 2) (v := ?vb120) rfl (by kernel_rfl) (by kernel_rfl) (by kernel_rfl) (fun _ _ _ h => h) (Or.inl ⟨by rfl, ?hyb120⟩) (by assumption) ?rb120; case hyb120 => (rintro w' hS; obtain ⟨s1, s2⟩ := hS; have x6 := s1.cell 6 a6; have y6 := s2.cell 6 b6; have x18 := s1.cell 18 a18; have y18 := s2.cell 18 b18; go_simp; try with_reducible rfl))
  try simp only [List.getElem_toArray, List.getElem_cons_zero, List.getElem_cons_succ, Act.put, List.setIfInBounds_toArray, List.set_cons_zero, List.set_cons_succ]
  refine wpAnyH_take (i := 3) rfl (by kernel_rfl) (by kernel_rfl) (by kernel_rfl) (fun _ _ _ h => h) (Or.inl ⟨by rfl, fun w' hS => execLoadPart 25 _ rfl (w.heap.size + 1) 0 3 B _ rfl hS.2 Tryd.isAgg25 Tryd.sizeOf25 b0 rfl⟩) (by assumption) ?_
  try simp only [List.getElem_toArray, List.getElem_cons_zero, List.getElem_cons_succ, Act.put, List.setIfInBounds_toArray, List.set_cons_zero, List.set_cons_succ]
  first
    | (refine wpAnyH_take (i := 4) rfl (by kernel_rfl) (by kernel_rfl) (by kernel_rfl) (fun _ _ _ h => h) (Or.inr ⟨by rfl, rfl⟩) (by assumption) ?_)
    | (refine wpAnyH_take (i := 4) (v := ?vb121) rfl (by kernel_rfl) (by kernel_rfl) (by kernel_rfl) (fun _ _ _ h => h) (Or.inl ⟨by rfl, ?hyb121⟩) (by assumption) ?rb121; case hyb121 => (rintro w' hS; obtain ⟨s1, s2⟩ := hS; have x6 := s1.cell 6 a6; have y6 := s2.cell 6 b6; have x18 := s1.cell 18 a18; have y18 := s2.cell 18 b18; go_simp; try with_reducible rfl))
  try simp only [List.getElem_toArray, List.getElem_cons_zero, List.getElem_cons_succ, Act.put, List.setIfInBounds_toArray, List.set_cons_zero, List.set_cons_succ]
  first
    | (refine wpAnyH_take (i := 5) rfl (by kernel_rfl) (by kernel_rfl) (by kernel_rfl) (fun _ _ _ h => h) (Or.inr ⟨by rfl, rfl⟩) (by assumption) ?_)
    | (refine wpAnyH_take (i := 5) (v := ?vb122) rfl (by kernel_rfl) (by kernel_rfl) (by kernel_rfl) (fun _ _ _ h => h) (Or.inl ⟨by rfl, ?hyb122⟩) (by assumption) ?rb122; case hyb122 => (rintro w' hS; obtain ⟨s1, s2⟩ := hS; have x6 := s1.cell 6 a6; have y6 := s2.cell 6 b6; have x18 := s1.cell 18 a18; have y18 := s2.cell 18 b18; go_simp; try with_reducible rfl))
  try simp only [List.getElem_toArray, List.getElem_cons_zero, List.getElem_cons_succ, Act.put, List.setIfInBounds_toArray, List.set_cons_zero, List.set_cons_succ]
  first
    | (refine wpAnyH_take (i := 6) rfl (by kernel_rfl) (by kernel_rfl) (by kernel_rfl) (fun _ _ _ h => h) (Or.inr ⟨by rfl, rfl⟩) (by assumption) ?_)
    | (refine wpAnyH_take (i := 6) (v := ?vb123) rfl (by kernel_rfl) (by kernel_rfl) (by kernel_rfl) (fun _ _ _ h => h) (Or.inl ⟨by rfl, ?hyb123⟩) (by assumption) ?rb123; case hyb123 => (rintro w' hS; obtain ⟨s1, s2⟩ := hS; have x6 := s1.cell 6 a6; have y6 := s2.cell 6 b6; have x18 := s1.cell 18 a18; have y18 := s2.cell 18 b18; go_simp; try with_reducible rfl))
  try simp only [List.getElem_toArray, List.getElem_cons_zero, List.getElem_cons_succ, Act.put, List.setIfInBounds_toArray, List.set_cons_zero, List.set_cons_succ]
  refine wpAnyH_take (i := 7) rfl (by kernel_rfl) (by kernel_rfl) (by kernel_rfl) (fun _ _ _ h => h) (Or.inl ⟨by rfl, fun w' hS => execLoadPart 27 _ rfl (w.heap.size) 3 3 A _ rfl hS.1 Tryd.isAgg27 Tryd.sizeOf27 a3 rfl⟩) (by assumption) ?_
  try simp only [List.getElem_toArray, List.getElem_cons_zero, List.getElem_cons_succ, Act.put, List.setIfInBounds_toArray, List.set_cons_zero, List.set_cons_succ]
  first
    | (refine wpAnyH_take (i := 8) rfl (by kernel_rfl) (by kernel_rfl) (by kernel_rfl) (fun _ _ _ h => h) (Or.inr ⟨by rfl, rfl⟩) (by assumption) ?_)
    | (refine wpAnyH_take (i := 8) (v := ?vb124) rfl (by kernel_rfl) (by kernel_rfl) (by kernel_rfl) (fun _ _ _ h => h) (Or.inl ⟨by rfl, ?hyb124⟩) (by assumption) ?rb124; case hyb124 => (rintro w' hS; obtain ⟨s1, s2⟩ := hS; have x6 := s1.cell 6 a6; have y6 := s2.cell 6 b6; have x18 := s1.cell 18 a18; have y18 := s2.cell 18 b18; go_simp; try with_reducible rfl))
  try simp only [List.getElem_toArray, List.getElem_cons_zero, List.getElem_cons_succ, Act.put, List.setIfInBounds_toArray, List.set_cons_zero, List.set_cons_succ]
  refine wpAnyH_take (i := 9) rfl (by kernel_rfl) (by kernel_rfl) (by kernel_rfl) (fun _ _ _ h => h) (Or.inl ⟨by rfl, fun w' hS => execLoadPart 27 _ rfl (w.heap.size + 1) 3 3 B _ rfl hS.2 Tryd.isAgg27 Tryd.sizeOf27 b3 rfl⟩) (by assumption) ?_
  try simp only [List.getElem_toArray, List.getElem_cons_zero, List.getElem_cons_succ, Act.put, List.setIfInBounds_toArray, List.set_cons_zero, List.set_cons_succ]
  first
    | (refine wpAnyH_take (i := 10) rfl (by kernel_rfl) (by kernel_rfl) (by kernel_rfl) (fun _ _ _ h => h) (Or.inr ⟨by rfl, rfl⟩) (by assumption) ?_)
    | (refine wpAnyH_take (i := 10) (v := ?vb125) rfl (by kernel_rfl) (by kernel_rfl) (by kernel_rfl) (fun _ _ _ h => h) (Or.inl ⟨by rfl, ?hyb125⟩) (by assumption) ?rb125; case hyb125 => (rintro w' hS; obtain ⟨s1, s2⟩ := hS; have x6 := s1.cell 6 a6; have y6 := s2.cell 6 b6; have x18 := s1.cell 18 a18; have y18 := s2.cell 18 b18; go_simp; try with_reducible rfl))
  try simp only [List.getElem_toArray, List.getElem_cons_zero, List.getElem_cons_succ, Act.put, List.setIfInBounds_toArray, List.set_cons_zero, List.set_cons_succ]
  first
    | (refine wpAnyH_take (i := 11) rfl (by kernel_rfl) (by kernel_rfl) (by kernel_rfl) (fun _ _ _ h => h) (Or.inr ⟨by rfl, rfl⟩) (by assumption) ?_)
    | (refine wpAnyH_take (i := 11) (v := ?vb126) rfl (by kernel_rfl) (by kernel_rfl) (by kernel_rfl) (fun _ _ _ h => h) (Or.inl ⟨by rfl, ?hyb126⟩) (by assumption) ?rb126; case hyb126 => (rintro w' hS; obtain ⟨s1, s2⟩ := hS; have x6 := s1.cell 6 a6; have y6 := s2.cell 6 b6; have x18 := s1.cell 18 a18; have y18 := s2.cell 18 b18; go_simp; try with_reducible rfl))
  try simp only [List.getElem_toArray, List.getElem_cons_zero, List.getElem_cons_succ, Act.put, List.setIfInBounds_toArray, List.set_cons_zero, List.set_cons_succ]
  first
    | (refine wpAnyH_take (i := 12) rfl (by kernel_rfl) (by kernel_rfl) (by kernel_rfl) (fun _ _ _ h => h) (Or.inr ⟨by rfl, rfl⟩) (by assumption) ?_)
    | (refine wpAnyH_take (i := 12) (v := ?vb127) rfl (by kernel_rfl) (by kernel_rfl) (by kernel_rfl) (fun _ _ _ h => h) (Or.inl ⟨by rfl, ?hyb127⟩) (by assumption) ?rb127; case hyb127 => (rintro w' hS; obtain ⟨s1, s2⟩ := hS; have x6 := s1.cell 6 a6; have y6 := s2.cell 6 b6; have x18 := s1.cell 18 a18; have y18 := s2.cell 18 b18; go_simp; try with_reducible rfl))
  try simp only [List.getElem_toArray, List.getElem_cons_zero, List.getElem_cons_succ, Act.put, List.setIfInBounds_toArray, List.set_cons_zero, List.set_cons_succ]
  first
    | (refine wpAnyH_take (i := 13) rfl (by kernel_rfl) (by kernel_rfl) (by kernel_rfl) (fun _ _ _ h => h) (Or.inr ⟨by rfl, rfl⟩) (by assumption) ?_)
    | (refine wpAnyH_take (i := 13) (v := ?vb128) rfl (by kernel_rfl) (by kernel_rfl) (by kernel_rfl) (fun _ _ _ h => h) (Or.inl ⟨by rfl, ?hyb128⟩) (by assumption) ?rb128; case hyb128 => (rintro w' hS; obtain ⟨s1, s2⟩ := hS; have x6 := s1.cell 6 a6; have y6 := s2.cell 6 b6; have x18 := s1.cell 18 a18; have y18 := s2.cell 18 b18; go_simp; try with_reducible rfl))
  try simp only [List.getElem_toArray, List.getElem_cons_zero, List.getElem_cons_succ, Act.put, List.setIfInBounds_toArray, List.set_cons_zero, List.set_cons_succ]
  first
    | (refine wpAnyH_take (i := 14) rfl (by kernel_rfl) (by kernel_rfl) (by kernel_rfl) (fun _ _ _ h => h) (Or.inr ⟨by rfl, rfl⟩) (by assumption) ?_)
    | (refine wpAnyH_take (i := 14) (v := ?vb129) rfl (by kernel_rfl) (by kernel_rfl) (by kernel_rfl) (fun _ _ _ h => h) (Or.inl ⟨by rfl, ?hyb129⟩) (by assumption) ?rb129; case hyb129 => (rintro w' hS; obtain ⟨s1, s2⟩ := hS; have x6 := s1.cell 6 a6; have y6 := s2.cell 6 b6; have x18 := s1.cell 18 a18; have y18 := s2.cell 18 b18; go_simp; try with_reducible rfl))
  try simp only [List.getElem_toArray, List.getElem_cons_zero, List.getElem_cons_succ, Act.put, List.setIfInBounds_toArray, List.set_cons_zero, List.set_cons_succ]
  first
    | (refine wpAnyH_take (i := 15) rfl (by kernel_rfl) (by kernel_rfl) (by kernel_rfl) (fun _ _ _ h => h) (Or.inr ⟨by rfl, rfl⟩) (by assumption) ?_)
    | (refine wpAnyH_take (i := 15) (v := ?vb130) rfl (by kernel_rfl) (by kernel_rfl) (by kernel_rfl) (fun _ _ _ h => h) (Or.inl ⟨by rfl, ?hyb130⟩) (by assumption) ?rb130; case hyb130 => (rintro w' hS; obtain ⟨s1, s2⟩ := hS; have x6 := s1.cell 6 a6; have y6 := s2.cell 6 b6; have x18 := s1.cell 18 a18; have y18 := s2.cell 18 b18; go_simp; try with_reducible rfl))
  try simp only [List.getElem_toArray, List.getElem_cons_zero, List.getElem_cons_succ, Act.put, List.setIfInBounds_toArray, List.set_cons_zero, List.set_cons_succ]
  first
    | (refine wpAnyH_take (i := 16) rfl (by kernel_rfl) (by kernel_rfl) (by kernel_rfl) (fun _ _ _ h => h) (Or.inr ⟨by rfl, rfl⟩) (by assumption) ?_)
    | (refine wpAnyH_take (i := 16) (v := ?vb131) rfl (by kernel_rfl) (by kernel_rfl) (by kernel_rfl) (fun _ _ _ h => h) (Or.inl ⟨by rfl, ?hyb131⟩) (by assumption) ?rb131; case hyb131 => (rintro w' hS; obtain ⟨s1, s2⟩ := hS; have x6 := s1.cell 6 a6; have y6 := s2.cell 6 b6; have x18 := s1.cell 18 a18; have y18 := s2.cell 18 b18; go_simp; try with_reducible rfl))
  try simp only [List.getElem_toArray, List.getElem_cons_zero, List.getElem_cons_succ, Act.put, List.setIfInBounds_toArray, List.set_cons_zero, List.set_cons_succ]
  first
    | (refine wpAnyH_take (i := 17) rfl (by kernel_rfl) (by kernel_rfl) (by kernel_rfl) (fun _ _ _ h => h) (Or.inr ⟨by rfl, rfl⟩) (by assumption) ?_)
    | (refine wpAnyH_take (i := 17) (v := ?vb132) rfl (by kernel_rfl) (by kernel_rfl) (by kernel_rfl) (fun _ _ _ h => h) (Or.inl ⟨by rfl, ?hyb132⟩) (by assumption) ?rb132; case hyb132 => (rintro w' hS; obtain ⟨s1, s2⟩ := hS; have x6 := s1.cell 6 a6; have y6 := s2.cell 6 b6; have x18 := s1.cell 18 a18; have y18 := s2.cell 18 b18; go_simp; try with_reducible rfl))
  try simp only [List.getElem_toArray, List.getElem_cons_zero, List.getElem_cons_succ, Act.put, List.setIfInBounds_toArray, List.set_cons_zero, List.set_cons_succ]
  first
    | (refine wpAnyH_take (i := 18) rfl (by kernel_rfl) (by kernel_rfl) (by kernel_rfl) (fun _ _ _ h => h) (Or.inr ⟨by rfl, rfl⟩) (by assumption) ?_)
    | (refine wpAnyH_take (i := 18) (v := ?vb133) rfl (by kernel_rfl) (by kernel_rfl) (by kernel_rfl) (fun _ _ _ h => h) (Or.inl ⟨by rfl, ?hyb133⟩) (by assumption) ?rb133; case hyb133 => (rintro w' hS; obtain ⟨s1, s2⟩ := hS; have x6 := s1.cell 6 a6; have y6 := s2.cell 6 b6; have x18 := s1.cell 18 a18; have y18 := s2.cell 18 b18; go_simp; try with_reducible rfl))
  try simp only [List.getElem_toArray, List.getElem_cons_zero, List.getElem_cons_succ, Act.put, List.setIfInBounds_toArray, List.set_cons_zero, List.set_cons_succ]
  first
    | (refine wpAnyH_take (i := 19) rfl (by kernel_rfl) (by kernel_rfl) (by kernel_rfl) (fun _ _ _ h => h) (Or.inr ⟨by rfl, rfl⟩) (by assumption) ?_)
    | (refine wpAnyH_take (i := 19) (v := ?vb134) rfl (by kernel_rfl) (by kernel_rfl) (by kernel_rfl) (fun _ _ _ h => h) (Or.inl ⟨by rfl, ?hyb134⟩) (by assumption) ?rb134; case hyb134 => (rintro w' hS; obtain ⟨s1, s2⟩ := hS; have x6 := s1.cell 6 a6; have y6 := s2.cell 6 b6; have x18 := s1.cell 18 a18; have y18 := s2.cell 18 b18; go_simp; try with_reducible rfl))
  try simp only [List.getElem_toArray, List.getElem_cons_zero, List.getElem_cons_succ, Act.put, List.setIfInBounds_toArray, List.set_cons_zero, List.set_cons_succ]
  refine wpAnyH_take (i := 20) rfl (by kernel_rfl) (by kernel_rfl) (by kernel_rfl) (fun _ _ _ h => h) (Or.inl ⟨by rfl, fun w' hS => execLoadAll 34 _ rfl (w.heap.size) 19 A rfl hS.1 Tryd.isAgg34 Tryd.sizeOf34 zA⟩) (by assumption) ?_
  try simp only [List.getElem_toArray, List.getElem_cons_zero, List.getElem_cons_succ, Act.put, List.setIfInBounds_toArray, List.set_cons_zero, List.set_cons_succ]
  refine wpAnyH_take (i := 22) rfl (by kernel_rfl) (by kernel_rfl) (by kernel_rfl) (fun _ _ _ h => h) (Or.inl ⟨by rfl, fun w' hS => execLoadAll 34 _ rfl (w.heap.size + 1) 19 B rfl hS.2 Tryd.isAgg34 Tryd.sizeOf34 zB⟩) (by assumption) ?_
  try simp only [List.getElem_toArray, List.getElem_cons_zero, List.getElem_cons_succ, Act.put, List.setIfInBounds_toArray, List.set_cons_zero, List.set_cons_succ]
  refine wpAnyH_ready (rs := [21]) (by kernel_rfl) (by simp) ?_
  refine AllReadyH.cons (o := _) rfl (fun K hK => ?_) AllReadyH.nil
  go_simp
  go_at_call 14; (with_reducible refine (HI1 _).mono ?_); rintro ex wx ⟨rfl, hx⟩; have hC1 := hC1.trans (hx.mono hC1.size); clear hx
  dsimp only
  refine hK.out _ _ (⟨o1.below hC1 hlt1, o2.below hC1 hlt2⟩) (fun hHeld => ?_)
  clear hK K
  try simp only [List.getElem_toArray, List.getElem_cons_zero, List.getElem_cons_succ, Act.put, List.setIfInBounds_toArray, List.set_cons_zero, List.set_cons_succ]
  refine wpAnyH_ready (rs := [23]) (by kernel_rfl) (by simp) ?_
  refine AllReadyH.cons (o := _) rfl (fun K hK => ?_) AllReadyH.nil
  go_simp
  go_at_call 14; (with_reducible refine (HI2 _).mono ?_); rintro ex wx ⟨rfl, hx⟩; have hC1 := hC1.trans (hx.mono hC1.size); clear hx
  dsimp only
  refine hK.out _ _ (⟨o1.below hC1 hlt1, o2.below hC1 hlt2⟩) (fun hHeld => ?_)
  clear hK K
  try simp only [List.getElem_toArray, List.getElem_cons_zero, List.getElem_cons_succ, Act.put, List.setIfInBounds_toArray, List.set_cons_zero, List.set_cons_succ]
  first
    | (refine wpAnyH_take (i := 24) rfl (by kernel_rfl) (by kernel_rfl) (by kernel_rfl) (fun _ _ _ h => h) (Or.inr ⟨by rfl, rfl⟩) (by assumption) ?_)
    | (refine wpAnyH_take (i := 24) (v := ?vb135) rfl (by kernel_rfl) (by kernel_rfl) (by kernel_rfl) (fun _ _ _ h => h) (Or.inl ⟨by rfl, ?hyb135⟩) (by assumption) ?rb135; case hyb135 => (rintro w' hS; obtain ⟨s1, s2⟩ := hS; have x6 := s1.cell 6 a6; have y6 := s2.cell 6 b6; have x18 := s1.cell 18 a18; have y18 := s2.cell 18 b18; go_simp; try with_reducible rfl))
  try simp only [List.getElem_toArray, List.getElem_cons_zero, List.getElem_cons_succ, Act.put, List.setIfInBounds_toArray, List.set_cons_zero, List.set_cons_succ]
  first
    | (refine wpAnyH_take (i := 25) rfl (by kernel_rfl) (by kernel_rfl) (by kernel_rfl) (fun _ _ _ h => h) (Or.inr ⟨by rfl, rfl⟩) (by assumption) ?_)
    | (refine wpAnyH_take (i := 25) (v := ?vb136) rfl (by kernel_rfl) (by kernel_rfl) (by kernel_rfl) (fun _ _ _ h => h) (Or.inl ⟨by rfl, ?hyb136⟩) (by assumption) ?rb136; case hyb136 => (rintro w' hS; obtain ⟨s1, s2⟩ := hS; have x6 := s1.cell 6 a6; have y6 := s2.cell 6 b6; have x18 := s1.cell 18 a18; have y18 := s2.cell 18 b18; go_simp; try with_reducible rfl))
  try simp only [List.getElem_toArray, List.getElem_cons_zero, List.getElem_cons_succ, Act.put, List.setIfInBounds_toArray, List.set_cons_zero, List.set_cons_succ]
  first
    | (refine wpAnyH_take (i := 26) rfl (by kernel_rfl) (by kernel_rfl) (by kernel_rfl) (fun _ _ _ h => h) (Or.inr ⟨by rfl, rfl⟩) (by assumption) ?_)
    | (refine wpAnyH_take (i := 26) (v := ?vb137) rfl (by kernel_rfl) (by kernel_rfl) (by kernel_rfl) (fun _ _ _ h => h) (Or.inl ⟨by rfl, ?hyb137⟩) (by assumption) ?rb137; case hyb137 => (rintro w' hS; obtain ⟨s1, s2⟩ := hS; have x6 := s1.cell 6 a6; have y6 := s2.cell 6 b6; have x18 := s1.cell 18 a18; have y18 := s2.cell 18 b18; go_simp; try with_reducible rfl))
  try simp only [List.getElem_toArray, List.getElem_cons_zero, List.getElem_cons_succ, Act.put, List.setIfInBounds_toArray, List.set_cons_zero, List.set_cons_succ]
  first
    | (refine wpAnyH_take (i := 27) rfl (by kernel_rfl) (by kernel_rfl) (by kernel_rfl) (fun _ _ _ h => h) (Or.inr ⟨by rfl, rfl⟩) (by assumption) ?_)
    | (refine wpAnyH_take (i := 27) (v := ?vb138) rfl (by kernel_rfl) (by kernel_rfl) (by kernel_rfl) (fun _ _ _ h => h) (Or.inl ⟨by rfl, ?hyb138⟩) (by assumption) ?rb138; case hyb138 => (rintro w' hS; obtain ⟨s1, s2⟩ := hS; have x6 := s1.cell 6 a6; have y6 := s2.cell 6 b6; have x18 := s1.cell 18 a18; have y18 := s2.cell 18 b18; go_simp; try with_reducible rfl))
  try simp only [List.getElem_toArray, List.getElem_cons_zero, List.getElem_cons_succ, Act.put, List.setIfInBounds_toArray, List.set_cons_zero, List.set_cons_succ]
  first
    | (refine wpAnyH_take (i := 28) rfl (by kernel_rfl) (by kernel_rfl) (by kernel_rfl) (fun _ _ _ h => h) (Or.inr ⟨by rfl, rfl⟩) (by assumption) ?_)
    | (refine wpAnyH_take (i := 28) (v := ?vb139) rfl (by kernel_rfl) (by kernel_rfl) (by kernel_rfl) (fun _ _ _ h => h) (Or.inl ⟨by rfl, ?hyb139⟩) (by assumption) ?rb139; case hyb139 => (rintro w' hS; obtain ⟨s1, s2⟩ := hS; have x6 := s1.cell 6 a6; have y6 := s2.cell 6 b6; have x18 := s1.cell 18 a18; have y18 := s2.cell 18 b18; go_simp; try with_reducible rfl))
  try simp only [List.getElem_toArray, List.getElem_cons_zero, List.getElem_cons_succ, Act.put, List.setIfInBounds_toArray, List.set_cons_zero, List.set_cons_succ]
  first
    | (refine wpAnyH_take (i := 29) rfl (by kernel_rfl) (by kernel_rfl) (by kernel_rfl) (fun _ _ _ h => h) (Or.inr ⟨by rfl, rfl⟩) (by assumption) ?_)
    | (refine wpAnyH_take (i := 29) (v := ?vb140) rfl (by kernel_rfl) (by kernel_rfl) (by kernel_rfl) (fun _ _ _ h => h) (Or.inl ⟨by rfl, ?hyb140⟩) (by assumption) ?rb140; case hyb140 => (rintro w' hS; obtain ⟨s1, s2⟩ := hS; have x6 := s1.cell 6 a6; have y6 := s2.cell 6 b6; have x18 := s1.cell 18 a18; have y18 := s2.cell 18 b18; go_simp; try with_reducible rfl))
  try simp only [List.getElem_toArray, List.getElem_cons_zero, List.getElem_cons_succ, Act.put, List.setIfInBounds_toArray, List.set_cons_zero, List.set_cons_succ]
  first
    | (refine wpAnyH_take (i := 30) rfl (by kernel_rfl) (by kernel_rfl) (by kernel_rfl) (fun _ _ _ h => h) (Or.inr ⟨by rfl, rfl⟩) (by assumption) ?_)
    | (refine wpAnyH_take (i := 30) (v := ?vb141) rfl (by kernel_rfl) (by kernel_rfl) (by kernel_rfl) (fun _ _ _ h => h) (Or.inl ⟨by rfl, ?hyb141⟩) (by assumption) ?rb141; case hyb141 => (rintro w' hS; obtain ⟨s1, s2⟩ := hS; have x6 := s1.cell 6 a6; have y6 := s2.cell 6 b6; have x18 := s1.cell 18 a18; have y18 := s2.cell 18 b18; go_simp; try with_reducible rfl))
  try simp only [List.getElem_toArray, List.getElem_cons_zero, List.getElem_cons_succ, Act.put, List.setIfInBounds_toArray, List.set_cons_zero, List.set_cons_succ]
  refine wpAnyH_ready (rs := [31]) (by kernel_rfl) (by simp) ?_
  refine AllReadyH.cons (o := _) rfl (fun K hK => ?_) AllReadyH.nil
  go_simp
  go_at_call 15; (with_reducible refine (HQ _ hC1).mono ?_); rintro ex wx ⟨rfl, kx, rfl⟩; have hC1 := drawn_more hC1 kx
  dsimp only
  refine hK.out _ _ (⟨o1.below hC1 hlt1, o2.below hC1 hlt2⟩) (fun hHeld => ?_)
  clear hK K
  try simp only [List.getElem_toArray, List.getElem_cons_zero, List.getElem_cons_succ, Act.put, List.setIfInBounds_toArray, List.set_cons_zero, List.set_cons_succ]
  first
    | (refine wpAnyH_take (i := 32) rfl (by kernel_rfl) (by kernel_rfl) (by kernel_rfl) (fun _ _ _ h => h) (Or.inr ⟨by rfl, rfl⟩) (by assumption) ?_)
    | (refine wpAnyH_take (i := 32) (v := ?vb142) rfl (by kernel_rfl) (by kernel_rfl) (by kernel_rfl) (fun _ _ _ h => h) (Or.inl ⟨by rfl, ?hyb142⟩) (by assumption) ?rb142; case hyb142 => (rintro w' hS; obtain ⟨s1, s2⟩ := hS; have x6 := s1.cell 6 a6; have y6 := s2.cell 6 b6; have x18 := s1.cell 18 a18; have y18 := s2.cell 18 b18; go_simp; try with_reducible rfl))
  try simp only [List.getElem_toArray, List.getElem_cons_zero, List.getElem_cons_succ, Act.put, List.setIfInBounds_toArray, List.set_cons_zero, List.set_cons_succ]
  first
    | (refine wpAnyH_take (i := 33) rfl (by kernel_rfl) (by kernel_rfl) (by kernel_rfl) (fun _ _ _ h => h) (Or.inr ⟨by rfl, rfl⟩) (by assumption) ?_)
    | (refine wpAnyH_take (i := 33) (v := ?vb143) rfl (by kernel_rfl) (by kernel_rfl) (by kernel_rfl) (fun _ _ _ h => h) (Or.inl ⟨by rfl, ?hyb143⟩) (by assumption) ?rb143; case hyb143 => (rintro w' hS; obtain ⟨s1, s2⟩ := hS; have x6 := s1.cell 6 a6; have y6 := s2.cell 6 b6; have x18 := s1.cell 18 a18; have y18 := s2.cell 18 b18; go_simp; try with_reducible rfl))
  try simp only [List.getElem_toArray, List.getElem_cons_zero, List.getElem_cons_succ, Act.put, List.setIfInBounds_toArray, List.set_cons_zero, List.set_cons_succ]
  refine wpAnyH_done (by kernel_rfl) ?_ _
  go_wp2
  go_ret
  exact ⟨by cases r5 <;> rfl, hup _ hC1⟩
end Go.Proofs.YtkakcdojbgnocaaDoor
