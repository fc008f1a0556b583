/- Contracts and plain words that the laws' proofs stand on, put together. -/
import Derived.Test.YtkakcdojbgnocaaDoorEvRight
import Derived.Test.YtkakcdojbgnocaaDoorLibAT
import Derived.Test.YtkakcdojbgnocaaDoorLibAK
import Derived.Test.YtkakcdojbgnocaaDoorLibAR
import Derived.Deep.RegionHeld3
import Derived.BigRegion
import Derived.Test.YtkakcdojbgnocaaDoorLibAA
import Derived.Deep.RegionLaw
/- The program's own contracts of layer 20: an event, packed. -/
namespace Go.Proofs.YtkakcdojbgnocaaDoor
open Go.RowKit
set_option linter.unusedVariables false

/-- What is packed of an event: nothing, if it may not be. -/
def putE (e : EventN) : List Int := if rightE e = true then bytesE e else []

theorem over_bytes (L : List DotN) (h : ∀ x ∈ L, rightD x = true) : (L.flatMap bytesD).length ≤ 30 * L.length := by
  induction L with
  | nil => simp
  | cons x xs ih =>
    have h1 := bytesD_len (h x (by simp))
    have h2 := ih fun y hy => h y (by simp [hy])
    simp only [List.flatMap_cons, List.length_append, List.length_cons]
    omega

set_option maxHeartbeats 8000000 in
set_option maxRecDepth 100000 in
theorem eventPutC0 (base p : Nat) (q : Option Addr) (l : List Int) (e : EventN) (a : Option Addr) (n c : Nat) (w : World) (hw : Wr 5 base p q l w) (hlen : l.length ≤ 100000) (hbase : base ≤ w.heap.size) (h : ∀ v, Below base w v → RowOf encD 3 v a n c e.over) (hl : lightE e = true) (hT : PTab Tryd.prog w) :
    Calls Tryd.prog 16 #[.pointer (some ⟨p, 0, none⟩), .agg #[.int .i64 e.dot.dev, .int .i64 e.dot.inc, .int .i64 e.dot.seq, .int .i64 e.stamp.wall, .int .i64 e.stamp.count, .int .i64 e.stamp.dev, .int .i64 e.kind, .string (str e.item.name), .string (str e.item.dom), .string (str e.item.path), .string (str e.item.val), .bool e.item.host, .bool e.item.sec, .bool e.item.http, .bool e.item.pers, .int .i64 e.item.exp, .int .i64 e.item.made, .int .i64 e.item.used, .slice a n c]] w (PutGives base p q (l ++ putE e) w) := by
  have h0 := h w (Below.refl _ _)
  have hn := h0.leq
  have hcm := h0.capm
  have hcl := h0.cle
  unfold maxLen at hcm
  have hb := below_alloc w (.cells #[.int .i64 e.dot.dev, .int .i64 e.dot.inc, .int .i64 e.dot.seq, .int .i64 e.stamp.wall, .int .i64 e.stamp.count, .int .i64 e.stamp.dev, .int .i64 e.kind, .string (str e.item.name), .string (str e.item.dom), .string (str e.item.path), .string (str e.item.val), .bool e.item.host, .bool e.item.sec, .bool e.item.http, .bool e.item.pers, .int .i64 e.item.exp, .int .i64 e.item.made, .int .i64 e.item.used, .slice a n c] 34)
  have hS := (PutSt.new hw hbase).more #[.int .i64 e.dot.dev, .int .i64 e.dot.inc, .int .i64 e.dot.seq, .int .i64 e.stamp.wall, .int .i64 e.stamp.count, .int .i64 e.stamp.dev, .int .i64 e.kind, .string (str e.item.name), .string (str e.item.dom), .string (str e.item.path), .string (str e.item.val), .bool e.item.host, .bool e.item.sec, .bool e.item.http, .bool e.item.pers, .int .i64 e.item.exp, .int .i64 e.item.made, .int .i64 e.item.used, .slice a n c] 34
  have HR := eventRightC0 e a n c (w.alloc (.cells #[.int .i64 e.dot.dev, .int .i64 e.dot.inc, .int .i64 e.dot.seq, .int .i64 e.stamp.wall, .int .i64 e.stamp.count, .int .i64 e.stamp.dev, .int .i64 e.kind, .string (str e.item.name), .string (str e.item.dom), .string (str e.item.path), .string (str e.item.val), .bool e.item.host, .bool e.item.sec, .bool e.item.http, .bool e.item.pers, .int .i64 e.item.exp, .int .i64 e.item.made, .int .i64 e.item.used, .slice a n c] 34)) (h0.below hb) hl (hT.below hb)
  have HI := fun v => itemE e a n c v
  have hsz : (#[.int .i64 e.dot.dev, .int .i64 e.dot.inc, .int .i64 e.dot.seq, .int .i64 e.stamp.wall, .int .i64 e.stamp.count, .int .i64 e.stamp.dev, .int .i64 e.kind, .string (str e.item.name), .string (str e.item.dom), .string (str e.item.path), .string (str e.item.val), .bool e.item.host, .bool e.item.sec, .bool e.item.http, .bool e.item.pers, .int .i64 e.item.exp, .int .i64 e.item.made, .int .i64 e.item.used, .slice a n c] : Array Value).size = 19 := rfl
  obtain ⟨A, hA⟩ : ∃ A, (#[.int .i64 e.dot.dev, .int .i64 e.dot.inc, .int .i64 e.dot.seq, .int .i64 e.stamp.wall, .int .i64 e.stamp.count, .int .i64 e.stamp.dev, .int .i64 e.kind, .string (str e.item.name), .string (str e.item.dom), .string (str e.item.path), .string (str e.item.val), .bool e.item.host, .bool e.item.sec, .bool e.item.http, .bool e.item.pers, .int .i64 e.item.exp, .int .i64 e.item.made, .int .i64 e.item.used, .slice a n c] : Array Value) = A := ⟨_, rfl⟩
  have hM : (w.heap.size, A.toList) ∈ [(w.heap.size, A.toList)] := List.mem_cons_self ..
  rw [hA] at hS HR hsz
  simp only [hA] at HI
  rw [hA]
  generalize hv : w.alloc (.cells A 34) = v at *
  cases hr : rightE e with
  | false =>
    rw [hr] at HR
    have E : l ++ putE e = l := by unfold putE; rw [hr, if_neg Bool.false_ne_true, List.append_nil]
    rw [E]
    clear h hA HI hT h0 hn
    go_enter Tryd.func16, Tryd.ntmps16
    go_wp2_with (first
      | (refine wpList_loadAll rfl 34 _ rfl w.heap.size 19 A rfl (hS.obs _ hM).1 Tryd.isAgg34 Tryd.sizeOf34 hsz ?_)
      | (go_at_call 11; (with_reducible refine HR.mono ?_); rintro e1 w1 ⟨rfl, hx⟩; replace hS := hS.below hx; clear hx))
    go_end0
    exact hS.gives
  | true =>
    rw [hr] at HR
    obtain ⟨r1, r2, r3, r4, r5⟩ := right_event hr
    unfold lightE at hl
    simp only [Bool.and_eq_true, decide_eq_true_eq] at hl
    obtain ⟨-, -, hdm, -, -⟩ := hl
    have hn64 : n ≤ 64 := by omega
    have hc : ∀ v', ObjAt v' w.heap.size A.toList → v'.cell? ⟨w.heap.size, 0, none⟩ = some (.int .i64 e.dot.dev) ∧ v'.cell? ⟨w.heap.size, 1, none⟩ = some (.int .i64 e.dot.inc) ∧ v'.cell? ⟨w.heap.size, 2, none⟩ = some (.int .i64 e.dot.seq) ∧ v'.cell? ⟨w.heap.size, 3, none⟩ = some (.int .i64 e.stamp.wall) ∧ v'.cell? ⟨w.heap.size, 4, none⟩ = some (.int .i64 e.stamp.count) ∧ v'.cell? ⟨w.heap.size, 5, none⟩ = some (.int .i64 e.stamp.dev) ∧ v'.cell? ⟨w.heap.size, 6, none⟩ = some (.int .i64 e.kind) ∧ v'.cell? ⟨w.heap.size, 7, none⟩ = some (.string (str e.item.name)) ∧ v'.cell? ⟨w.heap.size, 8, none⟩ = some (.string (str e.item.dom)) ∧ v'.cell? ⟨w.heap.size, 9, none⟩ = some (.string (str e.item.path)) ∧ v'.cell? ⟨w.heap.size, 10, none⟩ = some (.string (str e.item.val)) ∧ v'.cell? ⟨w.heap.size, 11, none⟩ = some (.bool e.item.host) ∧ v'.cell? ⟨w.heap.size, 12, none⟩ = some (.bool e.item.sec) ∧ v'.cell? ⟨w.heap.size, 13, none⟩ = some (.bool e.item.http) ∧ v'.cell? ⟨w.heap.size, 14, none⟩ = some (.bool e.item.pers) ∧ v'.cell? ⟨w.heap.size, 15, none⟩ = some (.int .i64 e.item.exp) ∧ v'.cell? ⟨w.heap.size, 16, none⟩ = some (.int .i64 e.item.made) ∧ v'.cell? ⟨w.heap.size, 17, none⟩ = some (.int .i64 e.item.used) ∧ v'.cell? ⟨w.heap.size, 18, none⟩ = some (.slice a n c) := fun v' o => by
      rw [← hA] at o
      exact ⟨o.cell 0 rfl, o.cell 1 rfl, o.cell 2 rfl, o.cell 3 rfl, o.cell 4 rfl, o.cell 5 rfl, o.cell 6 rfl, o.cell 7 rfl, o.cell 8 rfl, o.cell 9 rfl, o.cell 10 rfl, o.cell 11 rfl, o.cell 12 rfl, o.cell 13 rfl, o.cell 14 rfl, o.cell 15 rfl, o.cell 16 rfl, o.cell 17 rfl, o.cell 18 rfl⟩
    obtain ⟨fs, hfs⟩ : ∃ f : Int, (flagSum [e.kind == 1, e.item.host, e.item.sec, e.item.http, e.item.pers] : Int) = f := ⟨_, rfl⟩
    obtain ⟨kb, hkb⟩ : ∃ b, (e.kind == 1) = b := ⟨_, rfl⟩
    obtain ⟨l1, hl1⟩ : ∃ k, l ++ bytesD e.dot = k := ⟨_, rfl⟩
    obtain ⟨l2, hl2⟩ : ∃ k, l1 ++ bytesT e.stamp = k := ⟨_, rfl⟩
    obtain ⟨l3, hl3⟩ : ∃ k, l2 ++ [fs] = k := ⟨_, rfl⟩
    obtain ⟨l4, hl4⟩ : ∃ k, l3 ++ short n = k := ⟨_, rfl⟩
    have E : Hid (l ++ putE e = l4 ++ e.over.flatMap bytesD ++ (if e.kind = 1 then itemBytes e.item else [])) := by
      show _ = _
      unfold putE bytesE
      rw [hr, if_pos rfl, hn, hfs, ← hl4, ← hl3, ← hl2, ← hl1]
      simp only [List.append_assoc]
    have L1 : l1.length ≤ 100030 := by rw [← hl1, List.length_append]; have := bytesD_len r1; omega
    have L2 : l2.length ≤ 100060 := by rw [← hl2, List.length_append]; have := bytesT_len r2; omega
    have L3 : l3.length ≤ 100061 := by rw [← hl3, List.length_append, List.length_singleton]; omega
    have L4 : l4.length ≤ 100071 := by rw [← hl4, List.length_append]; have := short_ten n (by omega); omega
    have H1 := fun a w hw hb => dotPutC0 base p a l e.dot w hw (by omega) hb (fitD_of r1)
    have H2 := fun a w hw hb => kPutYes base p a l1 e.stamp w hw (by omega) hb r2
    have H3 := fun b a w hw hb hr => wFlagsC base p [e.kind == 1, e.item.host, e.item.sec, e.item.http, e.item.pers] 5 5 5 b a l2 w hw (by omega) hb hr rfl (by omega) (by unfold maxLen; omega) rfl
    have H4 := fun a w hw hb => wNumC base p n a l3 w hw (by omega) hb (by omega)
    have hp1 : putD e.dot = bytesD e.dot := if_pos r1
    rw [hp1, hl1] at H1
    rw [hl2] at H2
    rw [show [e.kind == 1, e.item.host, e.item.sec, e.item.http, e.item.pers].take 8 = [e.kind == 1, e.item.host, e.item.sec, e.item.http, e.item.pers] from rfl, hfs, hl3, hkb] at H3
    rw [hl4] at H4
    unfold valT at H2
    have HOL : Hid (∀ x ∈ e.over, rightD x = true) := r4
    have R5 := Lib.hid r5
    have HROW := Lib.hid h
    have HN := Lib.hid hn
    have qn : IntKind.u64.wrap (n : Int) = (n : Int) := by rw [IntKind.wrap_u64]; omega
    have FROM := fun Os q9 l v (s : PutSt base p q w Os q9 l v) => s.from hw hbase
    obtain ⟨c0, c1, c2, c3, c4, c5, c6, c7, c8, c9, c10, c11, c12, c13, c14, c15, c16, c17, c18⟩ := hc _ (hS.obs _ hM).1
    clear hl1 hl2 hl3 hl4 L1 L2 L3 h hA hT h0 hn hr r1 r2 r3 r4 r5 hp1 hfs hlen
    go_enter Tryd.func16, Tryd.ntmps16
    go_wp2_with (first
      | (refine wpList_loadAll rfl 34 _ rfl w.heap.size 19 A rfl (hS.obs _ hM).1 Tryd.isAgg34 Tryd.sizeOf34 hsz ?_)
      | (go_at_call 11; (with_reducible refine HR.mono ?_); rintro e1 w1 ⟨rfl, hx⟩; replace hS := hS.below hx; clear hx; clear c0 c1 c2 c3 c4 c5 c6 c7 c8 c9 c10 c11 c12 c13 c14 c15 c16 c17 c18; obtain ⟨c0, c1, c2, c3, c4, c5, c6, c7, c8, c9, c10, c11, c12, c13, c14, c15, c16, c17, c18⟩ := hc _ (hS.obs _ hM).1)
      | (go_at_call 22; (with_reducible refine (H1 _ _ hS.wr hS.hb).mono ?_); rintro e3 w3 ⟨rfl, a3, hw3, k3, n3⟩; replace hS := hS.step hw3 k3 n3; clear hw3 k3 n3; clear c0 c1 c2 c3 c4 c5 c6 c7 c8 c9 c10 c11 c12 c13 c14 c15 c16 c17 c18; obtain ⟨c0, c1, c2, c3, c4, c5, c6, c7, c8, c9, c10, c11, c12, c13, c14, c15, c16, c17, c18⟩ := hc _ (hS.obs _ hM).1)
      | (go_at_call 23; (with_reducible refine (H2 _ _ hS.wr hS.hb).mono ?_); rintro e3 w3 ⟨rfl, a3, hw3, k3, n3⟩; replace hS := hS.step hw3 k3 n3; clear hw3 k3 n3; clear c0 c1 c2 c3 c4 c5 c6 c7 c8 c9 c10 c11 c12 c13 c14 c15 c16 c17 c18; obtain ⟨c0, c1, c2, c3, c4, c5, c6, c7, c8, c9, c10, c11, c12, c13, c14, c15, c16, c17, c18⟩ := hc _ (hS.obs _ hM).1))
    have hZ := hS.more #[.string ⟨#[]⟩, .bool false, .bool false, .bool false, .bool false, .int .i64 0, .int .i64 0, .int .i64 0] 31
    obtain ⟨d0, d1, d2, d3, d4, d5, d6, d7, d8, d9, d10, d11, d12, d13, d14, d15, d16, d17, d18⟩ := hc _ (hZ.obs _ (List.mem_cons_of_mem _ hM)).1
    have z0 := (hZ.obs _ (List.mem_cons_self ..)).1.free 0
    clear hZ
    go_region
    all_goals (
      clear d0 d1 d2 d3 d4 d5 d6 d7 d8 d9 d10 d11 d12 d13 d14 d15 d16 d17 d18 z0
      replace hS := (hS.more #[.string (str e.item.val), .bool e.item.host, .bool e.item.sec, .bool e.item.http, .bool e.item.pers, .int .i64 e.item.exp, .int .i64 e.item.made, .int .i64 e.item.used] 31).below ((Below.refl _ _).drew)
      obtain ⟨w5, hw5⟩ : ∃ x, (w3.alloc (.cells #[.string (str e.item.val), .bool e.item.host, .bool e.item.sec, .bool e.item.http, .bool e.item.pers, .int .i64 e.item.exp, .int .i64 e.item.made, .int .i64 e.item.used] 31)).drew = x := ⟨_, rfl⟩
      obtain ⟨z, hz⟩ : ∃ z, w3.heap.size = z := ⟨_, rfl⟩
      rw [hw5, hz] at hS
      rw [hw5, hz]
      clear hw5 hz
      have hM2 : (w.heap.size, A.toList) ∈ [(z, (#[.string (str e.item.val), .bool e.item.host, .bool e.item.sec, .bool e.item.http, .bool e.item.pers, .int .i64 e.item.exp, .int .i64 e.item.made, .int .i64 e.item.used] : Array Value).toList), (w.heap.size, A.toList)] := List.mem_cons_of_mem _ hM
      have oz := (hS.obs _ (List.mem_cons_self ..)).1
      have k1 := oz.cell 1 rfl; have k2 := oz.cell 2 rfl; have k3 := oz.cell 3 rfl; have k4 := oz.cell 4 rfl
      have hS6 := hS.below (below_alloc w5 (.cells #[.bool kb, .bool e.item.host, .bool e.item.sec, .bool e.item.http, .bool e.item.pers] 4))
      have hr6 := reads_new w5 [.bool kb, .bool e.item.host, .bool e.item.sec, .bool e.item.http, .bool e.item.pers] 4
      have HF := H3 _ _ _ hS6.wr hS6.hb hr6
      replace hS := (hS6.less (Os' := [(w.heap.size, A.toList)]) (fun x hx => by rw [List.mem_singleton] at hx; subst hx; exact hM2))
      clear oz hM2 hS6 hr6 H3
      go_wp2_with (first
        | (go_at_call 24; (with_reducible refine HF.mono ?_); rintro e3 w6 ⟨rfl, a3, hw3, k3, n3⟩; replace hS := hS.step hw3 k3 n3; clear hw3 k3 n3; clear c0 c1 c2 c3 c4 c5 c6 c7 c8 c9 c10 c11 c12 c13 c14 c15 c16 c17 c18; obtain ⟨c0, c1, c2, c3, c4, c5, c6, c7, c8, c9, c10, c11, c12, c13, c14, c15, c16, c17, c18⟩ := hc _ (hS.obs _ hM).1)
        | (go_at_call 25; (with_reducible refine (H4 _ _ hS.wr hS.hb).mono ?_); rintro e3 w3 ⟨rfl, a3, hw3, k3, n3⟩; replace hS := hS.step hw3 k3 n3; clear hw3 k3 n3; clear c0 c1 c2 c3 c4 c5 c6 c7 c8 c9 c10 c11 c12 c13 c14 c15 c16 c17 c18; obtain ⟨c0, c1, c2, c3, c4, c5, c6, c7, c8, c9, c10, c11, c12, c13, c14, c15, c16, c17, c18⟩ := hc _ (hS.obs _ hM).1))
      have HS0 := Lib.hid hS
      clear hS H1 H2 HF H4
      go_loopw [45] (fun i wr => ∃ (k : Nat) (q9 : Option Addr) (R : List Int), k ≤ n ∧ i = .int .i64 (k : Int) ∧ Hid (R = l4 ++ (e.over.take k).flatMap bytesD) ∧ PutSt base p q w [(w.heap.size, A.toList)] q9 R wr) (fun i _ => n - (intOf i).toNat)
      case atStart => exact ⟨0, _, l4, Nat.zero_le _, rfl, (by show _ = _; rw [List.take_zero, List.flatMap_nil, List.append_nil]), HS0.out⟩
      case round =>
        clear HS0
        obtain ⟨k, q9, R, hk, rfl, hR, hS⟩ := hrel
        obtain ⟨c0, c1, c2, c3, c4, c5, c6, c7, c8, c9, c10, c11, c12, c13, c14, c15, c16, c17, c18⟩ := hc _ (hS.obs _ hM).1
        by_cases hlt : k < n
        · have hlt' : (k : Int) < (n : Int) := by omega
          obtain ⟨x, g, off, hxk, rfl, p0, p1, p2⟩ := dot_at (HROW.out wr (FROM _ _ _ _ hS)) k hlt
          have hmem := List.mem_of_getElem? hxk
          have hR2 : Hid (R ++ bytesD x = l4 ++ (e.over.take (k + 1)).flatMap bytesD) := by
            show _ = _
            rw [take_snocI hxk, List.flatMap_append, hR.out]
            simp
          have hRl : R.length ≤ 1000000 := by
            have h1 := over_bytes (e.over.take k) (fun y hy => HOL.out y (List.mem_of_mem_take hy))
            have h2 : (e.over.take k).length ≤ k := by rw [List.length_take]; exact Nat.min_le_left _ _
            rw [hR.out, List.length_append]
            omega
          have HX := fun a w hw hb => dotPutC0 base p a R x w hw (by omega) hb (fitD_of (HOL.out x hmem))
          rw [show putD x = bytesD x from if_pos (HOL.out x hmem)] at HX
          have ox := ObjAt.new wr #[.int .i64 x.dev, .int .i64 x.inc, .int .i64 x.seq] 25
          replace hS := hS.below (below_alloc wr (.cells #[.int .i64 x.dev, .int .i64 x.inc, .int .i64 x.seq] 25))
          have x0 := ox.cell 0 rfl; have x1 := ox.cell 1 rfl; have x2 := ox.cell 2 rfl
          generalize R ++ bytesD x = R2 at *
          clear hRl hmem hxk ox
          go_wp2_with (go_at_call 22; (with_reducible refine (HX _ _ hS.wr hS.hb).mono ?_); rintro e3 w3 ⟨rfl, a3, hw3, k3, n3⟩; replace hS := hS.step hw3 k3 n3; clear hw3 k3 n3)
          go_roundw
          case rel => exact ⟨k + 1, a3, R2, by omega, by go_num, hR2, hS⟩
          case measure => simp [intOf]; omega
        · obtain rfl : k = n := by omega
          have e0 : e.over.take k = e.over := List.take_of_length_le (by rw [HN.out]; exact Nat.le_refl _)
          rw [e0] at hR
          have E2 : Hid (l ++ putE e = R ++ (if e.kind = 1 then itemBytes e.item else [])) := by show _ = _; rw [E.out, hR.out]
          have hRl : R.length ≤ 1000000 := by
            have h1 := over_bytes e.over HOL.out
            rw [HN.out] at h1
            rw [hR.out, List.length_append]
            omega
          clear hR e0 E
          cases kb with
          | false =>
            have k1 : ¬ e.kind = 1 := by simpa using hkb
            rw [if_neg k1, List.append_nil] at E2
            clear k1
            go_wp2
            go_end0
            rw [E2.out]
            exact hS.gives
          | true =>
            have k1 : e.kind = 1 := by simpa using hkb
            rw [if_pos k1] at E2
            have HP := fun a w hw hb => putItemC base p a R e.item w hw hRl hb (R5.out k1) hdm
            clear k1
            go_wp2_with (first
              | (refine wpList_loadAll rfl 34 _ rfl w.heap.size 19 A rfl (hS.obs _ hM).1 Tryd.isAgg34 Tryd.sizeOf34 hsz ?_)
              | (go_at_call 14; (with_reducible refine (HI _).mono ?_); rintro e1 w1 ⟨rfl, hx⟩; replace hS := hS.below hx; clear hx)
              | (go_at_call 26; (with_reducible refine (HP _ _ hS.wr hS.hb).mono ?_); rintro e3 w3 ⟨rfl, a3, hw3, k3, n3⟩; replace hS := hS.step hw3 k3 n3; clear hw3 k3 n3))
            go_end0
            rw [E2.out]
            exact hS.gives)

set_option maxHeartbeats 4000000 in
set_option maxRecDepth 100000 in
theorem eventBytesC0 (e : EventN) (a : Option Addr) (n c : Nat) (w : World) (h : RowOf encD 3 w a n c e.over) (hl : lightE e = true) (hT : PTab Tryd.prog w) :
    Calls Tryd.prog 9 #[.agg #[.int .i64 e.dot.dev, .int .i64 e.dot.inc, .int .i64 e.dot.seq, .int .i64 e.stamp.wall, .int .i64 e.stamp.count, .int .i64 e.stamp.dev, .int .i64 e.kind, .string (str e.item.name), .string (str e.item.dom), .string (str e.item.path), .string (str e.item.val), .bool e.item.host, .bool e.item.sec, .bool e.item.http, .bool e.item.pers, .int .i64 e.item.exp, .int .i64 e.item.made, .int .i64 e.item.used, .slice a n c]] w fun en w' => ∃ b d, en = .returned (.tuple #[.slice b (putE e).length d, .int .i64 (if rightE e = true then 0 else 1)]) ∧ Owned w.heap.size 5 b (putE e).length d ((putE e).map (Value.int .u8)) w' ∧ Below w.heap.size w w' := by
  have hb := below_alloc w (.cells #[.int .i64 e.dot.dev, .int .i64 e.dot.inc, .int .i64 e.dot.seq, .int .i64 e.stamp.wall, .int .i64 e.stamp.count, .int .i64 e.stamp.dev, .int .i64 e.kind, .string (str e.item.name), .string (str e.item.dom), .string (str e.item.path), .string (str e.item.val), .bool e.item.host, .bool e.item.sec, .bool e.item.http, .bool e.item.pers, .int .i64 e.item.exp, .int .i64 e.item.made, .int .i64 e.item.used, .slice a n c] 34)
  have O := ObjAt.new w #[.int .i64 e.dot.dev, .int .i64 e.dot.inc, .int .i64 e.dot.seq, .int .i64 e.stamp.wall, .int .i64 e.stamp.count, .int .i64 e.stamp.dev, .int .i64 e.kind, .string (str e.item.name), .string (str e.item.dom), .string (str e.item.path), .string (str e.item.val), .bool e.item.host, .bool e.item.sec, .bool e.item.http, .bool e.item.pers, .int .i64 e.item.exp, .int .i64 e.item.made, .int .i64 e.item.used, .slice a n c] 34
  have HR := eventRightC0 e a n c (w.alloc (.cells #[.int .i64 e.dot.dev, .int .i64 e.dot.inc, .int .i64 e.dot.seq, .int .i64 e.stamp.wall, .int .i64 e.stamp.count, .int .i64 e.stamp.dev, .int .i64 e.kind, .string (str e.item.name), .string (str e.item.dom), .string (str e.item.path), .string (str e.item.val), .bool e.item.host, .bool e.item.sec, .bool e.item.http, .bool e.item.pers, .int .i64 e.item.exp, .int .i64 e.item.made, .int .i64 e.item.used, .slice a n c] 34)) (h.below hb) hl (hT.below hb)
  have HP := fun v (hv : Below w.heap.size w v) (u : World) (hu : Wr 5 v.heap.size v.heap.size none [] u) (hbu : Below v.heap.size v u) => eventPutC0 v.heap.size v.heap.size none [] e a n c u hu (by decide) hbu.size (fun x hx => h.below ((hv.trans (hbu.mono hv.size)).trans (hx.mono hv.size))) hl (hT.below (hv.trans (hbu.mono hv.size)))
  have HBY := fun b p q v hv => wBytesC b p q (putE e) (putE e).length v hv rfl (by
    unfold putE
    split
    · rename_i hr
      obtain ⟨r1, r2, r3, r4, r5⟩ := right_event hr
      unfold bytesE
      simp only [List.length_append]
      have i1 := bytesD_len r1
      have i2 := bytesT_len r2
      have i3 := over_bytes e.over r4
      have i4 := short_ten e.over.length (by omega)
      unfold lightE at hl
      simp only [Bool.and_eq_true, decide_eq_true_eq] at hl
      have i5 : (if e.kind = 1 then itemBytes e.item else []).length ≤ 9000 := by
        split
        · rename_i hk
          exact item_len e.item (r5 hk) hl.2.2.1
        · simp
      simp only [List.length_singleton]
      omega
    · simp)
  have hsz : (#[.int .i64 e.dot.dev, .int .i64 e.dot.inc, .int .i64 e.dot.seq, .int .i64 e.stamp.wall, .int .i64 e.stamp.count, .int .i64 e.stamp.dev, .int .i64 e.kind, .string (str e.item.name), .string (str e.item.dom), .string (str e.item.path), .string (str e.item.val), .bool e.item.host, .bool e.item.sec, .bool e.item.http, .bool e.item.pers, .int .i64 e.item.exp, .int .i64 e.item.made, .int .i64 e.item.used, .slice a n c] : Array Value).size = 19 := rfl
  obtain ⟨A, hA⟩ : ∃ A, (#[.int .i64 e.dot.dev, .int .i64 e.dot.inc, .int .i64 e.dot.seq, .int .i64 e.stamp.wall, .int .i64 e.stamp.count, .int .i64 e.stamp.dev, .int .i64 e.kind, .string (str e.item.name), .string (str e.item.dom), .string (str e.item.path), .string (str e.item.val), .bool e.item.host, .bool e.item.sec, .bool e.item.http, .bool e.item.pers, .int .i64 e.item.exp, .int .i64 e.item.made, .int .i64 e.item.used, .slice a n c] : Array Value) = A := ⟨_, rfl⟩
  rw [hA] at O HR hsz hb
  simp only [hA, List.nil_append] at HP
  rw [hA]
  generalize hv : w.alloc (.cells A 34) = v at *
  obtain ⟨P, hP⟩ : ∃ P, putE e = P := ⟨_, rfl⟩
  rw [hP] at HBY ⊢
  simp only [hP] at HP
  obtain ⟨m, hm⟩ : ∃ m, P.length = m := ⟨_, rfl⟩
  rw [hm] at HBY ⊢
  cases hr : rightE e with
  | false =>
    rw [hr] at HR
    have hP0 : P = [] := by rw [← hP]; unfold putE; rw [hr]; rfl
    subst hP0
    obtain rfl : 0 = m := hm
    clear HP HBY hA hP h hT
    go_enter Tryd.func9, Tryd.ntmps9
    go_wp2_with (first
      | (refine wpList_loadAll rfl 34 _ rfl w.heap.size 19 A rfl O Tryd.isAgg34 Tryd.sizeOf34 hsz ?_)
      | (go_at_call 11; (with_reducible refine HR.mono ?_); rintro e1 w1 ⟨rfl, hx⟩))
    go_ret2
    exact ⟨none, 0, rfl, ⟨World.ownsRow_nil _ _ _ _, Reads.nil _ _, fun _ => rfl, Nat.le_refl _, Nat.zero_le _, rfl⟩, hb.trans (hx.mono hb.size)⟩
  | true =>
    rw [hr] at HR
    have HM := Lib.hid hm
    clear hA hP h hT hm
    go_enter Tryd.func9, Tryd.ntmps9
    go_wp2_with (first
      | (refine wpList_loadAll rfl 34 _ rfl w.heap.size 19 A rfl O Tryd.isAgg34 Tryd.sizeOf34 hsz ?_)
      | (go_at_call 11; (with_reducible refine HR.mono ?_); rintro e1 w1 ⟨rfl, hx⟩; replace O := O.below hx O.lt; replace hb := hb.trans (hx.mono hb.size); clear hx; have hw2 := wr_fresh w1 5 51; have b2 := below_alloc w1 (.cells #[.slice none 0 0] 51); replace O := O.below b2 O.lt; obtain ⟨w2, hw2e⟩ : ∃ x, w1.alloc (.cells #[.slice none 0 0] 51) = x := ⟨_, rfl⟩; rw [hw2e] at hw2 b2 O)
      | (go_at_call 16; (with_reducible refine (HP _ hb _ hw2 b2).mono ?_); rintro e3 w3 ⟨rfl, a3, hw3, k3, n3⟩; have b3 : Below w.heap.size w w3 := (hb.trans (b2.mono hb.size)).trans ((k3.below (Nat.le_refl _) (fun x hx => by cases hx) b2.size).mono hb.size); clear k3 n3)
      | (go_at_call 17; (with_reducible refine (HBY _ _ _ _ hw3).mono ?_); rintro e4 w4 ⟨a4, c4, rfl, ho, hx⟩))
    go_ret2
    exact ⟨a4, c4, rfl, ho.base (base' := w.heap.size) b3.size, b3.trans (hx.mono b3.size)⟩
end Go.Proofs.YtkakcdojbgnocaaDoor

/- The program's own contracts of layer 20: an event, read. -/
namespace Go.Proofs.YtkakcdojbgnocaaDoor
open Go.RowKit
set_option linter.unusedVariables false

end Go.Proofs.YtkakcdojbgnocaaDoor
