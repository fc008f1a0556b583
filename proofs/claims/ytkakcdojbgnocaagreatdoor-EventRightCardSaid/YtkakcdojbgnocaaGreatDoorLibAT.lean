/- Contracts and plain words that the laws' proofs stand on, put together. -/
import Derived.Test.YtkakcdojbgnocaaGreatDoorEvRight
import Derived.Test.YtkakcdojbgnocaaGreatDoorLibAS
import Derived.Test.YtkakcdojbgnocaaGreatDoorLibAK
import Derived.Test.YtkakcdojbgnocaaGreatDoorLibAR
import Derived.Deep.RegionHeld3
import Derived.BigRegion
import Derived.Test.YtkakcdojbgnocaaGreatDoorLibAA
import Derived.Deep.RegionLaw
/- The program's own contracts of layer 20: an event, packed. -/
namespace Go.Proofs.YtkakcdojbgnocaaGreatDoor
open Go.RowKit
set_option linter.unusedVariables false

/-- What is packed of an event: nothing, if it may not be. -/
def putE (e : EventN) : List Int := if rightE e = true then bytesE e else []

theorem over_bytes (L : List DotN) (h : ∀ x ∈ L, rightD x = true) : (L.flatMap bytesD).length ≤ 30 * L.length := by
  induction L with
  | nil => simp
  | cons x xs ih =>
    have h1 := bytesD_len (h x (by simp))
    have h2 := ih fun y hy => h y (by simp [hy])
    simp only [List.flatMap_cons, List.length_append, List.length_cons]
    omega

set_option maxHeartbeats 8000000 in
set_option maxRecDepth 100000 in
theorem eventPutC0 (base p : Nat) (q : Option Addr) (l : List Int) (e : EventN) (a : Option Addr) (n c : Nat) (w : World) (hw : Wr 5 base p q l w) (hlen : l.length ≤ 100000) (hbase : base ≤ w.heap.size) (h : ∀ v, Below base w v → RowOf encD 3 v a n c e.over) (hl : lightE e = true) (hT : PTab Tryz.prog w) :
    Calls Tryz.prog 11 #[.pointer (some ⟨p, 0, none⟩), .agg #[.int .i64 e.dot.dev, .int .i64 e.dot.inc, .int .i64 e.dot.seq, .int .i64 e.stamp.wall, .int .i64 e.stamp.count, .int .i64 e.stamp.dev, .int .i64 e.kind, .string (str e.item.name), .string (str e.item.dom), .string (str e.item.path), .string (str e.item.val), .bool e.item.host, .bool e.item.sec, .bool e.item.http, .bool e.item.pers, .int .i64 e.item.exp, .int .i64 e.item.made, .int .i64 e.item.used, .slice a n c]] w (PutGives base p q (l ++ putE e) w) := by
  have h0 := h w (Below.refl _ _)
  have hn := h0.leq
  have hcm := h0.capm
  have hcl := h0.cle
  unfold maxLen at hcm
  have hb := below_alloc w (.cells #[.int .i64 e.dot.dev, .int .i64 e.dot.inc, .int .i64 e.dot.seq, .int .i64 e.stamp.wall, .int .i64 e.stamp.count, .int .i64 e.stamp.dev, .int .i64 e.kind, .string (str e.item.name), .string (str e.item.dom), .string (str e.item.path), .string (str e.item.val), .bool e.item.host, .bool e.item.sec, .bool e.item.http, .bool e.item.pers, .int .i64 e.item.exp, .int .i64 e.item.made, .int .i64 e.item.used, .slice a n c] 34)
  have hS := (PutSt.new hw hbase).more #[.int .i64 e.dot.dev, .int .i64 e.dot.inc, .int .i64 e.dot.seq, .int .i64 e.stamp.wall, .int .i64 e.stamp.count, .int .i64 e.stamp.dev, .int .i64 e.kind, .string (str e.item.name), .string (str e.item.dom), .string (str e.item.path), .string (str e.item.val), .bool e.item.host, .bool e.item.sec, .bool e.item.http, .bool e.item.pers, .int .i64 e.item.exp, .int .i64 e.item.made, .int .i64 e.item.used, .slice a n c] 34
  have HR := eventRightC0 e a n c (w.alloc (.cells #[.int .i64 e.dot.dev, .int .i64 e.dot.inc, .int .i64 e.dot.seq, .int .i64 e.stamp.wall, .int .i64 e.stamp.count, .int .i64 e.stamp.dev, .int .i64 e.kind, .string (str e.item.name), .string (str e.item.dom), .string (str e.item.path), .string (str e.item.val), .bool e.item.host, .bool e.item.sec, .bool e.item.http, .bool e.item.pers, .int .i64 e.item.exp, .int .i64 e.item.made, .int .i64 e.item.used, .slice a n c] 34)) (h0.below hb) hl (hT.below hb)
  have HI := fun v => itemE e a n c v
  have hsz : (#[.int .i64 e.dot.dev, .int .i64 e.dot.inc, .int .i64 e.dot.seq, .int .i64 e.stamp.wall, .int .i64 e.stamp.count, .int .i64 e.stamp.dev, .int .i64 e.kind, .string (str e.item.name), .string (str e.item.dom), .string (str e.item.path), .string (str e.item.val), .bool e.item.host, .bool e.item.sec, .bool e.item.http, .bool e.item.pers, .int .i64 e.item.exp, .int .i64 e.item.made, .int .i64 e.item.used, .slice a n c] : Array Value).size = 19 := rfl
  obtain ⟨A, hA⟩ : ∃ A, (#[.int .i64 e.dot.dev, .int .i64 e.dot.inc, .int .i64 e.dot.seq, .int .i64 e.stamp.wall, .int .i64 e.stamp.count, .int .i64 e.stamp.dev, .int .i64 e.kind, .string (str e.item.name), .string (str e.item.dom), .string (str e.item.path), .string (str e.item.val), .bool e.item.host, .bool e.item.sec, .bool e.item.http, .bool e.item.pers, .int .i64 e.item.exp, .int .i64 e.item.made, .int .i64 e.item.used, .slice a n c] : Array Value) = A := ⟨_, rfl⟩
  have hM : (w.heap.size, A.toList) ∈ [(w.heap.size, A.toList)] := List.mem_cons_self ..
  rw [hA] at hS HR hsz
  simp only [hA] at HI
  rw [hA]
  generalize hv : w.alloc (.cells A 34) = v at *
  cases hr : rightE e with
  | false =>
    rw [hr] at HR
    have E : l ++ putE e = l := by unfold putE; rw [hr, if_neg Bool.false_ne_true, List.append_nil]
    rw [E]
    clear h hA HI hT h0 hn
    go_enter Tryz.func11, Tryz.ntmps11
    go_wp2_with (first
      | (refine wpList_loadAll rfl 34 _ rfl w.heap.size 19 A rfl (hS.obs _ hM).1 Tryz.isAgg34 Tryz.sizeOf34 hsz ?_)
      | (go_at_call 7; (with_reducible refine HR.mono ?_); rintro e1 w1 ⟨rfl, hx⟩; replace hS := hS.below hx; clear hx))
    go_end0
    exact hS.gives
  | true =>
    rw [hr] at HR
    obtain ⟨r1, r2, r3, r4, r5⟩ := right_event hr
    unfold lightE at hl
    simp only [Bool.and_eq_true, decide_eq_true_eq] at hl
    obtain ⟨-, -, hdm, -, -⟩ := hl
    have hn64 : n ≤ 64 := by omega
    have hc : ∀ v', ObjAt v' w.heap.size A.toList → v'.cell? ⟨w.heap.size, 0, none⟩ = some (.int .i64 e.dot.dev) ∧ v'.cell? ⟨w.heap.size, 1, none⟩ = some (.int .i64 e.dot.inc) ∧ v'.cell? ⟨w.heap.size, 2, none⟩ = some (.int .i64 e.dot.seq) ∧ v'.cell? ⟨w.heap.size, 3, none⟩ = some (.int .i64 e.stamp.wall) ∧ v'.cell? ⟨w.heap.size, 4, none⟩ = some (.int .i64 e.stamp.count) ∧ v'.cell? ⟨w.heap.size, 5, none⟩ = some (.int .i64 e.stamp.dev) ∧ v'.cell? ⟨w.heap.size, 6, none⟩ = some (.int .i64 e.kind) ∧ v'.cell? ⟨w.heap.size, 7, none⟩ = some (.string (str e.item.name)) ∧ v'.cell? ⟨w.heap.size, 8, none⟩ = some (.string (str e.item.dom)) ∧ v'.cell? ⟨w.heap.size, 9, none⟩ = some (.string (str e.item.path)) ∧ v'.cell? ⟨w.heap.size, 10, none⟩ = some (.string (str e.item.val)) ∧ v'.cell? ⟨w.heap.size, 11, none⟩ = some (.bool e.item.host) ∧ v'.cell? ⟨w.heap.size, 12, none⟩ = some (.bool e.item.sec) ∧ v'.cell? ⟨w.heap.size, 13, none⟩ = some (.bool e.item.http) ∧ v'.cell? ⟨w.heap.size, 14, none⟩ = some (.bool e.item.pers) ∧ v'.cell? ⟨w.heap.size, 15, none⟩ = some (.int .i64 e.item.exp) ∧ v'.cell? ⟨w.heap.size, 16, none⟩ = some (.int .i64 e.item.made) ∧ v'.cell? ⟨w.heap.size, 17, none⟩ = some (.int .i64 e.item.used) ∧ v'.cell? ⟨w.heap.size, 18, none⟩ = some (.slice a n c) := fun v' o => by
      rw [← hA] at o
      exact ⟨o.cell 0 rfl, o.cell 1 rfl, o.cell 2 rfl, o.cell 3 rfl, o.cell 4 rfl, o.cell 5 rfl, o.cell 6 rfl, o.cell 7 rfl, o.cell 8 rfl, o.cell 9 rfl, o.cell 10 rfl, o.cell 11 rfl, o.cell 12 rfl, o.cell 13 rfl, o.cell 14 rfl, o.cell 15 rfl, o.cell 16 rfl, o.cell 17 rfl, o.cell 18 rfl⟩
    obtain ⟨fs, hfs⟩ : ∃ f : Int, (flagSum [e.kind == 1, e.item.host, e.item.sec, e.item.http, e.item.pers] : Int) = f := ⟨_, rfl⟩
    obtain ⟨kb, hkb⟩ : ∃ b, (e.kind == 1) = b := ⟨_, rfl⟩
    obtain ⟨l1, hl1⟩ : ∃ k, l ++ bytesD e.dot = k := ⟨_, rfl⟩
    obtain ⟨l2, hl2⟩ : ∃ k, l1 ++ bytesT e.stamp = k := ⟨_, rfl⟩
    obtain ⟨l3, hl3⟩ : ∃ k, l2 ++ [fs] = k := ⟨_, rfl⟩
    obtain ⟨l4, hl4⟩ : ∃ k, l3 ++ short n = k := ⟨_, rfl⟩
    have E : Hid (l ++ putE e = l4 ++ e.over.flatMap bytesD ++ (if e.kind = 1 then itemBytes e.item else [])) := by
      show _ = _
      unfold putE bytesE
      rw [hr, if_pos rfl, hn, hfs, ← hl4, ← hl3, ← hl2, ← hl1]
      simp only [List.append_assoc]
    have L1 : l1.length ≤ 100030 := by rw [← hl1, List.length_append]; have := bytesD_len r1; omega
    have L2 : l2.length ≤ 100060 := by rw [← hl2, List.length_append]; have := bytesT_len r2; omega
    have L3 : l3.length ≤ 100061 := by rw [← hl3, List.length_append, List.length_singleton]; omega
    have L4 : l4.length ≤ 100071 := by rw [← hl4, List.length_append]; have := short_ten n (by omega); omega
    have H1 := fun a w hw hb => dotPutC0 base p a l e.dot w hw (by omega) hb (fitD_of r1)
    have H2 := fun a w hw hb => kPutYes base p a l1 e.stamp w hw (by omega) hb r2
    have H3 := fun b a w hw hb hr => wFlagsC base p [e.kind == 1, e.item.host, e.item.sec, e.item.http, e.item.pers] 5 5 5 b a l2 w hw (by omega) hb hr rfl (by omega) (by unfold maxLen; omega) rfl
    have H4 := fun a w hw hb => wNumC base p n a l3 w hw (by omega) hb (by omega)
    have hp1 : putD e.dot = bytesD e.dot := if_pos r1
    rw [hp1, hl1] at H1
    rw [hl2] at H2
    rw [show [e.kind == 1, e.item.host, e.item.sec, e.item.http, e.item.pers].take 8 = [e.kind == 1, e.item.host, e.item.sec, e.item.http, e.item.pers] from rfl, hfs, hl3, hkb] at H3
    rw [hl4] at H4
    unfold valT at H2
    have HOL : Hid (∀ x ∈ e.over, rightD x = true) := r4
    have R5 := Lib.hid r5
    have HROW := Lib.hid h
    have HN := Lib.hid hn
    have qn : IntKind.u64.wrap (n : Int) = (n : Int) := by rw [IntKind.wrap_u64]; omega
    have FROM := fun Os q9 l v (s : PutSt base p q w Os q9 l v) => s.from hw hbase
    obtain ⟨c0, c1, c2, c3, c4, c5, c6, c7, c8, c9, c10, c11, c12, c13, c14, c15, c16, c17, c18⟩ := hc _ (hS.obs _ hM).1
    clear hl1 hl2 hl3 hl4 L1 L2 L3 h hA hT h0 hn hr r1 r2 r3 r4 r5 hp1 hfs hlen
    go_enter Tryz.func11, Tryz.ntmps11
    go_wp2_with (first
      | (refine wpList_loadAll rfl 34 _ rfl w.heap.size 19 A rfl (hS.obs _ hM).1 Tryz.isAgg34 Tryz.sizeOf34 hsz ?_)
      | (go_at_call 7; (with_reducible refine HR.mono ?_); rintro e1 w1 ⟨rfl, hx⟩; replace hS := hS.below hx; clear hx; clear c0 c1 c2 c3 c4 c5 c6 c7 c8 c9 c10 c11 c12 c13 c14 c15 c16 c17 c18; obtain ⟨c0, c1, c2, c3, c4, c5, c6, c7, c8, c9, c10, c11, c12, c13, c14, c15, c16, c17, c18⟩ := hc _ (hS.obs _ hM).1)
      | (go_at_call 25; (with_reducible refine (H1 _ _ hS.wr hS.hb).mono ?_); rintro e3 w3 ⟨rfl, a3, hw3, k3, n3⟩; replace hS := hS.step hw3 k3 n3; clear hw3 k3 n3; clear c0 c1 c2 c3 c4 c5 c6 c7 c8 c9 c10 c11 c12 c13 c14 c15 c16 c17 c18; obtain ⟨c0, c1, c2, c3, c4, c5, c6, c7, c8, c9, c10, c11, c12, c13, c14, c15, c16, c17, c18⟩ := hc _ (hS.obs _ hM).1)
      | (go_at_call 26; (with_reducible refine (H2 _ _ hS.wr hS.hb).mono ?_); rintro e3 w3 ⟨rfl, a3, hw3, k3, n3⟩; replace hS := hS.step hw3 k3 n3; clear hw3 k3 n3; clear c0 c1 c2 c3 c4 c5 c6 c7 c8 c9 c10 c11 c12 c13 c14 c15 c16 c17 c18; obtain ⟨c0, c1, c2, c3, c4, c5, c6, c7, c8, c9, c10, c11, c12, c13, c14, c15, c16, c17, c18⟩ := hc _ (hS.obs _ hM).1))
    have hZ := hS.more #[.string ⟨#[]⟩, .bool false, .bool false, .bool false, .bool false, .int .i64 0, .int .i64 0, .int .i64 0] 31
    obtain ⟨d0, d1, d2, d3, d4, d5, d6, d7, d8, d9, d10, d11, d12, d13, d14, d15, d16, d17, d18⟩ := hc _ (hZ.obs _ (List.mem_cons_of_mem _ hM)).1
    have z0 := (hZ.obs _ (List.mem_cons_self ..)).1.free 0
    clear hZ
    go_region
    all_goals (
      clear d0 d1 d2 d3 d4 d5 d6 d7 d8 d9 d10 d11 d12 d13 d14 d15 d16 d17 d18 z0
      replace hS := (hS.more #[.string (str e.item.val), .bool e.item.host, .bool e.item.sec, .bool e.item.http, .bool e.item.pers, .int .i64 e.item.exp, .int .i64 e.item.made, .int .i64 e.item.used] 31).below ((Below.refl _ _).drew)
      obtain ⟨w5, hw5⟩ : ∃ x, (w3.alloc (.cells #[.string (str e.item.val), .bool e.item.host, .bool e.item.sec, .bool e.item.http, .bool e.item.pers, .int .i64 e.item.exp, .int .i64 e.item.made, .int .i64 e.item.used] 31)).drew = x := ⟨_, rfl⟩
      obtain ⟨z, hz⟩ : ∃ z, w3.heap.size = z := ⟨_, rfl⟩
      rw [hw5, hz] at hS
      rw [hw5, hz]
      clear hw5 hz
      have hM2 : (w.heap.size, A.toList) ∈ [(z, (#[.string (str e.item.val), .bool e.item.host, .bool e.item.sec, .bool e.item.http, .bool e.item.pers, .int .i64 e.item.exp, .int .i64 e.item.made, .int .i64 e.item.used] : Array Value).toList), (w.heap.size, A.toList)] := List.mem_cons_of_mem _ hM
      have oz := (hS.obs _ (List.mem_cons_self ..)).1
      have k1 := oz.cell 1 rfl; have k2 := oz.cell 2 rfl; have k3 := oz.cell 3 rfl; have k4 := oz.cell 4 rfl
      have hS6 := hS.below (below_alloc w5 (.cells #[.bool kb, .bool e.item.host, .bool e.item.sec, .bool e.item.http, .bool e.item.pers] 4))
      have hr6 := reads_new w5 [.bool kb, .bool e.item.host, .bool e.item.sec, .bool e.item.http, .bool e.item.pers] 4
      have HF := H3 _ _ _ hS6.wr hS6.hb hr6
      replace hS := (hS6.less (Os' := [(w.heap.size, A.toList)]) (fun x hx => by rw [List.mem_singleton] at hx; subst hx; exact hM2))
      clear oz hM2 hS6 hr6 H3
      go_wp2_with (first
        | (go_at_call 27; (with_reducible refine HF.mono ?_); rintro e3 w6 ⟨rfl, a3, hw3, k3, n3⟩; replace hS := hS.step hw3 k3 n3; clear hw3 k3 n3; clear c0 c1 c2 c3 c4 c5 c6 c7 c8 c9 c10 c11 c12 c13 c14 c15 c16 c17 c18; obtain ⟨c0, c1, c2, c3, c4, c5, c6, c7, c8, c9, c10, c11, c12, c13, c14, c15, c16, c17, c18⟩ := hc _ (hS.obs _ hM).1)
        | (go_at_call 28; (with_reducible refine (H4 _ _ hS.wr hS.hb).mono ?_); rintro e3 w3 ⟨rfl, a3, hw3, k3, n3⟩; replace hS := hS.step hw3 k3 n3; clear hw3 k3 n3; clear c0 c1 c2 c3 c4 c5 c6 c7 c8 c9 c10 c11 c12 c13 c14 c15 c16 c17 c18; obtain ⟨c0, c1, c2, c3, c4, c5, c6, c7, c8, c9, c10, c11, c12, c13, c14, c15, c16, c17, c18⟩ := hc _ (hS.obs _ hM).1))
      have HS0 := Lib.hid hS
      clear hS H1 H2 HF H4
      go_loopw [45] (fun i wr => ∃ (k : Nat) (q9 : Option Addr) (R : List Int), k ≤ n ∧ i = .int .i64 (k : Int) ∧ Hid (R = l4 ++ (e.over.take k).flatMap bytesD) ∧ PutSt base p q w [(w.heap.size, A.toList)] q9 R wr) (fun i _ => n - (intOf i).toNat)
      case atStart => exact ⟨0, _, l4, Nat.zero_le _, rfl, (by show _ = _; rw [List.take_zero, List.flatMap_nil, List.append_nil]), HS0.out⟩
      case round =>
        clear HS0
        obtain ⟨k, q9, R, hk, rfl, hR, hS⟩ := hrel
        obtain ⟨c0, c1, c2, c3, c4, c5, c6, c7, c8, c9, c10, c11, c12, c13, c14, c15, c16, c17, c18⟩ := hc _ (hS.obs _ hM).1
        by_cases hlt : k < n
        · have hlt' : (k : Int) < (n : Int) := by omega
          obtain ⟨x, g, off, hxk, rfl, p0, p1, p2⟩ := dot_at (HROW.out wr (FROM _ _ _ _ hS)) k hlt
          have hmem := List.mem_of_getElem? hxk
          have hR2 : Hid (R ++ bytesD x = l4 ++ (e.over.take (k + 1)).flatMap bytesD) := by
            show _ = _
            rw [take_snocI hxk, List.flatMap_append, hR.out]
            simp
          have hRl : R.length ≤ 1000000 := by
            have h1 := over_bytes (e.over.take k) (fun y hy => HOL.out y (List.mem_of_mem_take hy))
            have h2 : (e.over.take k).length ≤ k := by rw [List.length_take]; exact Nat.min_le_left _ _
            rw [hR.out, List.length_append]
            omega
          have HX := fun a w hw hb => dotPutC0 base p a R x w hw (by omega) hb (fitD_of (HOL.out x hmem))
          rw [show putD x = bytesD x from if_pos (HOL.out x hmem)] at HX
          have ox := ObjAt.new wr #[.int .i64 x.dev, .int .i64 x.inc, .int .i64 x.seq] 25
          replace hS := hS.below (below_alloc wr (.cells #[.int .i64 x.dev, .int .i64 x.inc, .int .i64 x.seq] 25))
          have x0 := ox.cell 0 rfl; have x1 := ox.cell 1 rfl; have x2 := ox.cell 2 rfl
          generalize R ++ bytesD x = R2 at *
          clear hRl hmem hxk ox
          go_wp2_with (go_at_call 25; (with_reducible refine (HX _ _ hS.wr hS.hb).mono ?_); rintro e3 w3 ⟨rfl, a3, hw3, k3, n3⟩; replace hS := hS.step hw3 k3 n3; clear hw3 k3 n3)
          go_roundw
          case rel => exact ⟨k + 1, a3, R2, by omega, by go_num, hR2, hS⟩
          case measure => simp [intOf]; omega
        · obtain rfl : k = n := by omega
          have e0 : e.over.take k = e.over := List.take_of_length_le (by rw [HN.out]; exact Nat.le_refl _)
          rw [e0] at hR
          have E2 : Hid (l ++ putE e = R ++ (if e.kind = 1 then itemBytes e.item else [])) := by show _ = _; rw [E.out, hR.out]
          have hRl : R.length ≤ 1000000 := by
            have h1 := over_bytes e.over HOL.out
            rw [HN.out] at h1
            rw [hR.out, List.length_append]
            omega
          clear hR e0 E
          cases kb with
          | false =>
            have k1 : ¬ e.kind = 1 := by simpa using hkb
            rw [if_neg k1, List.append_nil] at E2
            clear k1
            go_wp2
            go_end0
            rw [E2.out]
            exact hS.gives
          | true =>
            have k1 : e.kind = 1 := by simpa using hkb
            rw [if_pos k1] at E2
            have HP := fun a w hw hb => putItemC base p a R e.item w hw hRl hb (R5.out k1) hdm
            clear k1
            go_wp2_with (first
              | (refine wpList_loadAll rfl 34 _ rfl w.heap.size 19 A rfl (hS.obs _ hM).1 Tryz.isAgg34 Tryz.sizeOf34 hsz ?_)
              | (go_at_call 9; (with_reducible refine (HI _).mono ?_); rintro e1 w1 ⟨rfl, hx⟩; replace hS := hS.below hx; clear hx)
              | (go_at_call 29; (with_reducible refine (HP _ _ hS.wr hS.hb).mono ?_); rintro e3 w3 ⟨rfl, a3, hw3, k3, n3⟩; replace hS := hS.step hw3 k3 n3; clear hw3 k3 n3))
            go_end0
            rw [E2.out]
            exact hS.gives)

set_option maxHeartbeats 4000000 in
set_option maxRecDepth 100000 in
theorem eventBytesC0 (e : EventN) (a : Option Addr) (n c : Nat) (w : World) (h : RowOf encD 3 w a n c e.over) (hl : lightE e = true) (hT : PTab Tryz.prog w) :
    Calls Tryz.prog 10 #[.agg #[.int .i64 e.dot.dev, .int .i64 e.dot.inc, .int .i64 e.dot.seq, .int .i64 e.stamp.wall, .int .i64 e.stamp.count, .int .i64 e.stamp.dev, .int .i64 e.kind, .string (str e.item.name), .string (str e.item.dom), .string (str e.item.path), .string (str e.item.val), .bool e.item.host, .bool e.item.sec, .bool e.item.http, .bool e.item.pers, .int .i64 e.item.exp, .int .i64 e.item.made, .int .i64 e.item.used, .slice a n c]] w fun en w' => ∃ b d, en = .returned (.tuple #[.slice b (putE e).length d, .int .i64 (if rightE e = true then 0 else 1)]) ∧ Owned w.heap.size 5 b (putE e).length d ((putE e).map (Value.int .u8)) w' ∧ Below w.heap.size w w' := by
  have hb := below_alloc w (.cells #[.int .i64 e.dot.dev, .int .i64 e.dot.inc, .int .i64 e.dot.seq, .int .i64 e.stamp.wall, .int .i64 e.stamp.count, .int .i64 e.stamp.dev, .int .i64 e.kind, .string (str e.item.name), .string (str e.item.dom), .string (str e.item.path), .string (str e.item.val), .bool e.item.host, .bool e.item.sec, .bool e.item.http, .bool e.item.pers, .int .i64 e.item.exp, .int .i64 e.item.made, .int .i64 e.item.used, .slice a n c] 34)
  have O := ObjAt.new w #[.int .i64 e.dot.dev, .int .i64 e.dot.inc, .int .i64 e.dot.seq, .int .i64 e.stamp.wall, .int .i64 e.stamp.count, .int .i64 e.stamp.dev, .int .i64 e.kind, .string (str e.item.name), .string (str e.item.dom), .string (str e.item.path), .string (str e.item.val), .bool e.item.host, .bool e.item.sec, .bool e.item.http, .bool e.item.pers, .int .i64 e.item.exp, .int .i64 e.item.made, .int .i64 e.item.used, .slice a n c] 34
  have HR := eventRightC0 e a n c (w.alloc (.cells #[.int .i64 e.dot.dev, .int .i64 e.dot.inc, .int .i64 e.dot.seq, .int .i64 e.stamp.wall, .int .i64 e.stamp.count, .int .i64 e.stamp.dev, .int .i64 e.kind, .string (str e.item.name), .string (str e.item.dom), .string (str e.item.path), .string (str e.item.val), .bool e.item.host, .bool e.item.sec, .bool e.item.http, .bool e.item.pers, .int .i64 e.item.exp, .int .i64 e.item.made, .int .i64 e.item.used, .slice a n c] 34)) (h.below hb) hl (hT.below hb)
  have HP := fun v (hv : Below w.heap.size w v) (u : World) (hu : Wr 5 v.heap.size v.heap.size none [] u) (hbu : Below v.heap.size v u) => eventPutC0 v.heap.size v.heap.size none [] e a n c u hu (by decide) hbu.size (fun x hx => h.below ((hv.trans (hbu.mono hv.size)).trans (hx.mono hv.size))) hl (hT.below (hv.trans (hbu.mono hv.size)))
  have HBY := fun b p q v hv => wBytesC b p q (putE e) (putE e).length v hv rfl (by
    unfold putE
    split
    · rename_i hr
      obtain ⟨r1, r2, r3, r4, r5⟩ := right_event hr
      unfold bytesE
      simp only [List.length_append]
      have i1 := bytesD_len r1
      have i2 := bytesT_len r2
      have i3 := over_bytes e.over r4
      have i4 := short_ten e.over.length (by omega)
      unfold lightE at hl
      simp only [Bool.and_eq_true, decide_eq_true_eq] at hl
      have i5 : (if e.kind = 1 then itemBytes e.item else []).length ≤ 9000 := by
        split
        · rename_i hk
          exact item_len e.item (r5 hk) hl.2.2.1
        · simp
      simp only [List.length_singleton]
      omega
    · simp)
  have hsz : (#[.int .i64 e.dot.dev, .int .i64 e.dot.inc, .int .i64 e.dot.seq, .int .i64 e.stamp.wall, .int .i64 e.stamp.count, .int .i64 e.stamp.dev, .int .i64 e.kind, .string (str e.item.name), .string (str e.item.dom), .string (str e.item.path), .string (str e.item.val), .bool e.item.host, .bool e.item.sec, .bool e.item.http, .bool e.item.pers, .int .i64 e.item.exp, .int .i64 e.item.made, .int .i64 e.item.used, .slice a n c] : Array Value).size = 19 := rfl
  obtain ⟨A, hA⟩ : ∃ A, (#[.int .i64 e.dot.dev, .int .i64 e.dot.inc, .int .i64 e.dot.seq, .int .i64 e.stamp.wall, .int .i64 e.stamp.count, .int .i64 e.stamp.dev, .int .i64 e.kind, .string (str e.item.name), .string (str e.item.dom), .string (str e.item.path), .string (str e.item.val), .bool e.item.host, .bool e.item.sec, .bool e.item.http, .bool e.item.pers, .int .i64 e.item.exp, .int .i64 e.item.made, .int .i64 e.item.used, .slice a n c] : Array Value) = A := ⟨_, rfl⟩
  rw [hA] at O HR hsz hb
  simp only [hA, List.nil_append] at HP
  rw [hA]
  generalize hv : w.alloc (.cells A 34) = v at *
  obtain ⟨P, hP⟩ : ∃ P, putE e = P := ⟨_, rfl⟩
  rw [hP] at HBY ⊢
  simp only [hP] at HP
  obtain ⟨m, hm⟩ : ∃ m, P.length = m := ⟨_, rfl⟩
  rw [hm] at HBY ⊢
  cases hr : rightE e with
  | false =>
    rw [hr] at HR
    have hP0 : P = [] := by rw [← hP]; unfold putE; rw [hr]; rfl
    subst hP0
    obtain rfl : 0 = m := hm
    clear HP HBY hA hP h hT
    go_enter Tryz.func10, Tryz.ntmps10
    go_wp2_with (first
      | (refine wpList_loadAll rfl 34 _ rfl w.heap.size 19 A rfl O Tryz.isAgg34 Tryz.sizeOf34 hsz ?_)
      | (go_at_call 7; (with_reducible refine HR.mono ?_); rintro e1 w1 ⟨rfl, hx⟩))
    go_ret2
    exact ⟨none, 0, rfl, ⟨World.ownsRow_nil _ _ _ _, Reads.nil _ _, fun _ => rfl, Nat.le_refl _, Nat.zero_le _, rfl⟩, hb.trans (hx.mono hb.size)⟩
  | true =>
    rw [hr] at HR
    have HM := Lib.hid hm
    clear hA hP h hT hm
    go_enter Tryz.func10, Tryz.ntmps10
    go_wp2_with (first
      | (refine wpList_loadAll rfl 34 _ rfl w.heap.size 19 A rfl O Tryz.isAgg34 Tryz.sizeOf34 hsz ?_)
      | (go_at_call 7; (with_reducible refine HR.mono ?_); rintro e1 w1 ⟨rfl, hx⟩; replace O := O.below hx O.lt; replace hb := hb.trans (hx.mono hb.size); clear hx; have hw2 := wr_fresh w1 5 46; have b2 := below_alloc w1 (.cells #[.slice none 0 0] 46); replace O := O.below b2 O.lt; obtain ⟨w2, hw2e⟩ : ∃ x, w1.alloc (.cells #[.slice none 0 0] 46) = x := ⟨_, rfl⟩; rw [hw2e] at hw2 b2 O)
      | (go_at_call 11; (with_reducible refine (HP _ hb _ hw2 b2).mono ?_); rintro e3 w3 ⟨rfl, a3, hw3, k3, n3⟩; have b3 : Below w.heap.size w w3 := (hb.trans (b2.mono hb.size)).trans ((k3.below (Nat.le_refl _) (fun x hx => by cases hx) b2.size).mono hb.size); clear k3 n3)
      | (go_at_call 12; (with_reducible refine (HBY _ _ _ _ hw3).mono ?_); rintro e4 w4 ⟨a4, c4, rfl, ho, hx⟩))
    go_ret2
    exact ⟨a4, c4, rfl, ho.base (base' := w.heap.size) b3.size, b3.trans (hx.mono b3.size)⟩
end Go.Proofs.YtkakcdojbgnocaaGreatDoor

/- The program's own contracts of layer 20: an event, read. -/
namespace Go.Proofs.YtkakcdojbgnocaaGreatDoor
open Go.RowKit
set_option linter.unusedVariables false

theorem evs_nb {a b c d e f k x y z : Int} {s1 s2 s3 s4 : ByteArray} {f1 f2 f3 f4 : Bool} {q : Option Addr} {n m : Nat} : NoByte [.int .i64 a, .int .i64 b, .int .i64 c, .int .i64 d, .int .i64 e, .int .i64 f, .int .i64 k, .string s1, .string s2, .string s3, .string s4, .bool f1, .bool f2, .bool f3, .bool f4, .int .i64 x, .int .i64 y, .int .i64 z, .slice q n m] := by
  intro v hv n
  simp only [List.mem_cons, List.not_mem_nil, or_false] at hv
  rcases hv with rfl | rfl | rfl | rfl | rfl | rfl | rfl | rfl | rfl | rfl | rfl | rfl | rfl | rfl | rfl | rfl | rfl | rfl | rfl <;> (intro h; cases h)

/-- A Remove has no item. -/
theorem remove_item {e : EventN} (h : rightE e = true) (hk : ¬ e.kind = 1) : e.kind = 2 ∧ e.item = ItemL.none := by
  rw [right_split] at h
  simp only [Bool.and_eq_true] at h
  have h5 := h.2.2.2.2
  unfold kindE at h5
  rw [if_neg hk] at h5
  simp only [Bool.and_eq_true, beq_iff_eq] at h5
  exact ⟨h5.1.1, sameKC_iff.1 (by rw [Bool.and_eq_true]; exact h5.1.2)⟩

set_option maxHeartbeats 8000000 in
set_option maxRecDepth 100000 in
theorem eventGetC0 (p : Nat) (e : EventN) (r l : List Int) (w : World) (hr : Rd p l w) (hl : bytesE e ++ r = l) (hb : IsBytes l) (hre : rightE e = true) (hli : lightE e = true) (hT : ∀ v, Kept p none w v → PTab Tryz.prog v) :
    Calls Tryz.prog 32 #[.pointer (some ⟨p, 0, none⟩)] w fun en w' => ∃ a n c, en = .returned (.agg #[.int .i64 e.dot.dev, .int .i64 e.dot.inc, .int .i64 e.dot.seq, .int .i64 e.stamp.wall, .int .i64 e.stamp.count, .int .i64 e.stamp.dev, .int .i64 e.kind, .string (str e.item.name), .string (str e.item.dom), .string (str e.item.path), .string (str e.item.val), .bool e.item.host, .bool e.item.sec, .bool e.item.http, .bool e.item.pers, .int .i64 e.item.exp, .int .i64 e.item.made, .int .i64 e.item.used, .slice a n c]) ∧ n = e.over.length ∧ RowOf encD 3 w' a n c e.over ∧ (∀ j, At a j → w.heap.size ≤ j) ∧ Rd p r w' ∧ Kept p none w w' := by
  obtain ⟨r1, r2, r3, r4, r5⟩ := right_event hre
  obtain ⟨i0, hi, hz0, hz1, hz2⟩ := info_parts infoDot
  obtain ⟨n, hn⟩ : ∃ n, e.over.length = n := ⟨_, rfl⟩
  have hn64 : n ≤ 64 := by omega
  obtain ⟨kb, hkb⟩ : ∃ b, (e.kind == 1) = b := ⟨_, rfl⟩
  obtain ⟨r6, hr6⟩ : ∃ x, (if e.kind = 1 then itemBytes e.item else []) ++ r = x := ⟨_, rfl⟩
  obtain ⟨l4, hl4⟩ : ∃ x, e.over.flatMap bytesD ++ r6 = x := ⟨_, rfl⟩
  obtain ⟨l3, hl3⟩ : ∃ x, short n ++ l4 = x := ⟨_, rfl⟩
  obtain ⟨l2, hl2⟩ : ∃ x, (flagSum [kb, e.item.host, e.item.sec, e.item.http, e.item.pers] : Int) :: l3 = x := ⟨_, rfl⟩
  obtain ⟨l1, hl1⟩ : ∃ x, bytesT e.stamp ++ l2 = x := ⟨_, rfl⟩
  have hl0 : bytesD e.dot ++ l1 = l := by
    rw [← hl, ← hl1, ← hl2, ← hl3, ← hl4, ← hr6, ← hkb, ← hn]
    unfold bytesE
    simp only [List.append_assoc, List.cons_append, List.nil_append]
  have b1 : IsBytes l1 := fun y hy => hb y (by rw [← hl0]; exact List.mem_append_right _ hy)
  have b2 : IsBytes l2 := fun y hy => b1 y (by rw [← hl1]; exact List.mem_append_right _ hy)
  have b3 : IsBytes l3 := fun y hy => b2 y (by rw [← hl2]; exact List.mem_cons_of_mem _ hy)
  have b4 : IsBytes l4 := fun y hy => b3 y (by rw [← hl3]; exact List.mem_append_right _ hy)
  have b5 : IsBytes r6 := fun y hy => b4 y (by rw [← hl4]; exact List.mem_append_right _ hy)
  have HD := fun u hu => dotGetIn (fun k => k < w.heap.size) p e.dot l1 l u hu
  have HK := fun u hu => clockGetIn (fun k => k < w.heap.size) p e.stamp l2 l1 u hu
  have HN := fun u hu => rNumC p n l4 l3 64 u hu hl3 b3 (by omega) (by omega)
  have hb1 := below_alloc w (.cells #[.int .i64 0, .int .i64 0, .int .i64 0, .int .i64 0, .int .i64 0, .int .i64 0, .int .i64 0, .string ⟨#[]⟩, .string ⟨#[]⟩, .string ⟨#[]⟩, .string ⟨#[]⟩, .bool false, .bool false, .bool false, .bool false, .int .i64 0, .int .i64 0, .int .i64 0, .slice none 0 0] 34)
  have oR := ObjAt.new w #[.int .i64 0, .int .i64 0, .int .i64 0, .int .i64 0, .int .i64 0, .int .i64 0, .int .i64 0, .string ⟨#[]⟩, .string ⟨#[]⟩, .string ⟨#[]⟩, .string ⟨#[]⟩, .bool false, .bool false, .bool false, .bool false, .int .i64 0, .int .i64 0, .int .i64 0, .slice none 0 0] 34
  generalize hw1 : w.alloc (.cells #[.int .i64 0, .int .i64 0, .int .i64 0, .int .i64 0, .int .i64 0, .int .i64 0, .int .i64 0, .string ⟨#[]⟩, .string ⟨#[]⟩, .string ⟨#[]⟩, .string ⟨#[]⟩, .bool false, .bool false, .bool false, .bool false, .int .i64 0, .int .i64 0, .int .i64 0, .slice none 0 0] 34) = w1 at *
  have s1 : Hid (w1.heap.size = w.heap.size + 1) := by show _ = _; rw [← hw1]; simp
  have hb2 := below_alloc w1 (.cells #[.int .i64 0, .int .i64 0, .int .i64 0, .int .i64 0, .int .i64 0, .int .i64 0, .int .i64 2, .string ⟨#[]⟩, .string ⟨#[]⟩, .string ⟨#[]⟩, .string ⟨#[]⟩, .bool false, .bool false, .bool false, .bool false, .int .i64 0, .int .i64 0, .int .i64 0, .slice none 0 0] 34)
  have oB := ObjAt.new w1 #[.int .i64 0, .int .i64 0, .int .i64 0, .int .i64 0, .int .i64 0, .int .i64 0, .int .i64 2, .string ⟨#[]⟩, .string ⟨#[]⟩, .string ⟨#[]⟩, .string ⟨#[]⟩, .bool false, .bool false, .bool false, .bool false, .int .i64 0, .int .i64 0, .int .i64 0, .slice none 0 0] 34
  generalize hw2 : w1.alloc (.cells #[.int .i64 0, .int .i64 0, .int .i64 0, .int .i64 0, .int .i64 0, .int .i64 0, .int .i64 2, .string ⟨#[]⟩, .string ⟨#[]⟩, .string ⟨#[]⟩, .string ⟨#[]⟩, .bool false, .bool false, .bool false, .bool false, .int .i64 0, .int .i64 0, .int .i64 0, .slice none 0 0] 34) = w2 at *
  have hS : GetSt (fun k => k < w.heap.size) p w w1.heap.size [.int .i64 0, .int .i64 0, .int .i64 0, .int .i64 0, .int .i64 0, .int .i64 0, .int .i64 2, .string ⟨#[]⟩, .string ⟨#[]⟩, .string ⟨#[]⟩, .string ⟨#[]⟩, .bool false, .bool false, .bool false, .bool false, .int .i64 0, .int .i64 0, .int .i64 0, .slice none 0 0] [(w.heap.size, [.int .i64 0, .int .i64 0, .int .i64 0, .int .i64 0, .int .i64 0, .int .i64 0, .int .i64 0, .string ⟨#[]⟩, .string ⟨#[]⟩, .string ⟨#[]⟩, .string ⟨#[]⟩, .bool false, .bool false, .bool false, .bool false, .int .i64 0, .int .i64 0, .int .i64 0, .slice none 0 0])] l w2 :=
    ⟨(hr.inside.below hb1).below hb2, oB, evs_nb, fun x hx => by
      rw [List.mem_singleton] at hx
      subst hx
      exact ⟨oR.below hb2 oR.lt, fun e => by have := s1.out; simp only at e; omega, Nat.le_refl _⟩, by have := s1.out; omega, hr.lt, Kept.of (hb1.trans (hb2.mono hb1.size))⟩
  have HS0 : Hid (w.heap.size < w1.heap.size) := by show _ < _; rw [s1.out]; omega
  clear oB oR hb1 hb2
  have HD := fun u (h : GetSt (fun k => k < w.heap.size) p w w1.heap.size [.int .i64 0, .int .i64 0, .int .i64 0, .int .i64 0, .int .i64 0, .int .i64 0, .int .i64 2, .string ⟨#[]⟩, .string ⟨#[]⟩, .string ⟨#[]⟩, .string ⟨#[]⟩, .bool false, .bool false, .bool false, .bool false, .int .i64 0, .int .i64 0, .int .i64 0, .slice none 0 0] [(w.heap.size, [.int .i64 0, .int .i64 0, .int .i64 0, .int .i64 0, .int .i64 0, .int .i64 0, .int .i64 0, .string ⟨#[]⟩, .string ⟨#[]⟩, .string ⟨#[]⟩, .string ⟨#[]⟩, .bool false, .bool false, .bool false, .bool false, .int .i64 0, .int .i64 0, .int .i64 0, .slice none 0 0])] l u) => HD u h.rd (fun k hk => Nat.lt_of_lt_of_le hk h.K.size) hl0 hb r1
  have HK := fun E Os u (h : GetSt (fun k => k < w.heap.size) p w w1.heap.size E Os l1 u) => HK u h.rd (fun k hk => Nat.lt_of_lt_of_le hk h.K.size) hl1 b1 r2
  unfold valT at HK
  have HF := fun P g u hr oP oB og => getFlagsC p P w1.heap.size g e.dot e.stamp 2 kb e.item.host e.item.sec e.item.http e.item.pers l3 l2 u hr hl2 oP oB og
  have HRE := Lib.hid hre
  have HLI := Lib.hid hli
  have HTT := Lib.hid hT
  have R4 := Lib.hid r4
  have R5 := Lib.hid r5
  have HL4 := Lib.hid hl4
  have HR6 := Lib.hid hr6
  have B4 := Lib.hid b4
  have HKB := Lib.hid hkb
  have HNN := Lib.hid hn
  clear hre hli hT r1 r2 r3 r4 r5 hl hb hl0 hl1 hl2 hl3 hl4 hr6 b1 b2 b3 b4 b5 hkb hr s1 hn
  go_enter Tryz.func32, Tryz.ntmps32
  go_wp2_with (first
    | ((with_reducible change wpList _ _ _ _ _ (World.alloc w1 _)); refine wpList_storeNew rfl 34 _ _ rfl #[.int .i64 0, .int .i64 0, .int .i64 0, .int .i64 0, .int .i64 0, .int .i64 0, .int .i64 0, .string ⟨#[]⟩, .string ⟨#[]⟩, .string ⟨#[]⟩, .string ⟨#[]⟩, .bool false, .bool false, .bool false, .bool false, .int .i64 0, .int .i64 0, .int .i64 0, .slice none 0 0] [.int .i64 0, .int .i64 0, .int .i64 0, .int .i64 0, .int .i64 0, .int .i64 0, .int .i64 2, .string ⟨#[]⟩, .string ⟨#[]⟩, .string ⟨#[]⟩, .string ⟨#[]⟩, .bool false, .bool false, .bool false, .bool false, .int .i64 0, .int .i64 0, .int .i64 0, .slice none 0 0] rfl rfl (by kernel_rfl) rfl rfl ?_; rw [show w1.alloc (.cells ([.int .i64 0, .int .i64 0, .int .i64 0, .int .i64 0, .int .i64 0, .int .i64 0, .int .i64 2, .string ⟨#[]⟩, .string ⟨#[]⟩, .string ⟨#[]⟩, .string ⟨#[]⟩, .bool false, .bool false, .bool false, .bool false, .int .i64 0, .int .i64 0, .int .i64 0, .slice none 0 0] : List Value).toArray 34) = w2 from hw2])
    | (go_at_call 54; (with_reducible refine (HD _ hS).mono ?_); rintro e3 w3 ⟨rfl, rd3, k3⟩; replace hS := hS.step rd3 k3; have c0 := hS.o.cell 0 rfl; have c1 := hS.o.cell 1 rfl; have c2 := hS.o.cell 2 rfl; have g0 := hS.o.free 0; have g1 := hS.o.free 1; have g2 := hS.o.free 2; replace hS := ((hS.set 0 (i64_nb e.dot.dev)).set 1 (i64_nb e.dot.inc)).set 2 (i64_nb e.dot.seq); clear rd3 k3)
    | (go_at_call 55; (with_reducible refine (HK _ _ _ hS).mono ?_); rintro e4 w4 ⟨rfl, rd4, k4⟩; replace hS := hS.step rd4 k4; have c3 := hS.o.cell 3 rfl; have c4 := hS.o.cell 4 rfl; have c5 := hS.o.cell 5 rfl; have g3 := hS.o.free 3; have g4 := hS.o.free 4; have g5 := hS.o.free 5; replace hS := ((hS.set 3 (i64_nb e.stamp.wall)).set 4 (i64_nb e.stamp.count)).set 5 (i64_nb e.stamp.dev); clear rd4 k4))
  have hBP := hS.o.lt
  replace hS := hS.more #[.bool false] 4
  obtain ⟨w5, hw5⟩ : ∃ x, (((w4.setCell ⟨w1.heap.size, 3, none⟩ (.int .i64 e.stamp.wall)).setCell ⟨w1.heap.size, 4, none⟩ (.int .i64 e.stamp.count)).setCell ⟨w1.heap.size, 5, none⟩ (.int .i64 e.stamp.dev)).alloc (.cells #[.bool false] 4) = x := ⟨_, rfl⟩
  obtain ⟨P, hP⟩ : ∃ P, w4.heap.size = P := ⟨_, rfl⟩
  have eP : (((w4.setCell ⟨w1.heap.size, 3, none⟩ (.int .i64 e.stamp.wall)).setCell ⟨w1.heap.size, 4, none⟩ (.int .i64 e.stamp.count)).setCell ⟨w1.heap.size, 5, none⟩ (.int .i64 e.stamp.dev)).heap.size = P := by simp [hP]
  rw [eP] at hBP
  rw [hw5, eP] at hS
  rw [hw5, hP]
  have hS : GetSt (fun k => k < w.heap.size) p w w1.heap.size [.int .i64 e.dot.dev, .int .i64 e.dot.inc, .int .i64 e.dot.seq, .int .i64 e.stamp.wall, .int .i64 e.stamp.count, .int .i64 e.stamp.dev, .int .i64 2, .string ⟨#[]⟩, .string ⟨#[]⟩, .string ⟨#[]⟩, .string ⟨#[]⟩, .bool false, .bool false, .bool false, .bool false, .int .i64 0, .int .i64 0, .int .i64 0, .slice none 0 0] [(P, [.bool false]), (w.heap.size, [.int .i64 0, .int .i64 0, .int .i64 0, .int .i64 0, .int .i64 0, .int .i64 0, .int .i64 0, .string ⟨#[]⟩, .string ⟨#[]⟩, .string ⟨#[]⟩, .string ⟨#[]⟩, .bool false, .bool false, .bool false, .bool false, .int .i64 0, .int .i64 0, .int .i64 0, .slice none 0 0])] l2 w5 := hS
  clear hw5 hP eP
  have hoP := hS.obs _ (List.mem_cons_self ..)
  have hPB : P ≠ w1.heap.size := hoP.2.1
  have hPw : w.heap.size ≤ P := hoP.2.2
  have hPl : P < w5.heap.size := hoP.1.lt
  have hBl := hS.o.lt
  have hpw := hS.hp
  have hBw := hS.hB
  have bg := below_alloc w5 (.cells #[.pointer (some ⟨P, 0, none⟩), .pointer (some ⟨w1.heap.size, 11, none⟩), .pointer (some ⟨w1.heap.size, 12, none⟩), .pointer (some ⟨w1.heap.size, 13, none⟩), .pointer (some ⟨w1.heap.size, 14, none⟩)] 93)
  have hS6 := (hS.below bg).below ((Below.refl _ _).drew)
  have og : ObjAt (w5.alloc (.cells #[.pointer (some ⟨P, 0, none⟩), .pointer (some ⟨w1.heap.size, 11, none⟩), .pointer (some ⟨w1.heap.size, 12, none⟩), .pointer (some ⟨w1.heap.size, 13, none⟩), .pointer (some ⟨w1.heap.size, 14, none⟩)] 93)).drew w5.heap.size [.pointer (some ⟨P, 0, none⟩), .pointer (some ⟨w1.heap.size, 11, none⟩), .pointer (some ⟨w1.heap.size, 12, none⟩), .pointer (some ⟨w1.heap.size, 13, none⟩), .pointer (some ⟨w1.heap.size, 14, none⟩)] := (ObjAt.new w5 #[.pointer (some ⟨P, 0, none⟩), .pointer (some ⟨w1.heap.size, 11, none⟩), .pointer (some ⟨w1.heap.size, 12, none⟩), .pointer (some ⟨w1.heap.size, 13, none⟩), .pointer (some ⟨w1.heap.size, 14, none⟩)] 93).drew
  have HF6 := HF P w5.heap.size _ hS6.rd.rd (hS6.obs _ (List.mem_cons_self ..)).1 hS6.o og hPB (by omega) hS6.ne (by omega) (by omega) (by omega)
  clear HF HD HK hoP og bg
  go_region_held3 (fun _ => True) (trivial)
    (first
      | (go_at_call 56; (with_reducible refine HF6.mono ?_); rintro e6 w6 ⟨rfl, rd6, oP6, oB6, K6⟩; have hS7 := hS6.flags (Os' := [(w.heap.size, [.int .i64 0, .int .i64 0, .int .i64 0, .int .i64 0, .int .i64 0, .int .i64 0, .int .i64 0, .string ⟨#[]⟩, .string ⟨#[]⟩, .string ⟨#[]⟩, .string ⟨#[]⟩, .bool false, .bool false, .bool false, .bool false, .int .i64 0, .int .i64 0, .int .i64 0, .slice none 0 0])]) rd6 oB6 evs_nb oP6 hPB hPw K6 (fun x hx => ⟨List.mem_cons_of_mem _ hx, by rw [List.mem_singleton] at hx; subst hx; simp only; have := HS0.out; omega⟩)))
  clear hS hS6 HF6 HD HK hPw hPl hw1 hw2
  go_wp2_with (go_at_call 57; (with_reducible refine (HN _ hS7.rd.rd).mono ?_); rintro e7 w7 ⟨rfl, rd7, k7⟩; have hS0 := hS7.stepR rd7 k7; clear rd7 k7 hS7)
  have HS9 := Lib.hid hS0
  have hBl0 : w1.heap.size < w7.heap.size := hS0.o.lt
  have hPl0 : P < w7.heap.size := (hS0.obs _ (List.mem_cons_self ..)).1.lt
  have HO7 : Hid (∀ x ∈ [(P, [Value.bool kb]), (w.heap.size, [.int .i64 0, .int .i64 0, .int .i64 0, .int .i64 0, .int .i64 0, .int .i64 0, .int .i64 0, .string ⟨#[]⟩, .string ⟨#[]⟩, .string ⟨#[]⟩, .string ⟨#[]⟩, .bool false, .bool false, .bool false, .bool false, .int .i64 0, .int .i64 0, .int .i64 0, .slice none 0 0])], x.1 < w7.heap.size) := by
    intro x hx
    rcases List.mem_cons.1 hx with rfl | hx
    · exact hPl0
    · rw [List.mem_singleton] at hx
      subst hx
      have := HS0.out
      simp only
      omega
  clear hS0 HN hBl
  go_loopw [31] (fun i wr => ∃ (k c2 : Nat) (q : Option Addr), k ≤ n ∧ i = .int .u64 (k : Int) ∧ w7.heap.size ≤ wr.heap.size ∧ GetSt (fun k => k < w7.heap.size) p w w1.heap.size [.int .i64 e.dot.dev, .int .i64 e.dot.inc, .int .i64 e.dot.seq, .int .i64 e.stamp.wall, .int .i64 e.stamp.count, .int .i64 e.stamp.dev, .int .i64 2, .string ⟨#[]⟩, .string ⟨#[]⟩, .string ⟨#[]⟩, .string ⟨#[]⟩, .bool e.item.host, .bool e.item.sec, .bool e.item.http, .bool e.item.pers, .int .i64 0, .int .i64 0, .int .i64 0, .slice q k c2] [(P, [.bool kb]), (w.heap.size, [.int .i64 0, .int .i64 0, .int .i64 0, .int .i64 0, .int .i64 0, .int .i64 0, .int .i64 0, .string ⟨#[]⟩, .string ⟨#[]⟩, .string ⟨#[]⟩, .string ⟨#[]⟩, .bool false, .bool false, .bool false, .bool false, .int .i64 0, .int .i64 0, .int .i64 0, .slice none 0 0])] ((e.over.drop k).flatMap bytesD ++ r6) wr ∧ OwnZ encD 3 w7.heap.size 25 q k c2 (e.over.take k) wr) (fun i _ => n - (intOf i).toNat)
  case atStart => exact ⟨0, 0, none, Nat.zero_le _, rfl, Nat.le_refl _, by rw [List.drop_zero, HL4.out]; exact HS9.out, OwnZ.none _ _ _ _ _⟩
  case round =>
    clear HS9
    obtain ⟨k, c2, q, hk, rfl, hw7, hS, hz⟩ := hrel
    have hcm := hz.2.2
    unfold maxLen at hcm
    by_cases hlt : k < n
    · have hlt' : (k : Int) < (n : Int) := by omega
      obtain ⟨y, hy⟩ : ∃ y, e.over[k]? = some y := ⟨e.over[k]'(by have := HNN.out; omega), List.getElem?_eq_getElem _⟩
      have hry := R4.out y (List.mem_of_getElem? hy)
      have hdr : (e.over.drop k).flatMap bytesD ++ r6 = bytesD y ++ ((e.over.drop (k + 1)).flatMap bytesD ++ r6) := by
        obtain ⟨hkl, e9⟩ := List.getElem?_eq_some_iff.1 hy
        rw [List.drop_eq_getElem_cons hkl, e9, List.flatMap_cons, List.append_assoc]
      have hby : IsBytes ((e.over.drop k).flatMap bytesD ++ r6) := fun x hx => B4.out x (by
        rw [← HL4.out]
        rcases List.mem_append.1 hx with hx | hx
        · obtain ⟨z, hz1, hz2⟩ := List.mem_flatMap.1 hx
          exact List.mem_append_left _ (List.mem_flatMap.2 ⟨z, List.mem_of_mem_drop hz1, hz2⟩)
        · exact List.mem_append_right _ hx)
      have hS := hS.below ((Below.refl wr.heap.size wr).drew)
      have hz := hz.below ((Below.refl wr.heap.size wr).drew) (Nat.le_refl _)
      have hs7 := Nat.lt_of_lt_of_le hBl0 (Nat.le_refl _)
      have HG := dotGetIn (fun k => k < w7.heap.size) p y _ _ wr.drew hS.rd (fun k hk => Nat.lt_of_lt_of_le hk hw7) hdr.symm hby hry
      have c18 := hS.o.cell 18 rfl
      have g18 := hS.o.free 18
      obtain ⟨l2', hl2'⟩ : ∃ l2, (e.over.drop (k + 1)).flatMap bytesD ++ r6 = l2 := ⟨_, rfl⟩
      rw [hl2'] at HG
      have HL2 := Lib.hid hl2'
      have HTK := Lib.hid (take_snocI hy)
      have qk : IntKind.u64.wrap ((k : Int) + 1) = (k : Int) + 1 := by rw [IntKind.wrap_u64]; omega
      clear hdr hby hl2' hy hry
      go_wp2_with fail
      go_region_law (first
        | ((try go_simp); go_at_call 54; (refine HG.mono ?_); rintro e3 w3 ⟨rfl, rd3, k3⟩; have hS3 := hS.step rd3 k3; have hz3 := hz.keeps (Keeps.ofKept k3) (fun j h1 h2 => h2.elim (fun e => by have := (hz.lt' j h1).1; omega) (fun h => at_none _ h)); have d18 := hS3.o.cell 18 rfl; have hS4 := hS3.below (below_alloc w3 (.cells #[.int .i64 y.dev, .int .i64 y.inc, .int .i64 y.seq] 25)); have e18 := hS4.o.cell 18 rfl; have hw3 := Nat.le_trans hw7 k3.size)
        | (refine step_append_row1 encD_len (by decide) encD_one (by rfl) (.tmp 34) (.tmp 37) 32 (by rfl) 25 i0 (.agg #[.int .i64 0, .int .i64 0, .int .i64 0]) 24 Tryz.underlying32 hi hz0 hz1 hz2 rfl hz3 rfl y rfl rfl (k + 1) rfl (by unfold maxLen; omega) (by omega) hw3 ?_; intro q6 c6 w6 hz6 hx6 hg6 hn6; have hS6 := hS3.at' hx6 (fun _ h => h) hBl0 HO7.out; have f18 := hS6.o.cell 18 rfl; have f18' := hS6.o.free 18))
      all_goals (
        have hS7 := hS6.set 18 (slice_nb q6 (k + 1) c6)
        have hz7 := hz6.setCell (p := ⟨w1.heap.size, 18, none⟩) (apart_iff.2 fun h => by have := (hz6.lt' w1.heap.size h).1; omega) (.slice q6 (k + 1) c6)
        have hs8 : w7.heap.size ≤ (w6.setCell ⟨w1.heap.size, 18, none⟩ (.slice q6 (k + 1) c6)).heap.size := by
          rw [World.size_setCell]
          exact Nat.le_trans hw3 hx6.size
        go_wp2
        go_roundw
        case rel => exact ⟨k + 1, c6, q6, by omega, by go_num, hs8, by rw [HL2.out]; exact hS7, by rw [HTK.out]; exact hz7⟩
        case measure => simp [intOf]; omega)
    · obtain rfl : k = n := by omega
      have e0 : e.over.take k = e.over := List.take_of_length_le (by rw [HNN.out]; exact Nat.le_refl _)
      have e1 : e.over.drop k = [] := List.drop_of_length_le (by rw [HNN.out]; exact Nat.le_refl _)
      rw [e0] at hz
      rw [e1, List.flatMap_nil, List.nil_append] at hS
      have cP := (hS.obs _ (List.mem_cons_self ..)).1.cell 0 rfl
      have hzz := Lib.hid hz.lt'
      have hsz : (#[.int .i64 e.dot.dev, .int .i64 e.dot.inc, .int .i64 e.dot.seq, .int .i64 e.stamp.wall, .int .i64 e.stamp.count, .int .i64 e.stamp.dev, .int .i64 e.kind, .string (str e.item.name), .string (str e.item.dom), .string (str e.item.path), .string (str e.item.val), .bool e.item.host, .bool e.item.sec, .bool e.item.http, .bool e.item.pers, .int .i64 e.item.exp, .int .i64 e.item.made, .int .i64 e.item.used, .slice q k c2] : Array Value).size = 19 := rfl
      have oA : (#[.int .i64 e.dot.dev, .int .i64 e.dot.inc, .int .i64 e.dot.seq, .int .i64 e.stamp.wall, .int .i64 e.stamp.count, .int .i64 e.stamp.dev, .int .i64 e.kind, .string (str e.item.name), .string (str e.item.dom), .string (str e.item.path), .string (str e.item.val), .bool e.item.host, .bool e.item.sec, .bool e.item.http, .bool e.item.pers, .int .i64 e.item.exp, .int .i64 e.item.made, .int .i64 e.item.used, .slice q k c2] : Array Value).all (·.oneCell') = true := by simp [Value.oneCell']
      clear e0 e1
      cases kb with
      | false =>
        have hk1 : ¬ e.kind = 1 := by have := HKB.out; simpa using this
        obtain ⟨hk2, hit⟩ := remove_item HRE.out hk1
        have hr6 := HR6.out
        rw [if_neg hk1, List.nil_append] at hr6
        subst hr6
        have row := hz.row encD_len
        have HR := eventRightC0 e q k c2 wr row HLI.out (HTT.out wr hS.K)
        rw [HRE.out] at HR
        have O := hS.o
        have hl : [.int .i64 e.dot.dev, .int .i64 e.dot.inc, .int .i64 e.dot.seq, .int .i64 e.stamp.wall, .int .i64 e.stamp.count, .int .i64 e.stamp.dev, .int .i64 2, .string ⟨#[]⟩, .string ⟨#[]⟩, .string ⟨#[]⟩, .string ⟨#[]⟩, .bool e.item.host, .bool e.item.sec, .bool e.item.http, .bool e.item.pers, .int .i64 0, .int .i64 0, .int .i64 0, .slice q k c2] = (#[.int .i64 e.dot.dev, .int .i64 e.dot.inc, .int .i64 e.dot.seq, .int .i64 e.stamp.wall, .int .i64 e.stamp.count, .int .i64 e.stamp.dev, .int .i64 e.kind, .string (str e.item.name), .string (str e.item.dom), .string (str e.item.path), .string (str e.item.val), .bool e.item.host, .bool e.item.sec, .bool e.item.http, .bool e.item.pers, .int .i64 e.item.exp, .int .i64 e.item.made, .int .i64 e.item.used, .slice q k c2] : Array Value).toList := by rw [hk2, hit]; rfl
        rw [hl] at O
        obtain ⟨A, hA⟩ : ∃ A, (#[.int .i64 e.dot.dev, .int .i64 e.dot.inc, .int .i64 e.dot.seq, .int .i64 e.stamp.wall, .int .i64 e.stamp.count, .int .i64 e.stamp.dev, .int .i64 e.kind, .string (str e.item.name), .string (str e.item.dom), .string (str e.item.path), .string (str e.item.val), .bool e.item.host, .bool e.item.sec, .bool e.item.http, .bool e.item.pers, .int .i64 e.item.exp, .int .i64 e.item.made, .int .i64 e.item.used, .slice q k c2] : Array Value) = A := ⟨_, rfl⟩
        rw [hA] at O HR hsz oA
        clear hz hl hk1 hk2 hit
        have HE := fun u hu => rErrC p r u hu
        go_wp2_with (first
          | (refine wpList_loadAll rfl 34 _ rfl w1.heap.size 19 A rfl O Tryz.isAgg34 Tryz.sizeOf34 hsz ?_)
          | (go_at_call 7; (with_reducible refine HR.mono ?_); rintro e9 w9 ⟨rfl, hx⟩; replace O := O.below hx O.lt; replace hS := hS.below hx; replace row := row.below hx; have hZ := (hS.obs _ (List.mem_cons_of_mem _ (List.mem_singleton.2 rfl))).1; clear hx)
          | (go_at_call 60; (with_reducible refine (HE _ hS.rd.rd).mono ?_); rintro e10 w10 ⟨rfl, rfl⟩)
          | (refine wpList_storeOver rfl 34 _ _ rfl w.heap.size _ A 19 rfl rfl hZ (by kernel_rfl) rfl hsz oA ?_))
        have KR : Keeps (fun k => k = w.heap.size) w9 (w9.setRow w.heap.size A) := (Keeps.refl (fun k => k = w.heap.size) w9).setRow rfl A
        have HLV := loadVarBig (P := Tryz.prog) 34 w.heap.size 19 A (hZ.setRow A) Tryz.isAgg34 Tryz.sizeOf34 hsz
        exact bodyPost_ret (v := .agg A) (results_big1 Tryz.results32 rfl HLV) rfl ⟨q, k, c2, by rw [hA], HNN.out.symm, row.keeps KR (fun j h1 h2 => by have := (hzz.out j h1).1; have := HS0.out; omega), (fun j h1 => by have := (hzz.out j h1).1; have := HS0.out; omega), (hS.rd.keepsFree KR (fun h => by have := hS.hp; omega) (fun b hb => .inr ⟨[.int .i64 0, .int .i64 0, .int .i64 0, .int .i64 0, .int .i64 0, .int .i64 0, .int .i64 0, .string ⟨#[]⟩, .string ⟨#[]⟩, .string ⟨#[]⟩, .string ⟨#[]⟩, .bool false, .bool false, .bool false, .bool false, .int .i64 0, .int .i64 0, .int .i64 0, .slice none 0 0], hb.symm ▸ hZ, evs_nb⟩)).rd, ⟨KR.os.trans hS.K.os, KR.tape.trans hS.K.tape, KR.output.trans hS.K.output, Nat.le_trans hS.K.size KR.size, fun k hk h1 h2 => (KR.block k (Nat.lt_of_lt_of_le hk hS.K.size) (by omega)).trans (hS.K.block k hk h1 h2)⟩⟩
      | true =>
        have hk1 : e.kind = 1 := by have := HKB.out; simpa using this
        have hr6 := HR6.out
        rw [if_pos hk1] at hr6
        have c6 := hS.o.cell 6 rfl
        have g6 := hS.o.free 6
        have hS1 : GetSt (fun k => k < w7.heap.size) p w w1.heap.size [.int .i64 e.dot.dev, .int .i64 e.dot.inc, .int .i64 e.dot.seq, .int .i64 e.stamp.wall, .int .i64 e.stamp.count, .int .i64 e.stamp.dev, .int .i64 1, .string ⟨#[]⟩, .string ⟨#[]⟩, .string ⟨#[]⟩, .string ⟨#[]⟩, .bool e.item.host, .bool e.item.sec, .bool e.item.http, .bool e.item.pers, .int .i64 0, .int .i64 0, .int .i64 0, .slice q k c2] [(P, [.bool true]), (w.heap.size, [.int .i64 0, .int .i64 0, .int .i64 0, .int .i64 0, .int .i64 0, .int .i64 0, .int .i64 0, .string ⟨#[]⟩, .string ⟨#[]⟩, .string ⟨#[]⟩, .string ⟨#[]⟩, .bool false, .bool false, .bool false, .bool false, .int .i64 0, .int .i64 0, .int .i64 0, .slice none 0 0])] r6 (wr.setCell ⟨w1.heap.size, 6, none⟩ (.int .i64 1)) := hS.set 6 (i64_nb 1)
        have hz1 := hz.setCell (p := ⟨w1.heap.size, 6, none⟩) (apart_iff.2 fun h => by have := (hz.lt' w1.heap.size h).1; omega) (.int .i64 1)
        have b6 : IsBytes r6 := fun y hy => B4.out y (by rw [← HL4.out]; exact List.mem_append_right _ hy)
        have HGI := getItemC e.dot e.stamp 1 e.item.host e.item.sec e.item.http e.item.pers (.slice q k c2) e.item r hS1 hr6 b6 (R5.out hk1)
        have HR := fun u (hu : Kept p none w u) (ro : RowOf encD 3 u q k c2 e.over) => eventRightC0 e q k c2 u ro HLI.out (HTT.out u hu)
        rw [HRE.out] at HR
        have hl : [.int .i64 e.dot.dev, .int .i64 e.dot.inc, .int .i64 e.dot.seq, .int .i64 e.stamp.wall, .int .i64 e.stamp.count, .int .i64 e.stamp.dev, .int .i64 1, .string (str e.item.name), .string (str e.item.dom), .string (str e.item.path), .string (str e.item.val), .bool e.item.host, .bool e.item.sec, .bool e.item.http, .bool e.item.pers, .int .i64 e.item.exp, .int .i64 e.item.made, .int .i64 e.item.used, .slice q k c2] = (#[.int .i64 e.dot.dev, .int .i64 e.dot.inc, .int .i64 e.dot.seq, .int .i64 e.stamp.wall, .int .i64 e.stamp.count, .int .i64 e.stamp.dev, .int .i64 e.kind, .string (str e.item.name), .string (str e.item.dom), .string (str e.item.path), .string (str e.item.val), .bool e.item.host, .bool e.item.sec, .bool e.item.http, .bool e.item.pers, .int .i64 e.item.exp, .int .i64 e.item.made, .int .i64 e.item.used, .slice q k c2] : Array Value).toList := by rw [hk1]
        have HE := fun u hu => rErrC p r u hu
        rw [hl] at HGI
        obtain ⟨A, hA⟩ : ∃ A, (#[.int .i64 e.dot.dev, .int .i64 e.dot.inc, .int .i64 e.dot.seq, .int .i64 e.stamp.wall, .int .i64 e.stamp.count, .int .i64 e.stamp.dev, .int .i64 e.kind, .string (str e.item.name), .string (str e.item.dom), .string (str e.item.path), .string (str e.item.val), .bool e.item.host, .bool e.item.sec, .bool e.item.http, .bool e.item.pers, .int .i64 e.item.exp, .int .i64 e.item.made, .int .i64 e.item.used, .slice q k c2] : Array Value) = A := ⟨_, rfl⟩
        rw [hA] at HGI hsz oA
        simp only [hA] at HR
        have hpw := hS.hp
        have hBw := hS.hB
        clear hz hl hk1 hS hS1 hr6 b6
        go_wp2_with (first
          | (go_at_call 58; (with_reducible refine HGI.mono ?_); rintro e8 w8 ⟨rfl, ⟨G8, hS⟩, K8⟩; have O := hS.o; have row := (hz1.keeps K8 (fun j h1 h2 => by have h3 := (hz1.lt' j h1).1; rcases h2 with h2 | h2 <;> omega)).row encD_len; have HR8 := HR w8 hS.K row; clear K8)
          | (refine wpList_loadAll rfl 34 _ rfl w1.heap.size 19 A rfl O Tryz.isAgg34 Tryz.sizeOf34 hsz ?_)
          | (go_at_call 7; (with_reducible refine HR8.mono ?_); rintro e9 w9 ⟨rfl, hx⟩; replace O := O.below hx O.lt; replace hS := hS.below hx; replace row := row.below hx; have hZ := (hS.obs _ (List.mem_cons_of_mem _ (List.mem_singleton.2 rfl))).1; clear hx)
          | (go_at_call 60; (with_reducible refine (HE _ hS.rd.rd).mono ?_); rintro e10 w10 ⟨rfl, rfl⟩)
          | (refine wpList_storeOver rfl 34 _ _ rfl w.heap.size _ A 19 rfl rfl hZ (by kernel_rfl) rfl hsz oA ?_))
        have KR : Keeps (fun k => k = w.heap.size) w9 (w9.setRow w.heap.size A) := (Keeps.refl (fun k => k = w.heap.size) w9).setRow rfl A
        have HLV := loadVarBig (P := Tryz.prog) 34 w.heap.size 19 A (hZ.setRow A) Tryz.isAgg34 Tryz.sizeOf34 hsz
        exact bodyPost_ret (v := .agg A) (results_big1 Tryz.results32 rfl HLV) rfl ⟨q, k, c2, by rw [hA], HNN.out.symm, row.keeps KR (fun j h1 h2 => by have := (hzz.out j h1).1; have := HS0.out; omega), (fun j h1 => by have := (hzz.out j h1).1; have := HS0.out; omega), (hS.rd.keepsFree KR (fun h => by have := hS.hp; omega) (fun b hb => .inr ⟨[.int .i64 0, .int .i64 0, .int .i64 0, .int .i64 0, .int .i64 0, .int .i64 0, .int .i64 0, .string ⟨#[]⟩, .string ⟨#[]⟩, .string ⟨#[]⟩, .string ⟨#[]⟩, .bool false, .bool false, .bool false, .bool false, .int .i64 0, .int .i64 0, .int .i64 0, .slice none 0 0], hb.symm ▸ hZ, evs_nb⟩)).rd, ⟨KR.os.trans hS.K.os, KR.tape.trans hS.K.tape, KR.output.trans hS.K.output, Nat.le_trans hS.K.size KR.size, fun k hk h1 h2 => (KR.block k (Nat.lt_of_lt_of_le hk hS.K.size) (by omega)).trans (hS.K.block k hk h1 h2)⟩⟩

theorem isBytes_app {a b : List Int} (h : IsBytes a) (k : IsBytes b) : IsBytes (a ++ b) := fun x hx => (List.mem_append.1 hx).elim (h x) (k x)
theorem evBytes_bytes (e : EventN) : IsBytes (bytesE e) := by
  have hi : IsBytes (itemBytes e.item) := by
    unfold itemBytes
    repeat' first | apply isBytes_app | exact short_bytes _ | exact strBytes_bytes _
  intro x hx
  unfold bytesE bytesT at hx
  simp only [List.mem_append] at hx
  rcases hx with (((((h | h) | h) | h) | h) | h)
  · exact bytesD_bytes _ x h
  · rcases h with h | h | h <;> exact short_bytes _ x h
  · rw [List.mem_singleton] at h
    subst h
    have := flagSum_lt [e.kind == 1, e.item.host, e.item.sec, e.item.http, e.item.pers]
    simp only [List.length_cons, List.length_nil] at this
    omega
  · exact short_bytes _ x h
  · obtain ⟨d, hd, h⟩ := List.mem_flatMap.1 h
    exact bytesD_bytes d x h
  · split at h
    · exact hi x h
    · simp at h

set_option maxHeartbeats 4000000 in
set_option maxRecDepth 100000 in
theorem eventReadC0 (e : EventN) (b : Option Addr) (m d : Nat) (w : World) (hr : rightE e = true) (hli : lightE e = true) (hm : (bytesE e).length = m) (hb : Reads w b ((bytesE e).map (Value.int .u8))) (hd : m ≤ d) (hdm : d ≤ maxLen) (hT : PTab Tryz.prog w) :
    Calls Tryz.prog 13 #[.slice b m d] w fun en w' => ∃ a c, en = .returned (.tuple #[.agg #[.int .i64 e.dot.dev, .int .i64 e.dot.inc, .int .i64 e.dot.seq, .int .i64 e.stamp.wall, .int .i64 e.stamp.count, .int .i64 e.stamp.dev, .int .i64 e.kind, .string (str e.item.name), .string (str e.item.dom), .string (str e.item.path), .string (str e.item.val), .bool e.item.host, .bool e.item.sec, .bool e.item.http, .bool e.item.pers, .int .i64 e.item.exp, .int .i64 e.item.made, .int .i64 e.item.used, .slice a e.over.length c], .int .i64 0]) ∧ RowOf encD 3 w' a e.over.length c e.over ∧ Below w.heap.size w w' := by
  have hb1 := below_alloc w (.cells #[.int .i64 0, .int .i64 0, .int .i64 0, .int .i64 0, .int .i64 0, .int .i64 0, .int .i64 0, .string ⟨#[]⟩, .string ⟨#[]⟩, .string ⟨#[]⟩, .string ⟨#[]⟩, .bool false, .bool false, .bool false, .bool false, .int .i64 0, .int .i64 0, .int .i64 0, .slice none 0 0] 34)
  have oR := ObjAt.new w #[.int .i64 0, .int .i64 0, .int .i64 0, .int .i64 0, .int .i64 0, .int .i64 0, .int .i64 0, .string ⟨#[]⟩, .string ⟨#[]⟩, .string ⟨#[]⟩, .string ⟨#[]⟩, .bool false, .bool false, .bool false, .bool false, .int .i64 0, .int .i64 0, .int .i64 0, .slice none 0 0] 34
  generalize hw1 : w.alloc (.cells #[.int .i64 0, .int .i64 0, .int .i64 0, .int .i64 0, .int .i64 0, .int .i64 0, .int .i64 0, .string ⟨#[]⟩, .string ⟨#[]⟩, .string ⟨#[]⟩, .string ⟨#[]⟩, .bool false, .bool false, .bool false, .bool false, .int .i64 0, .int .i64 0, .int .i64 0, .slice none 0 0] 34) = w1 at *
  have s1 : Hid (w1.heap.size = w.heap.size + 1) := by show _ = _; rw [← hw1]; simp
  have hbB := evBytes_bytes e
  have hne : bytesE e ≠ [] := by
    intro h
    have : (flagSum [e.kind == 1, e.item.host, e.item.sec, e.item.http, e.item.pers] : Int) ∈ bytesE e := by
      unfold bytesE
      simp
    rw [h] at this
    cases this
  have hlt : ∃ x, b = some x ∧ x.block < w.heap.size := by
    cases hB : bytesE e with
    | nil => exact absurd hB hne
    | cons y ys =>
      obtain ⟨g, off, e1, e2⟩ := hb 0 (.int .u8 y) (by rw [hB]; rfl)
      exact ⟨_, e1, cell_lt e2⟩
  obtain ⟨x0, rfl, hx0⟩ := hlt
  have HRD := readC (bytesE e) (some x0) m d w1 (hb.below hb1 (fun x hx => by cases hx; exact hx0)) hm hd hdm (fun h => by cases h) (fun x hx => by cases hx; exact Nat.lt_of_lt_of_le hx0 hb1.size)
  have HG := fun u (hu : Rd w1.heap.size (bytesE e) u) (hbu : Below w.heap.size w u) => eventGetC0 w1.heap.size e [] (bytesE e) u hu (List.append_nil _) hbB hr hli (fun v hk => hT.below (hbu.trans (hk.below (base := w.heap.size) (by have := s1.out; omega) (fun x hx => by cases hx) hbu.size)))
  have HE := fun u hu => rEndC w1.heap.size u hu
  have hP := hb1.size
  have hRp : Hid (w.heap.size ≠ w1.heap.size) := by have := s1.out; intro h; omega
  clear hb hbB hne hT hr hli
  go_enter Tryz.func13, Tryz.ntmps13
  go_wp2_with (first
    | (go_at_call 31; (with_reducible refine HRD.mono ?_); rintro e2 w2 ⟨rfl, rd2, hx2⟩; replace oR := oR.below hx2 oR.lt; have b2 := hb1.trans (hx2.mono hb1.size); have HG2 := HG w2 rd2 b2; have hw12 := Lib.hid rd2.lt; clear rd2 hx2 HG HRD)
    | (go_at_call 32; (with_reducible refine HG2.mono ?_); rintro e3 w3 ⟨a, n, c, rfl, rfl, row, hat, rd3, k3⟩; replace oR := oR.keeps (Keeps.ofKept k3) (fun h => h.elim hRp.out (fun h => at_none _ h)); have b3 := b2.trans (k3.below (base := w.heap.size) hP (fun x hx => by cases hx) b2.size); have hat2 := Lib.hid hat; obtain ⟨A, hA⟩ : ∃ A, (#[.int .i64 e.dot.dev, .int .i64 e.dot.inc, .int .i64 e.dot.seq, .int .i64 e.stamp.wall, .int .i64 e.stamp.count, .int .i64 e.stamp.dev, .int .i64 e.kind, .string (str e.item.name), .string (str e.item.dom), .string (str e.item.path), .string (str e.item.val), .bool e.item.host, .bool e.item.sec, .bool e.item.http, .bool e.item.pers, .int .i64 e.item.exp, .int .i64 e.item.made, .int .i64 e.item.used, .slice a e.over.length c] : Array Value) = A := ⟨_, rfl⟩; have hsz : A.size = 19 := (by rw [← hA]; rfl); have oA : A.all (·.oneCell') = true := (by rw [← hA]; simp [Value.oneCell']); rw [hA]; have b4 := below_alloc w3 (.cells A 34); have O := ObjAt.new w3 A 34; replace oR := oR.below b4 oR.lt; replace row := row.below b4; have rd4 := rd3.below b4; replace b3 := b3.trans (b4.mono b3.size); obtain ⟨w4, hw4⟩ : ∃ x, w3.alloc (.cells A 34) = x := ⟨_, rfl⟩; rw [hw4] at b4 O oR row rd4 b3; clear rd3 k3 hat HG2)
    | ((with_reducible change wpList _ _ _ _ _ (World.alloc w3 _)); refine wpList_storeAll rfl 34 _ _ rfl #[.int .i64 0, .int .i64 0, .int .i64 0, .int .i64 0, .int .i64 0, .int .i64 0, .int .i64 0, .string ⟨#[]⟩, .string ⟨#[]⟩, .string ⟨#[]⟩, .string ⟨#[]⟩, .bool false, .bool false, .bool false, .bool false, .int .i64 0, .int .i64 0, .int .i64 0, .slice none 0 0] A 19 rfl rfl (by kernel_rfl) rfl hsz oA ?_; rw [show w3.alloc (.cells A 34) = w4 from hw4])
    | (go_at_call 33; (with_reducible refine (HE _ rd4).mono ?_); rintro e5 w5 ⟨rfl, rfl⟩)
    | (refine wpList_loadAll rfl 34 _ rfl w3.heap.size 19 A rfl O Tryz.isAgg34 Tryz.sizeOf34 hsz ?_)
    | (refine wpList_storeOver rfl 34 _ _ rfl w.heap.size _ A 19 rfl rfl oR (by kernel_rfl) rfl hsz oA ?_))
  have KR : Keeps (fun k => k = w.heap.size) w4 (w4.setRow w.heap.size A) := (Keeps.refl (fun k => k = w.heap.size) w4).setRow rfl A
  have HLV := loadVarBig (P := Tryz.prog) 34 w.heap.size 19 A (oR.setRow A) Tryz.isAgg34 Tryz.sizeOf34 hsz
  exact bodyPost_ret (v := .tuple #[.agg A, .int .i64 0]) (results_big2 Tryz.results13 rfl rfl HLV) rfl ⟨a, c, by rw [hA], row.keeps KR (fun j h1 h2 => by have := hat2.out j h1; have := hw12.out; have := s1.out; omega), below_rowSet b3 (Nat.le_refl _) A⟩
end Go.Proofs.YtkakcdojbgnocaaGreatDoor
