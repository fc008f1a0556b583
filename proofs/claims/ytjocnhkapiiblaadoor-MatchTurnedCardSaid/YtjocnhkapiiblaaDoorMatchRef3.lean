/- Contracts of the reference of layer 15: items in order. -/
import Derived.Test.YtjocnhkapiiblaaDoorLibAJ
import Derived.Test.YtjocnhkapiiblaaDoorLibAF
import Derived.Test.YtjocnhkapiiblaaDoorLibAA
import Derived.Deep.RegionHeld3
import Derived.Deep.RegionLaw
namespace Go.Proofs.YtjocnhkapiiblaaDoor
open Go.RowKit
set_option linter.unusedVariables false

theorem infoItem : (Tryd.prog.info? 27).map (fun i => (i.zero, i.size, i.bytes)) = some (some (.agg #[.string ⟨#[]⟩, .string ⟨#[]⟩, .string ⟨#[]⟩, .string ⟨#[]⟩, .bool false, .bool false, .bool false, .bool false, .int .i64 0, .int .i64 0, .int .i64 0]), 11, 96) := by kernel_rfl

theorem sort_len (l : List ItemL) : (sortI l).length = l.length := (sort_perm l).length_eq
theorem sort_snoc (l : List ItemL) (x : ItemL) : sortI (l ++ [x]) = insI x (sortI l) := by unfold sortI; rw [List.foldl_append]; rfl
set_option maxHeartbeats 8000000 in
set_option maxRecDepth 100000 in
theorem refSortIC (a : Option Addr) (n c : Nat) (L : List ItemL) (w : World) (hL : RowOf encI 11 w a n c L) (hf : ∀ x ∈ L, x.path.length ≤ maxLen) (hn : n ≤ 100000) :
    Calls Tryd.prog 14 #[.slice a n c] w (GivesZ encI 11 27 (sortI L) n w) := by
  have HL := Lib.hid hL
  have Hn : Hid (L.length = n) := hL.leq
  have hcm := hL.capm
  have hcl := hL.cle
  unfold maxLen at hcm
  obtain ⟨i0, hi, hz0, hz1, hz2⟩ := info_parts infoItem
  have hO0 := OwnZ.lit encI 11 27 w
  have hb0 := below_alloc w (.cells #[] 27)
  unfold GivesZ
  clear hL
  go_enter Tryd.func14, Tryd.ntmps14
  go_wp2
  go_loopw [3, 4] (fun l i wr => ∃ (k : Nat) (b : Option Addr) (C : Nat), k ≤ n ∧ l = .slice b k C ∧ i = .int .i64 (k : Int) ∧ OwnZ encI 11 w.heap.size 27 b k C (sortI (L.take k)) wr ∧ (∃ g, b = some ⟨g, 0, none⟩) ∧ Below w.heap.size w wr) (fun _ i _ => n - (intOf i).toNat)
  case atStart => exact ⟨0, _, _, Nat.zero_le _, rfl, rfl, hO0, ⟨_, rfl⟩, hb0⟩
  case round =>
    clear hO0 hb0
    obtain ⟨k, b, C, hk, rfl, rfl, hO, ⟨g0, rfl⟩, hB⟩ := hrel
    have hbs := hB.size
    by_cases hlt : k < n
    · have hlt' : (k : Int) < (n : Int) := by omega
      have hlen : (sortI (L.take k)).length = k := by rw [sort_len, List.length_take, Hn.out]; omega
      have hC1 := hO.2.2.1
      have hC2 := hO.2.2.2
      unfold maxLen at hC2
      obtain ⟨x, hx⟩ : ∃ x, L[k]? = some x := ⟨_, List.getElem?_eq_getElem (by rw [Hn.out]; exact hlt)⟩
      have hfx := hf x (List.mem_of_getElem? hx)
      have hst : Hid (sortI (L.take (k + 1)) = insI x (sortI (L.take k))) := by unfold Hid; rw [take_snocI hx, sort_snoc]
      have hfo : Hid (∀ y ∈ sortI (L.take k), y.path.length ≤ maxLen) := fun y hy => hf y (List.mem_of_mem_take ((sort_perm _).mem_iff.1 hy))
      have HLk := Lib.hid (HL.out.below hB)
      generalize sortI (L.take k) = O at *
      have HX := Lib.hid hx
      clear hx
      have HO := Lib.hid hO
      have HB := Lib.hid hB
      clear hO hB
      obtain ⟨wo, hwo⟩ : ∃ wo, wo = wr := ⟨wr, rfl⟩
      subst hwo
      go_wp2_with fail
      go_loopw [5] (fun kv wr2 => ∃ K : Nat, K ≤ k ∧ kv = .int .i64 (K : Int) ∧ Hid (stepI x O k = stepI x O K) ∧ Below wo.heap.size wo wr2) (fun kv _ => (intOf kv).toNat)
      case atStart => exact ⟨k, Nat.le_refl _, rfl, rfl, Below.refl _ _⟩
      case round =>
        obtain ⟨K, hK, rfl, hs, hB2⟩ := hrel
        have HB2 := Lib.hid hB2
        clear hB2
        by_cases h0 : 0 < K
        · obtain ⟨j, rfl⟩ : ∃ j, K = j + 1 := ⟨K - 1, by omega⟩
          obtain ⟨x', g1, o1, hx', rfl, c0, c1, c2, c3, c4, c5, c6, c7, c8, c9, c10⟩ := item_at (HLk.out.below HB2.out) k hlt
          have hxx : x' = x := by have := HX.out; rw [hx'] at this; cases this; rfl
          subst hxx
          clear hx'
          obtain ⟨y, g2, o2, hy, hy2, d0, d1, d2, d3, d4, d5, d6, d7, d8, d9, d10⟩ := item_at ((HO.out.row encI_len).below HB2.out) j (by omega)
          cases hy2
          simp only [Nat.zero_add] at d0 d1 d2 d3 d4 d5 d6 d7 d8 d9 d10
          have hfy := hfo.out y (List.mem_of_getElem? hy)
          have HA := fun w => refAheadC x' y w hfx hfy
          have hstep : Hid (stepI x' O (j + 1) = if ahead x' y = true then stepI x' O j else j + 1) := by
            unfold Hid
            rw [stepI, List.getD_eq_getElem?_getD, hy]
            rfl
          obtain ⟨J, hJ⟩ : ∃ J, j + 1 = J := ⟨_, rfl⟩
          have hJ1 : (J : Int) - 1 = (j : Int) := by omega
          have hJ2 : IntKind.i64.wrap (j : Int) = (j : Int) := by rw [IntKind.wrap_i64]; omega
          have hJ3 : IntKind.i64.wrap ((J : Int) - 1) = (j : Int) := by rw [IntKind.wrap_i64]; omega
          rw [hJ] at hs hK hstep h0 ⊢
          have g0' : decide ((0 : Int) < (J : Int)) = true := decide_eq_true (by omega)
          have g1' : (0 : Int) < (J : Int) := by omega
          have i1 : (0 : Int) ≤ (j : Int) := by omega
          have i2 : (j : Int) < (k : Int) := by omega
          clear hy hfy hJ
          cases hab : ahead x' y with
          | true =>
            rw [hab] at HA
            have hnext : Hid (stepI x' O k = stepI x' O j) := by unfold Hid; rw [hs.out, hstep.out, if_pos hab]
            clear hstep hs hab
            go_wp2_with fail
            have hdr : Below wr.heap.size wr wr.drew := (Below.refl _ wr).drew
            have hS0 : ∀ w', Below wr.heap.size wr w' → w'.cell? ⟨g1, o1 + k * 11, none⟩ = some (.string (str x'.name)) ∧ w'.cell? ⟨g1, o1 + k * 11 + 1, none⟩ = some (.string (str x'.dom)) ∧ w'.cell? ⟨g1, o1 + k * 11 + 2, none⟩ = some (.string (str x'.path)) ∧ w'.cell? ⟨g1, o1 + k * 11 + 3, none⟩ = some (.string (str x'.val)) ∧ w'.cell? ⟨g1, o1 + k * 11 + 4, none⟩ = some (.bool x'.host) ∧ w'.cell? ⟨g1, o1 + k * 11 + 5, none⟩ = some (.bool x'.sec) ∧ w'.cell? ⟨g1, o1 + k * 11 + 6, none⟩ = some (.bool x'.http) ∧ w'.cell? ⟨g1, o1 + k * 11 + 7, none⟩ = some (.bool x'.pers) ∧ w'.cell? ⟨g1, o1 + k * 11 + 8, none⟩ = some (.int .i64 x'.exp) ∧ w'.cell? ⟨g1, o1 + k * 11 + 9, none⟩ = some (.int .i64 x'.made) ∧ w'.cell? ⟨g1, o1 + k * 11 + 10, none⟩ = some (.int .i64 x'.used) ∧ w'.cell? ⟨g0, j * 11, none⟩ = some (.string (str y.name)) ∧ w'.cell? ⟨g0, j * 11 + 1, none⟩ = some (.string (str y.dom)) ∧ w'.cell? ⟨g0, j * 11 + 2, none⟩ = some (.string (str y.path)) ∧ w'.cell? ⟨g0, j * 11 + 3, none⟩ = some (.string (str y.val)) ∧ w'.cell? ⟨g0, j * 11 + 4, none⟩ = some (.bool y.host) ∧ w'.cell? ⟨g0, j * 11 + 5, none⟩ = some (.bool y.sec) ∧ w'.cell? ⟨g0, j * 11 + 6, none⟩ = some (.bool y.http) ∧ w'.cell? ⟨g0, j * 11 + 7, none⟩ = some (.bool y.pers) ∧ w'.cell? ⟨g0, j * 11 + 8, none⟩ = some (.int .i64 y.exp) ∧ w'.cell? ⟨g0, j * 11 + 9, none⟩ = some (.int .i64 y.made) ∧ w'.cell? ⟨g0, j * 11 + 10, none⟩ = some (.int .i64 y.used) := fun w' hx => ⟨(hx.cell (cell_lt c0)).trans c0, (hx.cell (cell_lt c1)).trans c1, (hx.cell (cell_lt c2)).trans c2, (hx.cell (cell_lt c3)).trans c3, (hx.cell (cell_lt c4)).trans c4, (hx.cell (cell_lt c5)).trans c5, (hx.cell (cell_lt c6)).trans c6, (hx.cell (cell_lt c7)).trans c7, (hx.cell (cell_lt c8)).trans c8, (hx.cell (cell_lt c9)).trans c9, (hx.cell (cell_lt c10)).trans c10, (hx.cell (cell_lt d0)).trans d0, (hx.cell (cell_lt d1)).trans d1, (hx.cell (cell_lt d2)).trans d2, (hx.cell (cell_lt d3)).trans d3, (hx.cell (cell_lt d4)).trans d4, (hx.cell (cell_lt d5)).trans d5, (hx.cell (cell_lt d6)).trans d6, (hx.cell (cell_lt d7)).trans d7, (hx.cell (cell_lt d8)).trans d8, (hx.cell (cell_lt d9)).trans d9, (hx.cell (cell_lt d10)).trans d10⟩
            go_region_held3 (fun w' => w'.cell? ⟨g1, o1 + k * 11, none⟩ = some (.string (str x'.name)) ∧ w'.cell? ⟨g1, o1 + k * 11 + 1, none⟩ = some (.string (str x'.dom)) ∧ w'.cell? ⟨g1, o1 + k * 11 + 2, none⟩ = some (.string (str x'.path)) ∧ w'.cell? ⟨g1, o1 + k * 11 + 3, none⟩ = some (.string (str x'.val)) ∧ w'.cell? ⟨g1, o1 + k * 11 + 4, none⟩ = some (.bool x'.host) ∧ w'.cell? ⟨g1, o1 + k * 11 + 5, none⟩ = some (.bool x'.sec) ∧ w'.cell? ⟨g1, o1 + k * 11 + 6, none⟩ = some (.bool x'.http) ∧ w'.cell? ⟨g1, o1 + k * 11 + 7, none⟩ = some (.bool x'.pers) ∧ w'.cell? ⟨g1, o1 + k * 11 + 8, none⟩ = some (.int .i64 x'.exp) ∧ w'.cell? ⟨g1, o1 + k * 11 + 9, none⟩ = some (.int .i64 x'.made) ∧ w'.cell? ⟨g1, o1 + k * 11 + 10, none⟩ = some (.int .i64 x'.used) ∧ w'.cell? ⟨g0, j * 11, none⟩ = some (.string (str y.name)) ∧ w'.cell? ⟨g0, j * 11 + 1, none⟩ = some (.string (str y.dom)) ∧ w'.cell? ⟨g0, j * 11 + 2, none⟩ = some (.string (str y.path)) ∧ w'.cell? ⟨g0, j * 11 + 3, none⟩ = some (.string (str y.val)) ∧ w'.cell? ⟨g0, j * 11 + 4, none⟩ = some (.bool y.host) ∧ w'.cell? ⟨g0, j * 11 + 5, none⟩ = some (.bool y.sec) ∧ w'.cell? ⟨g0, j * 11 + 6, none⟩ = some (.bool y.http) ∧ w'.cell? ⟨g0, j * 11 + 7, none⟩ = some (.bool y.pers) ∧ w'.cell? ⟨g0, j * 11 + 8, none⟩ = some (.int .i64 y.exp) ∧ w'.cell? ⟨g0, j * 11 + 9, none⟩ = some (.int .i64 y.made) ∧ w'.cell? ⟨g0, j * 11 + 10, none⟩ = some (.int .i64 y.used))
              (first | exact hS0 _ hdr | exact hS0 _ (hdr.trans hx))
              (first | (go_at_call 9; (with_reducible refine (HA _).mono ?_); rintro e w3 ⟨rfl, hx⟩))
            all_goals
              go_wp2_with fail
              go_roundw
              case rel => exact ⟨j, by omega, by first | rfl | go_num, hnext, HB2.out.trans ((hdr.trans hx).mono HB2.out.size)⟩
              case measure => simp [intOf]; omega
          | false =>
            rw [hab] at HA
            have hplace : Hid (placeI x' O = J) := by unfold Hid placeI; rw [hlen, hs.out, hstep.out, if_neg (by rw [hab]; exact Bool.false_ne_true)]
            clear hstep hs hab
            go_wp2_with fail
            have hdr : Below wr.heap.size wr wr.drew := (Below.refl _ wr).drew
            have hS0 : ∀ w', Below wr.heap.size wr w' → w'.cell? ⟨g1, o1 + k * 11, none⟩ = some (.string (str x'.name)) ∧ w'.cell? ⟨g1, o1 + k * 11 + 1, none⟩ = some (.string (str x'.dom)) ∧ w'.cell? ⟨g1, o1 + k * 11 + 2, none⟩ = some (.string (str x'.path)) ∧ w'.cell? ⟨g1, o1 + k * 11 + 3, none⟩ = some (.string (str x'.val)) ∧ w'.cell? ⟨g1, o1 + k * 11 + 4, none⟩ = some (.bool x'.host) ∧ w'.cell? ⟨g1, o1 + k * 11 + 5, none⟩ = some (.bool x'.sec) ∧ w'.cell? ⟨g1, o1 + k * 11 + 6, none⟩ = some (.bool x'.http) ∧ w'.cell? ⟨g1, o1 + k * 11 + 7, none⟩ = some (.bool x'.pers) ∧ w'.cell? ⟨g1, o1 + k * 11 + 8, none⟩ = some (.int .i64 x'.exp) ∧ w'.cell? ⟨g1, o1 + k * 11 + 9, none⟩ = some (.int .i64 x'.made) ∧ w'.cell? ⟨g1, o1 + k * 11 + 10, none⟩ = some (.int .i64 x'.used) ∧ w'.cell? ⟨g0, j * 11, none⟩ = some (.string (str y.name)) ∧ w'.cell? ⟨g0, j * 11 + 1, none⟩ = some (.string (str y.dom)) ∧ w'.cell? ⟨g0, j * 11 + 2, none⟩ = some (.string (str y.path)) ∧ w'.cell? ⟨g0, j * 11 + 3, none⟩ = some (.string (str y.val)) ∧ w'.cell? ⟨g0, j * 11 + 4, none⟩ = some (.bool y.host) ∧ w'.cell? ⟨g0, j * 11 + 5, none⟩ = some (.bool y.sec) ∧ w'.cell? ⟨g0, j * 11 + 6, none⟩ = some (.bool y.http) ∧ w'.cell? ⟨g0, j * 11 + 7, none⟩ = some (.bool y.pers) ∧ w'.cell? ⟨g0, j * 11 + 8, none⟩ = some (.int .i64 y.exp) ∧ w'.cell? ⟨g0, j * 11 + 9, none⟩ = some (.int .i64 y.made) ∧ w'.cell? ⟨g0, j * 11 + 10, none⟩ = some (.int .i64 y.used) := fun w' hx => ⟨(hx.cell (cell_lt c0)).trans c0, (hx.cell (cell_lt c1)).trans c1, (hx.cell (cell_lt c2)).trans c2, (hx.cell (cell_lt c3)).trans c3, (hx.cell (cell_lt c4)).trans c4, (hx.cell (cell_lt c5)).trans c5, (hx.cell (cell_lt c6)).trans c6, (hx.cell (cell_lt c7)).trans c7, (hx.cell (cell_lt c8)).trans c8, (hx.cell (cell_lt c9)).trans c9, (hx.cell (cell_lt c10)).trans c10, (hx.cell (cell_lt d0)).trans d0, (hx.cell (cell_lt d1)).trans d1, (hx.cell (cell_lt d2)).trans d2, (hx.cell (cell_lt d3)).trans d3, (hx.cell (cell_lt d4)).trans d4, (hx.cell (cell_lt d5)).trans d5, (hx.cell (cell_lt d6)).trans d6, (hx.cell (cell_lt d7)).trans d7, (hx.cell (cell_lt d8)).trans d8, (hx.cell (cell_lt d9)).trans d9, (hx.cell (cell_lt d10)).trans d10⟩
            go_region_held3 (fun w' => w'.cell? ⟨g1, o1 + k * 11, none⟩ = some (.string (str x'.name)) ∧ w'.cell? ⟨g1, o1 + k * 11 + 1, none⟩ = some (.string (str x'.dom)) ∧ w'.cell? ⟨g1, o1 + k * 11 + 2, none⟩ = some (.string (str x'.path)) ∧ w'.cell? ⟨g1, o1 + k * 11 + 3, none⟩ = some (.string (str x'.val)) ∧ w'.cell? ⟨g1, o1 + k * 11 + 4, none⟩ = some (.bool x'.host) ∧ w'.cell? ⟨g1, o1 + k * 11 + 5, none⟩ = some (.bool x'.sec) ∧ w'.cell? ⟨g1, o1 + k * 11 + 6, none⟩ = some (.bool x'.http) ∧ w'.cell? ⟨g1, o1 + k * 11 + 7, none⟩ = some (.bool x'.pers) ∧ w'.cell? ⟨g1, o1 + k * 11 + 8, none⟩ = some (.int .i64 x'.exp) ∧ w'.cell? ⟨g1, o1 + k * 11 + 9, none⟩ = some (.int .i64 x'.made) ∧ w'.cell? ⟨g1, o1 + k * 11 + 10, none⟩ = some (.int .i64 x'.used) ∧ w'.cell? ⟨g0, j * 11, none⟩ = some (.string (str y.name)) ∧ w'.cell? ⟨g0, j * 11 + 1, none⟩ = some (.string (str y.dom)) ∧ w'.cell? ⟨g0, j * 11 + 2, none⟩ = some (.string (str y.path)) ∧ w'.cell? ⟨g0, j * 11 + 3, none⟩ = some (.string (str y.val)) ∧ w'.cell? ⟨g0, j * 11 + 4, none⟩ = some (.bool y.host) ∧ w'.cell? ⟨g0, j * 11 + 5, none⟩ = some (.bool y.sec) ∧ w'.cell? ⟨g0, j * 11 + 6, none⟩ = some (.bool y.http) ∧ w'.cell? ⟨g0, j * 11 + 7, none⟩ = some (.bool y.pers) ∧ w'.cell? ⟨g0, j * 11 + 8, none⟩ = some (.int .i64 y.exp) ∧ w'.cell? ⟨g0, j * 11 + 9, none⟩ = some (.int .i64 y.made) ∧ w'.cell? ⟨g0, j * 11 + 10, none⟩ = some (.int .i64 y.used))
              (first | exact hS0 _ hdr | exact hS0 _ (hdr.trans hx))
              (first | (go_at_call 9; (with_reducible refine (HA _).mono ?_); rintro e w3 ⟨rfl, hx⟩))
            all_goals
              go_wp2_with fail
              have hbd := HB2.out.trans ((hdr.trans hx).mono HB2.out.size)
              obtain ⟨wd, hwd⟩ : ∃ wd, wd = w3 := ⟨_, rfl⟩
              subst hwd
              have hOd := (HO.out.below hbd (Nat.le_refl _)).row encI_len
              have hLd := HLk.out.below hbd
              have hd : Below wd.heap.size wd wd.drew := (Below.refl _ wd).drew
              have hW1 : Below wd.heap.size wd (wd.alloc (.cells #[] 27)).drew := (below_alloc wd _).drew
              have hW2 : Below wd.heap.size wd ((wd.alloc (.cells #[] 27)).alloc (.cells #[.string (str x'.name), .string (str x'.dom), .string (str x'.path), .string (str x'.val), .bool x'.host, .bool x'.sec, .bool x'.http, .bool x'.pers, .int .i64 x'.exp, .int .i64 x'.made, .int .i64 x'.used] 27)).drew := ((below_alloc wd _).alloc (by simp) _).drew
              have hW3 : Below wd.heap.size wd ((wd.alloc (.cells #[.string (str x'.name), .string (str x'.dom), .string (str x'.path), .string (str x'.val), .bool x'.host, .bool x'.sec, .bool x'.http, .bool x'.pers, .int .i64 x'.exp, .int .i64 x'.made, .int .i64 x'.used] 27)).alloc (.cells #[] 27)).drew := ((below_alloc wd _).alloc (by simp) _).drew
              have hA1 := (OwnZ.lit encI 11 27 wd).below (Below.refl _ _).drew (Nat.le_refl _)
              have hA2 := ((OwnZ.lit encI 11 27 wd).below (below_alloc _ (.cells #[.string (str x'.name), .string (str x'.dom), .string (str x'.path), .string (str x'.val), .bool x'.host, .bool x'.sec, .bool x'.http, .bool x'.pers, .int .i64 x'.exp, .int .i64 x'.made, .int .i64 x'.used] 27)) (Nat.le_refl _)).below (Below.refl _ _).drew (Nat.le_refl _)
              have s1 : (wd.alloc (.cells #[.string (str x'.name), .string (str x'.dom), .string (str x'.path), .string (str x'.val), .bool x'.host, .bool x'.sec, .bool x'.http, .bool x'.pers, .int .i64 x'.exp, .int .i64 x'.made, .int .i64 x'.used] 27)).heap.size = wd.heap.size + 1 := by simp
              have s2 : (wd.alloc (.cells #[] 27)).heap.size = wd.heap.size + 1 := by simp
              have hA3 := ((OwnZ.lit encI 11 27 (wd.alloc (.cells #[.string (str x'.name), .string (str x'.dom), .string (str x'.path), .string (str x'.val), .bool x'.host, .bool x'.sec, .bool x'.http, .bool x'.pers, .int .i64 x'.exp, .int .i64 x'.made, .int .i64 x'.used] 27))).below (Below.refl _ _).drew (Nat.le_refl _)).base (base' := wd.heap.size) (by rw [s1]; exact Nat.le_succ _)
              have hx2 := (((OwnZ.new encI_len [x'] #[.string (str x'.name), .string (str x'.dom), .string (str x'.path), .string (str x'.val), .bool x'.host, .bool x'.sec, .bool x'.http, .bool x'.pers, .int .i64 x'.exp, .int .i64 x'.made, .int .i64 x'.used] rfl 1 rfl (by unfold maxLen; omega) 27 (wd.alloc (.cells #[] 27))).below (Below.refl _ _).drew (Nat.le_refl _)).row encI_len)
              have hx3 := ((((OwnZ.new encI_len [x'] #[.string (str x'.name), .string (str x'.dom), .string (str x'.path), .string (str x'.val), .bool x'.host, .bool x'.sec, .bool x'.http, .bool x'.pers, .int .i64 x'.exp, .int .i64 x'.made, .int .i64 x'.used] rfl 1 rfl (by unfold maxLen; omega) 27 wd).below (below_alloc _ (.cells #[] 27)) (Nat.le_refl _)).below (Below.refl _ _).drew (Nat.le_refl _)).row encI_len)
              rw [s1] at hA3
              rw [s2] at hx2
              have F1 := fun W (h : Below wd.heap.size wd W) => row_front (hOd.below h) J hK
              obtain ⟨x9, g9, o9, hx9, hx9', e0, e1, e2, e3, e4, e5, e6, e7, e8, e9, e10⟩ := item_at hLd k hlt
              have hxx9 : x9 = x' := by have := HX.out; rw [hx9] at this; cases this; rfl
              subst hxx9
              cases hx9'
              clear hx9
              have fc0 := (hd.cell (cell_lt e0)).trans e0; have fc1 := (hd.cell (cell_lt e1)).trans e1; have fc2 := (hd.cell (cell_lt e2)).trans e2; have fc3 := (hd.cell (cell_lt e3)).trans e3; have fc4 := (hd.cell (cell_lt e4)).trans e4; have fc5 := (hd.cell (cell_lt e5)).trans e5; have fc6 := (hd.cell (cell_lt e6)).trans e6; have fc7 := (hd.cell (cell_lt e7)).trans e7; have fc8 := (hd.cell (cell_lt e8)).trans e8; have fc9 := (hd.cell (cell_lt e9)).trans e9; have fc10 := (hd.cell (cell_lt e10)).trans e10; skip
              have gc0 := (hW1.cell (cell_lt e0)).trans e0; have gc1 := (hW1.cell (cell_lt e1)).trans e1; have gc2 := (hW1.cell (cell_lt e2)).trans e2; have gc3 := (hW1.cell (cell_lt e3)).trans e3; have gc4 := (hW1.cell (cell_lt e4)).trans e4; have gc5 := (hW1.cell (cell_lt e5)).trans e5; have gc6 := (hW1.cell (cell_lt e6)).trans e6; have gc7 := (hW1.cell (cell_lt e7)).trans e7; have gc8 := (hW1.cell (cell_lt e8)).trans e8; have gc9 := (hW1.cell (cell_lt e9)).trans e9; have gc10 := (hW1.cell (cell_lt e10)).trans e10; skip
              have q1 : (0 : Int) ≤ (J : Int) := by omega
              have q2 : (J : Int) ≤ (k : Int) := by omega
              have q3 : (k : Int) ≤ (C : Int) := by omega
              have q4 : (J : Int) ≤ (C : Int) := by omega
              clear e0 e1 e2 e3 e4 e5 e6 e7 e8 e9 e10
              have F2 : ∀ W, Below wd.heap.size wd W → RowOf encI 11 W (if C = J then some ⟨g0, 0, none⟩ else some ⟨g0, J * 11, none⟩) (k - J) (C - J) (O.drop J) := fun W h => by
                split
                · exact row_back (hOd.below h) J hK 0 (fun c => by omega)
                · exact row_back (hOd.below h) J hK _ (fun c => by omega)
              go_region_law (first
                | (refine step_append_rows encI_len (by decide) encI_one (by rfl) (.tmp 31) (.tmp 34) 29 (by rfl) 27 i0 (.agg #[.string ⟨#[]⟩, .string ⟨#[]⟩, .string ⟨#[]⟩, .string ⟨#[]⟩, .bool false, .bool false, .bool false, .bool false, .int .i64 0, .int .i64 0, .int .i64 0]) 96 Tryd.underlying29 hi hz0 hz1 hz2 rfl  hA1 rfl (F1 _ hW1) rfl J (by omega) (by unfold maxLen; omega) (by omega) hW1.size ?_; intro a5 q5 w5 hO5 hb5 hg5 ha5; have hB5 := hW1.trans hb5; obtain ⟨x5, g5', o5', hx5e, hx5f, e0, e1, e2, e3, e4, e5, e6, e7, e8, e9, e10⟩ := item_at (hLd.below hB5) k hlt; cases hx5f; have hh : x9 = x5 := (by have := HX.out; rw [hx5e] at this; cases this; rfl); subst hh; clear hx5e)
                | (refine step_append_rows encI_len (by decide) encI_one (by rfl) (.tmp 31) (.tmp 34) 29 (by rfl) 27 i0 (.agg #[.string ⟨#[]⟩, .string ⟨#[]⟩, .string ⟨#[]⟩, .string ⟨#[]⟩, .bool false, .bool false, .bool false, .bool false, .int .i64 0, .int .i64 0, .int .i64 0]) 96 Tryd.underlying29 hi hz0 hz1 hz2 rfl  hA2 rfl (F1 _ hW2) rfl J (by omega) (by unfold maxLen; omega) (by omega) hW2.size ?_; intro a5 q5 w5 hO5 hb5 hg5 ha5; have hB5 := hW2.trans hb5; have hx5 := row_grown hx2 hg5 (fun z hz => by cases hz; intro y hy; cases hy; simp))
                | (refine step_append_rows encI_len (by decide) encI_one (by rfl) (.tmp 31) (.tmp 34) 29 (by rfl) 27 i0 (.agg #[.string ⟨#[]⟩, .string ⟨#[]⟩, .string ⟨#[]⟩, .string ⟨#[]⟩, .bool false, .bool false, .bool false, .bool false, .int .i64 0, .int .i64 0, .int .i64 0]) 96 Tryd.underlying29 hi hz0 hz1 hz2 rfl  hA3 rfl (F1 _ hW3) rfl J (by omega) (by unfold maxLen; omega) (by omega) hW3.size ?_; intro a5 q5 w5 hO5 hb5 hg5 ha5; have hB5 := hW3.trans hb5; have hx5 := row_grown hx3 hg5 (fun z hz => by cases hz; intro y hy; cases hy; simp))
                | (refine step_append_row1 encI_len (by decide) encI_one (by rfl) (.tmp 35) (.tmp 40) 29 (by rfl) 27 i0 (.agg #[.string ⟨#[]⟩, .string ⟨#[]⟩, .string ⟨#[]⟩, .string ⟨#[]⟩, .bool false, .bool false, .bool false, .bool false, .int .i64 0, .int .i64 0, .int .i64 0]) 96 Tryd.underlying29 hi hz0 hz1 hz2 rfl  hO5 rfl x9 rfl rfl (J + 1) rfl (by unfold maxLen; omega) (by omega) hB5.size ?_; intro a7 q7 w7 hO7 hb7 hg7 ha7; have hB7 := hB5.trans hb7)
                | (refine step_append_rows encI_len (by decide) encI_one (by rfl) (.tmp 35) (.tmp 40) 29 (by rfl) 27 i0 (.agg #[.string ⟨#[]⟩, .string ⟨#[]⟩, .string ⟨#[]⟩, .string ⟨#[]⟩, .bool false, .bool false, .bool false, .bool false, .int .i64 0, .int .i64 0, .int .i64 0]) 96 Tryd.underlying29 hi hz0 hz1 hz2 rfl  hO5 rfl hx5 rfl (J + 1) rfl (by unfold maxLen; omega) (by omega) hB5.size ?_; intro a7 q7 w7 hO7 hb7 hg7 ha7; have hB7 := hB5.trans hb7)
                | (refine step_append_rows encI_len (by decide) encI_one (by rfl) (.tmp 41) (.tmp 44) 29 (by rfl) 27 i0 (.agg #[.string ⟨#[]⟩, .string ⟨#[]⟩, .string ⟨#[]⟩, .string ⟨#[]⟩, .bool false, .bool false, .bool false, .bool false, .int .i64 0, .int .i64 0, .int .i64 0]) 96 Tryd.underlying29 hi hz0 hz1 hz2 rfl  hO7 rfl (F2 _ hB7) rfl (k + 1) (by omega) (by unfold maxLen; omega) (by omega) hB7.size ?_; intro a9 q9 w9 hO9 hb9 hg9 ha9; have hB9 := hB7.trans hb9))
              all_goals
                have hB10 := hbd.trans (hB9.mono hbd.size)
                have hlist : Hid ((([] ++ O.take J) ++ [x9]) ++ O.drop J = insI x9 O) := by unfold Hid insI; rw [hplace.out]; simp
                have hg10 : ∃ g, a9 = some ⟨g, 0, none⟩ := by rcases hO9.head with ⟨_, cz, _⟩ | ⟨g, e, _, _⟩ <;> first | exact ⟨g, e⟩ | omega
                go_wp2_with fail
                go_roundw
                case rel => exact ⟨k + 1, a9, q9, by omega, rfl, by go_num, by rw [hst.out, ← hlist.out]; exact hO9.base (Nat.le_trans HB.out.size hbd.size), hg10, HB.out.trans (hB10.mono HB.out.size)⟩
                case measure => simp [intOf]; omega
        · have hplace : Hid (placeI x O = K) := by
            unfold Hid placeI
            rw [hlen, hs.out]
            have : K = 0 := by omega
            subst this
            rfl
          have g0' : decide ((0 : Int) < (K : Int)) = false := decide_eq_false (by omega)
          have g1' : ¬ (0 : Int) < (K : Int) := by omega
          clear hs
          go_wp2_with fail
          go_quiet (fail)
          go_wp2_with fail
          refine wp_any (fun wd => Below wo.heap.size wo wd) (below_draws HB2.out _) ?_
          clear HB2 h0 g0' g1'
          rintro w3 hbd0
          have hbd := hbd0
          obtain ⟨wd, hwd⟩ : ∃ wd, wd = w3 := ⟨_, rfl⟩
          subst hwd
          have hOd := (HO.out.below hbd (Nat.le_refl _)).row encI_len
          have hLd := HLk.out.below hbd
          have hd : Below wd.heap.size wd wd.drew := (Below.refl _ wd).drew
          have hW1 : Below wd.heap.size wd (wd.alloc (.cells #[] 27)).drew := (below_alloc wd _).drew
          have hW2 : Below wd.heap.size wd ((wd.alloc (.cells #[] 27)).alloc (.cells #[.string (str x.name), .string (str x.dom), .string (str x.path), .string (str x.val), .bool x.host, .bool x.sec, .bool x.http, .bool x.pers, .int .i64 x.exp, .int .i64 x.made, .int .i64 x.used] 27)).drew := ((below_alloc wd _).alloc (by simp) _).drew
          have hW3 : Below wd.heap.size wd ((wd.alloc (.cells #[.string (str x.name), .string (str x.dom), .string (str x.path), .string (str x.val), .bool x.host, .bool x.sec, .bool x.http, .bool x.pers, .int .i64 x.exp, .int .i64 x.made, .int .i64 x.used] 27)).alloc (.cells #[] 27)).drew := ((below_alloc wd _).alloc (by simp) _).drew
          have hA1 := (OwnZ.lit encI 11 27 wd).below (Below.refl _ _).drew (Nat.le_refl _)
          have hA2 := ((OwnZ.lit encI 11 27 wd).below (below_alloc _ (.cells #[.string (str x.name), .string (str x.dom), .string (str x.path), .string (str x.val), .bool x.host, .bool x.sec, .bool x.http, .bool x.pers, .int .i64 x.exp, .int .i64 x.made, .int .i64 x.used] 27)) (Nat.le_refl _)).below (Below.refl _ _).drew (Nat.le_refl _)
          have s1 : (wd.alloc (.cells #[.string (str x.name), .string (str x.dom), .string (str x.path), .string (str x.val), .bool x.host, .bool x.sec, .bool x.http, .bool x.pers, .int .i64 x.exp, .int .i64 x.made, .int .i64 x.used] 27)).heap.size = wd.heap.size + 1 := by simp
          have s2 : (wd.alloc (.cells #[] 27)).heap.size = wd.heap.size + 1 := by simp
          have hA3 := ((OwnZ.lit encI 11 27 (wd.alloc (.cells #[.string (str x.name), .string (str x.dom), .string (str x.path), .string (str x.val), .bool x.host, .bool x.sec, .bool x.http, .bool x.pers, .int .i64 x.exp, .int .i64 x.made, .int .i64 x.used] 27))).below (Below.refl _ _).drew (Nat.le_refl _)).base (base' := wd.heap.size) (by rw [s1]; exact Nat.le_succ _)
          have hx2 := (((OwnZ.new encI_len [x] #[.string (str x.name), .string (str x.dom), .string (str x.path), .string (str x.val), .bool x.host, .bool x.sec, .bool x.http, .bool x.pers, .int .i64 x.exp, .int .i64 x.made, .int .i64 x.used] rfl 1 rfl (by unfold maxLen; omega) 27 (wd.alloc (.cells #[] 27))).below (Below.refl _ _).drew (Nat.le_refl _)).row encI_len)
          have hx3 := ((((OwnZ.new encI_len [x] #[.string (str x.name), .string (str x.dom), .string (str x.path), .string (str x.val), .bool x.host, .bool x.sec, .bool x.http, .bool x.pers, .int .i64 x.exp, .int .i64 x.made, .int .i64 x.used] rfl 1 rfl (by unfold maxLen; omega) 27 wd).below (below_alloc _ (.cells #[] 27)) (Nat.le_refl _)).below (Below.refl _ _).drew (Nat.le_refl _)).row encI_len)
          rw [s1] at hA3
          rw [s2] at hx2
          have F1 := fun W (h : Below wd.heap.size wd W) => row_front (hOd.below h) K hK
          obtain ⟨x9, g9, o9, hx9, hx9', e0, e1, e2, e3, e4, e5, e6, e7, e8, e9, e10⟩ := item_at hLd k hlt
          have hxx9 : x9 = x := by have := HX.out; rw [hx9] at this; cases this; rfl
          subst hxx9
          cases hx9'
          clear hx9
          have fc0 := (hd.cell (cell_lt e0)).trans e0; have fc1 := (hd.cell (cell_lt e1)).trans e1; have fc2 := (hd.cell (cell_lt e2)).trans e2; have fc3 := (hd.cell (cell_lt e3)).trans e3; have fc4 := (hd.cell (cell_lt e4)).trans e4; have fc5 := (hd.cell (cell_lt e5)).trans e5; have fc6 := (hd.cell (cell_lt e6)).trans e6; have fc7 := (hd.cell (cell_lt e7)).trans e7; have fc8 := (hd.cell (cell_lt e8)).trans e8; have fc9 := (hd.cell (cell_lt e9)).trans e9; have fc10 := (hd.cell (cell_lt e10)).trans e10; skip
          have gc0 := (hW1.cell (cell_lt e0)).trans e0; have gc1 := (hW1.cell (cell_lt e1)).trans e1; have gc2 := (hW1.cell (cell_lt e2)).trans e2; have gc3 := (hW1.cell (cell_lt e3)).trans e3; have gc4 := (hW1.cell (cell_lt e4)).trans e4; have gc5 := (hW1.cell (cell_lt e5)).trans e5; have gc6 := (hW1.cell (cell_lt e6)).trans e6; have gc7 := (hW1.cell (cell_lt e7)).trans e7; have gc8 := (hW1.cell (cell_lt e8)).trans e8; have gc9 := (hW1.cell (cell_lt e9)).trans e9; have gc10 := (hW1.cell (cell_lt e10)).trans e10; skip
          have q1 : (0 : Int) ≤ (K : Int) := by omega
          have q2 : (K : Int) ≤ (k : Int) := by omega
          have q3 : (k : Int) ≤ (C : Int) := by omega
          have q4 : (K : Int) ≤ (C : Int) := by omega
          clear e0 e1 e2 e3 e4 e5 e6 e7 e8 e9 e10
          have F2 : ∀ W, Below wd.heap.size wd W → RowOf encI 11 W (if C = K then some ⟨g0, 0, none⟩ else some ⟨g0, K * 11, none⟩) (k - K) (C - K) (O.drop K) := fun W h => by
            split
            · exact row_back (hOd.below h) K hK 0 (fun c => by omega)
            · exact row_back (hOd.below h) K hK _ (fun c => by omega)
          go_region_law (first
            | (refine step_append_rows encI_len (by decide) encI_one (by rfl) (.tmp 31) (.tmp 34) 29 (by rfl) 27 i0 (.agg #[.string ⟨#[]⟩, .string ⟨#[]⟩, .string ⟨#[]⟩, .string ⟨#[]⟩, .bool false, .bool false, .bool false, .bool false, .int .i64 0, .int .i64 0, .int .i64 0]) 96 Tryd.underlying29 hi hz0 hz1 hz2 rfl  hA1 rfl (F1 _ hW1) rfl K (by omega) (by unfold maxLen; omega) (by omega) hW1.size ?_; intro a5 q5 w5 hO5 hb5 hg5 ha5; have hB5 := hW1.trans hb5; obtain ⟨x5, g5', o5', hx5e, hx5f, e0, e1, e2, e3, e4, e5, e6, e7, e8, e9, e10⟩ := item_at (hLd.below hB5) k hlt; cases hx5f; have hh : x9 = x5 := (by have := HX.out; rw [hx5e] at this; cases this; rfl); subst hh; clear hx5e)
            | (refine step_append_rows encI_len (by decide) encI_one (by rfl) (.tmp 31) (.tmp 34) 29 (by rfl) 27 i0 (.agg #[.string ⟨#[]⟩, .string ⟨#[]⟩, .string ⟨#[]⟩, .string ⟨#[]⟩, .bool false, .bool false, .bool false, .bool false, .int .i64 0, .int .i64 0, .int .i64 0]) 96 Tryd.underlying29 hi hz0 hz1 hz2 rfl  hA2 rfl (F1 _ hW2) rfl K (by omega) (by unfold maxLen; omega) (by omega) hW2.size ?_; intro a5 q5 w5 hO5 hb5 hg5 ha5; have hB5 := hW2.trans hb5; have hx5 := row_grown hx2 hg5 (fun z hz => by cases hz; intro y hy; cases hy; simp))
            | (refine step_append_rows encI_len (by decide) encI_one (by rfl) (.tmp 31) (.tmp 34) 29 (by rfl) 27 i0 (.agg #[.string ⟨#[]⟩, .string ⟨#[]⟩, .string ⟨#[]⟩, .string ⟨#[]⟩, .bool false, .bool false, .bool false, .bool false, .int .i64 0, .int .i64 0, .int .i64 0]) 96 Tryd.underlying29 hi hz0 hz1 hz2 rfl  hA3 rfl (F1 _ hW3) rfl K (by omega) (by unfold maxLen; omega) (by omega) hW3.size ?_; intro a5 q5 w5 hO5 hb5 hg5 ha5; have hB5 := hW3.trans hb5; have hx5 := row_grown hx3 hg5 (fun z hz => by cases hz; intro y hy; cases hy; simp))
            | (refine step_append_row1 encI_len (by decide) encI_one (by rfl) (.tmp 35) (.tmp 40) 29 (by rfl) 27 i0 (.agg #[.string ⟨#[]⟩, .string ⟨#[]⟩, .string ⟨#[]⟩, .string ⟨#[]⟩, .bool false, .bool false, .bool false, .bool false, .int .i64 0, .int .i64 0, .int .i64 0]) 96 Tryd.underlying29 hi hz0 hz1 hz2 rfl  hO5 rfl x9 rfl rfl (K + 1) rfl (by unfold maxLen; omega) (by omega) hB5.size ?_; intro a7 q7 w7 hO7 hb7 hg7 ha7; have hB7 := hB5.trans hb7)
            | (refine step_append_rows encI_len (by decide) encI_one (by rfl) (.tmp 35) (.tmp 40) 29 (by rfl) 27 i0 (.agg #[.string ⟨#[]⟩, .string ⟨#[]⟩, .string ⟨#[]⟩, .string ⟨#[]⟩, .bool false, .bool false, .bool false, .bool false, .int .i64 0, .int .i64 0, .int .i64 0]) 96 Tryd.underlying29 hi hz0 hz1 hz2 rfl  hO5 rfl hx5 rfl (K + 1) rfl (by unfold maxLen; omega) (by omega) hB5.size ?_; intro a7 q7 w7 hO7 hb7 hg7 ha7; have hB7 := hB5.trans hb7)
            | (refine step_append_rows encI_len (by decide) encI_one (by rfl) (.tmp 41) (.tmp 44) 29 (by rfl) 27 i0 (.agg #[.string ⟨#[]⟩, .string ⟨#[]⟩, .string ⟨#[]⟩, .string ⟨#[]⟩, .bool false, .bool false, .bool false, .bool false, .int .i64 0, .int .i64 0, .int .i64 0]) 96 Tryd.underlying29 hi hz0 hz1 hz2 rfl  hO7 rfl (F2 _ hB7) rfl (k + 1) (by omega) (by unfold maxLen; omega) (by omega) hB7.size ?_; intro a9 q9 w9 hO9 hb9 hg9 ha9; have hB9 := hB7.trans hb9))
          all_goals
            have hB10 := hbd.trans (hB9.mono hbd.size)
            have hlist : Hid ((([] ++ O.take K) ++ [x9]) ++ O.drop K = insI x9 O) := by unfold Hid insI; rw [hplace.out]; simp
            have hg10 : ∃ g, a9 = some ⟨g, 0, none⟩ := by rcases hO9.head with ⟨_, cz, _⟩ | ⟨g, e, _, _⟩ <;> first | exact ⟨g, e⟩ | omega
            go_wp2_with fail
            go_roundw
            case rel => exact ⟨k + 1, a9, q9, by omega, rfl, by go_num, by rw [hst.out, ← hlist.out]; exact hO9.base (Nat.le_trans HB.out.size hbd.size), hg10, HB.out.trans (hB10.mono HB.out.size)⟩
            case measure => simp [intOf]; omega
    · obtain rfl : k = n := by omega
      have e : Hid (L.take k = L) := by unfold Hid; rw [List.take_of_length_le (by rw [Hn.out]; exact Nat.le_refl _)]
      rw [e.out] at hO
      go_wp2
      go_ret
      exact ⟨_, C, rfl, hO, hB⟩
end Go.Proofs.YtjocnhkapiiblaaDoor
