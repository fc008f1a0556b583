/- Contracts and plain words that the laws' proofs stand on. -/
import Derived.Test.YtaodjnkjjmhecaaGreatDoorShort
import Derived.Test.YtaodjnkjjmhecaaGreatDoorLibBH
import Derived.Test.YtaodjnkjjmhecaaGreatDoorSfPdq
import Derived.Test.YtaodjnkjjmhecaaGreatDoorSliceShelf
namespace Go.Proofs.YtaodjnkjjmhecaaGreatDoor
open Go.Shelf Go.RowKit Go.Lib
open Go.Sort (swp putRowK HoldsK grow)
set_option linter.unusedVariables false
set_option linter.unusedSectionVars false
variable {α : Type} [Inhabited α]
def RowS (enc : α → List Value) (z base : Nat) (e : TypeId) (blk n c : Nat) (w : World) (d : Array α) (W : World) : Prop :=
  OwnZ enc z base e (some ⟨blk, 0, none⟩) n c d.toList W ∧ Keeps (fun k => k = blk ∨ w.heap.size ≤ k) w W
theorem swapIs {enc : α → List Value} {z blk : Nat} (hz : ∀ x, (enc x).length = z) {W : World} {d : Array α} (h : HoldsK enc z W blk 0 d) (i j : Nat) (hi : i < d.size) (hj : j < d.size) :
    (W.setCells blk (0 + i * z) (enc d[j]!)).setCells blk (0 + j * z) (enc d[i]!) = Go.Proofs.sortWorldK enc z W blk 0 0 (swp d i j) #[] := by
  have h0 := Go.Sort.putRowK_swp enc z hz W blk 0 d i j hi hj
  rw [Go.Sort.putRowK_self enc z W blk 0 d h] at h0
  rw [h0]
  unfold sortWorldK
  rw [Go.Sort.grow_empty]
  rfl
set_option maxHeartbeats 1000000 in
theorem sliceSorts {P : Program} {ρ : Ren} (L : LaysGg.n6 P ρ) (t e : TypeId) (i ie : TypeInfo) (hi : P.info? t = some i) (hd : i.desc = .slice e) (hpk : P.packed t = false) (hie : P.info? e = some ie) (ke : Nat) (hke : ∀ w, (Extern.Rtype.kind e).run P w = .ok ke w)
    (enc : α → List Value) (z : Nat) (hz : ∀ x, (enc x).length = z) (hs1 : ie.size = z) (hagg : ∀ w, (isAgg e).run P w = .ok true w) (h1 : ∀ x, ∀ v ∈ enc x, v.oneCell' = true) (lt : α → α → Bool) (hO : Go.Sort.SWO lt) (g : Nat) (lb : Array Value)
    (eg : ∀ args w, (callFunc g args).run P w = .ok (.enter g args) w) (base : Nat) (e' : TypeId) (blk n c : Nat) (P0 : List α) (h2 : 2 ≤ n) (hsz : n < 4611686018427387904)
    (f : Nat) (hf : P.funcs.findIdx? (·.name == "internal/reflectlite" ++ ".Swapper$" ++ toString (swapperK n ie ke)) = some f)
    (gS : Bool) (hx : ∀ args W, (callFunc f args).run P W = ((Extern.ReflectliteSwapper.swap gS args).run P W).andThen fun v w' => .ok (.value v) w')
    (w : World) (hOwn : OwnZ enc z base e' (some ⟨blk, 0, none⟩) n c P0 w)
    (hless : ∀ (T : List α) (W : World) (i j : Nat), OwnZ enc z base e' (some ⟨blk, 0, none⟩) n c T W → Keeps (fun k => k = blk ∨ w.heap.size ≤ k) w W → i < n → j < n →
      Calls P g (#[.int .i64 i, .int .i64 j] ++ lb) W fun e w' => e = .returned (.bool (lt T.toArray[i]! T.toArray[j]!)) ∧ Below W.heap.size W w') :
    Calls P (ρ.f 6) #[.iface t (.slice (some ⟨blk, 0, none⟩) n c), .func (.func g) #[] lb] w fun x w' =>
      x = .returned (.tuple #[]) ∧ ∃ T : List α, T.Perm P0 ∧ T.Pairwise (fun x y => lt y x = false) ∧ OwnZ enc z base e' (some ⟨blk, 0, none⟩) n c T w' ∧ Keeps (fun k => k = blk) w w' := by
  have hblk : blk < w.heap.size := by
    rcases hOwn.head with ⟨q, _⟩ | ⟨g, q, _, h⟩ <;> cases q
    exact h
  have len : ∀ {d : Array α} {W : World}, RowS enc z base e' blk n c w d W → d.size = n := fun h => by have := h.1.2.1; simpa using this
  have holds : ∀ {d : Array α} {W : World}, RowS enc z base e' blk n c w d W → HoldsK enc z W blk 0 d := fun h => by have := own_holds hz h.1; simpa using this
  -- the row that the kit's own contracts leave
  have laid : ∀ {d d' : Array α} {W : World} (m : Nat) (os : Array Obj), RowS enc z base e' blk n c w d W → d'.size = n → InS (RowS enc z base e' blk n c w) blk W d' (Go.Proofs.sortWorldK enc z W blk 0 m d' os) := fun {d d' W} m os h hs => by
    have k := keeps_sortedK (enc := enc) (z := z) (w := W) (g := blk) (m := m) (os := os) d'
    refine ⟨⟨?_, h.2.trans k fun _ _ q => .inl q⟩, k⟩
    have := own_sorted hz h.1 d'.toList (by simpa using hs) m os
    simpa using this
  have H : Sorts P g lb f #[.slice (some ⟨blk, 0, none⟩) n c, typeHandle P e] lt n blk w.heap.size (RowS enc z base e' blk n c w) (fun d W i j => Go.Proofs.sortWorldK enc z W blk 0 0 (swp d i j) #[]) := {
    eg := eg
    size := len
    row := hblk
    base := fun h => h.2.size
    on := fun h k => ⟨h.1.keeps k fun x hx => by have := at_some.1 hx; simp only at this; omega, h.2.trans k fun _ _ q => .inr q⟩
    less := fun {d W} i j h hi hj => by have := hless d.toList W i j h.1 h.2 hi hj; simpa using this
    swap := fun {d W} i j h hi hj => by
      have := swapSwapsK_of_literal gS f hx e ie hie enc z hz hs1 hagg h1 blk 0 n c W d (holds h) (len h) i j hi hj
      rw [this, swapIs hz (holds h) i j (by rw [len h]; exact hi) (by rw [len h]; exact hj)]
    swS := fun {d W} i j h hi hj => (laid 0 #[] h (by rw [Go.Sort.size_swp]; exact len h)).s
    swK := fun {d W} i j h hi hj => (laid 0 #[] h (by rw [Go.Sort.size_swp]; exact len h)).k
    small := hsz }
  have hsw : ∀ {d : Array α} {W : World}, RowS enc z base e' blk n c w d W → SwapSwapsK P f #[.slice (some ⟨blk, 0, none⟩) n c, typeHandle P e] enc z blk 0 d.size := fun h => by
    rw [len h]; exact swapSwapsK_of_literal gS f hx e ie hie enc z hz hs1 hagg h1 blk 0 n c
  have hREV : ∀ (d : Array α) (W : World) (a b : Nat), RowS enc z base e' blk n c w d W → a ≤ b → b ≤ n → Calls P (ρ.f 30) #[.agg #[.func (.func g) #[] lb, .func (.func f) #[] #[.slice (some ⟨blk, 0, none⟩) n c, typeHandle P e]], .int .i64 a, .int .i64 b] W fun x w' => x = .returned (.tuple #[]) ∧ InS (RowS enc z base e' blk n c w) blk W (Go.Sort.reverseRange d a b) w' := fun d W a b h hab hb => by
    refine (Any.reverseRange_func_cells_w (P := P) (ρ := ρ) { L with } enc z hz (.func g) #[] lb f _ blk 0 a b d W (hsw h) (holds h) (Nat.lt_of_lt_of_le hblk h.2.size) hab (by rw [len h]; exact hb) (by rw [len h]; exact hsz)).mono ?_
    rintro x w' ⟨rfl, m, os, rfl⟩
    exact ⟨rfl, laid m os h (by rw [(Go.Sort.reverseRange_holds d a b hab (by rw [len h]; exact hb)).1]; exact len h)⟩
  have hBRK : ∀ (d : Array α) (W : World) (a b : Nat), RowS enc z base e' blk n c w d W → a ≤ b → b ≤ n → Calls P (ρ.f 28) #[.agg #[.func (.func g) #[] lb, .func (.func f) #[] #[.slice (some ⟨blk, 0, none⟩) n c, typeHandle P e]], .int .i64 a, .int .i64 b] W fun x w' => x = .returned (.tuple #[]) ∧ InS (RowS enc z base e' blk n c w) blk W (Go.Sort.breakPatterns d a b) w' := fun d W a b h hab hb => by
    refine (Any.breakPatterns_func_cells_w (P := P) (ρ := ρ) { L with } enc z hz (.func g) #[] lb f _ blk 0 a b d W (hsw h) (holds h) (Nat.lt_of_lt_of_le hblk h.2.size) hab (by rw [len h]; exact hb) (by rw [len h]; exact hsz)).mono ?_
    rintro x w' ⟨rfl, m, os, rfl⟩
    exact ⟨rfl, laid m os h (by rw [(Go.Sort.breakPatterns_holds d a b hab (by rw [len h]; exact hb)).1]; exact len h)⟩
  have hn0 : P0.length = n := hOwn.2.1
  refine Any.sort_Slice_of_pdq L t e i ie hi hd hpk hie ke hke _ n c hsz f hf (.func g) #[] lb w (fun w' => ∃ T : List α, T.Perm P0 ∧ T.Pairwise (fun x y => lt y x = false) ∧ OwnZ enc z base e' (some ⟨blk, 0, none⟩) n c T w' ∧ Keeps (fun k => k = blk) w w') ?_
  have hB : sliceBound P e ie ke (some ⟨blk, 0, none⟩) n c = #[.slice (some ⟨blk, 0, none⟩) n c, typeHandle P e] := by
    unfold sliceBound; rw [if_neg (swapperK_gt _ _ _ h2)]
  obtain ⟨w1, hw1⟩ : ∃ x, x = sliceWorld P ρ t (some ⟨blk, 0, none⟩) n c w := ⟨_, rfl⟩
  have hb1 : Below w.heap.size w w1 := by
    rw [hw1]; unfold sliceWorld
    exact (below_alloc _ _).trans ((below_alloc _ _).mono (by simp))
  rw [hB, ← hw1]
  have hS1 : RowS enc z base e' blk n c w P0.toArray w1 := ⟨by simpa using hOwn.below hb1 (Nat.le_refl _), .new hb1⟩
  have hlim : Lib.bitLen n < 4611686018427387904 := Nat.lt_of_le_of_lt (Lib.bitLen_le n 62 (by omega) (by omega)) (by omega)
  have hp := sfPdq (P := P) (ρ := ρ) { L with } H hO hREV hBRK (n + 1) 0 n (Lib.bitLen n) P0.toArray w1 (by omega) hS1 (Nat.zero_le _) (Nat.le_refl _) hlim (Or.inl rfl)
  refine hp.mono ?_
  rintro x w' ⟨rfl, hI⟩
  have hs := Go.Sort.pdq_sorts lt hO P0.toArray 0 n (Lib.bitLen n) true true (Nat.zero_le _) (by simp [hn0]) (Or.inl rfl)
  have hz0 : P0.toArray.size = n := by simp [hn0]
  have hp1 := permIn_all (by rw [hz0]; exact hs.1)
  refine ⟨rfl, (Go.Sort.pdq lt P0.toArray 0 n (Lib.bitLen n) true true).toList, by simpa using hp1.2, sortedIn_all (hp1.1.trans hz0) hs.2, hI.s.1, (Keeps.new hb1).trans hI.k fun _ _ q => q⟩
end Go.Proofs.YtaodjnkjjmhecaaGreatDoor
namespace Go.Proofs.YtaodjnkjjmhecaaGreatDoor
open Go.RowKit Go.Sort Go.Lib
set_option linter.unusedVariables false
set_option linter.unusedSimpArgs false
theorem key_cells {w : World} {a : Option Addr} {n c : Nat} {T : List KeyT} (h : RowOf encKey 3 w a n c T) (k : Nat) (hk : k < n) :
    ∃ x g off, T[k]? = some x ∧ a = some ⟨g, off, none⟩ ∧ w.cell? ⟨g, off + k * 3, none⟩ = some (.string (str x.1)) ∧ w.cell? ⟨g, off + k * 3 + 1, none⟩ = some (.string (str x.2.1)) ∧ w.cell? ⟨g, off + k * 3 + 2, none⟩ = some (.string (str x.2.2)) := by
  obtain ⟨x, g, off, h1, h2, h3⟩ := h.at k hk
  exact ⟨x, g, off, h1, h2, h3 0 _ rfl, h3 1 _ rfl, h3 2 _ rfl⟩
set_option maxRecDepth 100000 in
set_option maxHeartbeats 4000000 in
theorem lessAtC (g n c bx : Nat) (T : List KeyT) (w : World) (hT : RowOf encKey 3 w (some ⟨g, 0, none⟩) n c T) (hbx : w.cell? ⟨bx, 0, none⟩ = some (.slice (some ⟨g, 0, none⟩) n c)) (i j : Nat) (hi : i < n) (hj : j < n) :
    Calls Tryz.prog 93 #[.int .i64 i, .int .i64 j, .pointer (some ⟨bx, 0, none⟩)] w fun e w' => e = .returned (.bool (lessK T.toArray[i]! T.toArray[j]!)) ∧ Below w.heap.size w w' := by
  have hm := hT.cle
  have hm2 := hT.capm
  unfold maxLen at hm2
  obtain ⟨x, g1, o1, hx, e1, u0, u1, u2⟩ := key_cells hT i hi
  obtain ⟨y, g2, o2, hy, e2, v0, v1, v2⟩ := key_cells hT j hj
  cases e1
  cases e2
  have ex : T.toArray[i]! = x := by simp [hx]
  have ey : T.toArray[j]! = y := by simp [hy]
  rw [ex, ey]
  have bl : bx < w.heap.size := cell_lt hbx
  have gl : g < w.heap.size := cell_lt u0
  rw [Nat.zero_add] at u0 u1 u2 v0 v1 v2
  have b0 := cell_grown bl hbx
  have a0 := cell_grown gl u0
  have a1 := cell_grown gl u1
  have a2 := cell_grown gl u2
  have d0 := cell_grown gl v0
  have d1 := cell_grown gl v1
  have d2 := cell_grown gl v2
  have HL : ∀ (m : Nat) (os : Array Obj), Calls Tryz.prog 94 #[.agg #[.string (str x.1), .string (str x.2.1), .string (str x.2.2)], .agg #[.string (str y.1), .string (str y.2.1), .string (str y.2.2)]] (grow (w.drewN m) os) fun e w' => e = .returned (.bool (lessK x y)) ∧ ∃ q os', w' = grow ((grow (w.drewN m) os).drewN q) os' := fun m os => matchLessG (itemK x) (itemK y) _
  clear hT ex ey hx hy u0 u1 u2 v0 v1 v2 hbx
  generalize lessK x y = K at *
  have mixed := Tryz.sl6.mixed
  go_enter Tryz.func93, Tryz.ntmps93
  go_wp2_with fail
  go_quiet_grown (first | (go_at_call 94; refine Calls.grown_of (HL _ _)))
  go_wp2
  go_ret
  exact ⟨rfl, (Grows.below ⟨nq, osq, rfl⟩)⟩
noncomputable def kyT : TypeInfo := (Tryz.prog.info? 134).get (by kernel_rfl)
noncomputable def kyE : TypeInfo := (Tryz.prog.info? 39).get (by kernel_rfl)
theorem kyK (n : Nat) (h2 : 2 ≤ n) : Lib.swapperK n kyE 25 = 9 := by
  have a : kyE.hasPointers = true := by kernel_rfl
  have b : kyE.bytes = 48 := by kernel_rfl
  have c : (n == 0) = false := by simp; omega
  have d : (n == 1) = false := by simp; omega
  simp [Lib.swapperK, a, b, c, d]
theorem sortKeysC (base : Nat) (a : Option Addr) (n c bx : Nat) (T : List KeyT) (w : World) (hOwn : OwnZ encKey 3 base 39 a n c T w) (hbx : w.cell? ⟨bx, 0, none⟩ = some (.slice a n c)) (hn : n ≤ 100000) (hap : ¬ At a bx) :
    Calls Tryz.prog 92 #[.iface 134 (.slice a n c), .func (.func 93) #[] #[.pointer (some ⟨bx, 0, none⟩)]] w fun e w' =>
      e = .returned (.tuple #[]) ∧ ∃ T' : List KeyT, T'.Perm T ∧ T'.Pairwise (fun x y => lessK y x = false) ∧ OwnZ encKey 3 base 39 a n c T' w' ∧ Keeps (At a) w w' := by
  have hlen := hOwn.2.1
  rcases Nat.lt_or_ge n 2 with h1 | h2
  · have hp : T.Pairwise (fun x y => lessK y x = false) := by
      match T, hlen with
      | [], _ => exact List.Pairwise.nil
      | [x], _ => exact List.pairwise_singleton _ _
      | x :: y :: t, h => simp at h; omega
    have fin : ∀ w', (∃ os, w' = grow w os) → ∃ T' : List KeyT, T'.Perm T ∧ T'.Pairwise (fun x y => lessK y x = false) ∧ OwnZ encKey 3 base 39 a n c T' w' ∧ Keeps (At a) w w' := by
      rintro w' ⟨os, rfl⟩
      have hb : Below w.heap.size w (grow w os) := Grows.below ⟨0, os, rfl⟩
      exact ⟨T, List.Perm.refl _, hp, hOwn.below hb (Nat.le_refl _), Keeps.new hb⟩
    obtain rfl | rfl : n = 0 ∨ n = 1 := by omega
    · exact (Any.sort_Slice_tiny Tryz.sl6 134 39 kyT kyE (by kernel_rfl) (by kernel_rfl) (by kernel_rfl) (by kernel_rfl) 25 (fun _ => by kernel_rfl) a 0 c (by omega) 155 (by kernel_rfl) _ _ _ w).mono fun _ _ ⟨he, hw⟩ => ⟨he, fin _ hw⟩
    · exact (Any.sort_Slice_tiny Tryz.sl6 134 39 kyT kyE (by kernel_rfl) (by kernel_rfl) (by kernel_rfl) (by kernel_rfl) 25 (fun _ => by kernel_rfl) a 1 c (by omega) 156 (by kernel_rfl) _ _ _ w).mono fun _ _ ⟨he, hw⟩ => ⟨he, fin _ hw⟩
  · rcases hOwn.head with ⟨-, h0, -⟩ | ⟨g, rfl, hg, hgl⟩
    · omega
    · have hne : bx ≠ g := fun e => hap (at_some.2 e.symm)
      have hbl := cell_lt hbx
      refine (sliceSorts Tryz.sl6 134 39 kyT kyE (by kernel_rfl) (by kernel_rfl) (by kernel_rfl) (by kernel_rfl) 25 (fun _ => by kernel_rfl) encKey 3 encKey_len (by kernel_rfl) (fun _ => by kernel_rfl) encKey_one lessK swoK 93 #[.pointer (some ⟨bx, 0, none⟩)]
        (enters_of Tryz.func93 (by kernel_rfl) rfl) base 39 g n c T h2 (by omega) 163 (by rw [kyK _ h2]; kernel_rfl) false
        (fun args W => run_callFunc_extern Tryz.func163 (by kernel_rfl) (by kernel_rfl) (by kernel_rfl) (e := Extern.ReflectliteSwapper.swap false) (by kernel_rfl) args W) w hOwn ?_).mono ?_
      · intro T' W i j hT' hk hi hj
        have hc : W.cell? ⟨bx, 0, none⟩ = some (.slice (some ⟨g, 0, none⟩) n c) := hk.cell hbx (fun q => q.elim (fun q => hne q) (fun q => absurd hbl (Nat.not_lt.2 q)))
        exact lessAtC g n c bx T' W (hT'.row encKey_len) hc i j hi hj
      · rintro e w' ⟨rfl, T', h3, h4, h5, h6⟩
        exact ⟨rfl, T', h3, h4, h5, h6.mono fun k _ hk => at_some.2 hk.symm⟩
theorem keysAllC {w : World} {p : Nat} {B : Slots} {rs : List EvR} {m : MapN} {Bm : Nat} (h : Real w p B rs m) (hc : w.cell? ⟨Bm, 0, none⟩ = some (.map (B .keys))) :
    Calls Tryz.prog 90 #[.func (.func 130) #[] #[.pointer (some ⟨Bm, 0, none⟩)]] w fun e w' =>
      ∃ T k, GivesZ encKey 3 39 T k w e w' ∧ k ≤ 2048 ∧ T.Nodup ∧ (∀ x ∈ T, fitK x) ∧ ∀ x, x ∈ T ↔ ∃ d, d ∈ dotsK m.kept m.dead x := by
  obtain ⟨D, hM, hD, hT⟩ := h.keys.mapC
  have hhas : ∀ x : KF, Go.Maps.has D (litK x) = true ↔ ∃ d, d ∈ dotsK m.kept m.dead x.1 := fun x => by
    have h1 := (hD.at_ x.1 x.2).has
    rw [show Go.Maps.has D (litK x) = Go.Maps.has D (keyT x.1) from rfl, h1]
    have h3 := h.of x.1
    cases h2 : B (.of x.1) with
    | none =>
      rw [h2] at h3
      rcases h3 with ⟨-, e⟩ | ⟨b, n, D, e, -⟩
      · rw [e]; simp
      · cases e
    | some b =>
      have h4 : dotsK m.kept m.dead x.1 ≠ [] := fun e => by have := h.nothing x.1 e; rw [h2] at this; cases this
      obtain ⟨d, hd⟩ := List.exists_mem_of_ne_nil _ h4
      simp only [Option.map_some, Option.isSome_some, true_iff]
      exact ⟨d, hd⟩
  have hlen : ∀ xs : List KF, xs.Nodup → (∀ x ∈ xs, Go.Maps.has D (litK x) = true) → xs.length ≤ 2048 := fun xs h1 h2 => by
    have h3 : (xs.map (·.1)).length ≤ (m.kept.map fun e => kOf e.item).length := nodup_most1 (List.Pairwise.map _ (fun a b hab c => hab (Subtype.ext c)) h1) fun x hx => by
      obtain ⟨y, hy, rfl⟩ := List.mem_map.1 hx
      obtain ⟨d, hd⟩ := (hhas y).1 (h2 y hy)
      obtain ⟨e, he, -, -, hk⟩ := mem_dotsK.1 hd
      exact List.mem_map.2 ⟨e, he, hk⟩
    rw [List.length_map, List.length_map] at h3
    have := h.few
    omega
  refine (collectK 130 #[.pointer (some ⟨Bm, 0, none⟩)] (fun k => k = Bm ∨ B .keys = some k) _ _ w (fun n hn => keysEachK n Bm (B .keys) D w hn hc hM) (enters_of Tryz.func130 (by kernel_rfl) rfl) (fun k hk => ?_) (fun xs hx => ?_)).mono ?_
  · rcases hk with rfl | hk
    · exact cell_lt hc
    · exact (h.keys.blk k hk).lt
  · have := hlen xs hx.1 hx.2
    omega
  · rintro e w' ⟨xs, k, hS, hG⟩
    have hk : k ≤ 2048 := by
      have h1 := hlen xs hS.1 fun x hx => (hS.2 x).1 hx
      obtain ⟨a, c', -, hz, -⟩ := hG
      have := hz.2.1
      rw [List.length_map] at this
      omega
    refine ⟨_, k, hG, hk, List.Pairwise.map _ (fun a b hab c => hab (Subtype.ext c)) hS.1, fun x hx => ?_, fun x => ?_⟩
    · obtain ⟨y, -, rfl⟩ := List.mem_map.1 hx
      exact y.2
    · rw [List.mem_map]
      constructor
      · rintro ⟨y, hy, rfl⟩
        exact (hhas y).1 ((hS.2 y).1 hy)
      · rintro ⟨d, hd⟩
        obtain ⟨e, he, -, -, hke⟩ := mem_dotsK.1 hd
        have hf : fitK x := hke ▸ light_fitK (h.light e he)
        exact ⟨⟨x, hf⟩, (hS.2 _).2 ((hhas ⟨x, hf⟩).2 ⟨d, hd⟩), rfl⟩
end Go.Proofs.YtaodjnkjjmhecaaGreatDoor
namespace Go.Proofs.YtaodjnkjjmhecaaGreatDoor
open Go.RowKit Go.Lib
set_option linter.unusedVariables false
set_option linter.unusedSimpArgs false
set_option maxRecDepth 100000 in
set_option maxHeartbeats 8000000 in
theorem mWinnersA {w : World} {v : Value} {m : MapN} (h : ArgM w v m) : Calls Tryz.prog 45 #[v] w (GivesN (winnersM m) w) := by
  obtain ⟨i0, hi, hz0, hz1, hz2⟩ := info_parts infoEvent
  have HO := mOrNewI h
  unfold GivesN
  go_enter Tryz.func45, Tryz.ntmps45
  go_wp2_with (go_at_call 73; (with_reducible refine HO.mono ?_); rintro e w1 ⟨p, B, rs, rfl, hR1, hx1⟩; have c3 := hR1.obj.cell 3 rfl; have HK := keysMakeK (B .keys) w1)
  have b2 := below_alloc w1 (.cells #[.map (B .keys)] 104)
  have oc := (ObjAt.new w1 #[.map (B .keys)] 104).cell 0 rfl
  have HC1 := keysAllC (Bm := w1.heap.size) (hR1.below b2) oc
  go_wp2_with (first
    | (go_at_call 91; (with_reducible refine HK.mono ?_); rintro e w2 ⟨rfl, rfl⟩)
    | (go_at_call 90; (with_reducible refine HC1.mono ?_); rintro e w3 ⟨T0, n1, ⟨a1, c1, rfl, hz3, hx3⟩, hn1, hT0, hF0, hM0⟩; have hb3 := b2.trans (hx3.mono b2.size); have bb := below_alloc w3 (.cells #[.slice a1 n1 c1] 134); have ob := ObjAt.new w3 #[.slice a1 n1 c1] 134; have hzb := hz3.below bb (Nat.le_refl _); have hu3 := own_user hz3; have HSO := sortKeysC (bx := w3.heap.size) _ a1 n1 c1 T0 _ hzb (ob.cell 0 rfl) (by omega) (fun c => absurd (hu3 _ c).1 (Nat.lt_irrefl _)); have cb := ob.cell 0 rfl)
    | (go_at_call 92; (with_reducible refine HSO.mono ?_); rintro e w5 ⟨rfl, T, hTp, hTs, hz5, hk5⟩; have cb5 := hk5.cell cb (fun c => absurd (hu3 _ c).1 (Nat.lt_irrefl _))))
  have hb4 := hb3.trans (bb.mono hb3.size)
  have hz5h : ∀ j, At a1 j → w1.heap.size ≤ j := fun j hj => by
    rcases hz5.head with ⟨e, -⟩ | ⟨g, e, hg, -⟩
    · rw [e] at hj
      exact absurd hj (at_none j)
    · rw [e] at hj
      have := b2.size
      have e1 : g = j := at_some.1 hj
      omega
  have hb5w : Below w1.heap.size w1 w5 := hb4.trans (hk5.below hb4.size fun k _ hc => hz5h k hc)
  have hR := hR1.below hb5w
  have hb0 : Below w.heap.size w w5 := hx1.trans (hb5w.mono hx1.size)
  have hTn : T.Nodup := hTp.nodup_iff.2 hT0
  have hTf : ∀ x ∈ T, fitK x := fun x hx => hF0 x (hTp.mem_iff.1 hx)
  have hTm : ∀ x, x ∈ T ↔ ∃ d, d ∈ dotsK m.kept m.dead x := fun x => hTp.mem_iff.trans (hM0 x)
  have hTw : ∀ x ∈ T, ∃ e, winnerM m (itemK x) = some e := fun x hx => by
    obtain ⟨d, hd⟩ := (hTm x).1 hx
    obtain ⟨e, he, -, ha, hk⟩ := mem_dotsK.1 hd
    cases hw : winnerM m (itemK x) with
    | some e => exact ⟨e, rfl⟩
    | none =>
      have h1 := (best_max (keyM m (itemK x)) none (by
        unfold keyM aliveM
        exact List.Pairwise.sublist (List.filter_sublist.trans List.filter_sublist) hR.ok.ok.kept) (fun a ha => by cases ha)).2 hw
      have h2 : e ∈ keyM m (itemK x) := mem_keyM.2 ⟨he, ha, hk⟩
      rw [h1.2] at h2
      exact absurd h2 List.not_mem_nil
  have hown := hR.own_lt
  have hovl := hR.over_lt
  have hw51 := hb5w.size
  have hw10 := hx1.size
  have FIN : Hid (∀ W : List EventN, W.map some = T.map (fun k => winnerM m (itemK k)) → W = winnersM m) := fun W hW => winners_are hR.ok.ok.kept hTs hTn (fun k => by
    rw [hTm]
    constructor
    · rintro ⟨d, hd⟩
      obtain ⟨e, he, -, ha, hk⟩ := mem_dotsK.1 hd
      exact ⟨e, by rw [alive_is]; exact List.mem_filter.2 ⟨he, ha⟩, hk⟩
    · rintro ⟨e, he, hk⟩
      rw [alive_is] at he
      obtain ⟨h1, h2⟩ := List.mem_filter.1 he
      exact ⟨e.dot, mem_dotsK.2 ⟨e, h1, rfl, h2, hk⟩⟩) W hW
  have hT1 := hz5.2.1
  have hT2 := hz5.2.2.1
  have hT3 := hz5.2.2.2
  unfold maxLen at hT3
  have c0' := cb5
  obtain ⟨R0, hR0⟩ : ∃ R0, R0 = w1.heap.size := ⟨_, rfl⟩
  have hz5' : OwnZ encKey 3 w.heap.size 39 a1 n1 c1 T w5 := hz5.base (by have := b2.size; omega)
  have hrl : ∀ j, OwnB p B j ∨ OverB rs j → j < R0 := fun j hj => by
    rw [hR0]
    rcases hj with hj | hj
    · exact hR1.own_lt j hj
    · exact hR1.over_lt j hj
  have hz5R : ∀ j, At a1 j → R0 ≤ j := fun j hj => by rw [hR0]; exact hz5h j hj
  have hRw : w.heap.size ≤ R0 ∧ R0 ≤ w5.heap.size := by omega
  clear hR1 HO HK HC1 HSO hz3 hx3 hb3 bb ob hzb hu3 cb b2 oc hk5 hb4 hz5h hb5w c3 hT0 hF0 hM0 hTp hTs hTn hz5 hown hovl hw51 hw10 hR0 h hx1
  clear T0
  go_wp2_with fail
  go_loopw [4, 21] (fun s i wr => ∃ (k c0 : Nat) (a0 : Option Addr) (P : List EvR), k ≤ n1 ∧ i = .int .i64 (k : Int) ∧ s = .slice a0 k c0 ∧ OwnZ encE 19 w.heap.size 43 a0 k c0 P wr ∧ OversAt wr P ∧ Hid (P.map (fun r => some r.e) = (T.take k).map fun y => winnerM m (itemK y)) ∧ (∀ r ∈ P, ∀ j, At (overA r) j → w.heap.size ≤ j ∧ ¬ At a0 j) ∧ Below w.heap.size w wr ∧ OwnZ encKey 3 w.heap.size 39 a1 n1 c1 T wr ∧ (∀ j, At a0 j → ¬ At a1 j) ∧ (∀ j, At a0 j → w5.heap.size ≤ j) ∧ Real wr p B rs m ∧ w5.heap.size ≤ wr.heap.size) (fun _ i _ => n1 - (intOf i).toNat)
  case atStart => exact ⟨0, 0, none, [], Nat.zero_le _, rfl, rfl, OwnZ.none _ _ _ _ _, OversAt.nil _, rfl, fun r hr => absurd hr List.not_mem_nil, hb0, hz5', fun j hj => absurd hj (at_none j), fun j hj => absurd hj (at_none j), hR, Nat.le_refl _⟩
  case round =>
    clear hz5' hb0 hR c0' cb5
    obtain ⟨k, c0, a0, P, hk, rfl, rfl, hz, hov, hPe, hno, hb, hzd, hoff, hah, hRr, hws5⟩ := hrel
    by_cases hlt : k < n1
    · have hlt' : (k : Int) < (n1 : Int) := by omega
      obtain ⟨y, g, off, hyk, rfl, u0, u1, u2⟩ := key_cells (hzd.row encKey_len) k hlt
      have hyT := List.mem_of_getElem? hyk
      have hyf := hTf y hyT
      obtain ⟨ew, hew⟩ := hTw y hyT
      have hau := own_user hz
      obtain ⟨bd, hbd⟩ : ∃ bd, wr.heap.size = bd := ⟨_, rfl⟩
      have od := ObjAt.new wr #[.string (str y.1), .string (str y.2.1), .string (str y.2.2)] 39
      have bw := below_alloc wr (.cells #[.string (str y.1), .string (str y.2.1), .string (str y.2.2)] 39)
      rw [hbd] at od
      have hRd := hRr.below bw
      have hz' := hz.below bw (Nat.le_refl _)
      have hov' := hov.below bw
      have hzd' := hzd.below bw (Nat.le_refl _)
      have hbw := hb.trans (bw.mono hb.size)
      have hws := hb.size
      have hap : ∀ j, OwnB p B j → ¬ At a0 j := fun j hj hc => by have := hrl j (.inl hj); have := hah j hc; omega
      have hao : ∀ j, OverB rs j → ¬ At a0 j := fun j hj hc => by have := hrl j (.inr hj); have := hah j hc; omega
      have had : ¬ At a0 bd := fun hc => by have := (hau bd hc).1; omega
      have HST : Hid ((T.take (k + 1)).map (fun y => winnerM m (itemK y)) = (T.take k).map (fun y => winnerM m (itemK y)) ++ [some ew]) := by
        show _ = _
        rw [take_snocI hyk, List.map_append, ← hew]
        rfl
      have hzr := own_user hzd
      obtain ⟨O, hO⟩ : ∃ O, B (.of y) = O := ⟨_, rfl⟩
      clear hz hov hzd hb hRr
      generalize hwd : wr.alloc (.cells #[.string (str y.1), .string (str y.2.1), .string (str y.2.2)] 39) = wd at *
      have hz := hz'
      have ld := od.lt
      have HC : ∀ v, Below wd.heap.size wd v → Calls Tryz.prog 81 #[.pointer (some ⟨p, 0, none⟩), .map O] v fun en w' => ∃ q : EvR, q.e = ew ∧ en = .returned (.agg (encE q).toArray) ∧ RowOf encD 3 w' q.a q.e.over.length q.c q.e.over ∧ (∀ k, At q.a k → v.heap.size ≤ k) ∧ Below v.heap.size v w' := fun v hv => by
        have hRv := hRd.below hv
        refine (greatestI hRv (mv := O) (E := dotsK m.kept m.dead y) (hO ▸ hRv.of y) (fun d hd => by
          obtain ⟨e, he, hde, -⟩ := mem_dotsK.1 hd
          rw [← hRv.rs] at he
          obtain ⟨r, hr, rfl⟩ := List.mem_map.1 he
          exact ⟨r, hr, hde⟩)).mono ?_
        rintro en w' ⟨o, q, hG, rfl, hqe, hrow, hnew, hbl⟩
        have := (great_is hRv (x := itemK y) (o := o) hG).1
        rw [hew] at this
        refine ⟨q, ?_, rfl, hrow, hnew, hbl⟩
        rw [hqe, ← this]
        rfl
      have hSd : ∀ v, Below wd.heap.size wd v → v.cell? ⟨p, 3, none⟩ = some (.map (B .keys)) ∧ v.cell? ⟨bd, 0, none⟩ = some (.string (str y.1)) ∧ v.cell? ⟨bd, 1, none⟩ = some (.string (str y.2.1)) ∧ v.cell? ⟨bd, 2, none⟩ = some (.string (str y.2.2)) ∧ KeysIs v (B .keys) B := fun v hv => ⟨(hRd.below hv).obj.cell 3 rfl, (od.below hv ld).cell 0 rfl, (od.below hv ld).cell 1 rfl, (od.below hv ld).cell 2 rfl, (hRd.below hv).keys⟩
      have hb5 : Below wd.heap.size wd wd.drew := (Below.refl _ _).drew
      have hwd5 : wr.heap.size ≤ wd.heap.size := bw.size
      go_wp2_with fail
      refine wp_region_held_drew (S := fun w' => w'.cell? ⟨p, 3, none⟩ = some (.map (B .keys)) ∧ w'.cell? ⟨bd, 0, none⟩ = some (.string (str y.1)) ∧ w'.cell? ⟨bd, 1, none⟩ = some (.string (str y.2.1)) ∧ w'.cell? ⟨bd, 2, none⟩ = some (.string (str y.2.2)) ∧ KeysIs w' (B .keys) B) (by kernel_rfl) (hSd _ hb5) (fun hHeld => ?_)
      first | (refine tR (i := 0) rfl rfl ?_) | (refine tL (i := 0) (v := ?vb1) rfl ?hyb1 ?rb1; case hyb1 => (rintro w' hS; obtain ⟨hs0, hs1, hs2, hs3, hs4⟩ := hS; go_simp; try with_reducible rfl))
      try simp only [gA, gB, Act.put, gD, gE, gF]
      first | (refine tR (i := 1) rfl rfl ?_) | (refine tL (i := 1) (v := ?vb2) rfl ?hyb2 ?rb2; case hyb2 => (rintro w' hS; obtain ⟨hs0, hs1, hs2, hs3, hs4⟩ := hS; go_simp; try with_reducible rfl))
      try simp only [gA, gB, gC, Act.put, gD, gE, gF]
      first | (refine tR (i := 2) rfl rfl ?_) | (refine tL (i := 2) (v := ?vb3) rfl ?hyb3 ?rb3; case hyb3 => (rintro w' hS; obtain ⟨hs0, hs1, hs2, hs3, hs4⟩ := hS; go_simp; try with_reducible rfl))
      try simp only [gA, gB, gC, Act.put, gD, gE, gF]
      first | (refine tR (i := 3) rfl rfl ?_) | (refine tL (i := 3) (v := ?vb4) rfl ?hyb4 ?rb4; case hyb4 => (rintro w' hS; obtain ⟨hs0, hs1, hs2, hs3, hs4⟩ := hS; go_simp; try with_reducible rfl))
      try simp only [gA, gB, gC, Act.put, gD, gE, gF]
      first | (refine tR (i := 4) rfl rfl ?_) | (refine tL (i := 4) (v := ?vb5) rfl ?hyb5 ?rb5; case hyb5 => (rintro w' hS; obtain ⟨hs0, hs1, hs2, hs3, hs4⟩ := hS; go_simp; try with_reducible rfl))
      try simp only [gA, gB, gC, Act.put, gD, gE, gF]
      first | (refine tR (i := 5) rfl rfl ?_) | (refine tL (i := 5) (v := ?vb6) rfl ?hyb6 ?rb6; case hyb6 => (rintro w' hS; obtain ⟨hs0, hs1, hs2, hs3, hs4⟩ := hS; go_simp; try with_reducible rfl))
      try simp only [gA, gB, gC, Act.put, gD, gE, gF]
      first | (refine tR (i := 6) rfl rfl ?_) | (refine tL (i := 6) (v := ?vb7) rfl ?hyb7 ?rb7; case hyb7 => (rintro w' hS; obtain ⟨hs0, hs1, hs2, hs3, hs4⟩ := hS; go_simp; try with_reducible rfl))
      try simp only [gA, gB, gC, Act.put, gD, gE, gF]
      refine wpAnyH_take (i := 7) (v := .map O) rfl (by kernel_rfl) (by kernel_rfl) (by kernel_rfl) (fun _ _ _ h => h) (Or.inl ⟨by rfl, fun w' hS => by obtain ⟨hs0, hs1, hs2, hs3, hs4⟩ := hS; exact exec_look (.tmp 30) (.tmp 31) 104 false rfl _ rfl _ rfl (hO ▸ (keys_look hs4 hyf).1)⟩) (by assumption) ?_
      try simp only [gA, gB, gC, Act.put, gD, gE, gF]
      refine wpAnyH_ready (rs := [8]) (by kernel_rfl) (by simp) ?_
      refine AllReadyH.cons (o := _) rfl (fun K hK => ?_) AllReadyH.nil
      go_simp
      go_at_call 81; (with_reducible refine (HC _ hb5).mono ?_); rintro e w6 ⟨q, hqe, rfl, hqo, hqn, hx6⟩; have hb6 := hb5.trans (hx6.mono hb5.size); obtain ⟨A2, hA2⟩ : ∃ A2, (encE q).toArray = A2 := ⟨_, rfl⟩; rw [hA2]; have zA2 : A2.size = 19 := (by rw [← hA2]; rfl); have lA2 : A2.toList = encE q := (by rw [← hA2]); have hfold : Array.foldl (fun cs x => cs.setIfInBounds x.snd x.fst) (#[.int .i64 0, .int .i64 0, .int .i64 0, .int .i64 0, .int .i64 0, .int .i64 0, .int .i64 0, .string ⟨#[]⟩, .string ⟨#[]⟩, .string ⟨#[]⟩, .string ⟨#[]⟩, .bool false, .bool false, .bool false, .bool false, .int .i64 0, .int .i64 0, .int .i64 0, .slice none 0 0] : Array Value) A2.zipIdx 0 19 = A2 := foldSet A2 _ 19 zA2 rfl; have hz6 := hz.below hb6 (Nat.le_refl _); have ha6 := below_alloc w6 (.cells A2 43); have hb7 := hb6.trans (ha6.mono hb6.size)
      try dsimp only
      refine hK.out _ _ (hSd _ hb6) (fun hHeld => ?_)
      clear hK K
      try simp only [gA, gB, gC, Act.put, gD, gE, gF]
      refine wpAnyH_ready (rs := [9]) (by kernel_rfl) (by simp) ?_
      refine AllReadyH.cons (o := _) rfl (fun K hK => ?_) AllReadyH.nil
      go_simp
      skip
      try dsimp only
      refine hK.out _ _ (hSd _ hb7) (fun hHeld => ?_)
      clear hK K
      try simp only [gA, gB, gC, Act.put, gD, gE, gF]
      refine wpAnyH_ready (rs := [10]) (by kernel_rfl) (by simp) ?_
      refine AllReadyH.cons (o := _) rfl (fun K hK => ?_) AllReadyH.nil
      refine step_append_row1 encE_len (by decide) encE_one (by rfl) (.tmp 25) (.tmp 34) 28 (by rfl) 43 i0 (.agg #[.int .i64 0, .int .i64 0, .int .i64 0, .int .i64 0, .int .i64 0, .int .i64 0, .int .i64 0, .string ⟨#[]⟩, .string ⟨#[]⟩, .string ⟨#[]⟩, .string ⟨#[]⟩, .bool false, .bool false, .bool false, .bool false, .int .i64 0, .int .i64 0, .int .i64 0, .slice none 0 0]) 176 Tryz.underlying28 hi hz0 hz1 hz2 rfl hz6 rfl q lA2 rfl (k + 1) rfl (by unfold maxLen; omega) (by omega) (by have := hb6.size; omega) ?_; intro a8 c8 w8 hz8 hx8 hg8 hn8; have k8 := Keeps.ofGrown hx8 hg8; have o8 := (od.below hb6 ld).keeps k8 had; have r8 := (hRd.below hb6).keeps k8 (fun c => hap _ (.inl rfl) c) (fun i b e c => hap _ (.inr ⟨i, e⟩) c) (fun r hr k hk c => hao _ ⟨r, hr, hk⟩ c)
      try dsimp only
      refine hK.out _ _ (⟨r8.obj.cell 3 rfl, o8.cell 0 rfl, o8.cell 1 rfl, o8.cell 2 rfl, r8.keys⟩) (fun hHeld => ?_)
      clear hK K
      try simp only [gA, gB, gC, Act.put, gD, gE, gF]
      first | (refine tR (i := 11) rfl rfl ?_) | (refine tL (i := 11) (v := ?vb8) rfl ?hyb8 ?rb8; case hyb8 => (rintro w' hS; obtain ⟨hs0, hs1, hs2, hs3, hs4⟩ := hS; go_simp; try with_reducible rfl))
      try simp only [gA, gB, gC, Act.put, gD, gE, gF]
      refine wpAnyH_done (by kernel_rfl) ?_ _
      go_wp2
      go_roundw
      case rel =>
        have hb6s := hb6.size
        have hbf : Below w.heap.size w w8 := (hbw.trans (hb6.mono hbw.size)).trans hx8
        have hov6 : OversAt w6 P := hov'.below hb6
        have hqw : ∀ j, At (overA q) j → wd.heap.size ≤ j := fun j hj => hqn j (over_at hj)
        have hwds : bd < wd.heap.size := ld
        have hov8 : OversAt w8 (P ++ [q]) := by
          intro z hz2
          rcases List.mem_append.1 hz2 with hz2 | hz2
          · exact over_keeps (hov6 z hz2) k8 fun j hj hc => (hno z hz2 j hj).2 hc
          · rw [List.mem_singleton.1 hz2]
            exact over_keeps hqo k8 fun j hj hc => by have := hqw j hj; have := (hau j hc).1; omega
        have hall : ∀ z ∈ P ++ [q], ∀ j, At (overA z) j → w.heap.size ≤ j ∧ j < w6.heap.size ∧ ¬ At a0 j := by
          intro z hz2 j hj
          rcases List.mem_append.1 hz2 with hz2 | hz2
          · exact ⟨(hno z hz2 j hj).1, overA_lt (hov6 z hz2) j hj, (hno z hz2 j hj).2⟩
          · rw [List.mem_singleton.1 hz2] at hj
            have h1 := hqw j hj
            exact ⟨by omega, overA_lt hqo j hj, fun hc => by have := (hau j hc).1; omega⟩
        have k8s := k8.size
        refine ⟨k + 1, c8, a8, P ++ [q], by omega, by go_num, rfl, hz8, hov8, ?_, fun z hz2 j hj => ?_, hbf, (hzd'.below hb6 (Nat.le_refl _)).keeps k8 (fun j hj hc => hoff j hc hj), fun j hj => ?_, fun j hj => ?_, r8, by omega⟩
        · unfold Hid
          rw [HST.out, List.map_append, hPe.out, ← hqe]
          rfl
        · obtain ⟨h1, h2, h3⟩ := hall z hz2 j hj
          refine ⟨h1, ?_⟩
          rcases hn8 with rfl | ⟨g8, rfl, hg9⟩
          · exact h3
          · intro hc
            have := at_some.1 hc
            dsimp only at this
            omega
        · rcases hn8 with rfl | ⟨g8, rfl, hg9⟩
          · exact hoff j hj
          · intro hc
            have := at_some.1 hj
            dsimp only at this
            have := (hzr j hc).1
            omega
        · rcases hn8 with rfl | ⟨g8, rfl, hg9⟩
          · exact hah j hj
          · have := at_some.1 hj
            dsimp only at this
            omega
      case measure => simp [intOf]; omega
    · obtain rfl : n1 = k := by omega
      go_wp2
      go_ret
      refine ⟨a0, n1, c0, P, rfl, ?_, hz, hov, fun r hr j hj => (hno r hr j hj).1, hb⟩
      refine FIN.out _ ?_
      rw [List.map_map]
      have := hPe.out
      rw [List.take_of_length_le (Nat.le_of_eq hT1)] at this
      exact this
end Go.Proofs.YtaodjnkjjmhecaaGreatDoor
