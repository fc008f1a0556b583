/- Appending strings to a row of bytes that a conversion of a string made. No program in it. -/
import Derived.Test.YtlmcfflpgkapgaaStr
import Derived.Deep.AppendSrc
import Derived.Below
namespace Go.Proofs.Ytlmcfflpgkapgaa
open Go.RowKit
set_option linter.unusedVariables false

/-- A row of bytes of the call's own, with its room. -/
structure TextAt (base g n c : Nat) (l : List UInt8) (w : World) : Prop where
  low : base ≤ g
  lt : g < w.heap.size
  len : l.length = n
  cap : n ≤ c
  most : c ≤ maxLen
  there : ∀ i, i < c → (w.cell? ⟨g, i, none⟩).isSome = true
  free : ∀ i, i < c → w.frozen? ⟨g, i, none⟩ = false
  at_ : ∀ i, i < n → w.cell? ⟨g, i, none⟩ = some (.int .u8 ((l.getD i 0).toNat : Int))

theorem TextAt.same {base g n c : Nat} {l : List UInt8} {w w' : World} (h : TextAt base g n c l w) (hg : w'.heap[g]? = w.heap[g]?) (hs : w.heap.size ≤ w'.heap.size) : TextAt base g n c l w' := by
  have hc : ∀ i, w'.cell? ⟨g, i, none⟩ = w.cell? ⟨g, i, none⟩ := fun i => by simp only [World.cell?, hg]
  have hf : ∀ i, w'.frozen? ⟨g, i, none⟩ = w.frozen? ⟨g, i, none⟩ := fun i => by simp only [World.frozen?, hg]
  exact ⟨h.low, Nat.lt_of_lt_of_le h.lt hs, h.len, h.cap, h.most, fun i hi => by rw [hc]; exact h.there i hi, fun i hi => by rw [hf]; exact h.free i hi, fun i hi => by rw [hc]; exact h.at_ i hi⟩

theorem TextAt.alloc {base g n c : Nat} {l : List UInt8} {w : World} (h : TextAt base g n c l w) (o : Obj) : TextAt base g n c l (w.alloc o) :=
  h.same (Below.heap_alloc w o g h.lt) (by simp)

theorem TextAt.new (w : World) (e : TypeId) (l : List UInt8) (n : Nat) (hn : l.length = n) (hm : n ≤ maxLen) : TextAt w.heap.size w.heap.size n (grownCap w n 0 e) l (Lib.bytesWorld w e (str l)) := by
  have hg := Lib.bytesWorld_at_new w e (str l)
  have hz : (str l).size = n := by rw [str_size, hn]
  have hge := grownCap_ge w n 0 e
  have hsz : (Lib.bytesCells w e (str l)).size = grownCap w n 0 e := by
    unfold Lib.bytesCells
    rw [hz]
    have hd : (str l).data.size = n := hz
    simp [hd]
    omega
  have hb := BRow.new w e l
  refine ⟨Nat.le_refl _, by rw [Lib.bytesWorld_size]; omega, hn, hge, grownCap_le_maxLen w n 0 e hm, fun i hi => ?_, fun i hi => ?_, fun i hi => hb.cell i (by omega)⟩
  · rw [cell_of_row _ _ _ _ _ _ hg, Array.getElem?_eq_getElem (by omega)]
    rfl
  · simp only [World.frozen?, hg]
    have : ¬ (Lib.bytesCells w e (str l)).size ≤ i := by omega
    simp [this]

theorem TextAt.back {P : Program} {base g n c : Nat} {l : List UInt8} {w : World} (h : TextAt base g n c l w) (src dst e : TypeId) (hs : P.underlying src = some (.slice e)) (he : P.underlying e = some (.int .u8)) (hd : P.underlying dst = some .string) :
    (convert src dst (.slice (some ⟨g, 0, none⟩) n c)).run P w = .ok (.string (str l)) w := by
  have hl := h.len
  subst hl
  refine run_convert_bytes_back w src dst e ⟨g, 0, none⟩ c l hs he hd fun j hj => ?_
  have := h.at_ j hj
  simp only [List.getD, List.getElem?_eq_getElem hj, Option.getD_some] at this
  rw [← this]
  congr 1
  simp [Addr.add]
  exact fun h => h.symm

theorem grown_set (w : World) (g o : Nat) (v : Value) : w.grownBy (w.setCell ⟨g, o, none⟩ v) (some g) :=
  ⟨rfl, rfl, rfl, by simp, fun k hk hne => by
    have : g ≠ k := fun e => hne (by rw [e])
    simp [World.setCell, Array.getElem?_modify, this]⟩

theorem grown_sets (g : Nat) : ∀ (vs : List Value) (o : Nat) (w : World), w.grownBy (w.setCells g o vs) (some g) ∧ (w.setCells g o vs).heap.size = w.heap.size
  | [], o, w => ⟨⟨rfl, rfl, rfl, Nat.le_refl _, fun _ _ _ => rfl⟩, rfl⟩
  | v :: vs, o, w => by
    have h1 := grown_set w g o v
    obtain ⟨h2, h3⟩ := grown_sets g vs (o + 1) (w.setCell ⟨g, o, none⟩ v)
    have hz : (w.setCell ⟨g, o, none⟩ v).heap.size = w.heap.size := by simp
    rw [hz] at h3
    exact ⟨⟨h2.os.trans h1.os, h2.tape.trans h1.tape, h2.output.trans h1.output, by show _ ≤ (World.setCells _ g (o + 1) vs).heap.size; rw [h3]; exact Nat.le_refl _, fun k hk hne => (h2.block k (by rw [hz]; exact hk) hne).trans (h1.block k hk hne)⟩, h3⟩

theorem cells_str (y : List UInt8) : byteCells (str y) = y.map fun b => Value.int .u8 (b.toNat : Int) := by
  unfold byteCells
  rw [str_data]

theorem getD_app (l y : List UInt8) (i : Nat) : (l ++ y).getD i 0 = if i < l.length then l.getD i 0 else y.getD (i - l.length) 0 := by
  by_cases h : i < l.length
  · rw [if_pos h]
    simp [List.getD, List.getElem?_append, h]
  · rw [if_neg h]
    simp [List.getD, List.getElem?_append, h]

theorem run_append_text {P : Program} {w : World} (t u ty e : TypeId) (i : TypeInfo) (ht : P.underlying t = some (.slice e)) (hu : P.underlying u = some .string) (hi : P.info? e = some i) (hz : i.zero = some (.int .u8 0)) (hsize : i.size = 1) (hby : i.bytes = 1)
    {base g n c : Nat} {l : List UInt8} (hown : TextAt base g n c l w) (y : List UInt8) (m : Nat) (hm : y.length = m) (h63 : n + m ≤ maxLen) (hbytes : n + m ≤ 140737488355328) (hbase : base ≤ w.heap.size) :
    ∃ g' c' w', (Builtin.append_ #[t, u] ty #[.slice (some ⟨g, 0, none⟩) n c, .string (str y)]).run P w = .ok (.slice (some ⟨g', 0, none⟩) (n + m) c') w' ∧ TextAt base g' (n + m) c' (l ++ y) w' ∧ w.grownBy w' (some g) := by
  have hsm : (str y).size = m := by rw [str_size, hm]
  have hsrc : Src P i.size u (.string (str y)) m (byteCells (str y)) w := by
    have := Src.ofString (P := P) w hu (str y)
    rw [hsm] at this
    rw [hsize]
    exact this
  have hnl : (byteCells (str y)).length = m := by rw [byteCells_length, hsm]
  have hlen : (l ++ y).length = n + m := by rw [List.length_append, hown.len, hm]
  have hsmall : n + m ≤ 9223372036854775807 := by simp only [maxLen] at h63; omega
  by_cases hroom : n + m ≤ c
  · have hr := run_append_room_src (P := P) w t u ty e i ht hi g 0 n c (.string (str y)) m (byteCells (str y)) hsrc hroom
      (fun j hj => by rw [hsize, Nat.zero_add, Nat.mul_one]; exact hown.there _ (by omega)) (fun j hj => by rw [hsize, Nat.zero_add, Nat.mul_one]; exact hown.free _ (by omega))
    rw [hsize, Nat.zero_add, Nat.mul_one] at hr
    have hin := World.cell?_setCells_in g (byteCells (str y)) n w (fun j hj => hown.there _ (by omega))
    have hout := World.cell?_setCells_out g (byteCells (str y)) n w
    have hfz := World.frozen?_setCells g (byteCells (str y)) n w
    have hsz : (w.setCells g n (byteCells (str y))).heap.size = w.heap.size := (grown_sets g (byteCells (str y)) n w).2
    refine ⟨g, c, _, hr, ⟨hown.low, by rw [hsz]; exact hown.lt, hlen, hroom, hown.most, fun j hj => ?_, fun j hj => by rw [hfz]; exact hown.free j hj, fun j hj => ?_⟩, ?_⟩
    · by_cases h1 : n ≤ j ∧ j < n + m
      · have := hin (j - n) (by omega)
        rw [show n + (j - n) = j by omega] at this
        rw [this]
        rfl
      · rw [hout ⟨g, j, none⟩ (fun _ _ => by simp only; omega)]
        exact hown.there j hj
    · rw [getD_app, hown.len]
      by_cases h1 : j < n
      · rw [if_pos h1, hout ⟨g, j, none⟩ (fun _ _ => .inl h1)]
        exact hown.at_ j h1
      · rw [if_neg h1]
        have := hin (j - n) (by omega)
        rw [show n + (j - n) = j by omega] at this
        rw [this]
        simp only [cells_str, List.getElem_map]
        have hj2 : j - n < y.length := by omega
        simp [List.getD, hj2]
    · exact (grown_sets g _ n w).1
  · have holds : ∀ j u, (l.map fun b => Value.int .u8 (b.toNat : Int))[j]? = some u → w.cell? ((⟨g, 0, none⟩ : Addr).add j) = some u := fun j u hu' => by
      rw [List.getElem?_map] at hu'
      cases hj : l[j]? with
      | none => rw [hj] at hu'; cases hu'
      | some b =>
        rw [hj] at hu'
        simp only [Option.map_some, Option.some.injEq] at hu'
        obtain ⟨hjl, e1⟩ := List.getElem?_eq_some_iff.1 hj
        have := hown.at_ j (by rw [← hown.len]; exact hjl)
        rw [show (⟨g, 0, none⟩ : Addr).add j = ⟨g, j, none⟩ by unfold Addr.add; split <;> simp_all, this, ← hu']
        simp [List.getD, hjl, e1]
    have hfo := run_firstCells_some (P := P) w.drew i.size n ⟨g, 0, none⟩ n c (l.map fun b => Value.int .u8 (b.toNat : Int)) (by rw [hsize, List.length_map, hown.len, Nat.mul_one]) (by simpa using holds)
    have hr := run_append_grow_src (P := P) w t u ty e i (.int .u8 0) ht hi hz (some ⟨g, 0, none⟩) n c _ hfo (.string (str y)) m (byteCells (str y)) hsrc (by omega) (by omega) (by rw [hby]; exact growslice_fits (by omega) (by omega))
    have hge := grownCap_ge w (n + m) c e
    have hcm : grownCap w (n + m) c e ≤ maxLen := grownCap_le_maxLen w (n + m) c e h63
    rw [cells_str, ← List.map_append] at hr
    obtain ⟨cur, hcur⟩ : ∃ cur, ((l ++ y).map fun b => Value.int .u8 (b.toNat : Int)).toArray ++ Builtin.zeroCells (Value.int .u8 0).cells (grownCap w (n + m) c e - (n + m)) = cur := ⟨_, rfl⟩
    rw [hcur] at hr
    have hcs : cur.size = grownCap w (n + m) c e := by
      have hz1 : (Value.int IntKind.u8 0).cells.size = 1 := rfl
      rw [← hcur]
      simp only [Array.size_append, List.size_toArray, size_zeroCells, hz1, List.length_map, hlen]
      omega
    have hgn : (w.drew.alloc (.cells cur e)).heap[w.heap.size]? = some (.cells cur e) := heap_alloc_new w.drew _
    refine ⟨_, _, _, hr, ⟨hbase, by simp, hlen, hge, hcm, fun j hj => ?_, fun j hj => ?_, fun j hj => ?_⟩, ⟨rfl, rfl, rfl, by simp, fun k hk _ => (Below.heap_alloc w.drew _ k hk)⟩⟩
    · rw [cell_of_row _ _ _ _ _ _ hgn, Array.getElem?_eq_getElem (by omega)]
      rfl
    · simp only [World.frozen?, hgn]
      simp
    · rw [cell_of_row _ _ _ _ _ _ hgn, ← hcur, Array.getElem?_append_left (by simp only [List.size_toArray, List.length_map]; omega)]
      have hj2 : j < (l ++ y).length := by omega
      simp only [List.getElem?_toArray, List.getElem?_map, List.getElem?_eq_getElem hj2, Option.map_some, List.getD, Option.getD_some]

theorem wpList_append_text {P : Program} {w : World} {ops : Array Oper} {rest : List Oper} {o : Oper} {a : Act} {Q : Exit → Act → World → Prop} (hgd : o.guard = none) (sl x : Operand) (t u : TypeId)
    (ho : o.op = .call { callee := .builtin .append, args := #[sl, x], argTypes := #[t, u] })
    (e : TypeId) (i : TypeInfo) (ht : P.underlying t = some (.slice e)) (hu : P.underlying u = some .string) (hi : P.info? e = some i) (hz : i.zero = some (.int .u8 0)) (hsize : i.size = 1) (hby : i.bytes = 1)
    {base g n c : Nat} {l : List UInt8} (hown : TextAt base g n c l w) (hs : a.eval sl = .slice (some ⟨g, 0, none⟩) n c) (y : List UInt8) (m : Nat) (hm : y.length = m) (hx : a.eval x = .string (str y)) (h63 : n + m ≤ maxLen) (hbytes : n + m ≤ 140737488355328) (hbase : base ≤ w.heap.size)
    (h : ∀ g' c' w', TextAt base g' (n + m) c' (l ++ y) w' → w.grownBy w' (some g) → wpList P ops Q rest (a.put o.dst (.slice (some ⟨g', 0, none⟩) (n + m) c')) w') : wpList P ops Q (o :: rest) a w := by
  refine wpList_plain hgd fun K hK => ?_
  obtain ⟨g', c', w', hr, h2, h3⟩ := run_append_text (P := P) t u o.type e i ht hu hi hz hsize hby hown y m hm h63 hbytes hbase
  unfold Oper.wp execOp
  simp only [ho, resolve, invoke, builtin, Sem.run_bind, Sem.run_pure, Result.andThen_ok, List.map_toArray, List.map_cons, List.map_nil, hs, hx, hr]
  exact hK _ _ (h g' c' w' h2 h3)
end Go.Proofs.Ytlmcfflpgkapgaa
