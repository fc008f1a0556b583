/- Contracts and plain words that the laws' proofs stand on. -/
import Derived.Test.YtaodjnkjjmhecaaGreatDoorShort
import Derived.Test.YtaodjnkjjmhecaaGreatDoorLibBD
namespace Go.Proofs.YtaodjnkjjmhecaaGreatDoor
open Go.RowKit
set_option linter.unusedVariables false
set_option linter.unusedSimpArgs false
def regIn (n : Nat) : Code → Option Code
  | .region id ops d => if id = n then some (.region id ops d) else none
  | .seq a b => match regIn n a with
    | some c => some c
    | none => regIn n b
  | .cond _ a b => match regIn n a with
    | some c => some c
    | none => regIn n b
  | .block _ c => regIn n c
  | .loop c => regIn n c
  | .scope c => regIn n c
  | _ => none
noncomputable def nilsCode : Code := ((Tryz.f7.body.bind (regIn 6)).getD .skip)
set_option maxHeartbeats 16000000 in
set_option maxRecDepth 100000 in
theorem nilsTail (r : EvR) (hFr : FitD r.e.dot) (B G : Nat) (L : List Value) (Q : Exit → Act → World → Prop) (v2 v : World) (c0 c2 c4 c5 c6 c7 c8 c9 c10 c11 c12 c13 c14 c15 c16 c17 c18 c19 c20 c21 c22 c23 c24 c25 c26 c27 c28 c29 c30 c31 c32 c33 c34 c35 c36 c37 c38 c39 c40 c41 c42 c43 c44 c45 c46 c47 c48 c49 c50 c51 c52 c53 c54 c55 c56 c57 c58 c59 c60 c61 c62 c63 c64 c65 c66 c68 c69 c70 c71 c72 c73 c74 c75 c76 c77 c78 c79 c80 c81 c82 c83 c84 c85 c86 c87 c88 c89 c90 c91 c92 c93 c94 c95 c96 c97 c98 c99 c100 c101 c102 c103 c104 c105 c106 c107 c108 c109 c110 c111 c112 c113 c114 c115 c116 c117 c118 c119 c120 : Value) (hS7 : ∀ v, Below v2.heap.size v2 v → v.cell? ⟨B, 0, none⟩ = some (.int .i64 r.e.dot.dev) ∧ v.cell? ⟨B, 1, none⟩ = some (.int .i64 r.e.dot.inc) ∧ v.cell? ⟨B, 2, none⟩ = some (.int .i64 r.e.dot.seq) ∧ v.cell? ⟨B, 7, none⟩ = some (.string (str r.e.item.name)) ∧ v.cell? ⟨B, 8, none⟩ = some (.string (str r.e.item.dom)) ∧ v.cell? ⟨B, 9, none⟩ = some (.string (str r.e.item.path)) ∧ ObjAt v G L) (hB1 : Below v2.heap.size v2 v) (hTb : OTb v2) (hend : ∀ (d0 d1 d3 d4 d5 d6 d7 d8 d9 d10 d11 d12 d13 d14 d15 d16 d17 d18 d19 d20 d21 d22 d23 d24 d25 d26 d27 d28 d29 d30 d31 d32 d33 d34 d35 d36 d37 d38 d39 d40 d41 d42 d43 d44 d45 d46 d47 d48 d49 d50 d51 d52 d53 d54 d55 d56 d57 d58 d59 d60 d61 d62 d63 d64 d65 d66 d67 d68 d69 d70 d71 d72 d73 d74 d75 d76 d77 d78 d79 d80 d81 d82 d83 d84 d85 d86 d87 d88 d89 d90 d91 d92 d93 d94 d95 d96 d97 d98 d99 d100 d101 d102 d103 d104 d105 d106 d107 d108 d109 d110 d111 d112 d113 d114 d115 d116 d117 d118 d119 d120 : Value) (w' : World), Below v2.heap.size v2 w' → Q .normal ⟨(List.toArray (d0 :: d1 :: .bool true :: d3 :: d4 :: d5 :: d6 :: d7 :: d8 :: d9 :: d10 :: d11 :: d12 :: d13 :: d14 :: d15 :: d16 :: d17 :: d18 :: d19 :: d20 :: d21 :: d22 :: d23 :: d24 :: d25 :: d26 :: d27 :: d28 :: d29 :: d30 :: d31 :: d32 :: d33 :: d34 :: d35 :: d36 :: d37 :: d38 :: d39 :: d40 :: d41 :: d42 :: d43 :: d44 :: d45 :: d46 :: d47 :: d48 :: d49 :: d50 :: d51 :: d52 :: d53 :: d54 :: d55 :: d56 :: d57 :: d58 :: d59 :: d60 :: d61 :: d62 :: d63 :: d64 :: d65 :: d66 :: d67 :: d68 :: d69 :: d70 :: d71 :: d72 :: d73 :: d74 :: d75 :: d76 :: d77 :: d78 :: d79 :: d80 :: d81 :: d82 :: d83 :: d84 :: d85 :: d86 :: d87 :: d88 :: d89 :: d90 :: d91 :: d92 :: d93 :: d94 :: d95 :: d96 :: d97 :: d98 :: d99 :: d100 :: d101 :: d102 :: d103 :: d104 :: d105 :: d106 :: d107 :: d108 :: d109 :: d110 :: d111 :: d112 :: d113 :: d114 :: d115 :: d116 :: d117 :: d118 :: d119 :: d120 :: [])), []⟩ w') (hQp : ∀ c (a : Act) i v w, Q (.panic c) (a.put i v) w → Q (.panic c) a w) (ops : Array Oper) (hops : nilsCode = .region 6 ops true) :
    wpAnyH Tryz.prog .any ops Q (fun w' => w'.cell? ⟨B, 0, none⟩ = some (.int .i64 r.e.dot.dev) ∧ w'.cell? ⟨B, 1, none⟩ = some (.int .i64 r.e.dot.inc) ∧ w'.cell? ⟨B, 2, none⟩ = some (.int .i64 r.e.dot.seq) ∧ w'.cell? ⟨B, 7, none⟩ = some (.string (str r.e.item.name)) ∧ w'.cell? ⟨B, 8, none⟩ = some (.string (str r.e.item.dom)) ∧ w'.cell? ⟨B, 9, none⟩ = some (.string (str r.e.item.path)) ∧ ObjAt w' G L) 54 (List.toArray (true :: true :: true :: true :: true :: true :: true :: true :: true :: true :: true :: true :: true :: true :: true :: true :: true :: true :: true :: true :: true :: true :: true :: true :: true :: true :: true :: true :: true :: true :: true :: true :: true :: true :: true :: true :: true :: true :: true :: true :: true :: true :: true :: false :: false :: false :: false :: false :: false :: false :: false :: false :: false :: false :: false :: false :: false :: false :: false :: false :: false :: false :: false :: false :: false :: false :: false :: false :: false :: false :: false :: false :: false :: false :: false :: false :: false :: false :: false :: false :: false :: false :: false :: false :: false :: false :: false :: false :: false :: false :: false :: false :: false :: false :: false :: false :: false :: [])) ⟨(List.toArray (c0 :: .pointer (some ⟨B, 0, none⟩) :: c2 :: .pointer none :: c4 :: c5 :: c6 :: c7 :: c8 :: c9 :: c10 :: c11 :: c12 :: c13 :: c14 :: c15 :: c16 :: c17 :: c18 :: c19 :: c20 :: c21 :: c22 :: c23 :: c24 :: c25 :: c26 :: c27 :: c28 :: c29 :: c30 :: c31 :: c32 :: c33 :: c34 :: c35 :: c36 :: c37 :: c38 :: c39 :: c40 :: c41 :: c42 :: c43 :: c44 :: c45 :: c46 :: c47 :: c48 :: c49 :: c50 :: c51 :: c52 :: c53 :: c54 :: c55 :: c56 :: c57 :: c58 :: c59 :: c60 :: c61 :: c62 :: c63 :: c64 :: c65 :: c66 :: .bool true :: c68 :: c69 :: c70 :: c71 :: c72 :: c73 :: c74 :: c75 :: c76 :: c77 :: c78 :: c79 :: c80 :: c81 :: c82 :: c83 :: c84 :: c85 :: c86 :: c87 :: c88 :: c89 :: c90 :: c91 :: c92 :: c93 :: c94 :: c95 :: c96 :: c97 :: c98 :: c99 :: c100 :: c101 :: c102 :: c103 :: c104 :: c105 :: c106 :: c107 :: c108 :: c109 :: c110 :: c111 :: c112 :: c113 :: c114 :: c115 :: c116 :: c117 :: c118 :: c119 :: c120 :: [])), []⟩ v := by
  have HAW := fun v (hv : Below v2.heap.size v2 v) => awake21C v (hTb.below hv)
  have H7 := fun v => mNilHas r.e.dot v hFr
  have H8 := fun v => mNilDead r.e.dot v hFr
  have H9 := fun v => mNilRoom v
  have H10 := fun v => mNilCopy v
  have H11 := fun v => mNilForget r.e.dot v hFr
  have H12 := fun v => mNilBare r.e.dot v hFr
  have H13 := fun v => mNilClear r.e.dot v hFr
  have H14 := fun v => mNilDeads v
  unfold GivesDs at H14
  conv at hops => lhs; whnf
  injection hops with h1 h2 h3
  subst h2
  simp only [List.append]
  have hHeld := hS7 _ hB1
  first
    | (refine wpAnyH_take (i := 43) rfl (by kernel_rfl) (by kernel_rfl) (by kernel_rfl) (fun _ _ _ h => hQp _ _ _ _ _ h) (Or.inr ⟨by rfl, rfl⟩) (by assumption) ?_)
    | (refine wpAnyH_take (i := 43) (v := ?vb30) rfl (by kernel_rfl) (by kernel_rfl) (by kernel_rfl) (fun _ _ _ h => hQp _ _ _ _ _ h) (Or.inl ⟨by rfl, ?hyb30⟩) (by assumption) ?rb30; case hyb30 => (rintro w' hS; obtain ⟨hs0, hs1, hs2, hs3, hs4, hs5, hs6⟩ := hS; go_simp; try with_reducible rfl))
  try simp only [gA, gB, gC, Act.put, gD, gE, gF]
  first
    | (refine wpAnyH_take (i := 44) rfl (by kernel_rfl) (by kernel_rfl) (by kernel_rfl) (fun _ _ _ h => hQp _ _ _ _ _ h) (Or.inr ⟨by rfl, rfl⟩) (by assumption) ?_)
    | (refine wpAnyH_take (i := 44) (v := ?vb31) rfl (by kernel_rfl) (by kernel_rfl) (by kernel_rfl) (fun _ _ _ h => hQp _ _ _ _ _ h) (Or.inl ⟨by rfl, ?hyb31⟩) (by assumption) ?rb31; case hyb31 => (rintro w' hS; obtain ⟨hs0, hs1, hs2, hs3, hs4, hs5, hs6⟩ := hS; go_simp; try with_reducible rfl))
  try simp only [gA, gB, gC, Act.put, gD, gE, gF]
  first
    | (refine wpAnyH_take (i := 45) rfl (by kernel_rfl) (by kernel_rfl) (by kernel_rfl) (fun _ _ _ h => hQp _ _ _ _ _ h) (Or.inr ⟨by rfl, rfl⟩) (by assumption) ?_)
    | (refine wpAnyH_take (i := 45) (v := ?vb32) rfl (by kernel_rfl) (by kernel_rfl) (by kernel_rfl) (fun _ _ _ h => hQp _ _ _ _ _ h) (Or.inl ⟨by rfl, ?hyb32⟩) (by assumption) ?rb32; case hyb32 => (rintro w' hS; obtain ⟨hs0, hs1, hs2, hs3, hs4, hs5, hs6⟩ := hS; go_simp; try with_reducible rfl))
  try simp only [gA, gB, gC, Act.put, gD, gE, gF]
  refine wpAnyH_ready (rs := [46]) (by kernel_rfl) (by simp) ?_
  refine AllReadyH.cons (o := _) rfl (fun K hK => ?_) AllReadyH.nil
  go_simp
  go_at_call 36; (with_reducible refine (H7 _).mono ?_); rintro e v ⟨rfl, hx⟩; have hB1 := hB1.trans (hx.mono hB1.size); clear hx
  dsimp only
  refine hK.out _ _ (hS7 _ hB1) (fun hHeld => ?_)
  clear hK K
  try simp only [gA, gB, gC, Act.put, gD, gE, gF]
  first
    | (refine wpAnyH_take (i := 47) rfl (by kernel_rfl) (by kernel_rfl) (by kernel_rfl) (fun _ _ _ h => hQp _ _ _ _ _ h) (Or.inr ⟨by rfl, rfl⟩) (by assumption) ?_)
    | (refine wpAnyH_take (i := 47) (v := ?vb33) rfl (by kernel_rfl) (by kernel_rfl) (by kernel_rfl) (fun _ _ _ h => hQp _ _ _ _ _ h) (Or.inl ⟨by rfl, ?hyb33⟩) (by assumption) ?rb33; case hyb33 => (rintro w' hS; obtain ⟨hs0, hs1, hs2, hs3, hs4, hs5, hs6⟩ := hS; go_simp; try with_reducible rfl))
  try simp only [gA, gB, gC, Act.put, gD, gE, gF]
  first
    | (refine wpAnyH_take (i := 48) rfl (by kernel_rfl) (by kernel_rfl) (by kernel_rfl) (fun _ _ _ h => hQp _ _ _ _ _ h) (Or.inr ⟨by rfl, rfl⟩) (by assumption) ?_)
    | (refine wpAnyH_take (i := 48) (v := ?vb34) rfl (by kernel_rfl) (by kernel_rfl) (by kernel_rfl) (fun _ _ _ h => hQp _ _ _ _ _ h) (Or.inl ⟨by rfl, ?hyb34⟩) (by assumption) ?rb34; case hyb34 => (rintro w' hS; obtain ⟨hs0, hs1, hs2, hs3, hs4, hs5, hs6⟩ := hS; go_simp; try with_reducible rfl))
  try simp only [gA, gB, gC, Act.put, gD, gE, gF]
  first
    | (refine wpAnyH_take (i := 49) rfl (by kernel_rfl) (by kernel_rfl) (by kernel_rfl) (fun _ _ _ h => hQp _ _ _ _ _ h) (Or.inr ⟨by rfl, rfl⟩) (by assumption) ?_)
    | (refine wpAnyH_take (i := 49) (v := ?vb35) rfl (by kernel_rfl) (by kernel_rfl) (by kernel_rfl) (fun _ _ _ h => hQp _ _ _ _ _ h) (Or.inl ⟨by rfl, ?hyb35⟩) (by assumption) ?rb35; case hyb35 => (rintro w' hS; obtain ⟨hs0, hs1, hs2, hs3, hs4, hs5, hs6⟩ := hS; go_simp; try with_reducible rfl))
  try simp only [gA, gB, gC, Act.put, gD, gE, gF]
  first
    | (refine wpAnyH_take (i := 50) rfl (by kernel_rfl) (by kernel_rfl) (by kernel_rfl) (fun _ _ _ h => hQp _ _ _ _ _ h) (Or.inr ⟨by rfl, rfl⟩) (by assumption) ?_)
    | (refine wpAnyH_take (i := 50) (v := ?vb36) rfl (by kernel_rfl) (by kernel_rfl) (by kernel_rfl) (fun _ _ _ h => hQp _ _ _ _ _ h) (Or.inl ⟨by rfl, ?hyb36⟩) (by assumption) ?rb36; case hyb36 => (rintro w' hS; obtain ⟨hs0, hs1, hs2, hs3, hs4, hs5, hs6⟩ := hS; go_simp; try with_reducible rfl))
  try simp only [gA, gB, gC, Act.put, gD, gE, gF]
  first
    | (refine wpAnyH_take (i := 51) rfl (by kernel_rfl) (by kernel_rfl) (by kernel_rfl) (fun _ _ _ h => hQp _ _ _ _ _ h) (Or.inr ⟨by rfl, rfl⟩) (by assumption) ?_)
    | (refine wpAnyH_take (i := 51) (v := ?vb37) rfl (by kernel_rfl) (by kernel_rfl) (by kernel_rfl) (fun _ _ _ h => hQp _ _ _ _ _ h) (Or.inl ⟨by rfl, ?hyb37⟩) (by assumption) ?rb37; case hyb37 => (rintro w' hS; obtain ⟨hs0, hs1, hs2, hs3, hs4, hs5, hs6⟩ := hS; go_simp; try with_reducible rfl))
  try simp only [gA, gB, gC, Act.put, gD, gE, gF]
  first
    | (refine wpAnyH_take (i := 52) rfl (by kernel_rfl) (by kernel_rfl) (by kernel_rfl) (fun _ _ _ h => hQp _ _ _ _ _ h) (Or.inr ⟨by rfl, rfl⟩) (by assumption) ?_)
    | (refine wpAnyH_take (i := 52) (v := ?vb38) rfl (by kernel_rfl) (by kernel_rfl) (by kernel_rfl) (fun _ _ _ h => hQp _ _ _ _ _ h) (Or.inl ⟨by rfl, ?hyb38⟩) (by assumption) ?rb38; case hyb38 => (rintro w' hS; obtain ⟨hs0, hs1, hs2, hs3, hs4, hs5, hs6⟩ := hS; go_simp; try with_reducible rfl))
  try simp only [gA, gB, gC, Act.put, gD, gE, gF]
  refine wpAnyH_ready (rs := [53]) (by kernel_rfl) (by simp) ?_
  refine AllReadyH.cons (o := _) rfl (fun K hK => ?_) AllReadyH.nil
  go_simp
  go_at_call 38; (with_reducible refine (H8 _).mono ?_); rintro e v ⟨rfl, hx⟩; have hB1 := hB1.trans (hx.mono hB1.size); clear hx
  dsimp only
  refine hK.out _ _ (hS7 _ hB1) (fun hHeld => ?_)
  clear hK K
  try simp only [gA, gB, gC, Act.put, gD, gE, gF]
  first
    | (refine wpAnyH_take (i := 54) rfl (by kernel_rfl) (by kernel_rfl) (by kernel_rfl) (fun _ _ _ h => hQp _ _ _ _ _ h) (Or.inr ⟨by rfl, rfl⟩) (by assumption) ?_)
    | (refine wpAnyH_take (i := 54) (v := ?vb39) rfl (by kernel_rfl) (by kernel_rfl) (by kernel_rfl) (fun _ _ _ h => hQp _ _ _ _ _ h) (Or.inl ⟨by rfl, ?hyb39⟩) (by assumption) ?rb39; case hyb39 => (rintro w' hS; obtain ⟨hs0, hs1, hs2, hs3, hs4, hs5, hs6⟩ := hS; go_simp; try with_reducible rfl))
  try simp only [gA, gB, gC, Act.put, gD, gE, gF]
  first
    | (refine wpAnyH_take (i := 55) rfl (by kernel_rfl) (by kernel_rfl) (by kernel_rfl) (fun _ _ _ h => hQp _ _ _ _ _ h) (Or.inr ⟨by rfl, rfl⟩) (by assumption) ?_)
    | (refine wpAnyH_take (i := 55) (v := ?vb40) rfl (by kernel_rfl) (by kernel_rfl) (by kernel_rfl) (fun _ _ _ h => hQp _ _ _ _ _ h) (Or.inl ⟨by rfl, ?hyb40⟩) (by assumption) ?rb40; case hyb40 => (rintro w' hS; obtain ⟨hs0, hs1, hs2, hs3, hs4, hs5, hs6⟩ := hS; go_simp; try with_reducible rfl))
  try simp only [gA, gB, gC, Act.put, gD, gE, gF]
  first
    | (refine wpAnyH_take (i := 56) rfl (by kernel_rfl) (by kernel_rfl) (by kernel_rfl) (fun _ _ _ h => hQp _ _ _ _ _ h) (Or.inr ⟨by rfl, rfl⟩) (by assumption) ?_)
    | (refine wpAnyH_take (i := 56) (v := ?vb41) rfl (by kernel_rfl) (by kernel_rfl) (by kernel_rfl) (fun _ _ _ h => hQp _ _ _ _ _ h) (Or.inl ⟨by rfl, ?hyb41⟩) (by assumption) ?rb41; case hyb41 => (rintro w' hS; obtain ⟨hs0, hs1, hs2, hs3, hs4, hs5, hs6⟩ := hS; go_simp; try with_reducible rfl))
  try simp only [gA, gB, gC, Act.put, gD, gE, gF]
  first
    | (refine wpAnyH_take (i := 57) rfl (by kernel_rfl) (by kernel_rfl) (by kernel_rfl) (fun _ _ _ h => hQp _ _ _ _ _ h) (Or.inr ⟨by rfl, rfl⟩) (by assumption) ?_)
    | (refine wpAnyH_take (i := 57) (v := ?vb42) rfl (by kernel_rfl) (by kernel_rfl) (by kernel_rfl) (fun _ _ _ h => hQp _ _ _ _ _ h) (Or.inl ⟨by rfl, ?hyb42⟩) (by assumption) ?rb42; case hyb42 => (rintro w' hS; obtain ⟨hs0, hs1, hs2, hs3, hs4, hs5, hs6⟩ := hS; go_simp; try with_reducible rfl))
  try simp only [gA, gB, gC, Act.put, gD, gE, gF]
  refine wpAnyH_ready (rs := [58]) (by kernel_rfl) (by simp) ?_
  refine AllReadyH.cons (o := _) rfl (fun K hK => ?_) AllReadyH.nil
  go_simp
  go_at_call 47; (with_reducible refine (H9 _).mono ?_); rintro e v ⟨rfl, hx⟩; have hB1 := hB1.trans (hx.mono hB1.size); clear hx
  dsimp only
  refine hK.out _ _ (hS7 _ hB1) (fun hHeld => ?_)
  clear hK K
  try simp only [gA, gB, gC, Act.put, gD, gE, gF]
  first
    | (refine wpAnyH_take (i := 59) rfl (by kernel_rfl) (by kernel_rfl) (by kernel_rfl) (fun _ _ _ h => hQp _ _ _ _ _ h) (Or.inr ⟨by rfl, rfl⟩) (by assumption) ?_)
    | (refine wpAnyH_take (i := 59) (v := ?vb43) rfl (by kernel_rfl) (by kernel_rfl) (by kernel_rfl) (fun _ _ _ h => hQp _ _ _ _ _ h) (Or.inl ⟨by rfl, ?hyb43⟩) (by assumption) ?rb43; case hyb43 => (rintro w' hS; obtain ⟨hs0, hs1, hs2, hs3, hs4, hs5, hs6⟩ := hS; go_simp; try with_reducible rfl))
  try simp only [gA, gB, gC, Act.put, gD, gE, gF]
  first
    | (refine wpAnyH_take (i := 60) rfl (by kernel_rfl) (by kernel_rfl) (by kernel_rfl) (fun _ _ _ h => hQp _ _ _ _ _ h) (Or.inr ⟨by rfl, rfl⟩) (by assumption) ?_)
    | (refine wpAnyH_take (i := 60) (v := ?vb44) rfl (by kernel_rfl) (by kernel_rfl) (by kernel_rfl) (fun _ _ _ h => hQp _ _ _ _ _ h) (Or.inl ⟨by rfl, ?hyb44⟩) (by assumption) ?rb44; case hyb44 => (rintro w' hS; obtain ⟨hs0, hs1, hs2, hs3, hs4, hs5, hs6⟩ := hS; go_simp; try with_reducible rfl))
  try simp only [gA, gB, gC, Act.put, gD, gE, gF]
  first
    | (refine wpAnyH_take (i := 61) rfl (by kernel_rfl) (by kernel_rfl) (by kernel_rfl) (fun _ _ _ h => hQp _ _ _ _ _ h) (Or.inr ⟨by rfl, rfl⟩) (by assumption) ?_)
    | (refine wpAnyH_take (i := 61) (v := ?vb45) rfl (by kernel_rfl) (by kernel_rfl) (by kernel_rfl) (fun _ _ _ h => hQp _ _ _ _ _ h) (Or.inl ⟨by rfl, ?hyb45⟩) (by assumption) ?rb45; case hyb45 => (rintro w' hS; obtain ⟨hs0, hs1, hs2, hs3, hs4, hs5, hs6⟩ := hS; go_simp; try with_reducible rfl))
  try simp only [gA, gB, gC, Act.put, gD, gE, gF]
  first
    | (refine wpAnyH_take (i := 62) rfl (by kernel_rfl) (by kernel_rfl) (by kernel_rfl) (fun _ _ _ h => hQp _ _ _ _ _ h) (Or.inr ⟨by rfl, rfl⟩) (by assumption) ?_)
    | (refine wpAnyH_take (i := 62) (v := ?vb46) rfl (by kernel_rfl) (by kernel_rfl) (by kernel_rfl) (fun _ _ _ h => hQp _ _ _ _ _ h) (Or.inl ⟨by rfl, ?hyb46⟩) (by assumption) ?rb46; case hyb46 => (rintro w' hS; obtain ⟨hs0, hs1, hs2, hs3, hs4, hs5, hs6⟩ := hS; go_simp; try with_reducible rfl))
  try simp only [gA, gB, gC, Act.put, gD, gE, gF]
  refine wpAnyH_ready (rs := [63]) (by kernel_rfl) (by simp) ?_
  refine AllReadyH.cons (o := _) rfl (fun K hK => ?_) AllReadyH.nil
  go_simp
  go_at_call 26; (with_reducible refine (H10 _).mono ?_); rintro e v ⟨rfl, hx⟩; have hB1 := hB1.trans (hx.mono hB1.size); clear hx
  dsimp only
  refine hK.out _ _ (hS7 _ hB1) (fun hHeld => ?_)
  clear hK K
  try simp only [gA, gB, gC, Act.put, gD, gE, gF]
  first
    | (refine wpAnyH_take (i := 64) rfl (by kernel_rfl) (by kernel_rfl) (by kernel_rfl) (fun _ _ _ h => hQp _ _ _ _ _ h) (Or.inr ⟨by rfl, rfl⟩) (by assumption) ?_)
    | (refine wpAnyH_take (i := 64) (v := ?vb47) rfl (by kernel_rfl) (by kernel_rfl) (by kernel_rfl) (fun _ _ _ h => hQp _ _ _ _ _ h) (Or.inl ⟨by rfl, ?hyb47⟩) (by assumption) ?rb47; case hyb47 => (rintro w' hS; obtain ⟨hs0, hs1, hs2, hs3, hs4, hs5, hs6⟩ := hS; go_simp; try with_reducible rfl))
  try simp only [gA, gB, gC, Act.put, gD, gE, gF]
  first
    | (refine wpAnyH_take (i := 65) rfl (by kernel_rfl) (by kernel_rfl) (by kernel_rfl) (fun _ _ _ h => hQp _ _ _ _ _ h) (Or.inr ⟨by rfl, rfl⟩) (by assumption) ?_)
    | (refine wpAnyH_take (i := 65) (v := ?vb48) rfl (by kernel_rfl) (by kernel_rfl) (by kernel_rfl) (fun _ _ _ h => hQp _ _ _ _ _ h) (Or.inl ⟨by rfl, ?hyb48⟩) (by assumption) ?rb48; case hyb48 => (rintro w' hS; obtain ⟨hs0, hs1, hs2, hs3, hs4, hs5, hs6⟩ := hS; go_simp; try with_reducible rfl))
  try simp only [gA, gB, gC, Act.put, gD, gE, gF]
  first
    | (refine wpAnyH_take (i := 66) rfl (by kernel_rfl) (by kernel_rfl) (by kernel_rfl) (fun _ _ _ h => hQp _ _ _ _ _ h) (Or.inr ⟨by rfl, rfl⟩) (by assumption) ?_)
    | (refine wpAnyH_take (i := 66) (v := ?vb49) rfl (by kernel_rfl) (by kernel_rfl) (by kernel_rfl) (fun _ _ _ h => hQp _ _ _ _ _ h) (Or.inl ⟨by rfl, ?hyb49⟩) (by assumption) ?rb49; case hyb49 => (rintro w' hS; obtain ⟨hs0, hs1, hs2, hs3, hs4, hs5, hs6⟩ := hS; go_simp; try with_reducible rfl))
  try simp only [gA, gB, gC, Act.put, gD, gE, gF]
  first
    | (refine wpAnyH_take (i := 67) rfl (by kernel_rfl) (by kernel_rfl) (by kernel_rfl) (fun _ _ _ h => hQp _ _ _ _ _ h) (Or.inr ⟨by rfl, rfl⟩) (by assumption) ?_)
    | (refine wpAnyH_take (i := 67) (v := ?vb50) rfl (by kernel_rfl) (by kernel_rfl) (by kernel_rfl) (fun _ _ _ h => hQp _ _ _ _ _ h) (Or.inl ⟨by rfl, ?hyb50⟩) (by assumption) ?rb50; case hyb50 => (rintro w' hS; obtain ⟨hs0, hs1, hs2, hs3, hs4, hs5, hs6⟩ := hS; go_simp; try with_reducible rfl))
  try simp only [gA, gB, gC, Act.put, gD, gE, gF]
  first
    | (refine wpAnyH_take (i := 68) rfl (by kernel_rfl) (by kernel_rfl) (by kernel_rfl) (fun _ _ _ h => hQp _ _ _ _ _ h) (Or.inr ⟨by rfl, rfl⟩) (by assumption) ?_)
    | (refine wpAnyH_take (i := 68) (v := ?vb51) rfl (by kernel_rfl) (by kernel_rfl) (by kernel_rfl) (fun _ _ _ h => hQp _ _ _ _ _ h) (Or.inl ⟨by rfl, ?hyb51⟩) (by assumption) ?rb51; case hyb51 => (rintro w' hS; obtain ⟨hs0, hs1, hs2, hs3, hs4, hs5, hs6⟩ := hS; go_simp; try with_reducible rfl))
  try simp only [gA, gB, gC, Act.put, gD, gE, gF]
  first
    | (refine wpAnyH_take (i := 69) rfl (by kernel_rfl) (by kernel_rfl) (by kernel_rfl) (fun _ _ _ h => hQp _ _ _ _ _ h) (Or.inr ⟨by rfl, rfl⟩) (by assumption) ?_)
    | (refine wpAnyH_take (i := 69) (v := ?vb52) rfl (by kernel_rfl) (by kernel_rfl) (by kernel_rfl) (fun _ _ _ h => hQp _ _ _ _ _ h) (Or.inl ⟨by rfl, ?hyb52⟩) (by assumption) ?rb52; case hyb52 => (rintro w' hS; obtain ⟨hs0, hs1, hs2, hs3, hs4, hs5, hs6⟩ := hS; go_simp; try with_reducible rfl))
  try simp only [gA, gB, gC, Act.put, gD, gE, gF]
  refine wpAnyH_ready (rs := [70]) (by kernel_rfl) (by simp) ?_
  refine AllReadyH.cons (o := _) rfl (fun K hK => ?_) AllReadyH.nil
  go_simp
  go_at_call 21; (with_reducible refine (H11 _).mono ?_); rintro e v ⟨rfl, hx⟩; have hB1 := hB1.trans (hx.mono hB1.size); clear hx
  dsimp only
  refine hK.out _ _ (hS7 _ hB1) (fun hHeld => ?_)
  clear hK K
  try simp only [gA, gB, gC, Act.put, gD, gE, gF]
  first
    | (refine wpAnyH_take (i := 71) rfl (by kernel_rfl) (by kernel_rfl) (by kernel_rfl) (fun _ _ _ h => hQp _ _ _ _ _ h) (Or.inr ⟨by rfl, rfl⟩) (by assumption) ?_)
    | (refine wpAnyH_take (i := 71) (v := ?vb53) rfl (by kernel_rfl) (by kernel_rfl) (by kernel_rfl) (fun _ _ _ h => hQp _ _ _ _ _ h) (Or.inl ⟨by rfl, ?hyb53⟩) (by assumption) ?rb53; case hyb53 => (rintro w' hS; obtain ⟨hs0, hs1, hs2, hs3, hs4, hs5, hs6⟩ := hS; go_simp; try with_reducible rfl))
  try simp only [gA, gB, gC, Act.put, gD, gE, gF]
  first
    | (refine wpAnyH_take (i := 72) rfl (by kernel_rfl) (by kernel_rfl) (by kernel_rfl) (fun _ _ _ h => hQp _ _ _ _ _ h) (Or.inr ⟨by rfl, rfl⟩) (by assumption) ?_)
    | (refine wpAnyH_take (i := 72) (v := ?vb54) rfl (by kernel_rfl) (by kernel_rfl) (by kernel_rfl) (fun _ _ _ h => hQp _ _ _ _ _ h) (Or.inl ⟨by rfl, ?hyb54⟩) (by assumption) ?rb54; case hyb54 => (rintro w' hS; obtain ⟨hs0, hs1, hs2, hs3, hs4, hs5, hs6⟩ := hS; go_simp; try with_reducible rfl))
  try simp only [gA, gB, gC, Act.put, gD, gE, gF]
  first
    | (refine wpAnyH_take (i := 73) rfl (by kernel_rfl) (by kernel_rfl) (by kernel_rfl) (fun _ _ _ h => hQp _ _ _ _ _ h) (Or.inr ⟨by rfl, rfl⟩) (by assumption) ?_)
    | (refine wpAnyH_take (i := 73) (v := ?vb55) rfl (by kernel_rfl) (by kernel_rfl) (by kernel_rfl) (fun _ _ _ h => hQp _ _ _ _ _ h) (Or.inl ⟨by rfl, ?hyb55⟩) (by assumption) ?rb55; case hyb55 => (rintro w' hS; obtain ⟨hs0, hs1, hs2, hs3, hs4, hs5, hs6⟩ := hS; go_simp; try with_reducible rfl))
  try simp only [gA, gB, gC, Act.put, gD, gE, gF]
  first
    | (refine wpAnyH_take (i := 74) rfl (by kernel_rfl) (by kernel_rfl) (by kernel_rfl) (fun _ _ _ h => hQp _ _ _ _ _ h) (Or.inr ⟨by rfl, rfl⟩) (by assumption) ?_)
    | (refine wpAnyH_take (i := 74) (v := ?vb56) rfl (by kernel_rfl) (by kernel_rfl) (by kernel_rfl) (fun _ _ _ h => hQp _ _ _ _ _ h) (Or.inl ⟨by rfl, ?hyb56⟩) (by assumption) ?rb56; case hyb56 => (rintro w' hS; obtain ⟨hs0, hs1, hs2, hs3, hs4, hs5, hs6⟩ := hS; go_simp; try with_reducible rfl))
  try simp only [gA, gB, gC, Act.put, gD, gE, gF]
  first
    | (refine wpAnyH_take (i := 75) rfl (by kernel_rfl) (by kernel_rfl) (by kernel_rfl) (fun _ _ _ h => hQp _ _ _ _ _ h) (Or.inr ⟨by rfl, rfl⟩) (by assumption) ?_)
    | (refine wpAnyH_take (i := 75) (v := ?vb57) rfl (by kernel_rfl) (by kernel_rfl) (by kernel_rfl) (fun _ _ _ h => hQp _ _ _ _ _ h) (Or.inl ⟨by rfl, ?hyb57⟩) (by assumption) ?rb57; case hyb57 => (rintro w' hS; obtain ⟨hs0, hs1, hs2, hs3, hs4, hs5, hs6⟩ := hS; go_simp; try with_reducible rfl))
  try simp only [gA, gB, gC, Act.put, gD, gE, gF]
  first
    | (refine wpAnyH_take (i := 76) rfl (by kernel_rfl) (by kernel_rfl) (by kernel_rfl) (fun _ _ _ h => hQp _ _ _ _ _ h) (Or.inr ⟨by rfl, rfl⟩) (by assumption) ?_)
    | (refine wpAnyH_take (i := 76) (v := ?vb58) rfl (by kernel_rfl) (by kernel_rfl) (by kernel_rfl) (fun _ _ _ h => hQp _ _ _ _ _ h) (Or.inl ⟨by rfl, ?hyb58⟩) (by assumption) ?rb58; case hyb58 => (rintro w' hS; obtain ⟨hs0, hs1, hs2, hs3, hs4, hs5, hs6⟩ := hS; go_simp; try with_reducible rfl))
  try simp only [gA, gB, gC, Act.put, gD, gE, gF]
  refine wpAnyH_ready (rs := [77]) (by kernel_rfl) (by simp) ?_
  refine AllReadyH.cons (o := _) rfl (fun K hK => ?_) AllReadyH.nil
  go_simp
  go_at_call 23; (with_reducible refine (H12 _).mono ?_); rintro e v ⟨rfl, hx⟩; have hB1 := hB1.trans (hx.mono hB1.size); clear hx
  dsimp only
  refine hK.out _ _ (hS7 _ hB1) (fun hHeld => ?_)
  clear hK K
  try simp only [gA, gB, gC, Act.put, gD, gE, gF]
  first
    | (refine wpAnyH_take (i := 78) rfl (by kernel_rfl) (by kernel_rfl) (by kernel_rfl) (fun _ _ _ h => hQp _ _ _ _ _ h) (Or.inr ⟨by rfl, rfl⟩) (by assumption) ?_)
    | (refine wpAnyH_take (i := 78) (v := ?vb59) rfl (by kernel_rfl) (by kernel_rfl) (by kernel_rfl) (fun _ _ _ h => hQp _ _ _ _ _ h) (Or.inl ⟨by rfl, ?hyb59⟩) (by assumption) ?rb59; case hyb59 => (rintro w' hS; obtain ⟨hs0, hs1, hs2, hs3, hs4, hs5, hs6⟩ := hS; go_simp; try with_reducible rfl))
  try simp only [gA, gB, gC, Act.put, gD, gE, gF]
  first
    | (refine wpAnyH_take (i := 79) rfl (by kernel_rfl) (by kernel_rfl) (by kernel_rfl) (fun _ _ _ h => hQp _ _ _ _ _ h) (Or.inr ⟨by rfl, rfl⟩) (by assumption) ?_)
    | (refine wpAnyH_take (i := 79) (v := ?vb60) rfl (by kernel_rfl) (by kernel_rfl) (by kernel_rfl) (fun _ _ _ h => hQp _ _ _ _ _ h) (Or.inl ⟨by rfl, ?hyb60⟩) (by assumption) ?rb60; case hyb60 => (rintro w' hS; obtain ⟨hs0, hs1, hs2, hs3, hs4, hs5, hs6⟩ := hS; go_simp; try with_reducible rfl))
  try simp only [gA, gB, gC, Act.put, gD, gE, gF]
  first
    | (refine wpAnyH_take (i := 80) rfl (by kernel_rfl) (by kernel_rfl) (by kernel_rfl) (fun _ _ _ h => hQp _ _ _ _ _ h) (Or.inr ⟨by rfl, rfl⟩) (by assumption) ?_)
    | (refine wpAnyH_take (i := 80) (v := ?vb61) rfl (by kernel_rfl) (by kernel_rfl) (by kernel_rfl) (fun _ _ _ h => hQp _ _ _ _ _ h) (Or.inl ⟨by rfl, ?hyb61⟩) (by assumption) ?rb61; case hyb61 => (rintro w' hS; obtain ⟨hs0, hs1, hs2, hs3, hs4, hs5, hs6⟩ := hS; go_simp; try with_reducible rfl))
  try simp only [gA, gB, gC, Act.put, gD, gE, gF]
  first
    | (refine wpAnyH_take (i := 81) rfl (by kernel_rfl) (by kernel_rfl) (by kernel_rfl) (fun _ _ _ h => hQp _ _ _ _ _ h) (Or.inr ⟨by rfl, rfl⟩) (by assumption) ?_)
    | (refine wpAnyH_take (i := 81) (v := ?vb62) rfl (by kernel_rfl) (by kernel_rfl) (by kernel_rfl) (fun _ _ _ h => hQp _ _ _ _ _ h) (Or.inl ⟨by rfl, ?hyb62⟩) (by assumption) ?rb62; case hyb62 => (rintro w' hS; obtain ⟨hs0, hs1, hs2, hs3, hs4, hs5, hs6⟩ := hS; go_simp; try with_reducible rfl))
  try simp only [gA, gB, gC, Act.put, gD, gE, gF]
  first
    | (refine wpAnyH_take (i := 82) rfl (by kernel_rfl) (by kernel_rfl) (by kernel_rfl) (fun _ _ _ h => hQp _ _ _ _ _ h) (Or.inr ⟨by rfl, rfl⟩) (by assumption) ?_)
    | (refine wpAnyH_take (i := 82) (v := ?vb63) rfl (by kernel_rfl) (by kernel_rfl) (by kernel_rfl) (fun _ _ _ h => hQp _ _ _ _ _ h) (Or.inl ⟨by rfl, ?hyb63⟩) (by assumption) ?rb63; case hyb63 => (rintro w' hS; obtain ⟨hs0, hs1, hs2, hs3, hs4, hs5, hs6⟩ := hS; go_simp; try with_reducible rfl))
  try simp only [gA, gB, gC, Act.put, gD, gE, gF]
  first
    | (refine wpAnyH_take (i := 83) rfl (by kernel_rfl) (by kernel_rfl) (by kernel_rfl) (fun _ _ _ h => hQp _ _ _ _ _ h) (Or.inr ⟨by rfl, rfl⟩) (by assumption) ?_)
    | (refine wpAnyH_take (i := 83) (v := ?vb64) rfl (by kernel_rfl) (by kernel_rfl) (by kernel_rfl) (fun _ _ _ h => hQp _ _ _ _ _ h) (Or.inl ⟨by rfl, ?hyb64⟩) (by assumption) ?rb64; case hyb64 => (rintro w' hS; obtain ⟨hs0, hs1, hs2, hs3, hs4, hs5, hs6⟩ := hS; go_simp; try with_reducible rfl))
  try simp only [gA, gB, gC, Act.put, gD, gE, gF]
  refine wpAnyH_ready (rs := [84]) (by kernel_rfl) (by simp) ?_
  refine AllReadyH.cons (o := _) rfl (fun K hK => ?_) AllReadyH.nil
  go_simp
  go_at_call 25; (with_reducible refine (H13 _).mono ?_); rintro e v ⟨rfl, hx⟩; have hB1 := hB1.trans (hx.mono hB1.size); clear hx
  dsimp only
  refine hK.out _ _ (hS7 _ hB1) (fun hHeld => ?_)
  clear hK K
  try simp only [gA, gB, gC, Act.put, gD, gE, gF]
  first
    | (refine wpAnyH_take (i := 85) rfl (by kernel_rfl) (by kernel_rfl) (by kernel_rfl) (fun _ _ _ h => hQp _ _ _ _ _ h) (Or.inr ⟨by rfl, rfl⟩) (by assumption) ?_)
    | (refine wpAnyH_take (i := 85) (v := ?vb65) rfl (by kernel_rfl) (by kernel_rfl) (by kernel_rfl) (fun _ _ _ h => hQp _ _ _ _ _ h) (Or.inl ⟨by rfl, ?hyb65⟩) (by assumption) ?rb65; case hyb65 => (rintro w' hS; obtain ⟨hs0, hs1, hs2, hs3, hs4, hs5, hs6⟩ := hS; go_simp; try with_reducible rfl))
  try simp only [gA, gB, gC, Act.put, gD, gE, gF]
  first
    | (refine wpAnyH_take (i := 86) rfl (by kernel_rfl) (by kernel_rfl) (by kernel_rfl) (fun _ _ _ h => hQp _ _ _ _ _ h) (Or.inr ⟨by rfl, rfl⟩) (by assumption) ?_)
    | (refine wpAnyH_take (i := 86) (v := ?vb66) rfl (by kernel_rfl) (by kernel_rfl) (by kernel_rfl) (fun _ _ _ h => hQp _ _ _ _ _ h) (Or.inl ⟨by rfl, ?hyb66⟩) (by assumption) ?rb66; case hyb66 => (rintro w' hS; obtain ⟨hs0, hs1, hs2, hs3, hs4, hs5, hs6⟩ := hS; go_simp; try with_reducible rfl))
  try simp only [gA, gB, gC, Act.put, gD, gE, gF]
  first
    | (refine wpAnyH_take (i := 87) rfl (by kernel_rfl) (by kernel_rfl) (by kernel_rfl) (fun _ _ _ h => hQp _ _ _ _ _ h) (Or.inr ⟨by rfl, rfl⟩) (by assumption) ?_)
    | (refine wpAnyH_take (i := 87) (v := ?vb67) rfl (by kernel_rfl) (by kernel_rfl) (by kernel_rfl) (fun _ _ _ h => hQp _ _ _ _ _ h) (Or.inl ⟨by rfl, ?hyb67⟩) (by assumption) ?rb67; case hyb67 => (rintro w' hS; obtain ⟨hs0, hs1, hs2, hs3, hs4, hs5, hs6⟩ := hS; go_simp; try with_reducible rfl))
  try simp only [gA, gB, gC, Act.put, gD, gE, gF]
  first
    | (refine wpAnyH_take (i := 88) rfl (by kernel_rfl) (by kernel_rfl) (by kernel_rfl) (fun _ _ _ h => hQp _ _ _ _ _ h) (Or.inr ⟨by rfl, rfl⟩) (by assumption) ?_)
    | (refine wpAnyH_take (i := 88) (v := ?vb68) rfl (by kernel_rfl) (by kernel_rfl) (by kernel_rfl) (fun _ _ _ h => hQp _ _ _ _ _ h) (Or.inl ⟨by rfl, ?hyb68⟩) (by assumption) ?rb68; case hyb68 => (rintro w' hS; obtain ⟨hs0, hs1, hs2, hs3, hs4, hs5, hs6⟩ := hS; go_simp; try with_reducible rfl))
  try simp only [gA, gB, gC, Act.put, gD, gE, gF]
  refine wpAnyH_ready (rs := [89]) (by kernel_rfl) (by simp) ?_
  refine AllReadyH.cons (o := _) rfl (fun K hK => ?_) AllReadyH.nil
  go_simp
  go_at_call 48; (with_reducible refine (H14 _).mono ?_); rintro e v ⟨a1, n1, c1, rfl, hr1, hx⟩; obtain rfl : 0 = n1 := hr1.leq; have hB1 := hB1.trans (hx.mono hB1.size); clear hx
  dsimp only
  refine hK.out _ _ (hS7 _ hB1) (fun hHeld => ?_)
  clear hK K
  try simp only [gA, gB, gC, Act.put, gD, gE, gF]
  first
    | (refine wpAnyH_take (i := 90) rfl (by kernel_rfl) (by kernel_rfl) (by kernel_rfl) (fun _ _ _ h => hQp _ _ _ _ _ h) (Or.inr ⟨by rfl, rfl⟩) (by assumption) ?_)
    | (refine wpAnyH_take (i := 90) (v := ?vb69) rfl (by kernel_rfl) (by kernel_rfl) (by kernel_rfl) (fun _ _ _ h => hQp _ _ _ _ _ h) (Or.inl ⟨by rfl, ?hyb69⟩) (by assumption) ?rb69; case hyb69 => (rintro w' hS; obtain ⟨hs0, hs1, hs2, hs3, hs4, hs5, hs6⟩ := hS; go_simp; try with_reducible rfl))
  try simp only [gA, gB, gC, Act.put, gD, gE, gF]
  first
    | (refine wpAnyH_take (i := 91) rfl (by kernel_rfl) (by kernel_rfl) (by kernel_rfl) (fun _ _ _ h => hQp _ _ _ _ _ h) (Or.inr ⟨by rfl, rfl⟩) (by assumption) ?_)
    | (refine wpAnyH_take (i := 91) (v := ?vb70) rfl (by kernel_rfl) (by kernel_rfl) (by kernel_rfl) (fun _ _ _ h => hQp _ _ _ _ _ h) (Or.inl ⟨by rfl, ?hyb70⟩) (by assumption) ?rb70; case hyb70 => (rintro w' hS; obtain ⟨hs0, hs1, hs2, hs3, hs4, hs5, hs6⟩ := hS; go_simp; try with_reducible rfl))
  try simp only [gA, gB, gC, Act.put, gD, gE, gF]
  first
    | (refine wpAnyH_take (i := 92) rfl (by kernel_rfl) (by kernel_rfl) (by kernel_rfl) (fun _ _ _ h => hQp _ _ _ _ _ h) (Or.inr ⟨by rfl, rfl⟩) (by assumption) ?_)
    | (refine wpAnyH_take (i := 92) (v := ?vb71) rfl (by kernel_rfl) (by kernel_rfl) (by kernel_rfl) (fun _ _ _ h => hQp _ _ _ _ _ h) (Or.inl ⟨by rfl, ?hyb71⟩) (by assumption) ?rb71; case hyb71 => (rintro w' hS; obtain ⟨hs0, hs1, hs2, hs3, hs4, hs5, hs6⟩ := hS; go_simp; try with_reducible rfl))
  try simp only [gA, gB, gC, Act.put, gD, gE, gF]
  first
    | (refine wpAnyH_take (i := 93) rfl (by kernel_rfl) (by kernel_rfl) (by kernel_rfl) (fun _ _ _ h => hQp _ _ _ _ _ h) (Or.inr ⟨by rfl, rfl⟩) (by assumption) ?_)
    | (refine wpAnyH_take (i := 93) (v := ?vb72) rfl (by kernel_rfl) (by kernel_rfl) (by kernel_rfl) (fun _ _ _ h => hQp _ _ _ _ _ h) (Or.inl ⟨by rfl, ?hyb72⟩) (by assumption) ?rb72; case hyb72 => (rintro w' hS; obtain ⟨hs0, hs1, hs2, hs3, hs4, hs5, hs6⟩ := hS; go_simp; try with_reducible rfl))
  try simp only [gA, gB, gC, Act.put, gD, gE, gF]
  refine wpAnyH_ready (rs := [94]) (by kernel_rfl) (by simp) ?_
  refine AllReadyH.cons (o := _) rfl (fun K hK => ?_) AllReadyH.nil
  go_simp
  go_at_call 16; (with_reducible refine (HAW _ hB1).mono ?_); rintro e v ⟨rfl, hx⟩; have hB1 := hB1.trans (hx.mono hB1.size); clear hx
  dsimp only
  refine hK.out _ _ (hS7 _ hB1) (fun hHeld => ?_)
  clear hK K
  try simp only [gA, gB, gC, Act.put, gD, gE, gF]
  first
    | (refine wpAnyH_take (i := 95) rfl (by kernel_rfl) (by kernel_rfl) (by kernel_rfl) (fun _ _ _ h => hQp _ _ _ _ _ h) (Or.inr ⟨by rfl, rfl⟩) (by assumption) ?_)
    | (refine wpAnyH_take (i := 95) (v := ?vb73) rfl (by kernel_rfl) (by kernel_rfl) (by kernel_rfl) (fun _ _ _ h => hQp _ _ _ _ _ h) (Or.inl ⟨by rfl, ?hyb73⟩) (by assumption) ?rb73; case hyb73 => (rintro w' hS; obtain ⟨hs0, hs1, hs2, hs3, hs4, hs5, hs6⟩ := hS; go_simp; try with_reducible rfl))
  try simp only [gA, gB, gC, Act.put, gD, gE, gF]
  first
    | (refine wpAnyH_take (i := 96) rfl (by kernel_rfl) (by kernel_rfl) (by kernel_rfl) (fun _ _ _ h => hQp _ _ _ _ _ h) (Or.inr ⟨by rfl, rfl⟩) (by assumption) ?_)
    | (refine wpAnyH_take (i := 96) (v := ?vb74) rfl (by kernel_rfl) (by kernel_rfl) (by kernel_rfl) (fun _ _ _ h => hQp _ _ _ _ _ h) (Or.inl ⟨by rfl, ?hyb74⟩) (by assumption) ?rb74; case hyb74 => (rintro w' hS; obtain ⟨hs0, hs1, hs2, hs3, hs4, hs5, hs6⟩ := hS; go_simp; try with_reducible rfl))
  try simp only [gA, gB, gC, Act.put, gD, gE, gF]
  refine wpAnyH_done (by kernel_rfl) ?_ _
  exact hend _ _ _ _ _ _ _ _ _ _ _ _ _ _ _ _ _ _ _ _ _ _ _ _ _ _ _ _ _ _ _ _ _ _ _ _ _ _ _ _ _ _ _ _ _ _ _ _ _ _ _ _ _ _ _ _ _ _ _ _ _ _ _ _ _ _ _ _ _ _ _ _ _ _ _ _ _ _ _ _ _ _ _ _ _ _ _ _ _ _ _ _ _ _ _ _ _ _ _ _ _ _ _ _ _ _ _ _ _ _ _ _ _ _ _ _ _ _ _ _ _ hB1
set_option maxHeartbeats 8000000 in
set_option maxRecDepth 100000 in
theorem nilsW (r : EvR) (A : Array Value) (hA : (encE r).toArray = A) (w : World) (hE : RowOf encD 3 w r.a r.e.over.length r.c r.e.over) (hT : r.e.item.name.length ≤ maxLen ∧ r.e.item.dom.length ≤ maxLen ∧ r.e.item.path.length ≤ maxLen ∧ r.e.item.val.length ≤ maxLen) (hFr : FitD r.e.dot) (hkr : fitK (kOf r.e.item)) (hTb : OTb w) :
    Calls Tryz.prog 7 #[.agg A] w fun en w' => en = .returned (.bool true) ∧ Below w.heap.size w w' := by
  obtain ⟨Z, hZ⟩ : ∃ Z, (#[.int .i64 0, .int .i64 0, .int .i64 0, .int .i64 0, .int .i64 0, .int .i64 0, .int .i64 0, .string ⟨#[]⟩, .string ⟨#[]⟩, .string ⟨#[]⟩, .string ⟨#[]⟩, .bool false, .bool false, .bool false, .bool false, .int .i64 0, .int .i64 0, .int .i64 0, .slice none 0 0] : Array Value) = Z := ⟨_, rfl⟩
  have zZ : Z.size = 19 := by rw [← hZ]; rfl
  have zA : A.size = 19 := by rw [← hA]; rfl
  have lA : A.toList = encE r := by rw [← hA]
  have HAW := fun v (hv : Below w.heap.size w v) => awake21C v (hTb.below hv)
  have HLT : ∀ v, Calls Tryz.prog 41 #[.agg A] v fun e w' => e = .returned (.bool (lightE r.e)) ∧ Below v.heap.size v w' := fun v => by
    rw [← hA]
    exact refELightC r.e r.a r.e.over.length r.c v rfl hT.1 hT.2.1 hT.2.2.1 hT.2.2.2
  have HSM : ∀ (q : EvR) (v : World), q.e = EventN.none → RowOf encD 3 v q.a q.e.over.length q.c q.e.over → Calls Tryz.prog 35 #[.agg (encE q).toArray, .agg #[.int .i64 0, .int .i64 0, .int .i64 0, .int .i64 0, .int .i64 0, .int .i64 0, .int .i64 0, .string ⟨#[]⟩, .string ⟨#[]⟩, .string ⟨#[]⟩, .string ⟨#[]⟩, .bool false, .bool false, .bool false, .bool false, .int .i64 0, .int .i64 0, .int .i64 0, .slice none 0 0]] v fun e w' => e = .returned (.bool true) ∧ Below v.heap.size v w' := fun q v hq hr => by
    have h := refESameC q.e EventN.none q.a none q.e.over.length q.c 0 0 v hr (RowOf.none encD 3 v)
    rw [show sameE q.e EventN.none = true from by rw [hq]; rfl] at h
    exact h
  have b0 := below_alloc w (.cells A 43)
  have o0 := ObjAt.new w A 43
  generalize hw0 : w.alloc (.cells A 43) = w0 at *
  have hlt := o0.lt
  have hO := fun v (hv : Below w0.heap.size w0 v) => o0.below hv hlt
  have hS : ∀ v, Below w0.heap.size w0 v → v.cell? ⟨w.heap.size, 0, none⟩ = some (.int .i64 r.e.dot.dev) ∧ v.cell? ⟨w.heap.size, 1, none⟩ = some (.int .i64 r.e.dot.inc) ∧ v.cell? ⟨w.heap.size, 2, none⟩ = some (.int .i64 r.e.dot.seq) ∧ v.cell? ⟨w.heap.size, 7, none⟩ = some (.string (str r.e.item.name)) ∧ v.cell? ⟨w.heap.size, 8, none⟩ = some (.string (str r.e.item.dom)) ∧ v.cell? ⟨w.heap.size, 9, none⟩ = some (.string (str r.e.item.path)) := fun v hv => by
    have h := hO v hv
    rw [lA] at h
    exact ⟨h.cell 0 rfl, h.cell 1 rfl, h.cell 2 rfl, h.cell 7 rfl, h.cell 8 rfl, h.cell 9 rfl⟩
  have hB1 : Below w0.heap.size w0 w0 := Below.refl _ _
  cases hl : lightE r.e with
  | false =>
    rw [hl] at HLT
    clear HSM hS
    go_enter Tryz.func7, Tryz.ntmps7
    go_wp2_with (first
      | (refine wpList_loadAll rfl 43 _ rfl (w.heap.size) 19 A rfl (hO _ hB1) Tryz.isAgg43 Tryz.sizeOf43 zA ?_)
      | (go_at_call 41; (with_reducible refine (HLT _).mono ?_); rintro e w1 ⟨rfl, hx1⟩)
      | (go_at_call 16; (with_reducible refine (HAW _ (belowOn b0 hx1)).mono ?_); rintro e w2 ⟨rfl, hx2⟩))
    go_ret
    exact ⟨rfl, belowOn (belowOn b0 hx1) hx2⟩
  | true =>
    rw [hl] at HLT
    have HAp := fun v (hv : Below w0.heap.size w0 v) => mNilApply r A hA v (hE.below (b0.trans (hv.mono b0.size))) hl
    have HWi := fun v => mNilWinner r.e.item v hkr
    have H1 := fun v => mNilContext v
    have H2 := fun v => mNilEvents v
    have H3 := fun v => mNilAlive v
    have H4 := fun v => mNilKey r.e.item v hkr
    have H5 := fun v => mNilWinners v
    have H6 := fun v => mNilLen v
    have H7 := fun v => mNilHas r.e.dot v hFr
    have H8 := fun v => mNilDead r.e.dot v hFr
    have H9 := fun v => mNilRoom v
    have H10 := fun v => mNilCopy v
    have H11 := fun v => mNilForget r.e.dot v hFr
    have H12 := fun v => mNilBare r.e.dot v hFr
    have H13 := fun v => mNilClear r.e.dot v hFr
    have H14 := fun v => mNilDeads v
    unfold GivesW at HWi
    unfold GivesDs at H1 H14
    unfold GivesEs at H2 H3 H4 H5
    rw [show (none : Option EventN).isSome = false from rfl, show (none : Option EventN).getD EventN.none = EventN.none from rfl] at HWi
    clear hl hE hT lA hA o0
    go_enter Tryz.func7, Tryz.ntmps7
    go_wp2_with (first
      | (refine wpList_loadAll rfl 43 _ rfl (w.heap.size) 19 A rfl (hO _ hB1) Tryz.isAgg43 Tryz.sizeOf43 zA ?_)
      | (go_at_call 41; (with_reducible refine (HLT _).mono ?_); rintro e v ⟨rfl, hx⟩; have hB1 := hB1.trans (hx.mono hB1.size); clear hx; obtain ⟨u0, u1, u2, u3, u4, u5⟩ := hS _ hB1)
      | (refine wpList_storeAll rfl 43 _ _ rfl Z AW 19 rfl rfl (by kernel_rfl) zZ zW oW1 ?_)
      | (go_at_call 19; (with_reducible refine (HAp _ hB1).mono ?_); rintro e v ⟨rfl, hx⟩; have hB1 := hB1.trans (hx.mono hB1.size); clear hx; obtain ⟨u0, u1, u2, u3, u4, u5⟩ := hS _ hB1)
      | (go_at_call 30; (with_reducible refine (HWi _).mono ?_); rintro e vW ⟨q, rfl, hqe, hqo, hx⟩; obtain ⟨AW, hAW⟩ : ∃ AW, (encE q).toArray = AW := ⟨_, rfl⟩; rw [hAW]; have zW : AW.size = 19 := (by rw [← hAW]; rfl); have oW1 : AW.all (·.oneCell') = true := (by rw [← hAW]; exact encO_one (some q)); have tb := below_alloc vW (.cells AW 43); have oW := ObjAt.new vW AW 43; have hq2 := hqo.below tb; have hB1 := (hB1.trans (hx.mono hB1.size)).trans (tb.mono (hB1.trans (hx.mono hB1.size)).size); clear hx tb hqo; obtain ⟨v2, hv2⟩ : ∃ v2, vW.alloc (.cells AW 43) = v2 := ⟨_, rfl⟩; rw [hv2] at oW hq2 hB1; obtain ⟨u0, u1, u2, u3, u4, u5⟩ := hS _ hB1))
    have hbase := belowOn b0 hB1
    clear HLT HAp HWi hO hZ zZ
    have hS7 : ∀ v, Below v2.heap.size v2 v → v.cell? ⟨w.heap.size, 0, none⟩ = some (.int .i64 r.e.dot.dev) ∧ v.cell? ⟨w.heap.size, 1, none⟩ = some (.int .i64 r.e.dot.inc) ∧ v.cell? ⟨w.heap.size, 2, none⟩ = some (.int .i64 r.e.dot.seq) ∧ v.cell? ⟨w.heap.size, 7, none⟩ = some (.string (str r.e.item.name)) ∧ v.cell? ⟨w.heap.size, 8, none⟩ = some (.string (str r.e.item.dom)) ∧ v.cell? ⟨w.heap.size, 9, none⟩ = some (.string (str r.e.item.path)) ∧ ObjAt v vW.heap.size AW.toList := fun v hv => by
      obtain ⟨s0, s1, s2, s3, s4, s5⟩ := hS v (hB1.trans (hv.mono hB1.size))
      exact ⟨s0, s1, s2, s3, s4, s5, oW.below hv oW.lt⟩
    have HS2 := HSM _ v2.drew hqe (hq2.below (Below.refl v2.heap.size v2).drew)
    rw [hAW] at HS2
    clear hB1 hS u0 u1 u2 u3 u4 u5 hq2 HSM oW
    have hB1 : Below v2.heap.size v2 v2.drew := (Below.refl _ _).drew
    simp only [List.append]
    have hw0 : IntKind.i64.wrap 0 = 0 := by rw [IntKind.wrap_i64]; rfl
    have hw1 : IntKind.i64.wrap (Int.ofNat 0) = 0 := hw0
    have hw2 : IntKind.i64.wrap ((0 : Nat) : Int) = 0 := hw0
    refine wp_region_held_drew (S := fun w' => w'.cell? ⟨w.heap.size, 0, none⟩ = some (.int .i64 r.e.dot.dev) ∧ w'.cell? ⟨w.heap.size, 1, none⟩ = some (.int .i64 r.e.dot.inc) ∧ w'.cell? ⟨w.heap.size, 2, none⟩ = some (.int .i64 r.e.dot.seq) ∧ w'.cell? ⟨w.heap.size, 7, none⟩ = some (.string (str r.e.item.name)) ∧ w'.cell? ⟨w.heap.size, 8, none⟩ = some (.string (str r.e.item.dom)) ∧ w'.cell? ⟨w.heap.size, 9, none⟩ = some (.string (str r.e.item.path)) ∧ ObjAt w' vW.heap.size AW.toList) (by kernel_rfl) (hS7 _ hB1) (fun hHeld => ?_)
    first | (refine tR (i := 0) rfl rfl ?_) | (refine tL (i := 0) (v := ?vb1) rfl ?hyb1 ?rb1; case hyb1 => (rintro w' hS; obtain ⟨hs0, hs1, hs2, hs3, hs4, hs5, hs6⟩ := hS; go_simp; try with_reducible rfl))
    try simp only [gA, gB, Act.put, gD, gE, gF]
    first | (refine tR (i := 1) rfl rfl ?_) | (refine tL (i := 1) (v := ?vb2) rfl ?hyb2 ?rb2; case hyb2 => (rintro w' hS; obtain ⟨hs0, hs1, hs2, hs3, hs4, hs5, hs6⟩ := hS; go_simp; try with_reducible rfl))
    try simp only [gA, gB, gC, Act.put, gD, gE, gF]
    first | (refine tR (i := 2) rfl rfl ?_) | (refine tL (i := 2) (v := ?vb3) rfl ?hyb3 ?rb3; case hyb3 => (rintro w' hS; obtain ⟨hs0, hs1, hs2, hs3, hs4, hs5, hs6⟩ := hS; go_simp; try with_reducible rfl))
    try simp only [gA, gB, gC, Act.put, gD, gE, gF]
    first | (refine tR (i := 3) rfl rfl ?_) | (refine tL (i := 3) (v := ?vb4) rfl ?hyb4 ?rb4; case hyb4 => (rintro w' hS; obtain ⟨hs0, hs1, hs2, hs3, hs4, hs5, hs6⟩ := hS; go_simp; try with_reducible rfl))
    try simp only [gA, gB, gC, Act.put, gD, gE, gF]
    first | (refine tR (i := 4) rfl rfl ?_) | (refine tL (i := 4) (v := ?vb5) rfl ?hyb5 ?rb5; case hyb5 => (rintro w' hS; obtain ⟨hs0, hs1, hs2, hs3, hs4, hs5, hs6⟩ := hS; go_simp; try with_reducible rfl))
    try simp only [gA, gB, gC, Act.put, gD, gE, gF]
    first | (refine tR (i := 5) rfl rfl ?_) | (refine tL (i := 5) (v := ?vb6) rfl ?hyb6 ?rb6; case hyb6 => (rintro w' hS; obtain ⟨hs0, hs1, hs2, hs3, hs4, hs5, hs6⟩ := hS; go_simp; try with_reducible rfl))
    try simp only [gA, gB, gC, Act.put, gD, gE, gF]
    first | (refine tR (i := 6) rfl rfl ?_) | (refine tL (i := 6) (v := ?vb7) rfl ?hyb7 ?rb7; case hyb7 => (rintro w' hS; obtain ⟨hs0, hs1, hs2, hs3, hs4, hs5, hs6⟩ := hS; go_simp; try with_reducible rfl))
    try simp only [gA, gB, gC, Act.put, gD, gE, gF]
    first | (refine tR (i := 7) rfl rfl ?_) | (refine tL (i := 7) (v := ?vb8) rfl ?hyb8 ?rb8; case hyb8 => (rintro w' hS; obtain ⟨hs0, hs1, hs2, hs3, hs4, hs5, hs6⟩ := hS; go_simp; try with_reducible rfl))
    try simp only [gA, gB, gC, Act.put, gD, gE, gF]
    first | (refine tR (i := 8) rfl rfl ?_) | (refine tL (i := 8) (v := ?vb9) rfl ?hyb9 ?rb9; case hyb9 => (rintro w' hS; obtain ⟨hs0, hs1, hs2, hs3, hs4, hs5, hs6⟩ := hS; go_simp; try with_reducible rfl))
    try simp only [gA, gB, gC, Act.put, gD, gE, gF]
    first | (refine tR (i := 9) rfl rfl ?_) | (refine tL (i := 9) (v := ?vb10) rfl ?hyb10 ?rb10; case hyb10 => (rintro w' hS; obtain ⟨hs0, hs1, hs2, hs3, hs4, hs5, hs6⟩ := hS; go_simp; try with_reducible rfl))
    try simp only [gA, gB, gC, Act.put, gD, gE, gF]
    first | (refine tR (i := 10) rfl rfl ?_) | (refine tL (i := 10) (v := ?vb11) rfl ?hyb11 ?rb11; case hyb11 => (rintro w' hS; obtain ⟨hs0, hs1, hs2, hs3, hs4, hs5, hs6⟩ := hS; go_simp; try with_reducible rfl))
    try simp only [gA, gB, gC, Act.put, gD, gE, gF]
    refine wpAnyH_take (i := 11) rfl (by kernel_rfl) (by kernel_rfl) (by kernel_rfl) (fun _ _ _ h => h) (Or.inl ⟨by rfl, fun w' hS => (by obtain ⟨-, -, -, -, -, -, hs6⟩ := hS; exact execLoadAll 43 _ rfl vW.heap.size 19 AW rfl hs6 Tryz.isAgg43 Tryz.sizeOf43 zW)⟩) (by assumption) ?_
    try simp only [gA, gB, gC, Act.put, gD, gE, gF]
    first | (refine tR (i := 12) rfl rfl ?_) | (refine tL (i := 12) (v := ?vb12) rfl ?hyb12 ?rb12; case hyb12 => (rintro w' hS; obtain ⟨hs0, hs1, hs2, hs3, hs4, hs5, hs6⟩ := hS; go_simp; try with_reducible rfl))
    try simp only [gA, gB, gC, Act.put, gD, gE, gF]
    refine wpAnyH_ready (rs := [13]) (by kernel_rfl) (by simp) ?_
    refine AllReadyH.cons (o := _) rfl (fun K hK => ?_) AllReadyH.nil
    go_simp
    go_at_call 35; (with_reducible refine (HS2).mono ?_); rintro e v ⟨rfl, hx⟩; have hB1 := hB1.trans (hx.mono hB1.size); clear hx
    dsimp only
    refine hK.out _ _ (hS7 _ hB1) (fun hHeld => ?_)
    clear hK K
    try simp only [gA, gB, gC, Act.put, gD, gE, gF]
    first | (refine tR (i := 14) rfl rfl ?_) | (refine tL (i := 14) (v := ?vb13) rfl ?hyb13 ?rb13; case hyb13 => (rintro w' hS; obtain ⟨hs0, hs1, hs2, hs3, hs4, hs5, hs6⟩ := hS; go_simp; try with_reducible rfl))
    try simp only [gA, gB, gC, Act.put, gD, gE, gF]
    first | (refine tR (i := 15) rfl rfl ?_) | (refine tL (i := 15) (v := ?vb14) rfl ?hyb14 ?rb14; case hyb14 => (rintro w' hS; obtain ⟨hs0, hs1, hs2, hs3, hs4, hs5, hs6⟩ := hS; go_simp; try with_reducible rfl))
    try simp only [gA, gB, gC, Act.put, gD, gE, gF]
    first | (refine tR (i := 16) rfl rfl ?_) | (refine tL (i := 16) (v := ?vb15) rfl ?hyb15 ?rb15; case hyb15 => (rintro w' hS; obtain ⟨hs0, hs1, hs2, hs3, hs4, hs5, hs6⟩ := hS; go_simp; try with_reducible rfl))
    try simp only [gA, gB, gC, Act.put, gD, gE, gF]
    first | (refine tR (i := 19) rfl rfl ?_) | (refine tL (i := 19) (v := ?vb16) rfl ?hyb16 ?rb16; case hyb16 => (rintro w' hS; obtain ⟨hs0, hs1, hs2, hs3, hs4, hs5, hs6⟩ := hS; go_simp; try with_reducible rfl))
    try simp only [gA, gB, gC, Act.put, gD, gE, gF]
    first | (refine tR (i := 23) rfl rfl ?_) | (refine tL (i := 23) (v := ?vb17) rfl ?hyb17 ?rb17; case hyb17 => (rintro w' hS; obtain ⟨hs0, hs1, hs2, hs3, hs4, hs5, hs6⟩ := hS; go_simp; try with_reducible rfl))
    try simp only [gA, gB, gC, Act.put, gD, gE, gF]
    first | (refine tR (i := 27) rfl rfl ?_) | (refine tL (i := 27) (v := ?vb18) rfl ?hyb18 ?rb18; case hyb18 => (rintro w' hS; obtain ⟨hs0, hs1, hs2, hs3, hs4, hs5, hs6⟩ := hS; go_simp; try with_reducible rfl))
    try simp only [gA, gB, gC, Act.put, gD, gE, gF]
    first | (refine tR (i := 28) rfl rfl ?_) | (refine tL (i := 28) (v := ?vb19) rfl ?hyb19 ?rb19; case hyb19 => (rintro w' hS; obtain ⟨hs0, hs1, hs2, hs3, hs4, hs5, hs6⟩ := hS; go_simp; try with_reducible rfl))
    try simp only [gA, gB, gC, Act.put, gD, gE, gF]
    first | (refine tR (i := 29) rfl rfl ?_) | (refine tL (i := 29) (v := ?vb20) rfl ?hyb20 ?rb20; case hyb20 => (rintro w' hS; obtain ⟨hs0, hs1, hs2, hs3, hs4, hs5, hs6⟩ := hS; go_simp; try with_reducible rfl))
    try simp only [gA, gB, gC, Act.put, gD, gE, gF]
    first | (refine tR (i := 33) rfl rfl ?_) | (refine tL (i := 33) (v := ?vb21) rfl ?hyb21 ?rb21; case hyb21 => (rintro w' hS; obtain ⟨hs0, hs1, hs2, hs3, hs4, hs5, hs6⟩ := hS; go_simp; try with_reducible rfl))
    try simp only [gA, gB, gC, Act.put, gD, gE, gF]
    first | (refine tR (i := 37) rfl rfl ?_) | (refine tL (i := 37) (v := ?vb22) rfl ?hyb22 ?rb22; case hyb22 => (rintro w' hS; obtain ⟨hs0, hs1, hs2, hs3, hs4, hs5, hs6⟩ := hS; go_simp; try with_reducible rfl))
    try simp only [gA, gB, gC, Act.put, gD, gE, gF]
    refine wpAnyH_ready (rs := [17]) (by kernel_rfl) (by simp) ?_
    refine AllReadyH.cons (o := _) rfl (fun K hK => ?_) AllReadyH.nil
    go_simp
    go_at_call 42; (with_reducible refine (H1 _).mono ?_); rintro e v ⟨a1, n1, c1, rfl, hr1, hx⟩; obtain rfl : 0 = n1 := hr1.leq; have hB1 := hB1.trans (hx.mono hB1.size); clear hx
    dsimp only
    refine hK.out _ _ (hS7 _ hB1) (fun hHeld => ?_)
    clear hK K
    try simp only [gA, gB, gC, Act.put, gD, gE, gF]
    first | (refine tR (i := 18) rfl rfl ?_) | (refine tL (i := 18) (v := ?vb23) rfl ?hyb23 ?rb23; case hyb23 => (rintro w' hS; obtain ⟨hs0, hs1, hs2, hs3, hs4, hs5, hs6⟩ := hS; go_simp; try with_reducible rfl))
    try simp only [gA, gB, gC, Act.put, gD, gE, gF]
    refine wpAnyH_ready (rs := [20]) (by kernel_rfl) (by simp) ?_
    refine AllReadyH.cons (o := _) rfl (fun K hK => ?_) AllReadyH.nil
    go_simp
    go_at_call 43; (with_reducible refine (H2 _).mono ?_); rintro e v ⟨a1, n1, c1, rfl, hr1, hx⟩; obtain rfl : 0 = n1 := hr1.leq; have hB1 := hB1.trans (hx.mono hB1.size); clear hx
    dsimp only
    refine hK.out _ _ (hS7 _ hB1) (fun hHeld => ?_)
    clear hK K
    try simp only [gA, gB, gC, Act.put, gD, gE, gF]
    first | (refine tR (i := 21) rfl rfl ?_) | (refine tL (i := 21) (v := ?vb24) rfl ?hyb24 ?rb24; case hyb24 => (rintro w' hS; obtain ⟨hs0, hs1, hs2, hs3, hs4, hs5, hs6⟩ := hS; go_simp; try with_reducible rfl))
    try simp only [gA, gB, gC, Act.put, gD, gE, gF]
    refine wpAnyH_take (i := 22) (v := .int .i64 0) rfl (by kernel_rfl) (by kernel_rfl) (by kernel_rfl) (fun _ _ _ h => h) (Or.inl ⟨by rfl, fun w' hS => by go_simp⟩) (by assumption) ?_
    try simp only [gA, gB, gC, Act.put, gD, gE, gF]
    refine wpAnyH_ready (rs := [24]) (by kernel_rfl) (by simp) ?_
    refine AllReadyH.cons (o := _) rfl (fun K hK => ?_) AllReadyH.nil
    go_simp
    go_at_call 44; (with_reducible refine (H3 _).mono ?_); rintro e v ⟨a1, n1, c1, rfl, hr1, hx⟩; obtain rfl : 0 = n1 := hr1.leq; have hB1 := hB1.trans (hx.mono hB1.size); clear hx
    dsimp only
    refine hK.out _ _ (hS7 _ hB1) (fun hHeld => ?_)
    clear hK K
    try simp only [gA, gB, gC, Act.put, gD, gE, gF]
    first | (refine tR (i := 25) rfl rfl ?_) | (refine tL (i := 25) (v := ?vb25) rfl ?hyb25 ?rb25; case hyb25 => (rintro w' hS; obtain ⟨hs0, hs1, hs2, hs3, hs4, hs5, hs6⟩ := hS; go_simp; try with_reducible rfl))
    try simp only [gA, gB, gC, Act.put, gD, gE, gF]
    refine wpAnyH_take (i := 26) (v := .int .i64 0) rfl (by kernel_rfl) (by kernel_rfl) (by kernel_rfl) (fun _ _ _ h => h) (Or.inl ⟨by rfl, fun w' hS => by go_simp⟩) (by assumption) ?_
    try simp only [gA, gB, gC, Act.put, gD, gE, gF]
    refine wpAnyH_ready (rs := [30]) (by kernel_rfl) (by simp) ?_
    refine AllReadyH.cons (o := _) rfl (fun K hK => ?_) AllReadyH.nil
    go_simp
    go_at_call 33; (with_reducible refine (H4 _).mono ?_); rintro e v ⟨a1, n1, c1, rfl, hr1, hx⟩; obtain rfl : 0 = n1 := hr1.leq; have hB1 := hB1.trans (hx.mono hB1.size); clear hx
    dsimp only
    refine hK.out _ _ (hS7 _ hB1) (fun hHeld => ?_)
    clear hK K
    try simp only [gA, gB, gC, Act.put, gD, gE, gF]
    first | (refine tR (i := 31) rfl rfl ?_) | (refine tL (i := 31) (v := ?vb26) rfl ?hyb26 ?rb26; case hyb26 => (rintro w' hS; obtain ⟨hs0, hs1, hs2, hs3, hs4, hs5, hs6⟩ := hS; go_simp; try with_reducible rfl))
    try simp only [gA, gB, gC, Act.put, gD, gE, gF]
    refine wpAnyH_take (i := 32) (v := .int .i64 0) rfl (by kernel_rfl) (by kernel_rfl) (by kernel_rfl) (fun _ _ _ h => h) (Or.inl ⟨by rfl, fun w' hS => by go_simp⟩) (by assumption) ?_
    try simp only [gA, gB, gC, Act.put, gD, gE, gF]
    refine wpAnyH_ready (rs := [34]) (by kernel_rfl) (by simp) ?_
    refine AllReadyH.cons (o := _) rfl (fun K hK => ?_) AllReadyH.nil
    go_simp
    go_at_call 45; (with_reducible refine (H5 _).mono ?_); rintro e v ⟨a1, n1, c1, rfl, hr1, hx⟩; obtain rfl : 0 = n1 := hr1.leq; have hB1 := hB1.trans (hx.mono hB1.size); clear hx
    dsimp only
    refine hK.out _ _ (hS7 _ hB1) (fun hHeld => ?_)
    clear hK K
    try simp only [gA, gB, gC, Act.put, gD, gE, gF]
    first | (refine tR (i := 35) rfl rfl ?_) | (refine tL (i := 35) (v := ?vb27) rfl ?hyb27 ?rb27; case hyb27 => (rintro w' hS; obtain ⟨hs0, hs1, hs2, hs3, hs4, hs5, hs6⟩ := hS; go_simp; try with_reducible rfl))
    try simp only [gA, gB, gC, Act.put, gD, gE, gF]
    refine wpAnyH_take (i := 36) (v := .int .i64 0) rfl (by kernel_rfl) (by kernel_rfl) (by kernel_rfl) (fun _ _ _ h => h) (Or.inl ⟨by rfl, fun w' hS => by go_simp⟩) (by assumption) ?_
    try simp only [gA, gB, gC, Act.put, gD, gE, gF]
    refine wpAnyH_ready (rs := [38]) (by kernel_rfl) (by simp) ?_
    refine AllReadyH.cons (o := _) rfl (fun K hK => ?_) AllReadyH.nil
    go_simp
    go_at_call 46; (with_reducible refine (H6 _).mono ?_); rintro e v ⟨rfl, hx⟩; have hB1 := hB1.trans (hx.mono hB1.size); clear hx
    dsimp only
    refine hK.out _ _ (hS7 _ hB1) (fun hHeld => ?_)
    clear hK K
    try simp only [gA, gB, gC, Act.put, gD, gE, gF]
    refine wpAnyH_take (i := 39) (v := .int .i64 0) rfl (by kernel_rfl) (by kernel_rfl) (by kernel_rfl) (fun _ _ _ h => h) (Or.inl ⟨by rfl, fun w' hS => by go_simp⟩) (by assumption) ?_
    try simp only [gA, gB, gC, Act.put, gD, gE, gF]
    refine wpAnyH_take (i := 40) (v := .bool true) rfl (by kernel_rfl) (by kernel_rfl) (by kernel_rfl) (fun _ _ _ h => h) (Or.inl ⟨by rfl, fun w' hS => by go_simp⟩) (by assumption) ?_
    try simp only [gA, gB, gC, Act.put, gD, gE, gF]
    first | (refine tR (i := 41) rfl rfl ?_) | (refine tL (i := 41) (v := ?vb28) rfl ?hyb28 ?rb28; case hyb28 => (rintro w' hS; obtain ⟨hs0, hs1, hs2, hs3, hs4, hs5, hs6⟩ := hS; go_simp; try with_reducible rfl))
    try simp only [gA, gB, gC, Act.put, gD, gE, gF]
    first | (refine tR (i := 42) rfl rfl ?_) | (refine tL (i := 42) (v := ?vb29) rfl ?hyb29 ?rb29; case hyb29 => (rintro w' hS; obtain ⟨hs0, hs1, hs2, hs3, hs4, hs5, hs6⟩ := hS; go_simp; try with_reducible rfl))
    try simp only [gA, gB, gC, Act.put, gD, gE, gF]
    refine nilsTail r hFr w.heap.size vW.heap.size AW.toList _ v2 _ _ _ _ _ _ _ _ _ _ _ _ _ _ _ _ _ _ _ _ _ _ _ _ _ _ _ _ _ _ _ _ _ _ _ _ _ _ _ _ _ _ _ _ _ _ _ _ _ _ _ _ _ _ _ _ _ _ _ _ _ _ _ _ _ _ _ _ _ _ _ _ _ _ _ _ _ _ _ _ _ _ _ _ _ _ _ _ _ _ _ _ _ _ _ _ _ _ _ _ _ _ _ _ _ _ _ _ _ _ _ _ _ _ _ _ _ _ _ hS7 hB1 (hTb.below hbase) (fun d0 d1 d3 d4 d5 d6 d7 d8 d9 d10 d11 d12 d13 d14 d15 d16 d17 d18 d19 d20 d21 d22 d23 d24 d25 d26 d27 d28 d29 d30 d31 d32 d33 d34 d35 d36 d37 d38 d39 d40 d41 d42 d43 d44 d45 d46 d47 d48 d49 d50 d51 d52 d53 d54 d55 d56 d57 d58 d59 d60 d61 d62 d63 d64 d65 d66 d67 d68 d69 d70 d71 d72 d73 d74 d75 d76 d77 d78 d79 d80 d81 d82 d83 d84 d85 d86 d87 d88 d89 d90 d91 d92 d93 d94 d95 d96 d97 d98 d99 d100 d101 d102 d103 d104 d105 d106 d107 d108 d109 d110 d111 d112 d113 d114 d115 d116 d117 d118 d119 d120 w' hx => ?_) (by rintro c a (_ | d) v w h <;> exact h) _ (by kernel_rfl)
    go_wp2
    go_ret
    exact ⟨rfl, belowOn hbase hx⟩
end Go.Proofs.YtaodjnkjjmhecaaGreatDoor
