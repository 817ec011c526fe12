/-
  OPS: form 46.
  OPS: operations in a row (Rq), Put[Op] 146, listForm[Op] 109, formAll 62, checkAll 61, told 44 and 60, Bytes 11, BytesAll 17.
  OPS: told 44 and 60, Bytes 11, BytesAll 17.
-/
import Derived.Test.YtpepgoelnagoaaaGreatDoorMg8
namespace Go.Proofs.YtpepgoelnagoaaaGreatDoor
open Go.RowKit Go.Shelf
set_option linter.unusedSimpArgs false
set_option linter.unusedVariables false
attribute [local go_sem] Oper.semAt_some

theorem exec_four {ev : Operand → Value} {x y z u : Operand} {T : TypeId} {a b e f : Option Addr} {n m k l c d g h : Nat} {w : World} (hx : ev x = .slice a n c) (hy : ev y = .slice b m d) (hz : ev z = .slice e k g) (hu : ev u = .slice f l h) :
    (execOp ev { dst := none, op := .buildSlice 175 4 #[(0, x), (1, y), (2, z), (3, u)], type := T, pos := "", after := #[], guard := none }).run Tryz.prog w = .ok (.value (.slice (some ⟨w.heap.size, 0, none⟩) 4 4)) (w.alloc (.cells #[.slice a n c, .slice b m d, .slice e k g, .slice f l h] 26)) := by
  unfold execOp
  simp [hx, hy, hz, hu, go_sem]
theorem Pieces.four {w : World} (a1 a2 a3 a4 : Option Addr) (c1 c2 c3 c4 : Nat) (l1 l2 l3 l4 : List Int) (t : TypeId) (h1 : Rd w a1 l1) (h2 : Rd w a2 l2) (h3 : Rd w a3 l3) (h4 : Rd w a4 l4) (n1 : a1 = none → c1 = 0) (n2 : a2 = none → c2 = 0) (n3 : a3 = none → c3 = 0) (n4 : a4 = none → c4 = 0) :
    Pieces (w.alloc (.cells #[.slice a1 l1.length c1, .slice a2 l2.length c2, .slice a3 l3.length c3, .slice a4 l4.length c4] t)) (some ⟨w.heap.size, 0, none⟩) [l1, l2, l3, l4] := by
  have hb : Below w.heap.size w (w.alloc (.cells #[.slice a1 l1.length c1, .slice a2 l2.length c2, .slice a3 l3.length c3, .slice a4 l4.length c4] t)) := (Below.refl _ _).alloc (Nat.le_refl _) _
  refine ⟨by simp, ?_⟩
  intro a ha j l hj
  cases ha
  match j, hj with
  | 0, hj => simp at hj; subst hj; exact ⟨a1, c1, by rw [add_lit]; simp [go_sem], h1.below hb, n1⟩
  | 1, hj => simp at hj; subst hj; exact ⟨a2, c2, by rw [add_lit]; simp [go_sem], h2.below hb, n2⟩
  | 2, hj => simp at hj; subst hj; exact ⟨a3, c3, by rw [add_lit]; simp [go_sem], h3.below hb, n3⟩
  | 3, hj => simp at hj; subst hj; exact ⟨a4, c4, by rw [add_lit]; simp [go_sem], h4.below hb, n4⟩

set_option maxHeartbeats 4000000 in
set_option maxRecDepth 100000 in
theorem form_any {w : World} {pa : Option Addr} {pc : Nat} (o : Od) (h : Ki.Rp w pa pc o.p) (ho : OkO o) (hn : I64 o.n) : Calls Tryz.prog 46 #[odv pa o.p.length pc o] w fun e w' => Made 5 w w' e (frO o) := by
  have hlen := frO_len ho hn
  obtain ⟨p, k, s, d, n, t⟩ := o
  have hps := ho.psz
  have hss := ho.ssz
  have hd1 := ho.d1
  have hd7 := ho.d7
  dsimp only at hps hss hd1 hd7 h hn
  obtain ⟨N, hN⟩ : ∃ N, N = p.length := ⟨_, rfl⟩
  obtain ⟨w0, hw0⟩ : ∃ q, q = w.alloc (.cells (odC pa N pc ⟨p, k, s, d, n, t⟩) 34) := ⟨_, rfl⟩
  have d0 : Below w.heap.size w w0 := by rw [hw0]; exact (Below.refl _ w).alloc (Nat.le_refl _) _
  obtain ⟨Sb, hSb⟩ : ∃ q, q = w.heap.size := ⟨_, rfl⟩
  have m0 := op6_new w pa N pc ⟨p, k, s, d, n, t⟩
  rw [← hw0, ← hSb] at m0
  have HS : Hid (∀ W, Below w0.heap.size w0 W → W.cell? ⟨Sb, 0, none⟩ = some (.slice pa N pc) ∧ W.cell? ⟨Sb, 1, none⟩ = some (.int .i64 k) ∧ W.cell? ⟨Sb, 2, none⟩ = some (.string s) ∧ W.cell? ⟨Sb, 3, none⟩ = some (.int .i64 d) ∧ W.cell? ⟨Sb, 4, none⟩ = some (.int .i64 n) ∧ W.cell? ⟨Sb, 5, none⟩ = some (.string t)) := hide (fun W hW => op6_of ((hW.block _ (Array.getElem?_eq_some_iff.1 m0).1).trans m0))
  have HW := hide (And.intro hw0 (And.intro hSb d0))
  have wr : IntKind.u64.wrap d = d := by rw [IntKind.wrap_u64]; omega
  have k97 := fun W => number_int d W (by omega) (by omega)
  have k98 : ∀ W, Below w0.heap.size w0 W → Calls Tryz.prog 98 #[.slice pa N pc, .func (.func 99) #[] #[]] W fun e w' => Made 5 W w' e (frP p) := fun W hW => by
    rw [hN]
    exact listS_any pa pc p W ((h.below d0).below hW).rs (fun s hs => by have := hps.2 s hs; omega) (by omega)
  have k99 := fun W => textForm_any s W (by omega)
  have k100 : ∀ W, Calls Tryz.prog 100 #[.agg #[.slice pa N pc, .int .i64 k, .string s, .int .i64 d, .int .i64 n, .string t]] W fun e w' => Made 5 W w' e (frN ⟨p, k, s, d, n, t⟩) := fun W => named_any pa N pc ⟨p, k, s, d, n, t⟩ W ho hn
  have k96 : ∀ (W : World) (a1 a2 a3 a4 : Option Addr) (c1 c2 c3 c4 : Nat), Rd W a1 (Plain.numL d.toNat) → Rd W a2 (frP p) → Rd W a3 (frB s) → Rd W a4 (frN ⟨p, k, s, d, n, t⟩) → (a1 = none → c1 = 0) → (a2 = none → c2 = 0) → (a3 = none → c3 = 0) → (a4 = none → c4 = 0) → Calls Tryz.prog 96 #[.slice (some ⟨W.heap.size, 0, none⟩) 4 4] (W.alloc (.cells #[.slice a1 (Plain.numL d.toNat).length c1, .slice a2 (frP p).length c2, .slice a3 (frB s).length c3, .slice a4 (frN ⟨p, k, s, d, n, t⟩).length c4] 26)) fun e w' => Made 5 W w' e (frO ⟨p, k, s, d, n, t⟩) := fun W a1 a2 a3 a4 c1 c2 c3 c4 q1 q2 q3 q4 n1 n2 n3 n4 => by
    have he : [Plain.numL d.toNat, frP p, frB s, frN ⟨p, k, s, d, n, t⟩].flatten = frO ⟨p, k, s, d, n, t⟩ := by simp [frO]
    refine (join_any _ 4 [Plain.numL d.toNat, frP p, frB s, frN ⟨p, k, s, d, n, t⟩] _ (Pieces.four a1 a2 a3 a4 c1 c2 c3 c4 _ _ _ _ 26 q1 q2 q3 q4 n1 n2 n3 n4) (by simp) (by rw [he]; omega)).mono ?_
    intro e w' h
    rw [he] at h
    exact h.intro ((Below.refl _ W).alloc (Nat.le_refl _) _) (by simp)
  clear hps hss hd1 hd7 h hn ho hlen m0 hSb hw0 d0
  obtain ⟨L, hL⟩ : ∃ q, q = frO ⟨p, k, s, d, n, t⟩ := ⟨_, rfl⟩
  rw [← hL] at k96 ⊢
  clear hL
  rw [← hN]
  clear hN
  go_enter Tryz.func46, Tryz.ntmps46
  go_upto_region 1 with fail
  rw [← HW.out.1, ← HW.out.2.1]
  have hsd := HS.out w0 (Below.refl _ _)
  refine wp_region_held_drew (S := fun w' => w'.cell? ⟨Sb, 0, none⟩ = some (.slice pa N pc) ∧ w'.cell? ⟨Sb, 1, none⟩ = some (.int .i64 k) ∧ w'.cell? ⟨Sb, 2, none⟩ = some (.string s) ∧ w'.cell? ⟨Sb, 3, none⟩ = some (.int .i64 d) ∧ w'.cell? ⟨Sb, 4, none⟩ = some (.int .i64 n) ∧ w'.cell? ⟨Sb, 5, none⟩ = some (.string t)) (by kernel_rfl) hsd (fun hHeld => ?_)
  clear hsd
  obtain ⟨Wd, hWd⟩ : ∃ q, q = w0.drew := ⟨_, rfl⟩
  have b0 : Below w0.heap.size w0 Wd := by rw [hWd]; exact (Below.refl _ _).drew
  rw [← hWd] at hHeld ⊢
  clear hWd
  refine take_op (i := 0) (d := 3) (OP := Op.fieldAddr 34 (Operand.tmp 1) 3) (T := 0) (v := ?vog1) rfl rfl rfl rfl (by kernel_rfl) (by kernel_rfl) (by kernel_rfl) (fun _ _ _ h => h) (by rfl) ?hog1 hHeld ?rog1
  case hog1 => (intro w' hSw; (try dsimp only at hSw); go_simp <;> with_reducible rfl)
  try simp only [Act.put, List.setIfInBounds_toArray, List.set_cons_zero, List.set_cons_succ]
  refine take_op (i := 1) (d := 4) (OP := Op.load 32 (Operand.tmp 3)) (T := 32) (v := ?vog2) rfl rfl rfl rfl (by kernel_rfl) (by kernel_rfl) (by kernel_rfl) (fun _ _ _ h => h) (by rfl) ?hog2 hHeld ?rog2
  case hog2 => (intro w' hSw; (try dsimp only at hSw); go_simp <;> with_reducible rfl)
  try simp only [Act.put, List.setIfInBounds_toArray, List.set_cons_zero, List.set_cons_succ]
  refine take_op (i := 2) (d := 5) (OP := Op.convert 32 86 (Operand.tmp 4)) (T := 86) (v := ?vog3) rfl rfl rfl rfl (by kernel_rfl) (by kernel_rfl) (by kernel_rfl) (fun _ _ _ h => h) (by rfl) ?hog3 hHeld ?rog3
  case hog3 => (intro w' hSw; (try dsimp only at hSw); go_simp <;> with_reducible rfl)
  try simp only [Act.put, List.setIfInBounds_toArray, List.set_cons_zero, List.set_cons_succ]
  refine take_op (i := 4) (d := 7) (OP := Op.fieldAddr 34 (Operand.tmp 1) 0) (T := 0) (v := ?vog4) rfl rfl rfl rfl (by kernel_rfl) (by kernel_rfl) (by kernel_rfl) (fun _ _ _ h => h) (by rfl) ?hog4 hHeld ?rog4
  case hog4 => (intro w' hSw; (try dsimp only at hSw); go_simp <;> with_reducible rfl)
  try simp only [Act.put, List.setIfInBounds_toArray, List.set_cons_zero, List.set_cons_succ]
  refine take_op (i := 5) (d := 8) (OP := Op.load 30 (Operand.tmp 7)) (T := 30) (v := ?vog5) rfl rfl rfl rfl (by kernel_rfl) (by kernel_rfl) (by kernel_rfl) (fun _ _ _ h => h) (by rfl) ?hog5 hHeld ?rog5
  case hog5 => (intro w' hSw; (try dsimp only at hSw); go_simp <;> with_reducible rfl)
  try simp only [Act.put, List.setIfInBounds_toArray, List.set_cons_zero, List.set_cons_succ]
  refine take_op (i := 7) (d := 10) (OP := Op.fieldAddr 34 (Operand.tmp 1) 2) (T := 0) (v := ?vog6) rfl rfl rfl rfl (by kernel_rfl) (by kernel_rfl) (by kernel_rfl) (fun _ _ _ h => h) (by rfl) ?hog6 hHeld ?rog6
  case hog6 => (intro w' hSw; (try dsimp only at hSw); go_simp <;> with_reducible rfl)
  try simp only [Act.put, List.setIfInBounds_toArray, List.set_cons_zero, List.set_cons_succ]
  refine take_op (i := 8) (d := 11) (OP := Op.load 9 (Operand.tmp 10)) (T := 9) (v := ?vog7) rfl rfl rfl rfl (by kernel_rfl) (by kernel_rfl) (by kernel_rfl) (fun _ _ _ h => h) (by rfl) ?hog7 hHeld ?rog7
  case hog7 => (intro w' hSw; (try dsimp only at hSw); go_simp <;> with_reducible rfl)
  try simp only [Act.put, List.setIfInBounds_toArray, List.set_cons_zero, List.set_cons_succ]
  refine take_op (i := 10) (d := 13) (OP := Op.load 34 (Operand.tmp 1)) (T := 34) (v := ?vog8) rfl rfl rfl rfl (by kernel_rfl) (by kernel_rfl) (by kernel_rfl) (fun _ _ _ h => h) (by rfl) ?hog8 hHeld ?rog8
  case hog8 => (intro w' hSw; (try dsimp only at hSw); go_simp <;> with_reducible rfl)
  try simp only [Act.put, List.setIfInBounds_toArray, List.set_cons_zero, List.set_cons_succ]
  refine call_op (i := 3) (d := 6) (OP := Op.call { callee := Callee.value (Operand.func 97), args := #[Operand.tmp 5], argTypes := #[86] }) (T := 26) (f := 97) (args := #[.int .u64 d]) rfl rfl rfl rfl (by kernel_rfl) (by rfl) (by go_simp) ?_
  refine (k97 _).mono ?_
  rintro e y1 ⟨ay1, cy1, rfl, Oy1, ny1, dy1⟩
  have by1 := b0.trans (dy1.mono b0.size)
  have sy1 := HS.out y1 by1
  have Ry1 := Oy1.rd
  clear Oy1
  refine ⟨_, rfl, sy1, ?_⟩
  replace hHeld := sy1
  try simp only [Act.put, List.setIfInBounds_toArray, List.set_cons_zero, List.set_cons_succ]
  refine call_op (i := 6) (d := 9) (OP := Op.call { callee := Callee.value (Operand.func 98), args := #[Operand.tmp 8, Operand.func 99], argTypes := #[30, 137] }) (T := 26) (f := 98) (args := #[.slice pa N pc, .func (.func 99) #[] #[]]) rfl rfl rfl rfl (by kernel_rfl) (by rfl) (by go_simp) ?_
  refine (k98 _ by1).mono ?_
  rintro e y2 ⟨ay2, cy2, rfl, Oy2, ny2, dy2⟩
  have by2 := by1.trans (dy2.mono by1.size)
  have sy2 := HS.out y2 by2
  have Ry2 := Oy2.rd
  replace Ry1 := Ry1.below dy2
  clear Oy2
  refine ⟨_, rfl, sy2, ?_⟩
  replace hHeld := sy2
  try simp only [Act.put, List.setIfInBounds_toArray, List.set_cons_zero, List.set_cons_succ]
  refine call_op (i := 9) (d := 12) (OP := Op.call { callee := Callee.value (Operand.func 99), args := #[Operand.tmp 11], argTypes := #[9] }) (T := 26) (f := 99) (args := #[.string s]) rfl rfl rfl rfl (by kernel_rfl) (by rfl) (by go_simp) ?_
  refine (k99 _).mono ?_
  rintro e y3 ⟨ay3, cy3, rfl, Oy3, ny3, dy3⟩
  have by3 := by2.trans (dy3.mono by2.size)
  have sy3 := HS.out y3 by3
  have Ry3 := Oy3.rd
  replace Ry1 := Ry1.below dy3
  replace Ry2 := Ry2.below dy3
  clear Oy3
  refine ⟨_, rfl, sy3, ?_⟩
  replace hHeld := sy3
  try simp only [Act.put, List.setIfInBounds_toArray, List.set_cons_zero, List.set_cons_succ]
  refine call_op (i := 11) (d := 14) (OP := Op.call { callee := Callee.value (Operand.func 100), args := #[Operand.tmp 13], argTypes := #[34] }) (T := 26) (f := 100) (args := #[.agg #[.slice pa N pc, .int .i64 k, .string s, .int .i64 d, .int .i64 n, .string t]]) rfl rfl rfl rfl (by kernel_rfl) (by rfl) (by go_simp) ?_
  refine (k100 _).mono ?_
  rintro e y4 ⟨ay4, cy4, rfl, Oy4, ny4, dy4⟩
  have by4 := by3.trans (dy4.mono by3.size)
  have sy4 := HS.out y4 by4
  have Ry4 := Oy4.rd
  replace Ry1 := Ry1.below dy4
  replace Ry2 := Ry2.below dy4
  replace Ry3 := Ry3.below dy4
  clear Oy4
  refine ⟨_, rfl, sy4, ?_⟩
  replace hHeld := sy4
  try simp only [Act.put, List.setIfInBounds_toArray, List.set_cons_zero, List.set_cons_succ]
  obtain ⟨z, hz⟩ : ∃ q, q = y4.alloc (.cells #[.slice ay1 (Plain.numL d.toNat).length cy1, .slice ay2 (frP p).length cy2, .slice ay3 (frB s).length cy3, .slice ay4 (frN ⟨p, k, s, d, n, t⟩).length cy4] 26) := ⟨_, rfl⟩
  have dz : Below y4.heap.size y4 z := by rw [hz]; exact (Below.refl _ _).alloc (Nat.le_refl _) _
  have sz := HS.out z (by4.trans (dz.mono by4.size))
  have k96 := k96 y4 ay1 ay2 ay3 ay4 cy1 cy2 cy3 cy4 Ry1 Ry2 Ry3 Ry4 ny1 ny2 ny3 ny4
  rw [← hz] at k96
  refine turn_op (i := 12) (d := 15) (OP := Op.buildSlice 175 4 #[(0, Operand.tmp 6), (1, Operand.tmp 9), (2, Operand.tmp 12), (3, Operand.tmp 14)]) (T := 175) (v := .slice (some ⟨y4.heap.size, 0, none⟩) 4 4) (w' := z) rfl rfl rfl rfl (by kernel_rfl) (by rfl) (by rw [hz]; exact exec_four rfl rfl rfl rfl) sz ?_
  try simp only [Act.put, List.setIfInBounds_toArray, List.set_cons_zero, List.set_cons_succ]
  refine call_op (i := 13) (d := 16) (OP := Op.call { callee := Callee.value (Operand.func 96), args := #[Operand.tmp 15], argTypes := #[175] }) (T := 26) (f := 96) (args := #[.slice (some ⟨y4.heap.size, 0, none⟩) 4 4]) rfl rfl rfl rfl (by kernel_rfl) (by rfl) (by go_simp) ?_
  refine k96.mono ?_
  rintro e z2 ⟨az, cz, rfl, Oz, nz, dz2⟩
  have bz2 := by4.trans (dz2.mono by4.size)
  have Oz2 := Oz.lift (Nat.le_trans HW.out.2.2.size by4.size)
  have sz2 := HS.out z2 bz2
  refine ⟨_, rfl, sz2, ?_⟩
  try simp only [Act.put, List.setIfInBounds_toArray, List.set_cons_zero, List.set_cons_succ]
  refine take_op (i := 14) (d := 2) (OP := Op.assign (Operand.tmp 16)) (T := 26) (v := ?vog9) rfl rfl rfl rfl (by kernel_rfl) (by kernel_rfl) (by kernel_rfl) (fun _ _ _ h => h) (by rfl) ?hog9 sz2 ?rog9
  case hog9 => (intro w' hSw; (try dsimp only at hSw); go_simp <;> with_reducible rfl)
  try simp only [Act.put, List.setIfInBounds_toArray, List.set_cons_zero, List.set_cons_succ]
  refine wpAnyH_done (by kernel_rfl) ?_ _
  have HB := hide bz2
  have HO := hide Oz2
  clear HS k96 k97 k98 k99 k100
  go_wp2
  go_ret
  exact ⟨az, cz, rfl, HO.out, nz, HW.out.2.2.trans (HB.out.mono HW.out.2.2.size)⟩
end Go.Proofs.YtpepgoelnagoaaaGreatDoor
namespace Go.Proofs.YtpepgoelnagoaaaGreatDoor
open Go.RowKit Go.Shelf
set_option linter.unusedSimpArgs false
set_option linter.unusedVariables false
attribute [local go_sem] Oper.semAt_some

/-- Operations in a row that can be read. -/
def Rq (w : World) (ao : Option Addr) (l : List Od) : Prop := ∀ (i : Nat) (o : Od), l[i]? = some o → ∃ b off pa pc, ao = some ⟨b, off, none⟩ ∧ Ki.Rp w pa pc o.p ∧ w.cell? ⟨b, off + i * 6, none⟩ = some (.slice pa o.p.length pc) ∧ w.cell? ⟨b, off + i * 6 + 1, none⟩ = some (.int .i64 o.k) ∧ w.cell? ⟨b, off + i * 6 + 2, none⟩ = some (.string o.s) ∧ w.cell? ⟨b, off + i * 6 + 3, none⟩ = some (.int .i64 o.d) ∧ w.cell? ⟨b, off + i * 6 + 4, none⟩ = some (.int .i64 o.n) ∧ w.cell? ⟨b, off + i * 6 + 5, none⟩ = some (.string o.t)
theorem Rq.below {w w' : World} {ao : Option Addr} {l : List Od} (h : Rq w ao l) (hb : Below w.heap.size w w') : Rq w' ao l := fun i o ho => by
  obtain ⟨b, off, pa, pc, e, hr, c0, c1, c2, c3, c4, c5⟩ := h i o ho
  exact ⟨b, off, pa, pc, e, hr.below hb, Ki.cell_stays c0 hb, Ki.cell_stays c1 hb, Ki.cell_stays c2 hb, Ki.cell_stays c3 hb, Ki.cell_stays c4 hb, Ki.cell_stays c5 hb⟩
theorem Rq.nil (w : World) (ao : Option Addr) : Rq w ao [] := fun i o h => by simp at h
/-- What can be laid in a row. -/
structure OkL (l : List Od) : Prop where
  ok : ∀ o ∈ l, OkO o
  num : ∀ o ∈ l, I64 o.n
  len : l.length ≤ 100000
/-- What Check says of an operation's value. -/
theorem chk_any {w : World} {pa : Option Addr} {pc : Nat} (o : Od) (h : Ki.Rp w pa pc o.p) (hT : Tabs w) : Calls Tryz.prog 45 #[odv pa o.p.length pc o] w fun e w' => e = .returned (.int .i64 (chkO o)) ∧ Below w.heap.size w w' :=
  Ki.check_any o.k o.s o.d o.n o.t h hT
theorem find_all {l : List Od} {k : Nat} (h : ∀ j o, j < k → l[j]? = some o → chkO o = 0) {o : Od} (ho : l[k]? = some o) (hc : chkO o ≠ 0) : wrongL l = chkO o := by
  have hf : l.find? (fun o => decide (chkO o ≠ 0)) = some o := Ki.find_first (k := k) (fun j y hj hy => by simpa using h j y hj hy) ho (by simpa using hc)
  unfold wrongL
  rw [hf]
theorem find_not {l : List Od} (h : ∀ j o, j < l.length → l[j]? = some o → chkO o = 0) : wrongL l = if 64 < l.length then 3 else 0 := by
  have hf : l.find? (fun o => decide (chkO o ≠ 0)) = none := Ki.find_none (fun j y hj hy => by simpa using h j y hj hy)
  unfold wrongL
  rw [hf]

set_option maxHeartbeats 2000000 in
set_option maxRecDepth 100000 in
theorem checkAll_any (ao : Option Addr) (cap : Nat) (ps : List Od) (w : World) (hr : Rq w ao ps) (hT : Tabs w) (hlen : ps.length ≤ 100000000) :
    Calls Tryz.prog 61 #[.slice ao ps.length cap] w fun e w' => e = .returned (.int .i64 (wrongL ps)) ∧ Below w.heap.size w w' := by
  go_enter Tryz.func61, Tryz.ntmps61
  go_wp2
  go_loopw [8] (fun i wr => ∃ (k : Nat), k ≤ ps.length ∧ i = .int .i64 k ∧ Hid (∀ j o, j < k → ps[j]? = some o → chkO o = 0) ∧ Hid (Below w.heap.size w wr))
    (fun i _ => ps.length - (intOf i).toNat)
  case atStart => exact ⟨0, Nat.zero_le _, rfl, hide (fun j o h => by omega), hide (Below.refl _ _)⟩
  case round =>
    obtain ⟨k, hk, rfl, HA, HB⟩ := hrel
    by_cases hlt : k < ps.length
    · obtain ⟨x, hx⟩ : ∃ q, ps[k]? = some q := ⟨_, List.getElem?_eq_getElem hlt⟩
      obtain ⟨ab, aoff, pa, pc, rfl, hp, c0, c1, c2, c3, c4, c5⟩ := (hr.below HB.out) k x hx
      have HX := hide hx
      clear hx
      have k45 : ∀ W, Below wr.heap.size wr W → Calls Tryz.prog 45 #[odv pa x.p.length pc x] W fun e w' => e = .returned (.int .i64 (chkO x)) ∧ Below W.heap.size W w' := fun W hW => chk_any x (hp.below hW) ((hT.below HB.out).below hW)
      have hb1 : Below wr.heap.size wr (wr.alloc (.cells (odC pa x.p.length pc x) 34)) := (Below.refl _ wr).alloc (Nat.le_refl _) _
      obtain ⟨v, hv⟩ : ∃ q, q = chkO x := ⟨_, rfl⟩
      rw [← hv] at k45
      have HV := hide hv
      clear hv
      have HX2 := hide (And.intro HX HV)
      clear HX HV
      obtain ⟨xp, xk, xs, xd, xn, xt⟩ := x
      dsimp only at c0 c1 c2 c3 c4 c5 k45 hp hb1
      generalize xp.length = N at c0 k45 hb1
      have HB1 := hide hb1
      clear hp hb1
      by_cases hv0 : v = 0
      · subst hv0
        go_wp2_with (go_at_call 45; refine (k45 _ HB1.out).mono ?_; rintro e w2 ⟨rfl, hb2⟩; have HB2 := hide (HB1.out.trans (hb2.mono HB1.out.size)); clear hb2)
        go_roundw
        case rel => exact ⟨k + 1, by omega, by go_num, hide (fun j o hj ho => by
            by_cases hjk : j < k
            · exact HA.out j o hjk ho
            · have : j = k := by omega
              subst this
              rw [HX2.out.1.out] at ho
              cases ho
              exact HX2.out.2.out.symm), hide (HB.out.trans (HB2.out.mono HB.out.size))⟩
        case measure => simp [intOf]; omega
      · have hv1 : (v != 0) = true := by simpa using hv0
        go_wp2_with (go_at_call 45; refine (k45 _ HB1.out).mono ?_; rintro e w2 ⟨rfl, hb2⟩; have HB2 := hide (HB1.out.trans (hb2.mono HB1.out.size)); clear hb2)
        go_ret
        exact ⟨(by rw [find_all HA.out HX2.out.1.out (by rw [← HX2.out.2.out]; exact hv0), ← HX2.out.2.out]; rfl), HB.out.trans (HB2.out.mono HB.out.size)⟩
    · have hw : wrongL ps = if 64 < ps.length then 3 else 0 := find_not (fun j o hj ho => HA.out j o (by omega) ho)
      have HH := hide hw
      clear hw
      by_cases h64 : 64 < ps.length
      · have h64' : (64 : Int) < (ps.length : Int) := by omega
        go_wp2
        go_ret
        exact ⟨(by rw [HH.out, if_pos h64]; rfl), HB.out⟩
      · have h64' : ¬ (64 : Int) < (ps.length : Int) := by omega
        go_wp2
        go_ret
        exact ⟨(by rw [HH.out, if_neg h64]; rfl), HB.out⟩
end Go.Proofs.YtpepgoelnagoaaaGreatDoor
namespace Go.Proofs.YtpepgoelnagoaaaGreatDoor
open Go.RowKit Go.Shelf
set_option linter.unusedSimpArgs false
set_option linter.unusedVariables false
attribute [local go_sem] Oper.semAt_some

/-- What a call that answers new bytes and an error leaves. -/
def MadeE (w w' : World) (x : Ending) (l : List Int) (er : Int) : Prop :=
  ∃ ao cap, x = .returned (.tuple #[.slice ao l.length cap, .int .i64 er]) ∧ Own 5 w' w.heap.size (.slice ao l.length cap) l ∧ (ao = none → cap = 0) ∧ Below w.heap.size w w'
def frE (o : Od) : List Int := if chkO o = 0 then frO o else []
set_option maxHeartbeats 2000000 in
set_option maxRecDepth 100000 in
theorem toldB_any {w : World} {pa : Option Addr} {pc : Nat} (o : Od) (h : Ki.Rp w pa pc o.p) (hn : I64 o.n) (hT : Tabs w) : Calls Tryz.prog 44 #[odv pa o.p.length pc o, .func (.func 45) #[] #[], .func (.func 46) #[] #[]] w fun e w' => MadeE w w' e (frE o) (chkO o) := by
  obtain ⟨w0, hw0⟩ : ∃ q, q = w.alloc (.cells (odC pa o.p.length pc o) 34) := ⟨_, rfl⟩
  have d0 : Below w.heap.size w w0 := by rw [hw0]; exact (Below.refl _ w).alloc (Nat.le_refl _) _
  have m0 := op6_new w pa o.p.length pc o
  rw [← hw0] at m0
  obtain ⟨Sb, hSb⟩ : ∃ q, q = w.heap.size := ⟨_, rfl⟩
  rw [← hSb] at m0
  have HS : Hid (∀ W, Below w0.heap.size w0 W → Op6 W Sb pa o.p.length pc o) := hide (fun W hW => op6_of ((hW.block _ (Array.getElem?_eq_some_iff.1 m0).1).trans m0))
  have k45 : ∀ W, Below w0.heap.size w0 W → Calls Tryz.prog 45 #[odv pa o.p.length pc o] W fun e w' => e = .returned (.int .i64 (chkO o)) ∧ Below W.heap.size W w' := fun W hW => chk_any o ((h.below d0).below hW) ((hT.below d0).below hW)
  have k46 : chkO o = 0 → ∀ W, Below w0.heap.size w0 W → Calls Tryz.prog 46 #[odv pa o.p.length pc o] W fun e w' => Made 5 W w' e (frO o) := fun hc W hW => form_any o ((h.below d0).below hW) (ok_of hc) hn
  have HE : Hid (frE o = if chkO o = 0 then frO o else []) := hide rfl
  obtain ⟨L, hL⟩ : ∃ q, q = frE o := ⟨_, rfl⟩
  rw [← hL] at HE ⊢
  obtain ⟨v, hv⟩ : ∃ q, q = chkO o := ⟨_, rfl⟩
  rw [← hv] at HE k45 k46 ⊢
  obtain ⟨M, hM⟩ : ∃ q, q = frO o := ⟨_, rfl⟩
  rw [← hM] at HE k46
  have HW := hide (And.intro hw0 (And.intro hSb d0))
  clear h hn hT m0 hw0 hSb d0 hL hv hM
  obtain ⟨p, k, s, d, n, t⟩ := o
  dsimp only at HS k45 k46 HW ⊢
  generalize p.length = N at HS k45 k46 HW ⊢
  by_cases hv0 : v = 0
  · subst hv0
    have hE : L = M := by rw [HE.out, if_pos rfl]
    subst hE
    have kf := k46 rfl
    clear k46
    go_enter Tryz.func44, Tryz.ntmps44
    go_upto_region 1 with fail
    rw [← HW.out.1, ← HW.out.2.1]
    obtain ⟨x0, x1, x2, x3, x4, x5⟩ := HS.out w0 (Below.refl _ _)
    dsimp only at x0 x1 x2 x3 x4 x5
    go_wp2_with (first
      | (go_at_call 45; refine (k45 _ (Below.refl _ _)).mono ?_; rintro e w1 ⟨rfl, d1⟩; clear k45 x0 x1 x2 x3 x4 x5; obtain ⟨x0, x1, x2, x3, x4, x5⟩ := HS.out w1 d1; dsimp only at x0 x1 x2 x3 x4 x5; have D1 := hide d1; clear d1)
      | (go_at_call 46; refine (kf _ D1.out).mono ?_; rintro e w2 ⟨a2, c2, rfl, O2, n2, d2⟩))
    go_ret2
    exact ⟨a2, c2, rfl, O2.lift (HW.out.2.2.trans (D1.out.mono HW.out.2.2.size)).size, n2, (HW.out.2.2.trans (D1.out.mono HW.out.2.2.size)).trans (d2.mono (HW.out.2.2.trans (D1.out.mono HW.out.2.2.size)).size)⟩
  · have hv1 : (v != 0) = true := by simpa using hv0
    have hE : L = [] := by rw [HE.out, if_neg hv0]
    subst hE
    clear k46
    go_enter Tryz.func44, Tryz.ntmps44
    go_upto_region 1 with fail
    rw [← HW.out.1, ← HW.out.2.1]
    obtain ⟨x0, x1, x2, x3, x4, x5⟩ := HS.out w0 (Below.refl _ _)
    dsimp only at x0 x1 x2 x3 x4 x5
    go_wp2_with (go_at_call 45; refine (k45 _ (Below.refl _ _)).mono ?_; rintro e w1 ⟨rfl, d1⟩; clear k45 x0 x1 x2 x3 x4 x5; have D1 := hide d1; clear d1)
    go_ret2
    exact ⟨none, 0, rfl, Own.nil _ _ _, fun _ => rfl, HW.out.2.2.trans (D1.out.mono HW.out.2.2.size)⟩

set_option maxHeartbeats 1000000 in
set_option maxRecDepth 100000 in
theorem bytesO_any {w : World} {pa : Option Addr} {pc : Nat} (o : Od) (h : Ki.Rp w pa pc o.p) (hn : I64 o.n) (hT : Tabs w) : Calls Tryz.prog 11 #[odv pa o.p.length pc o] w fun e w' => MadeE w w' e (frE o) (chkO o) := by
  obtain ⟨w0, hw0⟩ : ∃ q, q = w.alloc (.cells (odC pa o.p.length pc o) 34) := ⟨_, rfl⟩
  have d0 : Below w.heap.size w w0 := by rw [hw0]; exact (Below.refl _ w).alloc (Nat.le_refl _) _
  have m0 := op6_new w pa o.p.length pc o
  rw [← hw0] at m0
  have k := toldB_any o (h.below d0) hn (hT.below d0)
  have HW := hide (And.intro hw0 d0)
  obtain ⟨x0, x1, x2, x3, x4, x5⟩ := op6_of m0
  generalize frE o = L at k ⊢
  generalize chkO o = v at k ⊢
  clear h hn hT hw0 d0 m0
  obtain ⟨p, k', s, d, n, t⟩ := o
  dsimp only at x0 x1 x2 x3 x4 x5 k HW ⊢
  generalize p.length = N at x0 k HW ⊢
  go_enter Tryz.func11, Tryz.ntmps11
  go_upto_region 1 with fail
  rw [← HW.out.1]
  go_wp2_with (go_at_call 44; refine k.mono ?_; rintro e w1 ⟨a1, c1, rfl, O1, n1, d1⟩)
  go_ret2
  exact ⟨a1, c1, rfl, O1.lift HW.out.2.size, n1, HW.out.2.trans (d1.mono HW.out.2.size)⟩
end Go.Proofs.YtpepgoelnagoaaaGreatDoor
