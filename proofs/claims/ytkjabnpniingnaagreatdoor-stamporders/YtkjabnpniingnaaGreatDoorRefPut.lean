/-
  REFPUT: the document's own form of a stamp.
-/
import Derived.Test.YtkjabnpniingnaaGreatDoorForm
import Derived.Deep.DeepCutAuto
import Derived.Deep.CutBlock
namespace Go.Proofs.YtkjabnpniingnaaGreatDoor
open Go.RowKit Go.Shelf
set_option linter.unusedSimpArgs false

/-- An append whose run is known, in a list of operations. -/
theorem wpList_app {P : Program} {w w' : World} {ops : Array Oper} {rest : List Oper} {o : Oper} {a : Act} {Q : Exit → Act → World → Prop} (hgd : o.guard = none) (s x : Operand) (t T : TypeId)
    (ho : o.op = .call { callee := .builtin .append, args := #[s, x], argTypes := #[t, t] }) (hT : o.type = T) {v u v' : Value} (hs : a.eval s = v) (hx : a.eval x = u) (hr : (Builtin.append_ #[t, t] T #[v, u]).run P w = .ok v' w')
    (h : wpList P ops Q rest (a.put o.dst v') w') : wpList P ops Q (o :: rest) a w :=
  wpList_plain hgd fun K hK => by
    unfold Oper.wp
    rw [exec_same a.eval o ho hT, exec_append hs hx hr]
    exact hK _ _ h
set_option maxHeartbeats 2000000 in
set_option maxRecDepth 100000 in
theorem refPut_any (g r : Int) (l : ByteArray) (n x : Int) (w : World) (h0 : 0 ≤ r) (h1 : r ≤ 9223372036854775807) (hl : l.size ≤ 1000000) (n0 : 0 ≤ n) (n1 : n ≤ 9223372036854775807) (g0 : 0 ≤ g) (g1 : g ≤ 9223372036854775807) (x0 : 0 ≤ x) (x1 : x ≤ 9223372036854775807) : Calls Tryz.prog 23 #[sv g r l n x] w fun e w' => Made 5 w w' e (stL g r l n x) := by
  have hb := below_new w (.cells #[.int .i64 g, .int .i64 r, .string l, .int .i64 n, .int .i64 x] 27)
  obtain ⟨p0, p1, p2, p3, p4⟩ := five_new w (.int .i64 g) (.int .i64 r) (.string l) (.int .i64 n) (.int .i64 x) 27
  have wg : IntKind.u64.wrap g = g := by rw [IntKind.wrap_u64]; omega
  have wx : IntKind.u64.wrap x = x := by rw [IntKind.wrap_u64]; omega
  have t1 := Plain.numL_ten g.toNat (by omega)
  have t2 := Plain.numL_ten x.toNat (by omega)
  have t3 := nmL_length r l n h1 hl n1
  have hg : ∀ W, Calls Tryz.prog 75 #[.int .u64 g] W fun e w' => Made 5 W w' e (Plain.numL g.toNat) := fun W => refNumber_int g W g0 (by omega)
  have hx : ∀ W, Calls Tryz.prog 75 #[.int .u64 x] W fun e w' => Made 5 W w' e (Plain.numL x.toNat) := fun W => refNumber_int x W x0 (by omega)
  have hnm : ∀ W, Calls Tryz.prog 27 #[nv r l n] W fun e w' => Made 5 W w' e (nmL r l n) := fun W => refPutName_any r l n W h0 h1 hl n0 n1
  have hst : stL g r l n x = Plain.numL g.toNat ++ nmL r l n ++ Plain.numL x.toNat := rfl
  have hap : ∀ (W : World) (v : Value) (a2 : Option Addr) (c2 : Nat), Own 5 W (w.heap.size + 1) v (Plain.numL g.toNat) → Rd W a2 (nmL r l n) → (a2 = none → c2 = 0) → w.heap.size + 1 ≤ W.heap.size → ∃ a' c' w', (Builtin.append_ #[29, 29] 29 #[v, .slice a2 (nmL r l n).length c2]).run Tryz.prog W = .ok (.slice a' (Plain.numL g.toNat ++ nmL r l n).length c') w' ∧ Own 5 w' (w.heap.size + 1) (.slice a' (Plain.numL g.toNat ++ nmL r l n).length c') (Plain.numL g.toNat ++ nmL r l n) ∧ (a' = none → c' = 0) ∧ Below (w.heap.size + 1) W w' := fun W v a2 c2 q1 q2 n2 hs => app_own q1 n2 q2 (by omega) hs
  have hap2 : ∀ (W : World) (v : Value) (a2 : Option Addr) (c2 : Nat), Own 5 W (w.heap.size + 1) v (Plain.numL g.toNat ++ nmL r l n) → Rd W a2 (Plain.numL x.toNat) → (a2 = none → c2 = 0) → w.heap.size + 1 ≤ W.heap.size → ∃ a' c' w', (Builtin.append_ #[29, 29] 29 #[v, .slice a2 (Plain.numL x.toNat).length c2]).run Tryz.prog W = .ok (.slice a' (stL g r l n x).length c') w' ∧ Own 5 w' (w.heap.size + 1) (.slice a' (stL g r l n x).length c') (stL g r l n x) ∧ (a' = none → c' = 0) ∧ Below (w.heap.size + 1) W w' := fun W v a2 c2 q1 q2 n2 hs => by
    rw [hst]
    exact app_own q1 n2 q2 (by rw [List.length_append]; omega) hs
  clear hst t1 t2 t3
  generalize stL g r l n x = ST at hap2 ⊢
  generalize Plain.numL g.toNat ++ nmL r l n = PR at hap hap2
  generalize Plain.numL g.toNat = NG at hg hap
  generalize nmL r l n = NM at hnm hap
  generalize Plain.numL x.toNat = NX at hx hap2
  go_enter Tryz.func23, Tryz.ntmps23
  go_wp2
  have hs0 : w.heap.size + 1 ≤ (w.alloc (.cells #[.int .i64 g, .int .i64 r, .string l, .int .i64 n, .int .i64 x] 27)).drew.heap.size := by show _ ≤ (w.alloc _).heap.size; simp
  generalize (w.alloc (.cells #[.int .i64 g, .int .i64 r, .string l, .int .i64 n, .int .i64 x] 27)) = W0 at hb p0 p1 p2 p3 p4 hs0 ⊢
  have hS1 : W0.drew.cell? ⟨w.heap.size, 0, none⟩ = some (.int .i64 g) ∧ W0.drew.cell? ⟨w.heap.size, 1, none⟩ = some (.int .i64 r) ∧ W0.drew.cell? ⟨w.heap.size, 2, none⟩ = some (.string l) ∧ W0.drew.cell? ⟨w.heap.size, 3, none⟩ = some (.int .i64 n) ∧ W0.drew.cell? ⟨w.heap.size, 4, none⟩ = some (.int .i64 x) := ⟨p0, p1, p2, p3, p4⟩
  have hBW : Below w.heap.size w W0.drew := hb.drew
  clear hb p0 p1 p2 p3 p4
  refine wp_region_held_drew (S := (fun w' => w'.cell? ⟨w.heap.size, 0, none⟩ = some (.int .i64 g) ∧ w'.cell? ⟨w.heap.size, 1, none⟩ = some (.int .i64 r) ∧ w'.cell? ⟨w.heap.size, 2, none⟩ = some (.string l) ∧ w'.cell? ⟨w.heap.size, 3, none⟩ = some (.int .i64 n) ∧ w'.cell? ⟨w.heap.size, 4, none⟩ = some (.int .i64 x))) (by kernel_rfl) (by exact hS1) (fun hHeld => ?_)
  try dsimp only at hHeld
  refine take_op (i := 0) (d := 4) (OP := Op.fieldAddr 27 (Operand.tmp 1) 0) (T := 0) (v := ?vy1x) rfl rfl rfl rfl (by kernel_rfl) (by kernel_rfl) (by kernel_rfl) (fun _ _ _ h => h) (by rfl) ?hy1x hHeld ?ry1x
  case hy1x => (intro w' hSw; (try dsimp only at hSw); go_simp <;> with_reducible rfl)
  try simp only [Act.put, List.setIfInBounds_toArray, List.set_cons_zero, List.set_cons_succ]
  refine take_op (i := 1) (d := 5) (OP := Op.load 2 (Operand.tmp 4)) (T := 2) (v := ?vy2x) rfl rfl rfl rfl (by kernel_rfl) (by kernel_rfl) (by kernel_rfl) (fun _ _ _ h => h) (by rfl) ?hy2x hHeld ?ry2x
  case hy2x => (intro w' hSw; (try dsimp only at hSw); go_simp <;> with_reducible rfl)
  try simp only [Act.put, List.setIfInBounds_toArray, List.set_cons_zero, List.set_cons_succ]
  refine take_op (i := 2) (d := 6) (OP := Op.convert 2 54 (Operand.tmp 5)) (T := 54) (v := ?vy3x) rfl rfl rfl rfl (by kernel_rfl) (by kernel_rfl) (by kernel_rfl) (fun _ _ _ h => h) (by rfl) ?hy3x hHeld ?ry3x
  case hy3x => (intro w' hSw; (try dsimp only at hSw); go_simp <;> with_reducible rfl)
  try simp only [Act.put, List.setIfInBounds_toArray, List.set_cons_zero, List.set_cons_succ]
  refine take_op (i := 4) (d := 8) (OP := Op.fieldAddr 27 (Operand.tmp 1) 1) (T := 0) (v := ?vy4x) rfl rfl rfl rfl (by kernel_rfl) (by kernel_rfl) (by kernel_rfl) (fun _ _ _ h => h) (by rfl) ?hy4x hHeld ?ry4x
  case hy4x => (intro w' hSw; (try dsimp only at hSw); go_simp <;> with_reducible rfl)
  try simp only [Act.put, List.setIfInBounds_toArray, List.set_cons_zero, List.set_cons_succ]
  refine take_op (i := 5) (d := 9) (OP := Op.load 25 (Operand.tmp 8)) (T := 25) (v := ?vy5x) rfl rfl rfl rfl (by kernel_rfl) (by kernel_rfl) (by kernel_rfl) (fun _ _ _ h => h) (by rfl) ?hy5x hHeld ?ry5x
  case hy5x => (intro w' hSw; (try dsimp only at hSw); go_simp <;> with_reducible rfl)
  try simp only [Act.put, List.setIfInBounds_toArray, List.set_cons_zero, List.set_cons_succ]
  refine call_op (i := 3) (d := 7) (OP := Op.call { callee := Callee.value (Operand.func 75), args := #[Operand.tmp 6], argTypes := #[54] }) (T := 29) (f := 75) (args := #[.int .u64 g]) rfl rfl rfl rfl (by kernel_rfl) (by rfl) (by go_simp) ?_
  refine (hg _).mono ?_
  rintro e w2 ⟨a1, c1, rfl, hO2, m1, b2⟩
  have hS2 := (And.intro (kept b2 hHeld.1) (And.intro (kept b2 hHeld.2.1) (And.intro (kept b2 hHeld.2.2.1) (And.intro (kept b2 hHeld.2.2.2.1) (kept b2 hHeld.2.2.2.2)))))
  have hB2 := hBW.trans (b2.mono hBW.size)
  refine ⟨_, rfl, hS2, ?_⟩
  replace hHeld := hS2
  try simp only [Act.put, List.setIfInBounds_toArray, List.set_cons_zero, List.set_cons_succ]
  refine call_op (i := 6) (d := 10) (OP := Op.call { callee := Callee.value (Operand.func 27), args := #[Operand.tmp 9], argTypes := #[25] }) (T := 29) (f := 27) (args := #[nv r l n]) rfl rfl rfl rfl (by kernel_rfl) (by rfl) (by go_simp) ?_
  refine (hnm _).mono ?_
  rintro e w6 ⟨a6, c6, rfl, hO6, m6, b6⟩
  have hS6 := (And.intro (kept b6 hHeld.1) (And.intro (kept b6 hHeld.2.1) (And.intro (kept b6 hHeld.2.2.1) (And.intro (kept b6 hHeld.2.2.2.1) (kept b6 hHeld.2.2.2.2)))))
  have hB6 := hB2.trans (b6.mono hB2.size)
  have hO1 := hO2.below b6
  refine ⟨_, rfl, hS6, ?_⟩
  replace hHeld := hS6
  try simp only [Act.put, List.setIfInBounds_toArray, List.set_cons_zero, List.set_cons_succ]
  have hz1 := b2.size
  have hz2 := b6.size
  obtain ⟨a9, c9, w9, run9, hO9, n9, b9⟩ := hap w6 _ a6 c6 (hO1.lift (by omega)) hO6.rd m6 (by omega)
  have hS9 : w9.cell? ⟨w.heap.size, 0, none⟩ = some (.int .i64 g) ∧ w9.cell? ⟨w.heap.size, 1, none⟩ = some (.int .i64 r) ∧ w9.cell? ⟨w.heap.size, 2, none⟩ = some (.string l) ∧ w9.cell? ⟨w.heap.size, 3, none⟩ = some (.int .i64 n) ∧ w9.cell? ⟨w.heap.size, 4, none⟩ = some (.int .i64 x) := ⟨(b9.cell (by simp)).trans hS6.1, (b9.cell (by simp)).trans hS6.2.1, (b9.cell (by simp)).trans hS6.2.2.1, (b9.cell (by simp)).trans hS6.2.2.2.1, (b9.cell (by simp)).trans hS6.2.2.2.2⟩
  refine turn_op (i := 7) (d := 11) (OP := Op.call { callee := Callee.builtin Builtin.append, args := #[Operand.tmp 7, Operand.tmp 10], argTypes := #[29, 29] }) (T := 29) (v := .slice a9 PR.length c9) (w' := w9) rfl rfl rfl rfl (by kernel_rfl) (by rfl) (exec_append rfl rfl run9) hS9 ?_
  replace hHeld := hS9
  try simp only [Act.put, List.setIfInBounds_toArray, List.set_cons_zero, List.set_cons_succ]
  refine take_op (i := 8) (d := 3) (OP := Op.assign (Operand.tmp 11)) (T := 29) (v := ?vy6x) rfl rfl rfl rfl (by kernel_rfl) (by kernel_rfl) (by kernel_rfl) (fun _ _ _ h => h) (by rfl) ?hy6x hHeld ?ry6x
  case hy6x => (intro w' hSw; (try dsimp only at hSw); go_simp <;> with_reducible rfl)
  try simp only [Act.put, List.setIfInBounds_toArray, List.set_cons_zero, List.set_cons_succ]
  refine wpAnyH_done (by kernel_rfl) ?_ _
  have hB9 := hB6.trans (b9.mono (by omega))
  have hz3 := b9.size
  clear hO2 hO1 hO6 b2 b6 b9 run9 hHeld hS2 hS6 hS1 hBW hB2 hB6
  obtain ⟨y0, y1, y2, y3, y4⟩ := hS9
  have HO := hide hO9
  clear hO9
  go_wp2_with (first | (at_builtin; refine wpList_app rfl (.tmp 12) (.tmp 16) 29 29 rfl rfl rfl rfl run11 ?_) | (go_at_call 75; refine (hx _).mono ?_; rintro e w10 ⟨a10, c10, rfl, hO10, m10, b10⟩; have hz4 := b10.size; obtain ⟨a11, c11, w11, run11, hO11, n11, b11⟩ := hap2 w10 _ a10 c10 (HO.out.below b10) hO10.rd m10 (by omega); have HH := hide (And.intro hO11 (And.intro n11 ((hB9.trans (b10.mono hB9.size)).trans (b11.mono (by omega))))); clear hO10 hO11 n11 b11 b10))
  go_ret
  exact ⟨a11, c11, rfl, HH.out.1.lift (by omega), HH.out.2.1, HH.out.2.2⟩
end Go.Proofs.YtkjabnpniingnaaGreatDoor
