/-
  THE STATEMENT's OWN made: how many nodes of a map are not another's.
-/
import Derived.Test.YtleaaoknjflgoaaShared
namespace Go.Proofs.Ytleaaoknjflgoaa
open Go.RowKit Go.Shelf
set_option linter.unusedSimpArgs false

set_option maxHeartbeats 4000000 in
set_option maxRecDepth 100000 in
theorem madeOf_any (a b : T) (w : World) (ha : In w a) (hb : In w b) (hn : b.n ≤ 700000) : Calls Try.prog 11 #[mv a, mv b] w fun e w' => e = .returned (.int .i64 ((b.n : Int) - (sharedIn a b : Nat))) ∧ Below w.heap.size w w' := by
  have hsl : sharedIn a b ≤ b.n := shared_le a b
  have hbb : Below w.heap.size w ((w.alloc (.cells #[a.ptr] 26)).alloc (.cells #[b.ptr] 26)) := ((Below.refl _ w).alloc (Nat.le_refl _) _).alloc (by simp) _
  obtain ⟨m0, m1⟩ := new2 w (.cells #[a.ptr] 26) (.cells #[b.ptr] 26)
  obtain ⟨wb, hwb⟩ : ∃ wb, wb = (w.alloc (.cells #[a.ptr] 26)).alloc (.cells #[b.ptr] 26) := ⟨_, rfl⟩
  rw [← hwb] at hbb m0 m1
  obtain ⟨xa, h1⟩ := a.ptr_shape
  obtain ⟨xb, h2⟩ := b.ptr_shape
  have q0 : wb.cell? ⟨w.heap.size, 0, none⟩ = some (.pointer xa) ∧ wb.cell? ⟨w.heap.size + 1, 0, none⟩ = some (.pointer xb) ∧ Hid (Below wb.heap.size wb wb) := ⟨by rw [cell_of_row _ _ 0 _ 26 (0, 0) m0, h1]; rfl, by rw [cell_of_row _ _ 0 _ 26 (0, 0) m1, h2]; rfl, hide (Below.refl _ _)⟩
  have bL : ∀ W, Below wb.heap.size wb W → Calls Try.prog 19 #[mv b] W fun e w' => e = .returned (.int .i64 (b.n : Nat)) ∧ Below W.heap.size W w' := fun W hW => mLen_any b W (In.below (hbb.trans (hW.mono hbb.size)) hb)
  have bS : ∀ W, Below wb.heap.size wb W → Calls Try.prog 20 #[mv b, mv a] W fun e w' => e = .returned (.int .i64 (sharedIn a b : Nat)) ∧ Below W.heap.size W w' := fun W hW => shared_any b a W (In.below (hbb.trans (hW.mono hbb.size)) hb) (In.below (hbb.trans (hW.mono hbb.size)) ha) hn
  unfold mv at bL bS ⊢
  rw [h1, h2] at hwb bS ⊢
  rw [h2] at bL
  generalize sharedIn a b = H at *
  generalize b.n = N at *
  have HB := hide hbb
  have HW := hide hwb
  clear ha hb m0 m1 hbb hwb h1 h2
  have hwr : IntKind.i64.wrap ((N : Int) - (H : Int)) = (N : Int) - (H : Int) := by rw [IntKind.wrap_i64]; omega
  go_enter Try.func11, Try.ntmps11
  go_upto_region 1 with (fail)
  rw [← HW.out]
  have qd : wb.drew.cell? ⟨w.heap.size, 0, none⟩ = some (.pointer xa) ∧ wb.drew.cell? ⟨w.heap.size + 1, 0, none⟩ = some (.pointer xb) ∧ Hid (Below wb.heap.size wb wb.drew) := ⟨q0.1, q0.2.1, hide (q0.2.2.out.trans ((drew_below wb).mono q0.2.2.out.size))⟩
  refine wp_region_held_drew (S := (fun w' => w'.cell? ⟨w.heap.size, 0, none⟩ = some (.pointer xa) ∧ w'.cell? ⟨w.heap.size + 1, 0, none⟩ = some (.pointer xb) ∧ Hid (Below wb.heap.size wb w'))) (by kernel_rfl) qd (fun hHeld => ?_)
  try dsimp only at hHeld
  refine take_op (i := 0) (d := 5) (OP := Op.load 26 (Operand.tmp 3)) (T := 26) (v := ?vzz1) rfl rfl rfl rfl (by kernel_rfl) (by kernel_rfl) (by kernel_rfl) (fun _ _ _ h => h) (by rfl) ?hzz1 hHeld ?rzz1
  case hzz1 => (intro w' hSw; (try dsimp only at hSw); go_simp <;> with_reducible rfl)
  try simp only [Act.put, List.setIfInBounds_toArray, List.set_cons_zero, List.set_cons_succ]
  refine take_op (i := 2) (d := 7) (OP := Op.load 26 (Operand.tmp 3)) (T := 26) (v := ?vzz2) rfl rfl rfl rfl (by kernel_rfl) (by kernel_rfl) (by kernel_rfl) (fun _ _ _ h => h) (by rfl) ?hzz2 hHeld ?rzz2
  case hzz2 => (intro w' hSw; (try dsimp only at hSw); go_simp <;> with_reducible rfl)
  try simp only [Act.put, List.setIfInBounds_toArray, List.set_cons_zero, List.set_cons_succ]
  refine take_op (i := 3) (d := 8) (OP := Op.load 26 (Operand.tmp 2)) (T := 26) (v := ?vzz3) rfl rfl rfl rfl (by kernel_rfl) (by kernel_rfl) (by kernel_rfl) (fun _ _ _ h => h) (by rfl) ?hzz3 hHeld ?rzz3
  case hzz3 => (intro w' hSw; (try dsimp only at hSw); go_simp <;> with_reducible rfl)
  try simp only [Act.put, List.setIfInBounds_toArray, List.set_cons_zero, List.set_cons_succ]
  refine call_op (i := 1) (d := 6) (OP := Op.call { callee := Callee.value (Operand.func 19), args := #[Operand.tmp 5], argTypes := #[26] }) (T := 3) (f := 19) (args := #[.agg #[.pointer xb]]) rfl rfl rfl rfl (by kernel_rfl) (by rfl) (by go_simp) ?_
  refine (bL _ qd.2.2.out).mono ?_
  rintro e w1 ⟨rfl, bw1⟩
  have qw1 : w1.cell? ⟨w.heap.size, 0, none⟩ = some (.pointer xa) ∧ w1.cell? ⟨w.heap.size + 1, 0, none⟩ = some (.pointer xb) ∧ Hid (Below wb.heap.size wb w1) := ⟨cell_stays qd.1 bw1, cell_stays qd.2.1 bw1, hide (qd.2.2.out.trans (bw1.mono qd.2.2.out.size))⟩
  refine ⟨_, rfl, qw1, ?_⟩
  replace hHeld := qw1
  try simp only [Act.put, List.setIfInBounds_toArray, List.set_cons_zero, List.set_cons_succ]
  refine call_op (i := 4) (d := 9) (OP := Op.call { callee := Callee.value (Operand.func 20), args := #[Operand.tmp 7, Operand.tmp 8], argTypes := #[26, 26] }) (T := 3) (f := 20) (args := #[.agg #[.pointer xb], .agg #[.pointer xa]]) rfl rfl rfl rfl (by kernel_rfl) (by rfl) (by go_simp) ?_
  refine (bS _ qw1.2.2.out).mono ?_
  rintro e w2 ⟨rfl, bw2⟩
  have qw2 : w2.cell? ⟨w.heap.size, 0, none⟩ = some (.pointer xa) ∧ w2.cell? ⟨w.heap.size + 1, 0, none⟩ = some (.pointer xb) ∧ Hid (Below wb.heap.size wb w2) := ⟨cell_stays qw1.1 bw2, cell_stays qw1.2.1 bw2, hide (qw1.2.2.out.trans (bw2.mono qw1.2.2.out.size))⟩
  refine ⟨_, rfl, qw2, ?_⟩
  replace hHeld := qw2
  try simp only [Act.put, List.setIfInBounds_toArray, List.set_cons_zero, List.set_cons_succ]
  refine take_op (i := 5) (d := 10) (OP := Op.binOp BinOp.sub 3 (Operand.tmp 6) (Operand.tmp 9) 3) (T := 3) (v := ?vzz4) rfl rfl rfl rfl (by kernel_rfl) (by kernel_rfl) (by kernel_rfl) (fun _ _ _ h => h) (by rfl) ?hzz4 hHeld ?rzz4
  case hzz4 => (intro w' hSw; (try dsimp only at hSw); go_simp <;> with_reducible rfl)
  try simp only [Act.put, List.setIfInBounds_toArray, List.set_cons_zero, List.set_cons_succ]
  refine take_op (i := 6) (d := 4) (OP := Op.assign (Operand.tmp 10)) (T := 3) (v := ?vzz5) rfl rfl rfl rfl (by kernel_rfl) (by kernel_rfl) (by kernel_rfl) (fun _ _ _ h => h) (by rfl) ?hzz5 hHeld ?rzz5
  case hzz5 => (intro w' hSw; (try dsimp only at hSw); go_simp <;> with_reducible rfl)
  try simp only [Act.put, List.setIfInBounds_toArray, List.set_cons_zero, List.set_cons_succ]
  refine wpAnyH_done (by kernel_rfl) ?_ _
  go_wp2
  go_ret
  exact ⟨by simp [hwr], HB.out.trans (qw2.2.2.out.mono HB.out.size)⟩
end Go.Proofs.Ytleaaoknjflgoaa
