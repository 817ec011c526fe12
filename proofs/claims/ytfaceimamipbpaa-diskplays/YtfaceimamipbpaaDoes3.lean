/-
  WALKS over a step (does): Clear.
-/
import Derived.Test.YtfaceimamipbpaaDoes2
namespace Go.Proofs.Ytfaceimamipbpaa
open Go.RowKit
set_option linter.unusedSimpArgs false

section
variable {B : Nat} {X : Nat → Prop} {w : World} {D R : Nat} {cap : Int} {beg : St} {log : List Wr}
set_option maxHeartbeats 1000000 in
set_option maxRecDepth 100000 in
theorem does_clear (h : Twin B X w D R cap beg log log) (n : Int) (so : Option Addr) (m sc : Nat) (hlog : log.length < 1000000) :
    Calls Try.prog 12 #[.pointer (some ⟨D, 0, none⟩), .pointer (some ⟨R, 0, none⟩), .agg #[.int .i64 2, .int .i64 n, .slice so m sc]] w (Did B w cap beg log) := by
  have hb0 : Below w.heap.size w (w.alloc (.cells #[.int .i64 2, .int .i64 n, .slice so m sc] 40)) := (Below.refl _ w).alloc (Nat.le_refl _) _
  have hs := h.size
  have hS0 : (w.alloc (.cells #[.int .i64 2, .int .i64 n, .slice so m sc] 40)).drew.cell? ⟨w.heap.size, 1, none⟩ = some (.int .i64 n) := by
    have e : (w.alloc (.cells #[.int .i64 2, .int .i64 n, .slice so m sc] 40)).cell? ⟨w.heap.size, 1, none⟩ = some (.int .i64 n) := by rw [cell_of_row _ _ 1 _ 40 (0, 0) (heap_alloc_new w _)]; rfl
    exact e
  have hXu : Under (fun k => k = w.heap.size) (w.alloc (.cells #[.int .i64 2, .int .i64 n, .slice so m sc] 40)).drew.heap.size := fun k q => by
    have : (w.alloc (.cells #[.int .i64 2, .int .i64 n, .slice so m sc] 40)).drew.heap.size = w.heap.size + 1 := by simp [World.drew]
    omega
  have T0 := hide (((h.aside (Y := fun k => k = w.heap.size) (fun k q => by omega)).below hb0).below ((Below.refl _ _).drew))
  have HB := hide (And.intro hs hb0)
  clear h hb0 hs
  go_enter Try.func12, Try.ntmps12
  go_wp2
  refine wp_region_held_drew (S := (fun w' => w'.cell? ⟨w.heap.size, 1, none⟩ = some (.int .i64 n))) (by kernel_rfl) (by exact hS0) (fun hHeld => ?_)
  try dsimp only at hHeld
  refine take_op (i := 0) (d := 46) (OP := Op.move (Operand.tmp 0)) (T := 28) (v := ?vq1x) rfl rfl rfl rfl (by kernel_rfl) (by kernel_rfl) (by kernel_rfl) (fun _ _ _ h => h) (by rfl) ?hq1x hHeld ?rq1x
  case hq1x => (intro w' hSw; (try dsimp only at hSw); go_simp <;> with_reducible rfl)
  try simp only [Act.put, List.setIfInBounds_toArray, List.set_cons_zero, List.set_cons_succ]
  refine take_op (i := 1) (d := 47) (OP := Op.move (Operand.tmp 1)) (T := 32) (v := ?vq2x) rfl rfl rfl rfl (by kernel_rfl) (by kernel_rfl) (by kernel_rfl) (fun _ _ _ h => h) (by rfl) ?hq2x hHeld ?rq2x
  case hq2x => (intro w' hSw; (try dsimp only at hSw); go_simp <;> with_reducible rfl)
  try simp only [Act.put, List.setIfInBounds_toArray, List.set_cons_zero, List.set_cons_succ]
  refine take_op (i := 2) (d := 48) (OP := Op.move (Operand.tmp 0)) (T := 28) (v := ?vq3x) rfl rfl rfl rfl (by kernel_rfl) (by kernel_rfl) (by kernel_rfl) (fun _ _ _ h => h) (by rfl) ?hq3x hHeld ?rq3x
  case hq3x => (intro w' hSw; (try dsimp only at hSw); go_simp <;> with_reducible rfl)
  try simp only [Act.put, List.setIfInBounds_toArray, List.set_cons_zero, List.set_cons_succ]
  refine take_op (i := 3) (d := 49) (OP := Op.fieldAddr 40 (Operand.tmp 5) 1) (T := 0) (v := ?vq4x) rfl rfl rfl rfl (by kernel_rfl) (by kernel_rfl) (by kernel_rfl) (fun _ _ _ h => h) (by rfl) ?hq4x hHeld ?rq4x
  case hq4x => (intro w' hSw; (try dsimp only at hSw); go_simp <;> with_reducible rfl)
  try simp only [Act.put, List.setIfInBounds_toArray, List.set_cons_zero, List.set_cons_succ]
  refine take_op (i := 4) (d := 50) (OP := Op.load 3 (Operand.tmp 49)) (T := 3) (v := ?vq5x) rfl rfl rfl rfl (by kernel_rfl) (by kernel_rfl) (by kernel_rfl) (fun _ _ _ h => h) (by rfl) ?hq5x hHeld ?rq5x
  case hq5x => (intro w' hSw; (try dsimp only at hSw); go_simp <;> with_reducible rfl)
  try simp only [Act.put, List.setIfInBounds_toArray, List.set_cons_zero, List.set_cons_succ]
  refine take_op (i := 6) (d := 52) (OP := Op.move (Operand.tmp 1)) (T := 32) (v := ?vq6x) rfl rfl rfl rfl (by kernel_rfl) (by kernel_rfl) (by kernel_rfl) (fun _ _ _ h => h) (by rfl) ?hq6x hHeld ?rq6x
  case hq6x => (intro w' hSw; (try dsimp only at hSw); go_simp <;> with_reducible rfl)
  try simp only [Act.put, List.setIfInBounds_toArray, List.set_cons_zero, List.set_cons_succ]
  refine take_op (i := 7) (d := 53) (OP := Op.fieldAddr 40 (Operand.tmp 5) 1) (T := 0) (v := ?vq7x) rfl rfl rfl rfl (by kernel_rfl) (by kernel_rfl) (by kernel_rfl) (fun _ _ _ h => h) (by rfl) ?hq7x hHeld ?rq7x
  case hq7x => (intro w' hSw; (try dsimp only at hSw); go_simp <;> with_reducible rfl)
  try simp only [Act.put, List.setIfInBounds_toArray, List.set_cons_zero, List.set_cons_succ]
  refine take_op (i := 8) (d := 54) (OP := Op.load 3 (Operand.tmp 53)) (T := 3) (v := ?vq8x) rfl rfl rfl rfl (by kernel_rfl) (by kernel_rfl) (by kernel_rfl) (fun _ _ _ h => h) (by rfl) ?hq8x hHeld ?rq8x
  case hq8x => (intro w' hSw; (try dsimp only at hSw); go_simp <;> with_reducible rfl)
  try simp only [Act.put, List.setIfInBounds_toArray, List.set_cons_zero, List.set_cons_succ]
  refine call_op (i := 5) (d := 51) (OP := Op.call { callee := Callee.value (Operand.func 14), args := #[Operand.tmp 48, Operand.tmp 50], argTypes := #[28, 3] }) (T := 29) (f := 14) (args := #[.pointer (some ⟨D, 0, none⟩), .int .i64 n]) rfl rfl rfl rfl (by kernel_rfl) (by rfl) (by go_simp) ?_
  refine ((T0.out.clear hXu n hlog)).mono ?_
  rintro e w2 ⟨rfl, t2, on2⟩
  have hS2 : w2.cell? ⟨w.heap.size, 1, none⟩ = some (.int .i64 n) := on2.cell hHeld (fun q => q.2 rfl)
  have hX2 : Under (fun k => k = w.heap.size) w2.heap.size := fun k q => Nat.lt_of_lt_of_le (hXu k q) on2.size
  have T2 := hide (And.intro t2 on2)
  clear t2 on2
  refine ⟨_, rfl, hS2, ?_⟩
  replace hHeld := hS2
  try simp only [Act.put, List.setIfInBounds_toArray, List.set_cons_zero, List.set_cons_succ]
  refine call_op (i := 9) (d := 55) (OP := Op.call { callee := Callee.value (Operand.func 33), args := #[Operand.tmp 52, Operand.tmp 54], argTypes := #[32, 3] }) (T := 3) (f := 33) (args := #[.pointer (some ⟨R, 0, none⟩), .int .i64 n]) rfl rfl rfl rfl (by kernel_rfl) (by rfl) (by go_simp) ?_
  refine ((T2.out.1.rclear hX2 n hlog)).mono ?_
  rintro e w3 ⟨rfl, t3, on3⟩
  have hS3 : w3.cell? ⟨w.heap.size, 1, none⟩ = some (.int .i64 n) := on3.cell hHeld (fun q => q.2 rfl)
  have T3 := hide (And.intro t3 on3)
  clear t3 on3
  refine ⟨_, rfl, hS3, ?_⟩
  replace hHeld := hS3
  try simp only [Act.put, List.setIfInBounds_toArray, List.set_cons_zero, List.set_cons_succ]
  refine take_op (i := 10) (d := 56) (OP := Op.binOp BinOp.eql 3 (Operand.tmp 51) (Operand.tmp 55) 3) (T := 4) (v := ?vq11x) rfl rfl rfl rfl (by kernel_rfl) (by kernel_rfl) (by kernel_rfl) (fun _ _ _ h => h) (by rfl) ?hq11x hHeld ?rq11x
  case hq11x => (intro w' hSw; (try dsimp only at hSw); go_simp <;> with_reducible rfl)
  try simp only [Act.put, List.setIfInBounds_toArray, List.set_cons_zero, List.set_cons_succ]
  refine take_op (i := 11) (d := 6) (OP := Op.assign (Operand.tmp 46)) (T := 28) (v := ?vq12x) rfl rfl rfl rfl (by kernel_rfl) (by kernel_rfl) (by kernel_rfl) (fun _ _ _ h => h) (by rfl) ?hq12x hHeld ?rq12x
  case hq12x => (intro w' hSw; (try dsimp only at hSw); go_simp <;> with_reducible rfl)
  try simp only [Act.put, List.setIfInBounds_toArray, List.set_cons_zero, List.set_cons_succ]
  refine take_op (i := 12) (d := 7) (OP := Op.assign (Operand.tmp 47)) (T := 32) (v := ?vq13x) rfl rfl rfl rfl (by kernel_rfl) (by kernel_rfl) (by kernel_rfl) (fun _ _ _ h => h) (by rfl) ?hq13x hHeld ?rq13x
  case hq13x => (intro w' hSw; (try dsimp only at hSw); go_simp <;> with_reducible rfl)
  try simp only [Act.put, List.setIfInBounds_toArray, List.set_cons_zero, List.set_cons_succ]
  refine take_op (i := 13) (d := 8) (OP := Op.assign (Operand.tmp 56)) (T := 4) (v := ?vq14x) rfl rfl rfl rfl (by kernel_rfl) (by kernel_rfl) (by kernel_rfl) (fun _ _ _ h => h) (by rfl) ?hq14x hHeld ?rq14x
  case hq14x => (intro w' hSw; (try dsimp only at hSw); go_simp <;> with_reducible rfl)
  try simp only [Act.put, List.setIfInBounds_toArray, List.set_cons_zero, List.set_cons_succ]
  refine wpAnyH_done (by kernel_rfl) ?_ _
  go_wp2
  go_ret3
  obtain ⟨hs, hb0⟩ := HB.out
  obtain ⟨t2, on2⟩ := T2.out
  obtain ⟨t3, on3⟩ := T3.out
  have t0 := T0.out
  refine ⟨D, R, clearL n log, by simp, t3.free, ?_, (((hb0.mono hs).drew).trans (on2.belowB (fun _ q => q.1) t0.size)).trans (on3.belowB (fun _ q => q.1) t2.size)⟩
  unfold clearL
  split <;> simp
end
end Go.Proofs.Ytfaceimamipbpaa
