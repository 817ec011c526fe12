/-
  WALKS over a step (does) where there is no disk.
-/
import Derived.Test.YtfaceimamipbpaaDoes4
namespace Go.Proofs.Ytfaceimamipbpaa
open Go.RowKit
set_option linter.unusedSimpArgs false

theorem rlay_nil (i : Int) (v : Value) (w : World) : Calls Try.prog 32 #[.pointer none, .int .i64 i, v] w fun e w' => e = .returned (.int .i64 1) ∧ w = w' := by
  go_enter Try.func32, Try.ntmps32
  go_wp2
  go_ret
  exact ⟨rfl, rfl⟩
theorem rclear_nil (i : Int) (w : World) : Calls Try.prog 33 #[.pointer none, .int .i64 i] w fun e w' => e = .returned (.int .i64 1) ∧ w = w' := by
  go_enter Try.func33, Try.ntmps33
  go_wp2
  go_ret
  exact ⟨rfl, rfl⟩
theorem rturn_nil (w : World) : Calls Try.prog 34 #[.pointer none] w fun e w' => e = .returned (.int .i64 1) ∧ w = w' := by
  go_enter Try.func34, Try.ntmps34
  go_wp2
  go_ret
  exact ⟨rfl, rfl⟩
theorem rcut_nil (i : Int) (w : World) : Calls Try.prog 35 #[.pointer none, .int .i64 i] w fun e w' => e = .returned (.tuple #[.pointer none, .int .i64 1]) ∧ w = w' := by
  go_enter Try.func35, Try.ntmps35
  go_wp2
  go_ret2
  exact ⟨rfl, rfl⟩

/-- What a step leaves where there is no disk. -/
def DidNot (w : World) (e : Ending) (w' : World) : Prop := e = .returned (.tuple #[.pointer none, .pointer none, .bool true]) ∧ Below w.heap.size w w'
section
variable {w : World}
set_option maxHeartbeats 1000000 in
set_option maxRecDepth 100000 in
theorem does_nil_other (k n : Int) (so : Option Addr) (m sc : Nat) (h1 : k ≠ 1) (h2 : k ≠ 2) (h3 : k ≠ 3) (h4 : k ≠ 4) (h5 : k ≠ 5) :
    Calls Try.prog 12 #[.pointer none, .pointer none, .agg #[.int .i64 k, .int .i64 n, .slice so m sc]] w (DidNot w) := by
  have hb0 : Below w.heap.size w (w.alloc (.cells #[.int .i64 k, .int .i64 n, .slice so m sc] 40)) := (Below.refl _ w).alloc (Nat.le_refl _) _
  go_enter Try.func12, Try.ntmps12
  go_wp2
  go_ret3
  exact ⟨rfl, hb0⟩
set_option maxHeartbeats 1000000 in
set_option maxRecDepth 100000 in
theorem does_nil_turn (n : Int) (so : Option Addr) (m sc : Nat) :
    Calls Try.prog 12 #[.pointer none, .pointer none, .agg #[.int .i64 3, .int .i64 n, .slice so m sc]] w (DidNot w) := by
  have hb0 : Below w.heap.size w (w.alloc (.cells #[.int .i64 3, .int .i64 n, .slice so m sc] 40)) := (Below.refl _ w).alloc (Nat.le_refl _) _
  go_enter Try.func12, Try.ntmps12
  go_wp2_with (first
    | (go_at_call 15; refine (turn_nil (.inl rfl)).mono ?_; rintro e w2 ⟨rfl, rfl⟩)
    | (go_at_call 34; refine (rturn_nil _).mono ?_; rintro e w3 ⟨rfl, rfl⟩))
  go_ret3
  exact ⟨rfl, hb0⟩
set_option maxHeartbeats 1000000 in
set_option maxRecDepth 100000 in
theorem does_nil_cut (n : Int) (so : Option Addr) (m sc : Nat) :
    Calls Try.prog 12 #[.pointer none, .pointer none, .agg #[.int .i64 4, .int .i64 n, .slice so m sc]] w (DidNot w) := by
  have hb0 : Below w.heap.size w (w.alloc (.cells #[.int .i64 4, .int .i64 n, .slice so m sc] 40)) := (Below.refl _ w).alloc (Nat.le_refl _) _
  have hc : (w.alloc (.cells #[.int .i64 4, .int .i64 n, .slice so m sc] 40)).cell? ⟨w.heap.size, 1, none⟩ = some (.int .i64 n) := by rw [cell_of_row _ _ 1 _ 40 (0, 0) (heap_alloc_new w _)]; rfl
  have s0 := hb0.size
  go_enter Try.func12, Try.ntmps12
  go_wp2_with (first
    | (go_at_call 17; refine (cut_nil (.inl rfl) n).mono ?_; rintro e w2 ⟨rfl, b2⟩; have hc1 := (b2.cell (World.block_lt_of_cell? _ _ hc)).trans hc)
    | (go_at_call 35; refine (rcut_nil n _).mono ?_; rintro e w3 ⟨rfl, rfl⟩))
  go_ret3
  exact ⟨rfl, hb0.trans (b2.mono s0)⟩
set_option maxHeartbeats 1000000 in
set_option maxRecDepth 100000 in
theorem does_nil_copy (n : Int) (so : Option Addr) (m sc : Nat) :
    Calls Try.prog 12 #[.pointer none, .pointer none, .agg #[.int .i64 5, .int .i64 n, .slice so m sc]] w (DidNot w) := by
  have hb0 : Below w.heap.size w (w.alloc (.cells #[.int .i64 5, .int .i64 n, .slice so m sc] 40)) := (Below.refl _ w).alloc (Nat.le_refl _) _
  have s0 := hb0.size
  go_enter Try.func12, Try.ntmps12
  go_wp2_with (first
    | (go_at_call 30; refine (copy_nil (.inl rfl)).mono ?_; rintro e w2 ⟨rfl, b2⟩)
    | (go_at_call 18; refine (same_nil (.inl rfl)).mono ?_; rintro e w3 ⟨rfl, rfl⟩)
    | (go_at_call 15; refine (turn_nil (.inl rfl)).mono ?_; rintro e w4 ⟨rfl, rfl⟩))
  go_ret3
  exact ⟨rfl, hb0.trans (b2.mono s0)⟩
set_option maxHeartbeats 1000000 in
set_option maxRecDepth 100000 in
theorem does_nil_clear (n : Int) (so : Option Addr) (m sc : Nat) :
    Calls Try.prog 12 #[.pointer none, .pointer none, .agg #[.int .i64 2, .int .i64 n, .slice so m sc]] w (DidNot w) := by
  have hb0 : Below w.heap.size w (w.alloc (.cells #[.int .i64 2, .int .i64 n, .slice so m sc] 40)) := (Below.refl _ w).alloc (Nat.le_refl _) _
  have hS0 : (w.alloc (.cells #[.int .i64 2, .int .i64 n, .slice so m sc] 40)).drew.cell? ⟨w.heap.size, 1, none⟩ = some (.int .i64 n) := by
    have e : (w.alloc (.cells #[.int .i64 2, .int .i64 n, .slice so m sc] 40)).cell? ⟨w.heap.size, 1, none⟩ = some (.int .i64 n) := by rw [cell_of_row _ _ 1 _ 40 (0, 0) (heap_alloc_new w _)]; rfl
    exact e
  go_enter Try.func12, Try.ntmps12
  go_wp2
  refine wp_region_held_drew (S := (fun w' => w'.cell? ⟨w.heap.size, 1, none⟩ = some (.int .i64 n))) (by kernel_rfl) (by exact hS0) (fun hHeld => ?_)
  try dsimp only at hHeld
  refine take_op (i := 0) (d := 46) (OP := Op.move (Operand.tmp 0)) (T := 28) (v := ?vq1x) rfl rfl rfl rfl (by kernel_rfl) (by kernel_rfl) (by kernel_rfl) (fun _ _ _ h => h) (by rfl) ?hq1x hHeld ?rq1x
  case hq1x => (intro w' hSw; (try dsimp only at hSw); go_simp <;> with_reducible rfl)
  try simp only [Act.put, List.setIfInBounds_toArray, List.set_cons_zero, List.set_cons_succ]
  refine take_op (i := 1) (d := 47) (OP := Op.move (Operand.tmp 1)) (T := 32) (v := ?vq2x) rfl rfl rfl rfl (by kernel_rfl) (by kernel_rfl) (by kernel_rfl) (fun _ _ _ h => h) (by rfl) ?hq2x hHeld ?rq2x
  case hq2x => (intro w' hSw; (try dsimp only at hSw); go_simp <;> with_reducible rfl)
  try simp only [Act.put, List.setIfInBounds_toArray, List.set_cons_zero, List.set_cons_succ]
  refine take_op (i := 2) (d := 48) (OP := Op.move (Operand.tmp 0)) (T := 28) (v := ?vq3x) rfl rfl rfl rfl (by kernel_rfl) (by kernel_rfl) (by kernel_rfl) (fun _ _ _ h => h) (by rfl) ?hq3x hHeld ?rq3x
  case hq3x => (intro w' hSw; (try dsimp only at hSw); go_simp <;> with_reducible rfl)
  try simp only [Act.put, List.setIfInBounds_toArray, List.set_cons_zero, List.set_cons_succ]
  refine take_op (i := 3) (d := 49) (OP := Op.fieldAddr 40 (Operand.tmp 5) 1) (T := 0) (v := ?vq4x) rfl rfl rfl rfl (by kernel_rfl) (by kernel_rfl) (by kernel_rfl) (fun _ _ _ h => h) (by rfl) ?hq4x hHeld ?rq4x
  case hq4x => (intro w' hSw; (try dsimp only at hSw); go_simp <;> with_reducible rfl)
  try simp only [Act.put, List.setIfInBounds_toArray, List.set_cons_zero, List.set_cons_succ]
  refine take_op (i := 4) (d := 50) (OP := Op.load 3 (Operand.tmp 49)) (T := 3) (v := ?vq5x) rfl rfl rfl rfl (by kernel_rfl) (by kernel_rfl) (by kernel_rfl) (fun _ _ _ h => h) (by rfl) ?hq5x hHeld ?rq5x
  case hq5x => (intro w' hSw; (try dsimp only at hSw); go_simp <;> with_reducible rfl)
  try simp only [Act.put, List.setIfInBounds_toArray, List.set_cons_zero, List.set_cons_succ]
  refine take_op (i := 6) (d := 52) (OP := Op.move (Operand.tmp 1)) (T := 32) (v := ?vq6x) rfl rfl rfl rfl (by kernel_rfl) (by kernel_rfl) (by kernel_rfl) (fun _ _ _ h => h) (by rfl) ?hq6x hHeld ?rq6x
  case hq6x => (intro w' hSw; (try dsimp only at hSw); go_simp <;> with_reducible rfl)
  try simp only [Act.put, List.setIfInBounds_toArray, List.set_cons_zero, List.set_cons_succ]
  refine take_op (i := 7) (d := 53) (OP := Op.fieldAddr 40 (Operand.tmp 5) 1) (T := 0) (v := ?vq7x) rfl rfl rfl rfl (by kernel_rfl) (by kernel_rfl) (by kernel_rfl) (fun _ _ _ h => h) (by rfl) ?hq7x hHeld ?rq7x
  case hq7x => (intro w' hSw; (try dsimp only at hSw); go_simp <;> with_reducible rfl)
  try simp only [Act.put, List.setIfInBounds_toArray, List.set_cons_zero, List.set_cons_succ]
  refine take_op (i := 8) (d := 54) (OP := Op.load 3 (Operand.tmp 53)) (T := 3) (v := ?vq8x) rfl rfl rfl rfl (by kernel_rfl) (by kernel_rfl) (by kernel_rfl) (fun _ _ _ h => h) (by rfl) ?hq8x hHeld ?rq8x
  case hq8x => (intro w' hSw; (try dsimp only at hSw); go_simp <;> with_reducible rfl)
  try simp only [Act.put, List.setIfInBounds_toArray, List.set_cons_zero, List.set_cons_succ]
  refine call_op (i := 5) (d := 51) (OP := Op.call { callee := Callee.value (Operand.func 14), args := #[Operand.tmp 48, Operand.tmp 50], argTypes := #[28, 3] }) (T := 29) (f := 14) (args := #[.pointer none, .int .i64 n]) rfl rfl rfl rfl (by kernel_rfl) (by rfl) (by go_simp) ?_
  refine ((clear_nil (.inl rfl) n)).mono ?_
  rintro e w2 ⟨rfl, rfl⟩
  refine ⟨_, rfl, hHeld, ?_⟩
  replace hHeld := hHeld
  try simp only [Act.put, List.setIfInBounds_toArray, List.set_cons_zero, List.set_cons_succ]
  refine call_op (i := 9) (d := 55) (OP := Op.call { callee := Callee.value (Operand.func 33), args := #[Operand.tmp 52, Operand.tmp 54], argTypes := #[32, 3] }) (T := 3) (f := 33) (args := #[.pointer none, .int .i64 n]) rfl rfl rfl rfl (by kernel_rfl) (by rfl) (by go_simp) ?_
  refine ((rclear_nil n _)).mono ?_
  rintro e w3 ⟨rfl, rfl⟩
  refine ⟨_, rfl, hHeld, ?_⟩
  replace hHeld := hHeld
  try simp only [Act.put, List.setIfInBounds_toArray, List.set_cons_zero, List.set_cons_succ]
  refine take_op (i := 10) (d := 56) (OP := Op.binOp BinOp.eql 3 (Operand.tmp 51) (Operand.tmp 55) 3) (T := 4) (v := ?vq11x) rfl rfl rfl rfl (by kernel_rfl) (by kernel_rfl) (by kernel_rfl) (fun _ _ _ h => h) (by rfl) ?hq11x hHeld ?rq11x
  case hq11x => (intro w' hSw; (try dsimp only at hSw); go_simp <;> with_reducible rfl)
  try simp only [Act.put, List.setIfInBounds_toArray, List.set_cons_zero, List.set_cons_succ]
  refine take_op (i := 11) (d := 6) (OP := Op.assign (Operand.tmp 46)) (T := 28) (v := ?vq12x) rfl rfl rfl rfl (by kernel_rfl) (by kernel_rfl) (by kernel_rfl) (fun _ _ _ h => h) (by rfl) ?hq12x hHeld ?rq12x
  case hq12x => (intro w' hSw; (try dsimp only at hSw); go_simp <;> with_reducible rfl)
  try simp only [Act.put, List.setIfInBounds_toArray, List.set_cons_zero, List.set_cons_succ]
  refine take_op (i := 12) (d := 7) (OP := Op.assign (Operand.tmp 47)) (T := 32) (v := ?vq13x) rfl rfl rfl rfl (by kernel_rfl) (by kernel_rfl) (by kernel_rfl) (fun _ _ _ h => h) (by rfl) ?hq13x hHeld ?rq13x
  case hq13x => (intro w' hSw; (try dsimp only at hSw); go_simp <;> with_reducible rfl)
  try simp only [Act.put, List.setIfInBounds_toArray, List.set_cons_zero, List.set_cons_succ]
  refine take_op (i := 13) (d := 8) (OP := Op.assign (Operand.tmp 56)) (T := 4) (v := ?vq14x) rfl rfl rfl rfl (by kernel_rfl) (by kernel_rfl) (by kernel_rfl) (fun _ _ _ h => h) (by rfl) ?hq14x hHeld ?rq14x
  case hq14x => (intro w' hSw; (try dsimp only at hSw); go_simp <;> with_reducible rfl)
  try simp only [Act.put, List.setIfInBounds_toArray, List.set_cons_zero, List.set_cons_succ]
  refine wpAnyH_done (by kernel_rfl) ?_ _
  go_wp2
  go_ret3
  exact ⟨by simp, hb0.drew⟩
set_option maxHeartbeats 1000000 in
set_option maxRecDepth 100000 in
theorem does_nil_lay (n : Int) (so : Option Addr) (sc : Nat) (l : List Int) (hr : Rd w so l) (hsn : so = none → sc = 0) (hl : l.length ≤ 140737488351232) :
    Calls Try.prog 12 #[.pointer none, .pointer none, .agg #[.int .i64 1, .int .i64 n, .slice so l.length sc]] w (DidNot w) := by
  have hb0 : Below w.heap.size w (w.alloc (.cells #[.int .i64 1, .int .i64 n, .slice so l.length sc] 40)) := (Below.refl _ w).alloc (Nat.le_refl _) _
  have hz : (w.alloc (.cells #[.int .i64 1, .int .i64 n, .slice so l.length sc] 40)).heap.size = w.heap.size + 1 := by simp
  have e1 : (w.alloc (.cells #[.int .i64 1, .int .i64 n, .slice so l.length sc] 40)).cell? ⟨w.heap.size, 1, none⟩ = some (.int .i64 n) := by rw [cell_of_row _ _ 1 _ 40 (0, 0) (heap_alloc_new w _)]; rfl
  have e2 : (w.alloc (.cells #[.int .i64 1, .int .i64 n, .slice so l.length sc] 40)).cell? ⟨w.heap.size, 2, none⟩ = some (.slice so l.length sc) := by rw [cell_of_row _ _ 2 _ 40 (0, 0) (heap_alloc_new w _)]; rfl
  have hlent := lent_any so sc l _ (hr.below hb0) hsn hl
  have H := hide (And.intro hb0 (And.intro hz (And.intro e1 e2)))
  clear hb0 hz e1 e2
  go_enter Try.func12, Try.ntmps12
  go_wp2_with (go_at_call 7; refine hlent.mono ?_; rintro e w1 ⟨mo, mc, rfl, hM, b1⟩)
  have hS0 : w1.drew.cell? ⟨w.heap.size, 1, none⟩ = some (.int .i64 n) ∧ w1.drew.cell? ⟨w.heap.size, 2, none⟩ = some (.slice so l.length sc) := ⟨(b1.cell (World.block_lt_of_cell? _ _ H.out.2.2.1)).trans H.out.2.2.1, (b1.cell (World.block_lt_of_cell? _ _ H.out.2.2.2)).trans H.out.2.2.2⟩
  obtain ⟨hb0, hz, e1, e2⟩ := H.out
  rw [hz] at hM
  have s1 := b1.size
  have HW := hide (And.intro (hM.below (Below.refl _ w1).drew) ((hb0.trans (b1.mono (by omega))).trans (Below.refl _ w1).drew))
  clear hb0 hz e1 e2 hM b1 s1 hlent
  refine wp_region_held_drew (S := (fun w' => w'.cell? ⟨w.heap.size, 1, none⟩ = some (.int .i64 n) ∧ w'.cell? ⟨w.heap.size, 2, none⟩ = some (.slice so l.length sc))) (by kernel_rfl) (by exact hS0) (fun hHeld => ?_)
  try dsimp only at hHeld
  refine take_op (i := 0) (d := 23) (OP := Op.move (Operand.tmp 0)) (T := 28) (v := ?vq101x) rfl rfl rfl rfl (by kernel_rfl) (by kernel_rfl) (by kernel_rfl) (fun _ _ _ h => h) (by rfl) ?hq101x hHeld ?rq101x
  case hq101x => (intro w' hSw; (try dsimp only at hSw); go_simp <;> with_reducible rfl)
  try simp only [Act.put, List.setIfInBounds_toArray, List.set_cons_zero, List.set_cons_succ]
  refine take_op (i := 1) (d := 24) (OP := Op.fieldAddr 40 (Operand.tmp 5) 1) (T := 0) (v := ?vq102x) rfl rfl rfl rfl (by kernel_rfl) (by kernel_rfl) (by kernel_rfl) (fun _ _ _ h => h) (by rfl) ?hq102x hHeld ?rq102x
  case hq102x => (intro w' hSw; (try dsimp only at hSw); go_simp <;> with_reducible rfl)
  try simp only [Act.put, List.setIfInBounds_toArray, List.set_cons_zero, List.set_cons_succ]
  refine take_op (i := 2) (d := 25) (OP := Op.load 3 (Operand.tmp 24)) (T := 3) (v := ?vq103x) rfl rfl rfl rfl (by kernel_rfl) (by kernel_rfl) (by kernel_rfl) (fun _ _ _ h => h) (by rfl) ?hq103x hHeld ?rq103x
  case hq103x => (intro w' hSw; (try dsimp only at hSw); go_simp <;> with_reducible rfl)
  try simp only [Act.put, List.setIfInBounds_toArray, List.set_cons_zero, List.set_cons_succ]
  refine take_op (i := 3) (d := 26) (OP := Op.move (Operand.tmp 9)) (T := 22) (v := ?vq104x) rfl rfl rfl rfl (by kernel_rfl) (by kernel_rfl) (by kernel_rfl) (fun _ _ _ h => h) (by rfl) ?hq104x hHeld ?rq104x
  case hq104x => (intro w' hSw; (try dsimp only at hSw); go_simp <;> with_reducible rfl)
  try simp only [Act.put, List.setIfInBounds_toArray, List.set_cons_zero, List.set_cons_succ]
  refine take_op (i := 5) (d := 28) (OP := Op.move (Operand.tmp 1)) (T := 32) (v := ?vq105x) rfl rfl rfl rfl (by kernel_rfl) (by kernel_rfl) (by kernel_rfl) (fun _ _ _ h => h) (by rfl) ?hq105x hHeld ?rq105x
  case hq105x => (intro w' hSw; (try dsimp only at hSw); go_simp <;> with_reducible rfl)
  try simp only [Act.put, List.setIfInBounds_toArray, List.set_cons_zero, List.set_cons_succ]
  refine take_op (i := 6) (d := 29) (OP := Op.fieldAddr 40 (Operand.tmp 5) 1) (T := 0) (v := ?vq106x) rfl rfl rfl rfl (by kernel_rfl) (by kernel_rfl) (by kernel_rfl) (fun _ _ _ h => h) (by rfl) ?hq106x hHeld ?rq106x
  case hq106x => (intro w' hSw; (try dsimp only at hSw); go_simp <;> with_reducible rfl)
  try simp only [Act.put, List.setIfInBounds_toArray, List.set_cons_zero, List.set_cons_succ]
  refine take_op (i := 7) (d := 30) (OP := Op.load 3 (Operand.tmp 29)) (T := 3) (v := ?vq107x) rfl rfl rfl rfl (by kernel_rfl) (by kernel_rfl) (by kernel_rfl) (fun _ _ _ h => h) (by rfl) ?hq107x hHeld ?rq107x
  case hq107x => (intro w' hSw; (try dsimp only at hSw); go_simp <;> with_reducible rfl)
  try simp only [Act.put, List.setIfInBounds_toArray, List.set_cons_zero, List.set_cons_succ]
  refine take_op (i := 8) (d := 31) (OP := Op.fieldAddr 40 (Operand.tmp 5) 2) (T := 0) (v := ?vq108x) rfl rfl rfl rfl (by kernel_rfl) (by kernel_rfl) (by kernel_rfl) (fun _ _ _ h => h) (by rfl) ?hq108x hHeld ?rq108x
  case hq108x => (intro w' hSw; (try dsimp only at hSw); go_simp <;> with_reducible rfl)
  try simp only [Act.put, List.setIfInBounds_toArray, List.set_cons_zero, List.set_cons_succ]
  refine take_op (i := 9) (d := 32) (OP := Op.load 22 (Operand.tmp 31)) (T := 22) (v := ?vq109x) rfl rfl rfl rfl (by kernel_rfl) (by kernel_rfl) (by kernel_rfl) (fun _ _ _ h => h) (by rfl) ?hq109x hHeld ?rq109x
  case hq109x => (intro w' hSw; (try dsimp only at hSw); go_simp <;> with_reducible rfl)
  try simp only [Act.put, List.setIfInBounds_toArray, List.set_cons_zero, List.set_cons_succ]
  refine call_op (i := 4) (d := 27) (OP := Op.call { callee := Callee.value (Operand.func 13), args := #[Operand.tmp 23, Operand.tmp 25, Operand.tmp 26], argTypes := #[28, 3, 22] }) (T := 29) (f := 13) (args := #[.pointer none, .int .i64 n, .slice mo l.length mc]) rfl rfl rfl rfl (by kernel_rfl) (by rfl) (by go_simp) ?_
  refine ((lay_nil (.inl rfl) n _)).mono ?_
  rintro e w2 ⟨rfl, rfl⟩
  refine ⟨_, rfl, hHeld, ?_⟩
  replace hHeld := hHeld
  try simp only [Act.put, List.setIfInBounds_toArray, List.set_cons_zero, List.set_cons_succ]
  refine call_op (i := 10) (d := 33) (OP := Op.call { callee := Callee.value (Operand.func 32), args := #[Operand.tmp 28, Operand.tmp 30, Operand.tmp 32], argTypes := #[32, 3, 22] }) (T := 3) (f := 32) (args := #[.pointer none, .int .i64 n, .slice so l.length sc]) rfl rfl rfl rfl (by kernel_rfl) (by rfl) (by go_simp) ?_
  refine ((rlay_nil n _ _)).mono ?_
  rintro e w3 ⟨rfl, rfl⟩
  refine ⟨_, rfl, hHeld, ?_⟩
  replace hHeld := hHeld
  try simp only [Act.put, List.setIfInBounds_toArray, List.set_cons_zero, List.set_cons_succ]
  refine take_op (i := 11) (d := 34) (OP := Op.binOp BinOp.eql 3 (Operand.tmp 27) (Operand.tmp 33) 3) (T := 4) (v := ?vq112x) rfl rfl rfl rfl (by kernel_rfl) (by kernel_rfl) (by kernel_rfl) (fun _ _ _ h => h) (by rfl) ?hq112x hHeld ?rq112x
  case hq112x => (intro w' hSw; (try dsimp only at hSw); go_simp <;> with_reducible rfl)
  try simp only [Act.put, List.setIfInBounds_toArray, List.set_cons_zero, List.set_cons_succ]
  refine take_op (i := 12) (d := 10) (OP := Op.assign (Operand.tmp 34)) (T := 4) (v := ?vq113x) rfl rfl rfl rfl (by kernel_rfl) (by kernel_rfl) (by kernel_rfl) (fun _ _ _ h => h) (by rfl) ?hq113x hHeld ?rq113x
  case hq113x => (intro w' hSw; (try dsimp only at hSw); go_simp <;> with_reducible rfl)
  try simp only [Act.put, List.setIfInBounds_toArray, List.set_cons_zero, List.set_cons_succ]
  refine wpAnyH_done (by kernel_rfl) ?_ _
  have hr3 := hr.below HW.out.2
  go_wp2_with (go_at_call 10; refine (left_any mo so mc sc _ l _ HW.out.1 hr3 hl).mono ?_; rintro e w4 ⟨rfl, on4⟩)
  go_ret3
  obtain ⟨hM3, hb3⟩ := HW.out
  have hgB : ∀ k, Value.ownBlock (.slice mo l.length mc) = some k → w.heap.size ≤ k := by
    obtain ⟨g, rfl, _, hg, hg2⟩ := hM3.mark
    intro k q
    simp [Value.ownBlock] at q; omega
  exact ⟨by simp, hb3.trans (on4.belowB hgB hb3.size)⟩
/-- Any step, where there is no disk. -/
theorem does_nil (k n : Int) (so : Option Addr) (sc : Nat) (l : List Int) (hr : Rd w so l) (hsn : so = none → sc = 0) (hl : l.length ≤ 140737488351232) :
    Calls Try.prog 12 #[.pointer none, .pointer none, .agg #[.int .i64 k, .int .i64 n, .slice so l.length sc]] w (DidNot w) := by
  by_cases h1 : k = 1
  · subst h1; exact does_nil_lay n so sc l hr hsn hl
  by_cases h2 : k = 2
  · subst h2; exact does_nil_clear n so _ sc
  by_cases h3 : k = 3
  · subst h3; exact does_nil_turn n so _ sc
  by_cases h4 : k = 4
  · subst h4; exact does_nil_cut n so _ sc
  by_cases h5 : k = 5
  · subst h5; exact does_nil_copy n so _ sc
  exact does_nil_other k n so _ sc h1 h2 h3 h4 h5
end
end Go.Proofs.Ytfaceimamipbpaa
