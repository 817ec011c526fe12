/-
  WALKS over what the program's raw writes do: lay, clear, turn, do.
-/
import Derived.Test.YtfaceimamipbpaaSmall
import Derived.WalkMore
namespace Go.Proofs.Ytfaceimamipbpaa
open Go.RowKit
set_option linter.unusedSimpArgs false
section
variable {F G : Nat → Prop} {w : World} {R : Nat} {cap : Int} {beg now : St} {log : List Wr} {x0 : Option Addr} {c0 : Nat} {x1 : Option Addr} {c1 : Nat} {va vb vl : Value} {xs : List Value}

set_option maxHeartbeats 1000000 in
set_option maxRecDepth 100000 in
theorem lay0 (k : Int) (ao : Option Addr) (c : Nat) (l : List Int) (hD : Rep progL 60 F G w R cap beg now log x0 c0 x1 c1 va vb vl xs) (hr : Rd w ao l) (hn : ao = none → c = 0) (hlen : now.a0.length + l.length ≤ 140737488355328) :
    Calls Try.prog 44 #[.pointer (some ⟨R, 4, none⟩), wrv k 0 ao l.length c] w fun e w' => (∃ v, e = .returned v) ∧ ∃ F', Disk progL 60 F' G w' R cap beg { now with a0 := now.a0 ++ l } log ∧ Only F w w' ∧ Grown F F' w := by
  have hb : Below w.heap.size w ((w.alloc (.cells #[.int .i64 k, .int .i64 0, .slice ao l.length c] 50)).drew) := ((Below.refl _ w).alloc (Nat.le_refl _) _).drew
  have hD1 := hD.below hb
  have hlt := hD.uF R hD.fR
  obtain ⟨v1, w1, hr1, ho1, hg1, hw1⟩ := app_bytes 22 _ _ _ hD1.o0 ao c l hn (hr.below hb) hlen
  have hc : w.heap[R]? = some (.cells (progL cap (.slice x0 beg.a0.length c0) (.slice x1 beg.a1.length c1) beg.u va vb now.u vl) 60 (0, 0)) := hD.cells
  have hc1 : ((w.alloc (.cells #[.int .i64 k, .int .i64 0, .slice ao l.length c] 50)).drew).cell? ⟨R, 4, none⟩ = some va := by
    rw [cell_of_row _ R 4 _ 60 (0, 0) hD1.cells]; rfl
  have hne : some R ≠ va.ownBlock := fun e => (hD.f0 R e.symm).2 rfl
  have hcw1 : w1.heap[R]? = some (.cells (progL cap (.slice x0 beg.a0.length c0) (.slice x1 beg.a1.length c1) beg.u va vb now.u vl) 60 (0, 0)) := (hg1.block R (by simp; omega) hne).trans hD1.cells
  have hcs : w1.cell? ⟨R, 4, none⟩ = some va := by rw [cell_of_row _ R 4 _ 60 (0, 0) hcw1]; rfl
  have hfs : w1.frozen? ⟨R, 4, none⟩ = false := frozen_of_row _ R 4 _ 60 hcw1
  have hS0 : ((w.alloc (.cells #[.int .i64 k, .int .i64 0, .slice ao l.length c] 50)).drew).cell? ⟨w.heap.size, 0, none⟩ = some (.int .i64 k) ∧ ((w.alloc (.cells #[.int .i64 k, .int .i64 0, .slice ao l.length c] 50)).drew).cell? ⟨w.heap.size, 1, none⟩ = some (.int .i64 0) ∧ ((w.alloc (.cells #[.int .i64 k, .int .i64 0, .slice ao l.length c] 50)).drew).cell? ⟨w.heap.size, 2, none⟩ = some (.slice ao l.length c) := by
    obtain ⟨q0, q1, q2, _⟩ := blk3 (w := (w.alloc (.cells #[.int .i64 k, .int .i64 0, .slice ao l.length c] 50)).drew) (R := w.heap.size) (heap_alloc_new w _)
    exact ⟨q0, q1, q2⟩
  have hnb : some w.heap.size ≠ va.ownBlock := fun e => by have := hD.uF _ (hD.f0 _ e.symm).1; omega
  have hS1 : w1.cell? ⟨w.heap.size, 0, none⟩ = some (.int .i64 k) ∧ w1.cell? ⟨w.heap.size, 1, none⟩ = some (.int .i64 0) ∧ w1.cell? ⟨w.heap.size, 2, none⟩ = some (.slice ao l.length c) := ⟨hg1.cell hS0.1 hnb, hg1.cell hS0.2.1 hnb, hg1.cell hS0.2.2 hnb⟩
  have hS2 : (w1.setCell ⟨R, 4, none⟩ v1).cell? ⟨w.heap.size, 0, none⟩ = some (.int .i64 k) ∧ (w1.setCell ⟨R, 4, none⟩ v1).cell? ⟨w.heap.size, 1, none⟩ = some (.int .i64 0) ∧ (w1.setCell ⟨R, 4, none⟩ v1).cell? ⟨w.heap.size, 2, none⟩ = some (.slice ao l.length c) := by
    have hq := grown_setCell w1 ⟨R, 4, none⟩ v1
    have hq2 : some w.heap.size ≠ some R := by simp; omega
    exact ⟨hq.cell hS1.1 hq2, hq.cell hS1.2.1 hq2, hq.cell hS1.2.2 hq2⟩
  obtain ⟨a1, cp1, hv1, _⟩ := ho1.form
  have HS := hide (And.intro hcw1 (And.intro ho1 (And.intro hg1 hw1)))
  have HD := hide hD
  have HD1 := hide hD1
  clear hD hD1 hcw1 ho1 hg1 hw1 hc
  unfold wrv
  go_enter Try.func44, Try.ntmps44
  go_wp2
  refine wp_region_held_drew (S := (fun w' => w'.cell? ⟨w.heap.size, 0, none⟩ = some (.int .i64 k) ∧ w'.cell? ⟨w.heap.size, 1, none⟩ = some (.int .i64 0) ∧ w'.cell? ⟨w.heap.size, 2, none⟩ = some (.slice ao l.length c))) (by kernel_rfl) (by exact hS0) (fun hHeld => ?_)
  try dsimp only at hHeld
  refine take_op (i := 0) (d := 4) (OP := Op.move (Operand.tmp 0)) (T := 83) (v := ?vq1x) rfl rfl rfl rfl (by kernel_rfl) (by kernel_rfl) (by kernel_rfl) (fun _ _ _ h => h) (by rfl) ?hq1x hHeld ?rq1x
  case hq1x => (intro w' hSw; (try dsimp only at hSw); go_simp <;> with_reducible rfl)
  try simp only [Act.put, List.setIfInBounds_toArray, List.set_cons_zero, List.set_cons_succ]
  refine take_op (i := 1) (d := 5) (OP := Op.fieldAddr 50 (Operand.tmp 3) 1) (T := 0) (v := ?vq2x) rfl rfl rfl rfl (by kernel_rfl) (by kernel_rfl) (by kernel_rfl) (fun _ _ _ h => h) (by rfl) ?hq2x hHeld ?rq2x
  case hq2x => (intro w' hSw; (try dsimp only at hSw); go_simp <;> with_reducible rfl)
  try simp only [Act.put, List.setIfInBounds_toArray, List.set_cons_zero, List.set_cons_succ]
  refine take_op (i := 2) (d := 6) (OP := Op.load 3 (Operand.tmp 5)) (T := 3) (v := ?vq3x) rfl rfl rfl rfl (by kernel_rfl) (by kernel_rfl) (by kernel_rfl) (fun _ _ _ h => h) (by rfl) ?hq3x hHeld ?rq3x
  case hq3x => (intro w' hSw; (try dsimp only at hSw); go_simp <;> with_reducible rfl)
  try simp only [Act.put, List.setIfInBounds_toArray, List.set_cons_zero, List.set_cons_succ]
  refine take_op (i := 3) (d := 7) (OP := Op.move (Operand.tmp 0)) (T := 83) (v := ?vq4x) rfl rfl rfl rfl (by kernel_rfl) (by kernel_rfl) (by kernel_rfl) (fun _ _ _ h => h) (by rfl) ?hq4x hHeld ?rq4x
  case hq4x => (intro w' hSw; (try dsimp only at hSw); go_simp <;> with_reducible rfl)
  try simp only [Act.put, List.setIfInBounds_toArray, List.set_cons_zero, List.set_cons_succ]
  refine take_op (i := 4) (d := 8) (OP := Op.fieldAddr 50 (Operand.tmp 3) 1) (T := 0) (v := ?vq5x) rfl rfl rfl rfl (by kernel_rfl) (by kernel_rfl) (by kernel_rfl) (fun _ _ _ h => h) (by rfl) ?hq5x hHeld ?rq5x
  case hq5x => (intro w' hSw; (try dsimp only at hSw); go_simp <;> with_reducible rfl)
  try simp only [Act.put, List.setIfInBounds_toArray, List.set_cons_zero, List.set_cons_succ]
  refine take_op (i := 5) (d := 9) (OP := Op.load 3 (Operand.tmp 8)) (T := 3) (v := ?vq6x) rfl rfl rfl rfl (by kernel_rfl) (by kernel_rfl) (by kernel_rfl) (fun _ _ _ h => h) (by rfl) ?hq6x hHeld ?rq6x
  case hq6x => (intro w' hSw; (try dsimp only at hSw); go_simp <;> with_reducible rfl)
  try simp only [Act.put, List.setIfInBounds_toArray, List.set_cons_zero, List.set_cons_succ]
  refine take_op (i := 6) (d := 10) (OP := Op.nilCheck (Operand.tmp 7)) (T := 0) (v := ?vq7x) rfl rfl rfl rfl (by kernel_rfl) (by kernel_rfl) (by kernel_rfl) (fun _ _ _ h => h) (by rfl) ?hq7x hHeld ?rq7x
  case hq7x => (intro w' hSw; (try dsimp only at hSw); go_simp <;> with_reducible rfl)
  try simp only [Act.put, List.setIfInBounds_toArray, List.set_cons_zero, List.set_cons_succ]
  refine take_op (i := 7) (d := 11) (OP := Op.fieldAddr 57 (Operand.tmp 10) 0) (T := 0) (v := ?vq8x) rfl rfl rfl rfl (by kernel_rfl) (by kernel_rfl) (by kernel_rfl) (fun _ _ _ h => h) (by rfl) ?hq8x hHeld ?rq8x
  case hq8x => (intro w' hSw; (try dsimp only at hSw); go_simp <;> with_reducible rfl)
  try simp only [Act.put, List.setIfInBounds_toArray, List.set_cons_zero, List.set_cons_succ]
  refine take_op (i := 8) (d := 12) (OP := Op.indexAddr 55 (Operand.tmp 11) (Operand.tmp 9)) (T := 0) (v := ?vq9x) rfl rfl rfl rfl (by kernel_rfl) (by kernel_rfl) (by kernel_rfl) (fun _ _ _ h => h) (by rfl) ?hq9x hHeld ?rq9x
  case hq9x => (intro w' hSw; (try dsimp only at hSw); go_simp <;> with_reducible rfl)
  try simp only [Act.put, List.setIfInBounds_toArray, List.set_cons_zero, List.set_cons_succ]
  refine take_op (i := 10) (d := 14) (OP := Op.fieldAddr 50 (Operand.tmp 3) 2) (T := 0) (v := ?vq10x) rfl rfl rfl rfl (by kernel_rfl) (by kernel_rfl) (by kernel_rfl) (fun _ _ _ h => h) (by rfl) ?hq10x hHeld ?rq10x
  case hq10x => (intro w' hSw; (try dsimp only at hSw); go_simp <;> with_reducible rfl)
  try simp only [Act.put, List.setIfInBounds_toArray, List.set_cons_zero, List.set_cons_succ]
  refine take_op (i := 11) (d := 15) (OP := Op.load 22 (Operand.tmp 14)) (T := 22) (v := ?vq11x) rfl rfl rfl rfl (by kernel_rfl) (by kernel_rfl) (by kernel_rfl) (fun _ _ _ h => h) (by rfl) ?hq11x hHeld ?rq11x
  case hq11x => (intro w' hSw; (try dsimp only at hSw); go_simp <;> with_reducible rfl)
  try simp only [Act.put, List.setIfInBounds_toArray, List.set_cons_zero, List.set_cons_succ]
  refine take_op (i := 13) (d := 17) (OP := Op.nilCheck (Operand.tmp 4)) (T := 0) (v := ?vq12x) rfl rfl rfl rfl (by kernel_rfl) (by kernel_rfl) (by kernel_rfl) (fun _ _ _ h => h) (by rfl) ?hq12x hHeld ?rq12x
  case hq12x => (intro w' hSw; (try dsimp only at hSw); go_simp <;> with_reducible rfl)
  try simp only [Act.put, List.setIfInBounds_toArray, List.set_cons_zero, List.set_cons_succ]
  refine take_op (i := 14) (d := 18) (OP := Op.fieldAddr 57 (Operand.tmp 17) 0) (T := 0) (v := ?vq13x) rfl rfl rfl rfl (by kernel_rfl) (by kernel_rfl) (by kernel_rfl) (fun _ _ _ h => h) (by rfl) ?hq13x hHeld ?rq13x
  case hq13x => (intro w' hSw; (try dsimp only at hSw); go_simp <;> with_reducible rfl)
  try simp only [Act.put, List.setIfInBounds_toArray, List.set_cons_zero, List.set_cons_succ]
  refine alone_op (i := 9) (d := 13) (OP := Op.load 22 (Operand.tmp 12)) (T := 22) (v := ?vq14x) rfl rfl rfl rfl (by kernel_rfl) (by rfl) ?hq14x hHeld ?rq14x
  case hq14x => (go_simp <;> with_reducible rfl)
  try simp only [Act.put, List.setIfInBounds_toArray, List.set_cons_zero, List.set_cons_succ]
  refine turn_op (i := 12) (d := 16) (OP := Op.call { callee := Callee.builtin Builtin.append, args := #[Operand.tmp 13, Operand.tmp 15], argTypes := #[22, 22] }) (T := 22) (v := v1) (w' := w1) rfl rfl rfl rfl (by kernel_rfl) (by rfl) (exec_append rfl rfl hr1) hS1 ?_
  replace hHeld := hS1
  try simp only [Act.put, List.setIfInBounds_toArray, List.set_cons_zero, List.set_cons_succ]
  refine take_op (i := 15) (d := 19) (OP := Op.indexAddr 55 (Operand.tmp 18) (Operand.tmp 6)) (T := 0) (v := ?vq16x) rfl rfl rfl rfl (by kernel_rfl) (by kernel_rfl) (by kernel_rfl) (fun _ _ _ h => h) (by rfl) ?hq16x hHeld ?rq16x
  case hq16x => (intro w' hSw; (try dsimp only at hSw); go_simp <;> with_reducible rfl)
  try simp only [Act.put, List.setIfInBounds_toArray, List.set_cons_zero, List.set_cons_succ]
  refine skip_op (i := 16) (OP := Op.store 22 (Operand.tmp 19) (Operand.tmp 16)) (T := 0) (w' := w1.setCell ⟨R, 4, none⟩ v1) rfl rfl rfl rfl (by kernel_rfl) (by rfl) (by go_simp) ⟨hS2, ?_⟩
  replace hHeld := hS2
  refine wpAnyH_done (by kernel_rfl) ?_ _
  go_wp2
  go_end0
  have hD := HD.out
  have hD1 := HD1.out
  obtain ⟨hcw1, ho1, hg1, hw1⟩ := HS.out
  have hon : Only F w (w1.setCell ⟨R, 4, none⟩ v1) := (((Only.ofBelow hb).mono (D := F) (fun _ _ h => h.elim)).trans (Only.ofGrown hg1) (fun j _ hj => (hD.f0 j hj).1)).setCell ⟨R, 4, none⟩ v1 (fun _ => hD.fR)
  have hset := Only.ofGrown (grown_setCell w1 ⟨R, 4, none⟩ v1)
  have hgr := Only.ofGrown hg1
  have hsz1 : w.heap.size + 1 ≤ w1.heap.size := by have := hg1.size; simpa using this
  have hwv : Where w va v1 := fun j hj => by
    rcases hw1 j hj with q | q
    · exact .inl q
    · simp at q; exact .inr (by omega)
  have hR1 : ∀ j, v1.ownBlock = some j → ¬ (some R = some j) := fun j hj e => by
    cases e
    rcases hwv R hj with q | q
    · exact hne q.symm
    · omega
  have sO : ∀ {u : Value} {m : List Int}, Own 5 (w.alloc (.cells #[.int .i64 k, .int .i64 0, .slice ao l.length c] 50)).drew 0 u m → (∀ j, u.ownBlock = some j → j ≠ R ∧ va.ownBlock ≠ some j) → Own 5 (w1.setCell ⟨R, 4, none⟩ v1) 0 u m := fun hu hj => hset.own (hgr.own hu (fun j e => (hj j e).2)) (fun j e q => (hj j e).1 (by cases q; rfl))
  have hnew : ∀ {u : Value}, (∀ j, u.ownBlock = some j → F j) → ∀ j, w.heap.size ≤ j → u.ownBlock ≠ some j := fun hu j hj e => by have := hD.uF j (hu j e); omega
  obtain ⟨r1, r2⟩ := hD.turn (now' := { now with a0 := now.a0 ++ l }) (log' := log) (va' := v1) (vb' := vb) (vl' := vl) (xs' := xs) hon (by rw [heap_setCell_same _ _ _ _ 60 _ hcw1]; simp [progL])
    (hset.own ho1 hR1) (sO hD1.o1 (fun j hj => ⟨(hD.f1 j hj).2.1, (hD.f1 j hj).2.2⟩))
    (hset.row (hgr.row hD1.ol (fun j hj e => (hD.fl j hj).2.2.1 e)) (fun j hj e => (hD.fl j hj).2.1 (by cases e; rfl))) (((hD1.it.only hgr (fun j e hG => hD.apart j (hD.f0 j e).1 hG))).only hset (fun j e hG => hD.apart j (by cases e; exact hD.fR) hG))
    hwv (fun j hj => .inl hj) (fun j hj => .inl hj)
    (fun j hj _ => hnew (fun j e => (hD.f1 j e).1) j hj) (fun j hj _ => hnew (fun j e => (hD.fl j e).1) j hj) (fun j hj _ => hnew (fun j e => (hD.fl j e).1) j hj)
  exact ⟨⟨_, rfl⟩, _, ⟨_, _, _, _, _, _, _, _, r1⟩, hon, r2⟩

set_option maxHeartbeats 1000000 in
set_option maxRecDepth 100000 in
theorem lay1 (k : Int) (ao : Option Addr) (c : Nat) (l : List Int) (hD : Rep progL 60 F G w R cap beg now log x0 c0 x1 c1 va vb vl xs) (hr : Rd w ao l) (hn : ao = none → c = 0) (hlen : now.a1.length + l.length ≤ 140737488355328) :
    Calls Try.prog 44 #[.pointer (some ⟨R, 4, none⟩), wrv k 1 ao l.length c] w fun e w' => (∃ v, e = .returned v) ∧ ∃ F', Disk progL 60 F' G w' R cap beg { now with a1 := now.a1 ++ l } log ∧ Only F w w' ∧ Grown F F' w := by
  have hb : Below w.heap.size w ((w.alloc (.cells #[.int .i64 k, .int .i64 1, .slice ao l.length c] 50)).drew) := ((Below.refl _ w).alloc (Nat.le_refl _) _).drew
  have hD1 := hD.below hb
  have hlt := hD.uF R hD.fR
  obtain ⟨v1, w1, hr1, ho1, hg1, hw1⟩ := app_bytes 22 _ _ _ hD1.o1 ao c l hn (hr.below hb) hlen
  have hc : w.heap[R]? = some (.cells (progL cap (.slice x0 beg.a0.length c0) (.slice x1 beg.a1.length c1) beg.u va vb now.u vl) 60 (0, 0)) := hD.cells
  have hc1 : ((w.alloc (.cells #[.int .i64 k, .int .i64 1, .slice ao l.length c] 50)).drew).cell? ⟨R, 5, none⟩ = some vb := by
    rw [cell_of_row _ R 5 _ 60 (0, 0) hD1.cells]; rfl
  have hne : some R ≠ vb.ownBlock := fun e => (hD.f1 R e.symm).2.1 rfl
  have hcw1 : w1.heap[R]? = some (.cells (progL cap (.slice x0 beg.a0.length c0) (.slice x1 beg.a1.length c1) beg.u va vb now.u vl) 60 (0, 0)) := (hg1.block R (by simp; omega) hne).trans hD1.cells
  have hcs : w1.cell? ⟨R, 5, none⟩ = some vb := by rw [cell_of_row _ R 5 _ 60 (0, 0) hcw1]; rfl
  have hfs : w1.frozen? ⟨R, 5, none⟩ = false := frozen_of_row _ R 5 _ 60 hcw1
  have hS0 : ((w.alloc (.cells #[.int .i64 k, .int .i64 1, .slice ao l.length c] 50)).drew).cell? ⟨w.heap.size, 0, none⟩ = some (.int .i64 k) ∧ ((w.alloc (.cells #[.int .i64 k, .int .i64 1, .slice ao l.length c] 50)).drew).cell? ⟨w.heap.size, 1, none⟩ = some (.int .i64 1) ∧ ((w.alloc (.cells #[.int .i64 k, .int .i64 1, .slice ao l.length c] 50)).drew).cell? ⟨w.heap.size, 2, none⟩ = some (.slice ao l.length c) := by
    obtain ⟨q0, q1, q2, _⟩ := blk3 (w := (w.alloc (.cells #[.int .i64 k, .int .i64 1, .slice ao l.length c] 50)).drew) (R := w.heap.size) (heap_alloc_new w _)
    exact ⟨q0, q1, q2⟩
  have hnb : some w.heap.size ≠ vb.ownBlock := fun e => by have := hD.uF _ (hD.f1 _ e.symm).1; omega
  have hS1 : w1.cell? ⟨w.heap.size, 0, none⟩ = some (.int .i64 k) ∧ w1.cell? ⟨w.heap.size, 1, none⟩ = some (.int .i64 1) ∧ w1.cell? ⟨w.heap.size, 2, none⟩ = some (.slice ao l.length c) := ⟨hg1.cell hS0.1 hnb, hg1.cell hS0.2.1 hnb, hg1.cell hS0.2.2 hnb⟩
  have hS2 : (w1.setCell ⟨R, 5, none⟩ v1).cell? ⟨w.heap.size, 0, none⟩ = some (.int .i64 k) ∧ (w1.setCell ⟨R, 5, none⟩ v1).cell? ⟨w.heap.size, 1, none⟩ = some (.int .i64 1) ∧ (w1.setCell ⟨R, 5, none⟩ v1).cell? ⟨w.heap.size, 2, none⟩ = some (.slice ao l.length c) := by
    have hq := grown_setCell w1 ⟨R, 5, none⟩ v1
    have hq2 : some w.heap.size ≠ some R := by simp; omega
    exact ⟨hq.cell hS1.1 hq2, hq.cell hS1.2.1 hq2, hq.cell hS1.2.2 hq2⟩
  obtain ⟨a1, cp1, hv1, _⟩ := ho1.form
  have HS := hide (And.intro hcw1 (And.intro ho1 (And.intro hg1 hw1)))
  have HD := hide hD
  have HD1 := hide hD1
  clear hD hD1 hcw1 ho1 hg1 hw1 hc
  unfold wrv
  go_enter Try.func44, Try.ntmps44
  go_wp2
  refine wp_region_held_drew (S := (fun w' => w'.cell? ⟨w.heap.size, 0, none⟩ = some (.int .i64 k) ∧ w'.cell? ⟨w.heap.size, 1, none⟩ = some (.int .i64 1) ∧ w'.cell? ⟨w.heap.size, 2, none⟩ = some (.slice ao l.length c))) (by kernel_rfl) (by exact hS0) (fun hHeld => ?_)
  try dsimp only at hHeld
  refine take_op (i := 0) (d := 4) (OP := Op.move (Operand.tmp 0)) (T := 83) (v := ?vq18x) rfl rfl rfl rfl (by kernel_rfl) (by kernel_rfl) (by kernel_rfl) (fun _ _ _ h => h) (by rfl) ?hq18x hHeld ?rq18x
  case hq18x => (intro w' hSw; (try dsimp only at hSw); go_simp <;> with_reducible rfl)
  try simp only [Act.put, List.setIfInBounds_toArray, List.set_cons_zero, List.set_cons_succ]
  refine take_op (i := 1) (d := 5) (OP := Op.fieldAddr 50 (Operand.tmp 3) 1) (T := 0) (v := ?vq19x) rfl rfl rfl rfl (by kernel_rfl) (by kernel_rfl) (by kernel_rfl) (fun _ _ _ h => h) (by rfl) ?hq19x hHeld ?rq19x
  case hq19x => (intro w' hSw; (try dsimp only at hSw); go_simp <;> with_reducible rfl)
  try simp only [Act.put, List.setIfInBounds_toArray, List.set_cons_zero, List.set_cons_succ]
  refine take_op (i := 2) (d := 6) (OP := Op.load 3 (Operand.tmp 5)) (T := 3) (v := ?vq20x) rfl rfl rfl rfl (by kernel_rfl) (by kernel_rfl) (by kernel_rfl) (fun _ _ _ h => h) (by rfl) ?hq20x hHeld ?rq20x
  case hq20x => (intro w' hSw; (try dsimp only at hSw); go_simp <;> with_reducible rfl)
  try simp only [Act.put, List.setIfInBounds_toArray, List.set_cons_zero, List.set_cons_succ]
  refine take_op (i := 3) (d := 7) (OP := Op.move (Operand.tmp 0)) (T := 83) (v := ?vq21x) rfl rfl rfl rfl (by kernel_rfl) (by kernel_rfl) (by kernel_rfl) (fun _ _ _ h => h) (by rfl) ?hq21x hHeld ?rq21x
  case hq21x => (intro w' hSw; (try dsimp only at hSw); go_simp <;> with_reducible rfl)
  try simp only [Act.put, List.setIfInBounds_toArray, List.set_cons_zero, List.set_cons_succ]
  refine take_op (i := 4) (d := 8) (OP := Op.fieldAddr 50 (Operand.tmp 3) 1) (T := 0) (v := ?vq22x) rfl rfl rfl rfl (by kernel_rfl) (by kernel_rfl) (by kernel_rfl) (fun _ _ _ h => h) (by rfl) ?hq22x hHeld ?rq22x
  case hq22x => (intro w' hSw; (try dsimp only at hSw); go_simp <;> with_reducible rfl)
  try simp only [Act.put, List.setIfInBounds_toArray, List.set_cons_zero, List.set_cons_succ]
  refine take_op (i := 5) (d := 9) (OP := Op.load 3 (Operand.tmp 8)) (T := 3) (v := ?vq23x) rfl rfl rfl rfl (by kernel_rfl) (by kernel_rfl) (by kernel_rfl) (fun _ _ _ h => h) (by rfl) ?hq23x hHeld ?rq23x
  case hq23x => (intro w' hSw; (try dsimp only at hSw); go_simp <;> with_reducible rfl)
  try simp only [Act.put, List.setIfInBounds_toArray, List.set_cons_zero, List.set_cons_succ]
  refine take_op (i := 6) (d := 10) (OP := Op.nilCheck (Operand.tmp 7)) (T := 0) (v := ?vq24x) rfl rfl rfl rfl (by kernel_rfl) (by kernel_rfl) (by kernel_rfl) (fun _ _ _ h => h) (by rfl) ?hq24x hHeld ?rq24x
  case hq24x => (intro w' hSw; (try dsimp only at hSw); go_simp <;> with_reducible rfl)
  try simp only [Act.put, List.setIfInBounds_toArray, List.set_cons_zero, List.set_cons_succ]
  refine take_op (i := 7) (d := 11) (OP := Op.fieldAddr 57 (Operand.tmp 10) 0) (T := 0) (v := ?vq25x) rfl rfl rfl rfl (by kernel_rfl) (by kernel_rfl) (by kernel_rfl) (fun _ _ _ h => h) (by rfl) ?hq25x hHeld ?rq25x
  case hq25x => (intro w' hSw; (try dsimp only at hSw); go_simp <;> with_reducible rfl)
  try simp only [Act.put, List.setIfInBounds_toArray, List.set_cons_zero, List.set_cons_succ]
  refine take_op (i := 8) (d := 12) (OP := Op.indexAddr 55 (Operand.tmp 11) (Operand.tmp 9)) (T := 0) (v := ?vq26x) rfl rfl rfl rfl (by kernel_rfl) (by kernel_rfl) (by kernel_rfl) (fun _ _ _ h => h) (by rfl) ?hq26x hHeld ?rq26x
  case hq26x => (intro w' hSw; (try dsimp only at hSw); go_simp <;> with_reducible rfl)
  try simp only [Act.put, List.setIfInBounds_toArray, List.set_cons_zero, List.set_cons_succ]
  refine take_op (i := 10) (d := 14) (OP := Op.fieldAddr 50 (Operand.tmp 3) 2) (T := 0) (v := ?vq27x) rfl rfl rfl rfl (by kernel_rfl) (by kernel_rfl) (by kernel_rfl) (fun _ _ _ h => h) (by rfl) ?hq27x hHeld ?rq27x
  case hq27x => (intro w' hSw; (try dsimp only at hSw); go_simp <;> with_reducible rfl)
  try simp only [Act.put, List.setIfInBounds_toArray, List.set_cons_zero, List.set_cons_succ]
  refine take_op (i := 11) (d := 15) (OP := Op.load 22 (Operand.tmp 14)) (T := 22) (v := ?vq28x) rfl rfl rfl rfl (by kernel_rfl) (by kernel_rfl) (by kernel_rfl) (fun _ _ _ h => h) (by rfl) ?hq28x hHeld ?rq28x
  case hq28x => (intro w' hSw; (try dsimp only at hSw); go_simp <;> with_reducible rfl)
  try simp only [Act.put, List.setIfInBounds_toArray, List.set_cons_zero, List.set_cons_succ]
  refine take_op (i := 13) (d := 17) (OP := Op.nilCheck (Operand.tmp 4)) (T := 0) (v := ?vq29x) rfl rfl rfl rfl (by kernel_rfl) (by kernel_rfl) (by kernel_rfl) (fun _ _ _ h => h) (by rfl) ?hq29x hHeld ?rq29x
  case hq29x => (intro w' hSw; (try dsimp only at hSw); go_simp <;> with_reducible rfl)
  try simp only [Act.put, List.setIfInBounds_toArray, List.set_cons_zero, List.set_cons_succ]
  refine take_op (i := 14) (d := 18) (OP := Op.fieldAddr 57 (Operand.tmp 17) 0) (T := 0) (v := ?vq30x) rfl rfl rfl rfl (by kernel_rfl) (by kernel_rfl) (by kernel_rfl) (fun _ _ _ h => h) (by rfl) ?hq30x hHeld ?rq30x
  case hq30x => (intro w' hSw; (try dsimp only at hSw); go_simp <;> with_reducible rfl)
  try simp only [Act.put, List.setIfInBounds_toArray, List.set_cons_zero, List.set_cons_succ]
  refine alone_op (i := 9) (d := 13) (OP := Op.load 22 (Operand.tmp 12)) (T := 22) (v := ?vq31x) rfl rfl rfl rfl (by kernel_rfl) (by rfl) ?hq31x hHeld ?rq31x
  case hq31x => (go_simp <;> with_reducible rfl)
  try simp only [Act.put, List.setIfInBounds_toArray, List.set_cons_zero, List.set_cons_succ]
  refine turn_op (i := 12) (d := 16) (OP := Op.call { callee := Callee.builtin Builtin.append, args := #[Operand.tmp 13, Operand.tmp 15], argTypes := #[22, 22] }) (T := 22) (v := v1) (w' := w1) rfl rfl rfl rfl (by kernel_rfl) (by rfl) (exec_append rfl rfl hr1) hS1 ?_
  replace hHeld := hS1
  try simp only [Act.put, List.setIfInBounds_toArray, List.set_cons_zero, List.set_cons_succ]
  refine take_op (i := 15) (d := 19) (OP := Op.indexAddr 55 (Operand.tmp 18) (Operand.tmp 6)) (T := 0) (v := ?vq33x) rfl rfl rfl rfl (by kernel_rfl) (by kernel_rfl) (by kernel_rfl) (fun _ _ _ h => h) (by rfl) ?hq33x hHeld ?rq33x
  case hq33x => (intro w' hSw; (try dsimp only at hSw); go_simp <;> with_reducible rfl)
  try simp only [Act.put, List.setIfInBounds_toArray, List.set_cons_zero, List.set_cons_succ]
  refine skip_op (i := 16) (OP := Op.store 22 (Operand.tmp 19) (Operand.tmp 16)) (T := 0) (w' := w1.setCell ⟨R, 5, none⟩ v1) rfl rfl rfl rfl (by kernel_rfl) (by rfl) (by go_simp) ⟨hS2, ?_⟩
  replace hHeld := hS2
  refine wpAnyH_done (by kernel_rfl) ?_ _
  go_wp2
  go_end0
  have hD := HD.out
  have hD1 := HD1.out
  obtain ⟨hcw1, ho1, hg1, hw1⟩ := HS.out
  have hon : Only F w (w1.setCell ⟨R, 5, none⟩ v1) := (((Only.ofBelow hb).mono (D := F) (fun _ _ h => h.elim)).trans (Only.ofGrown hg1) (fun j _ hj => (hD.f1 j hj).1)).setCell ⟨R, 5, none⟩ v1 (fun _ => hD.fR)
  have hset := Only.ofGrown (grown_setCell w1 ⟨R, 5, none⟩ v1)
  have hgr := Only.ofGrown hg1
  have hsz1 : w.heap.size + 1 ≤ w1.heap.size := by have := hg1.size; simpa using this
  have hwv : Where w vb v1 := fun j hj => by
    rcases hw1 j hj with q | q
    · exact .inl q
    · simp at q; exact .inr (by omega)
  have hR1 : ∀ j, v1.ownBlock = some j → ¬ (some R = some j) := fun j hj e => by
    cases e
    rcases hwv R hj with q | q
    · exact hne q.symm
    · omega
  have sO : ∀ {u : Value} {m : List Int}, Own 5 (w.alloc (.cells #[.int .i64 k, .int .i64 1, .slice ao l.length c] 50)).drew 0 u m → (∀ j, u.ownBlock = some j → j ≠ R ∧ vb.ownBlock ≠ some j) → Own 5 (w1.setCell ⟨R, 5, none⟩ v1) 0 u m := fun hu hj => hset.own (hgr.own hu (fun j e => (hj j e).2)) (fun j e q => (hj j e).1 (by cases q; rfl))
  have hnew : ∀ {u : Value}, (∀ j, u.ownBlock = some j → F j) → ∀ j, w.heap.size ≤ j → u.ownBlock ≠ some j := fun hu j hj e => by have := hD.uF j (hu j e); omega
  obtain ⟨r1, r2⟩ := hD.turn (now' := { now with a1 := now.a1 ++ l }) (log' := log) (va' := va) (vb' := v1) (vl' := vl) (xs' := xs) hon (by rw [heap_setCell_same _ _ _ _ 60 _ hcw1]; simp [progL])
    (sO hD1.o0 (fun j hj => ⟨(hD.f0 j hj).2, fun e => (hD.f1 j e).2.2 hj⟩)) (hset.own ho1 hR1)
    (hset.row (hgr.row hD1.ol (fun j hj e => (hD.fl j hj).2.2.2 e)) (fun j hj e => (hD.fl j hj).2.1 (by cases e; rfl))) (((hD1.it.only hgr (fun j e hG => hD.apart j (hD.f1 j e).1 hG))).only hset (fun j e hG => hD.apart j (by cases e; exact hD.fR) hG))
    (fun j hj => .inl hj) hwv (fun j hj => .inl hj)
    (fun j hj e => absurd e (hnew (fun j e => (hD.f0 j e).1) j hj)) (fun j hj _ => hnew (fun j e => (hD.fl j e).1) j hj) (fun j hj _ => hnew (fun j e => (hD.fl j e).1) j hj)
  exact ⟨⟨_, rfl⟩, _, ⟨_, _, _, _, _, _, _, _, r1⟩, hon, r2⟩

set_option maxHeartbeats 1000000 in
set_option maxRecDepth 100000 in
theorem clear0 (k : Int) (ao : Option Addr) (n c : Nat) (hD : Rep progL 60 F G w R cap beg now log x0 c0 x1 c1 va vb vl xs) :
    Calls Try.prog 45 #[.pointer (some ⟨R, 4, none⟩), wrv k 0 ao n c] w fun e w' => (∃ v, e = .returned v) ∧ ∃ F', Disk progL 60 F' G w' R cap beg { now with a0 := [] } log ∧ Only F w w' ∧ Grown F F' w := by
  have hb : Below w.heap.size w ((w.alloc (.cells #[.int .i64 k, .int .i64 0, .slice ao n c] 50)).drew) := ((Below.refl _ w).alloc (Nat.le_refl _) _).drew
  have hD1 := hD.below hb
  have hlt := hD.uF R hD.fR
  have hcs : ((w.alloc (.cells #[.int .i64 k, .int .i64 0, .slice ao n c] 50)).drew).cell? ⟨R, 4, none⟩ = some va := by rw [cell_of_row _ R 4 _ 60 (0, 0) hD1.cells]; rfl
  have hfs : ((w.alloc (.cells #[.int .i64 k, .int .i64 0, .slice ao n c] 50)).drew).frozen? ⟨R, 4, none⟩ = false := frozen_of_row _ R 4 _ 60 hD1.cells
  have hS0 : ((w.alloc (.cells #[.int .i64 k, .int .i64 0, .slice ao n c] 50)).drew).cell? ⟨w.heap.size, 0, none⟩ = some (.int .i64 k) ∧ ((w.alloc (.cells #[.int .i64 k, .int .i64 0, .slice ao n c] 50)).drew).cell? ⟨w.heap.size, 1, none⟩ = some (.int .i64 0) ∧ ((w.alloc (.cells #[.int .i64 k, .int .i64 0, .slice ao n c] 50)).drew).cell? ⟨w.heap.size, 2, none⟩ = some (.slice ao n c) := by
    obtain ⟨q0, q1, q2, _⟩ := blk3 (w := ((w.alloc (.cells #[.int .i64 k, .int .i64 0, .slice ao n c] 50)).drew)) (R := w.heap.size) (heap_alloc_new w _)
    exact ⟨q0, q1, q2⟩
  have hS2 : (((w.alloc (.cells #[.int .i64 k, .int .i64 0, .slice ao n c] 50)).drew).setCell ⟨R, 4, none⟩ (.slice none 0 0)).cell? ⟨w.heap.size, 0, none⟩ = some (.int .i64 k) ∧ (((w.alloc (.cells #[.int .i64 k, .int .i64 0, .slice ao n c] 50)).drew).setCell ⟨R, 4, none⟩ (.slice none 0 0)).cell? ⟨w.heap.size, 1, none⟩ = some (.int .i64 0) ∧ (((w.alloc (.cells #[.int .i64 k, .int .i64 0, .slice ao n c] 50)).drew).setCell ⟨R, 4, none⟩ (.slice none 0 0)).cell? ⟨w.heap.size, 2, none⟩ = some (.slice ao n c) := by
    have hq := grown_setCell ((w.alloc (.cells #[.int .i64 k, .int .i64 0, .slice ao n c] 50)).drew) ⟨R, 4, none⟩ (.slice none 0 0)
    have hq2 : some w.heap.size ≠ some R := by simp; omega
    exact ⟨hq.cell hS0.1 hq2, hq.cell hS0.2.1 hq2, hq.cell hS0.2.2 hq2⟩
  have HD := hide hD
  have HD1 := hide hD1
  clear hD hD1
  unfold wrv
  go_enter Try.func45, Try.ntmps45
  go_wp2
  refine wp_region_held_drew (S := (fun w' => w'.cell? ⟨w.heap.size, 0, none⟩ = some (.int .i64 k) ∧ w'.cell? ⟨w.heap.size, 1, none⟩ = some (.int .i64 0) ∧ w'.cell? ⟨w.heap.size, 2, none⟩ = some (.slice ao n c))) (by kernel_rfl) (by exact hS0) (fun hHeld => ?_)
  try dsimp only at hHeld
  refine take_op (i := 0) (d := 4) (OP := Op.move (Operand.tmp 0)) (T := 83) (v := ?vq35x) rfl rfl rfl rfl (by kernel_rfl) (by kernel_rfl) (by kernel_rfl) (fun _ _ _ h => h) (by rfl) ?hq35x hHeld ?rq35x
  case hq35x => (intro w' hSw; (try dsimp only at hSw); go_simp <;> with_reducible rfl)
  try simp only [Act.put, List.setIfInBounds_toArray, List.set_cons_zero, List.set_cons_succ]
  refine take_op (i := 1) (d := 5) (OP := Op.fieldAddr 50 (Operand.tmp 3) 1) (T := 0) (v := ?vq36x) rfl rfl rfl rfl (by kernel_rfl) (by kernel_rfl) (by kernel_rfl) (fun _ _ _ h => h) (by rfl) ?hq36x hHeld ?rq36x
  case hq36x => (intro w' hSw; (try dsimp only at hSw); go_simp <;> with_reducible rfl)
  try simp only [Act.put, List.setIfInBounds_toArray, List.set_cons_zero, List.set_cons_succ]
  refine take_op (i := 2) (d := 6) (OP := Op.load 3 (Operand.tmp 5)) (T := 3) (v := ?vq37x) rfl rfl rfl rfl (by kernel_rfl) (by kernel_rfl) (by kernel_rfl) (fun _ _ _ h => h) (by rfl) ?hq37x hHeld ?rq37x
  case hq37x => (intro w' hSw; (try dsimp only at hSw); go_simp <;> with_reducible rfl)
  try simp only [Act.put, List.setIfInBounds_toArray, List.set_cons_zero, List.set_cons_succ]
  refine take_op (i := 3) (d := 7) (OP := Op.nilCheck (Operand.tmp 4)) (T := 0) (v := ?vq38x) rfl rfl rfl rfl (by kernel_rfl) (by kernel_rfl) (by kernel_rfl) (fun _ _ _ h => h) (by rfl) ?hq38x hHeld ?rq38x
  case hq38x => (intro w' hSw; (try dsimp only at hSw); go_simp <;> with_reducible rfl)
  try simp only [Act.put, List.setIfInBounds_toArray, List.set_cons_zero, List.set_cons_succ]
  refine take_op (i := 4) (d := 8) (OP := Op.fieldAddr 57 (Operand.tmp 7) 0) (T := 0) (v := ?vq39x) rfl rfl rfl rfl (by kernel_rfl) (by kernel_rfl) (by kernel_rfl) (fun _ _ _ h => h) (by rfl) ?hq39x hHeld ?rq39x
  case hq39x => (intro w' hSw; (try dsimp only at hSw); go_simp <;> with_reducible rfl)
  try simp only [Act.put, List.setIfInBounds_toArray, List.set_cons_zero, List.set_cons_succ]
  refine take_op (i := 5) (d := 9) (OP := Op.indexAddr 55 (Operand.tmp 8) (Operand.tmp 6)) (T := 0) (v := ?vq40x) rfl rfl rfl rfl (by kernel_rfl) (by kernel_rfl) (by kernel_rfl) (fun _ _ _ h => h) (by rfl) ?hq40x hHeld ?rq40x
  case hq40x => (intro w' hSw; (try dsimp only at hSw); go_simp <;> with_reducible rfl)
  try simp only [Act.put, List.setIfInBounds_toArray, List.set_cons_zero, List.set_cons_succ]
  refine skip_op (i := 6) (OP := Op.store 22 (Operand.tmp 9) (Operand.const (Value.slice none 0 0))) (T := 0) (w' := ((w.alloc (.cells #[.int .i64 k, .int .i64 0, .slice ao n c] 50)).drew).setCell ⟨R, 4, none⟩ (.slice none 0 0)) rfl rfl rfl rfl (by kernel_rfl) (by rfl) (by go_simp) ⟨hS2, ?_⟩
  replace hHeld := hS2
  refine wpAnyH_done (by kernel_rfl) ?_ _
  go_wp2
  go_end0
  have hD := HD.out
  have hD1 := HD1.out
  have hon : Only F w (((w.alloc (.cells #[.int .i64 k, .int .i64 0, .slice ao n c] 50)).drew).setCell ⟨R, 4, none⟩ (.slice none 0 0)) := (((Only.ofBelow hb).mono (D := F) (fun _ _ h => h.elim))).setCell ⟨R, 4, none⟩ _ (fun _ => hD.fR)
  have hset := Only.ofGrown (grown_setCell ((w.alloc (.cells #[.int .i64 k, .int .i64 0, .slice ao n c] 50)).drew) ⟨R, 4, none⟩ (.slice none 0 0))
  obtain ⟨r1, r2⟩ := hD.turn (now' := { now with a0 := [] }) (log' := log) (va' := .slice none 0 0) (vb' := vb) (vl' := vl) (xs' := xs) hon (by rw [heap_setCell_same _ _ _ _ 60 _ hD1.cells]; simp [progL])
    (Own.nil _ _ _) (hset.own hD1.o1 (fun j hj e => (hD.f1 j hj).2.1 (by cases e; rfl)))
    (hset.row hD1.ol (fun j hj e => (hD.fl j hj).2.1 (by cases e; rfl))) (hD1.it.only hset (fun j e hG => hD.apart j (by cases e; exact hD.fR) hG))
    (fun j hj => by simp [Value.ownBlock] at hj) (fun j hj => .inl hj) (fun j hj => .inl hj)
    (fun j hj e => by simp [Value.ownBlock] at e) (fun j hj e e2 => by have := hD.uF j (hD.fl j e2).1; omega) (fun j hj e e2 => by have := hD.uF j (hD.fl j e2).1; omega)
  exact ⟨⟨_, rfl⟩, _, ⟨_, _, _, _, _, _, _, _, r1⟩, hon, r2⟩

set_option maxHeartbeats 1000000 in
set_option maxRecDepth 100000 in
theorem clear1 (k : Int) (ao : Option Addr) (n c : Nat) (hD : Rep progL 60 F G w R cap beg now log x0 c0 x1 c1 va vb vl xs) :
    Calls Try.prog 45 #[.pointer (some ⟨R, 4, none⟩), wrv k 1 ao n c] w fun e w' => (∃ v, e = .returned v) ∧ ∃ F', Disk progL 60 F' G w' R cap beg { now with a1 := [] } log ∧ Only F w w' ∧ Grown F F' w := by
  have hb : Below w.heap.size w ((w.alloc (.cells #[.int .i64 k, .int .i64 1, .slice ao n c] 50)).drew) := ((Below.refl _ w).alloc (Nat.le_refl _) _).drew
  have hD1 := hD.below hb
  have hlt := hD.uF R hD.fR
  have hcs : ((w.alloc (.cells #[.int .i64 k, .int .i64 1, .slice ao n c] 50)).drew).cell? ⟨R, 5, none⟩ = some vb := by rw [cell_of_row _ R 5 _ 60 (0, 0) hD1.cells]; rfl
  have hfs : ((w.alloc (.cells #[.int .i64 k, .int .i64 1, .slice ao n c] 50)).drew).frozen? ⟨R, 5, none⟩ = false := frozen_of_row _ R 5 _ 60 hD1.cells
  have hS0 : ((w.alloc (.cells #[.int .i64 k, .int .i64 1, .slice ao n c] 50)).drew).cell? ⟨w.heap.size, 0, none⟩ = some (.int .i64 k) ∧ ((w.alloc (.cells #[.int .i64 k, .int .i64 1, .slice ao n c] 50)).drew).cell? ⟨w.heap.size, 1, none⟩ = some (.int .i64 1) ∧ ((w.alloc (.cells #[.int .i64 k, .int .i64 1, .slice ao n c] 50)).drew).cell? ⟨w.heap.size, 2, none⟩ = some (.slice ao n c) := by
    obtain ⟨q0, q1, q2, _⟩ := blk3 (w := ((w.alloc (.cells #[.int .i64 k, .int .i64 1, .slice ao n c] 50)).drew)) (R := w.heap.size) (heap_alloc_new w _)
    exact ⟨q0, q1, q2⟩
  have hS2 : (((w.alloc (.cells #[.int .i64 k, .int .i64 1, .slice ao n c] 50)).drew).setCell ⟨R, 5, none⟩ (.slice none 0 0)).cell? ⟨w.heap.size, 0, none⟩ = some (.int .i64 k) ∧ (((w.alloc (.cells #[.int .i64 k, .int .i64 1, .slice ao n c] 50)).drew).setCell ⟨R, 5, none⟩ (.slice none 0 0)).cell? ⟨w.heap.size, 1, none⟩ = some (.int .i64 1) ∧ (((w.alloc (.cells #[.int .i64 k, .int .i64 1, .slice ao n c] 50)).drew).setCell ⟨R, 5, none⟩ (.slice none 0 0)).cell? ⟨w.heap.size, 2, none⟩ = some (.slice ao n c) := by
    have hq := grown_setCell ((w.alloc (.cells #[.int .i64 k, .int .i64 1, .slice ao n c] 50)).drew) ⟨R, 5, none⟩ (.slice none 0 0)
    have hq2 : some w.heap.size ≠ some R := by simp; omega
    exact ⟨hq.cell hS0.1 hq2, hq.cell hS0.2.1 hq2, hq.cell hS0.2.2 hq2⟩
  have HD := hide hD
  have HD1 := hide hD1
  clear hD hD1
  unfold wrv
  go_enter Try.func45, Try.ntmps45
  go_wp2
  refine wp_region_held_drew (S := (fun w' => w'.cell? ⟨w.heap.size, 0, none⟩ = some (.int .i64 k) ∧ w'.cell? ⟨w.heap.size, 1, none⟩ = some (.int .i64 1) ∧ w'.cell? ⟨w.heap.size, 2, none⟩ = some (.slice ao n c))) (by kernel_rfl) (by exact hS0) (fun hHeld => ?_)
  try dsimp only at hHeld
  refine take_op (i := 0) (d := 4) (OP := Op.move (Operand.tmp 0)) (T := 83) (v := ?vq42x) rfl rfl rfl rfl (by kernel_rfl) (by kernel_rfl) (by kernel_rfl) (fun _ _ _ h => h) (by rfl) ?hq42x hHeld ?rq42x
  case hq42x => (intro w' hSw; (try dsimp only at hSw); go_simp <;> with_reducible rfl)
  try simp only [Act.put, List.setIfInBounds_toArray, List.set_cons_zero, List.set_cons_succ]
  refine take_op (i := 1) (d := 5) (OP := Op.fieldAddr 50 (Operand.tmp 3) 1) (T := 0) (v := ?vq43x) rfl rfl rfl rfl (by kernel_rfl) (by kernel_rfl) (by kernel_rfl) (fun _ _ _ h => h) (by rfl) ?hq43x hHeld ?rq43x
  case hq43x => (intro w' hSw; (try dsimp only at hSw); go_simp <;> with_reducible rfl)
  try simp only [Act.put, List.setIfInBounds_toArray, List.set_cons_zero, List.set_cons_succ]
  refine take_op (i := 2) (d := 6) (OP := Op.load 3 (Operand.tmp 5)) (T := 3) (v := ?vq44x) rfl rfl rfl rfl (by kernel_rfl) (by kernel_rfl) (by kernel_rfl) (fun _ _ _ h => h) (by rfl) ?hq44x hHeld ?rq44x
  case hq44x => (intro w' hSw; (try dsimp only at hSw); go_simp <;> with_reducible rfl)
  try simp only [Act.put, List.setIfInBounds_toArray, List.set_cons_zero, List.set_cons_succ]
  refine take_op (i := 3) (d := 7) (OP := Op.nilCheck (Operand.tmp 4)) (T := 0) (v := ?vq45x) rfl rfl rfl rfl (by kernel_rfl) (by kernel_rfl) (by kernel_rfl) (fun _ _ _ h => h) (by rfl) ?hq45x hHeld ?rq45x
  case hq45x => (intro w' hSw; (try dsimp only at hSw); go_simp <;> with_reducible rfl)
  try simp only [Act.put, List.setIfInBounds_toArray, List.set_cons_zero, List.set_cons_succ]
  refine take_op (i := 4) (d := 8) (OP := Op.fieldAddr 57 (Operand.tmp 7) 0) (T := 0) (v := ?vq46x) rfl rfl rfl rfl (by kernel_rfl) (by kernel_rfl) (by kernel_rfl) (fun _ _ _ h => h) (by rfl) ?hq46x hHeld ?rq46x
  case hq46x => (intro w' hSw; (try dsimp only at hSw); go_simp <;> with_reducible rfl)
  try simp only [Act.put, List.setIfInBounds_toArray, List.set_cons_zero, List.set_cons_succ]
  refine take_op (i := 5) (d := 9) (OP := Op.indexAddr 55 (Operand.tmp 8) (Operand.tmp 6)) (T := 0) (v := ?vq47x) rfl rfl rfl rfl (by kernel_rfl) (by kernel_rfl) (by kernel_rfl) (fun _ _ _ h => h) (by rfl) ?hq47x hHeld ?rq47x
  case hq47x => (intro w' hSw; (try dsimp only at hSw); go_simp <;> with_reducible rfl)
  try simp only [Act.put, List.setIfInBounds_toArray, List.set_cons_zero, List.set_cons_succ]
  refine skip_op (i := 6) (OP := Op.store 22 (Operand.tmp 9) (Operand.const (Value.slice none 0 0))) (T := 0) (w' := ((w.alloc (.cells #[.int .i64 k, .int .i64 1, .slice ao n c] 50)).drew).setCell ⟨R, 5, none⟩ (.slice none 0 0)) rfl rfl rfl rfl (by kernel_rfl) (by rfl) (by go_simp) ⟨hS2, ?_⟩
  replace hHeld := hS2
  refine wpAnyH_done (by kernel_rfl) ?_ _
  go_wp2
  go_end0
  have hD := HD.out
  have hD1 := HD1.out
  have hon : Only F w (((w.alloc (.cells #[.int .i64 k, .int .i64 1, .slice ao n c] 50)).drew).setCell ⟨R, 5, none⟩ (.slice none 0 0)) := (((Only.ofBelow hb).mono (D := F) (fun _ _ h => h.elim))).setCell ⟨R, 5, none⟩ _ (fun _ => hD.fR)
  have hset := Only.ofGrown (grown_setCell ((w.alloc (.cells #[.int .i64 k, .int .i64 1, .slice ao n c] 50)).drew) ⟨R, 5, none⟩ (.slice none 0 0))
  obtain ⟨r1, r2⟩ := hD.turn (now' := { now with a1 := [] }) (log' := log) (va' := va) (vb' := .slice none 0 0) (vl' := vl) (xs' := xs) hon (by rw [heap_setCell_same _ _ _ _ 60 _ hD1.cells]; simp [progL])
    (hset.own hD1.o0 (fun j hj e => (hD.f0 j hj).2 (by cases e; rfl))) (Own.nil _ _ _)
    (hset.row hD1.ol (fun j hj e => (hD.fl j hj).2.1 (by cases e; rfl))) (hD1.it.only hset (fun j e hG => hD.apart j (by cases e; exact hD.fR) hG))
    (fun j hj => .inl hj) (fun j hj => by simp [Value.ownBlock] at hj) (fun j hj => .inl hj)
    (fun j hj e => by simp [Value.ownBlock]) (fun j hj e e2 => by have := hD.uF j (hD.fl j e2).1; omega) (fun j hj e e2 => by have := hD.uF j (hD.fl j e2).1; omega)
  exact ⟨⟨_, rfl⟩, _, ⟨_, _, _, _, _, _, _, _, r1⟩, hon, r2⟩

set_option maxHeartbeats 1000000 in
set_option maxRecDepth 100000 in
theorem turn_any (k a : Int) (ao : Option Addr) (n c : Nat) (hD : Rep progL 60 F G w R cap beg now log x0 c0 x1 c1 va vb vl xs) (hu : now.u = 0 ∨ now.u = 1) :
    Calls Try.prog 46 #[.pointer (some ⟨R, 4, none⟩), wrv k a ao n c] w fun e w' => (∃ v, e = .returned v) ∧ ∃ F', Disk progL 60 F' G w' R cap beg { now with u := 1 - now.u } log ∧ Only F w w' ∧ Grown F F' w := by
  have hb : Below w.heap.size w (w.alloc (.cells #[.int .i64 k, .int .i64 a, .slice ao n c] 50)) := ((Below.refl _ w).alloc (Nat.le_refl _) _)
  have hD1 := hD.below hb
  have hlt := hD.uF R hD.fR
  have hcs : (w.alloc (.cells #[.int .i64 k, .int .i64 a, .slice ao n c] 50)).cell? ⟨R, 6, none⟩ = some (.int .i64 now.u) := by rw [cell_of_row _ R 6 _ 60 (0, 0) hD1.cells]; rfl
  have hfs : (w.alloc (.cells #[.int .i64 k, .int .i64 a, .slice ao n c] 50)).frozen? ⟨R, 6, none⟩ = false := frozen_of_row _ R 6 _ 60 hD1.cells
  have hwr : IntKind.i64.wrap (1 - now.u) = 1 - now.u := by rcases hu with h | h <;> rw [h] <;> rfl
  have HD := hide hD
  have HD1 := hide hD1
  have hu1 : 0 ≤ now.u ∧ now.u ≤ 1 := by omega
  clear hD hD1 hu
  unfold wrv
  go_enter Try.func46, Try.ntmps46
  go_wp2
  go_end0
  have hD := HD.out
  have hon : Only F w ((w.setCell ⟨R, 6, none⟩ (.int .i64 (1 - now.u))).alloc (.cells #[.int .i64 k, .int .i64 a, .slice ao n c] 50)) := ((Only.refl F w).setCell ⟨R, 6, none⟩ _ (fun _ => hD.fR)).alloc _
  have hset := (Only.ofGrown (grown_setCell w ⟨R, 6, none⟩ (.int .i64 (1 - now.u)))).alloc (.cells #[.int .i64 k, .int .i64 a, .slice ao n c] 50)
  obtain ⟨r1, r2⟩ := hD.turn (now' := { now with u := 1 - now.u }) (log' := log) (va' := va) (vb' := vb) (vl' := vl) (xs' := xs) hon (by rw [(World.grownBy_alloc _ _ none).block R (by simpa using hlt) (by simp), heap_setCell_same _ _ _ _ 60 _ hD.cells]; simp [progL])
    (hset.own hD.o0 (fun j hj e => (hD.f0 j hj).2 (by cases e; rfl))) (hset.own hD.o1 (fun j hj e => (hD.f1 j hj).2.1 (by cases e; rfl)))
    (hset.row hD.ol (fun j hj e => (hD.fl j hj).2.1 (by cases e; rfl))) (hD.it.only hset (fun j e hG => hD.apart j (by cases e; exact hD.fR) hG))
    (fun j hj => .inl hj) (fun j hj => .inl hj) (fun j hj => .inl hj)
    (fun j hj e e2 => by have := hD.uF j (hD.f1 j e2).1; omega) (fun j hj e e2 => by have := hD.uF j (hD.fl j e2).1; omega) (fun j hj e e2 => by have := hD.uF j (hD.fl j e2).1; omega)
  exact ⟨⟨_, rfl⟩, _, ⟨_, _, _, _, _, _, _, _, r1⟩, hon, r2⟩

end
end Go.Proofs.Ytfaceimamipbpaa
