/-
  WALKS over the document's own raw writes: do, for each kind.
-/
import Derived.Test.YtfaceimamipbpaaDo2
namespace Go.Proofs.Ytfaceimamipbpaa
open Go.RowKit
set_option linter.unusedSimpArgs false
section
variable {F G : Nat → Prop} {w : World} {R : Nat} {cap : Int} {beg now : St} {log : List Wr} {x0 : Option Addr} {c0 : Nat} {x1 : Option Addr} {c1 : Nat} {va vb vl : Value} {xs : List Value}

set_option maxHeartbeats 2000000 in
set_option maxRecDepth 100000 in
theorem rdo10 (ao : Option Addr) (c : Nat) (l : List Int) (hD : Rep refL 70 F G w R cap beg now log x0 c0 x1 c1 va vb vl xs) (hG : RdG w G ao c l) (hlen : now.a0.length + l.length ≤ 140737488355328) (hlog : log.length < 1000000) :
    Calls Try.prog 42 #[.pointer (some ⟨R, 0, none⟩), wrv 1 0 ao l.length c] w fun e w' => (∃ v, e = .returned v) ∧ ∃ F', Disk refL 70 F' G w' R cap beg { now with a0 := now.a0 ++ l } (log ++ [⟨1, 0, l⟩]) ∧ Only F w w' ∧ Grown F F' w := by
  obtain ⟨i50, hi, hz0, hz1, hz2⟩ := info_parts Try.info50
  have hb : Below w.heap.size w ((w.alloc (.cells #[.int .i64 1, .int .i64 0, .slice ao l.length c] 50)).drew) := ((Below.refl _ w).alloc (Nat.le_refl _) _).drew
  have hD1 := hD.below hb
  have hlt := hD.uF R hD.fR
  have hS0 : ((w.alloc (.cells #[.int .i64 1, .int .i64 0, .slice ao l.length c] 50)).drew).cell? ⟨w.heap.size, 0, none⟩ = some (.int .i64 1) ∧ ((w.alloc (.cells #[.int .i64 1, .int .i64 0, .slice ao l.length c] 50)).drew).cell? ⟨w.heap.size, 1, none⟩ = some (.int .i64 0) ∧ ((w.alloc (.cells #[.int .i64 1, .int .i64 0, .slice ao l.length c] 50)).drew).cell? ⟨w.heap.size, 2, none⟩ = some (.slice ao l.length c) := by
    obtain ⟨q0, q1, q2, _⟩ := blk3 (w := ((w.alloc (.cells #[.int .i64 1, .int .i64 0, .slice ao l.length c] 50)).drew)) (R := w.heap.size) (heap_alloc_new w _)
    exact ⟨q0, q1, q2⟩
  obtain ⟨v1, w1, hr1, ho1, hg1, hw1⟩ := app_bytes 22 _ _ _ hD1.o0 ao c l hG.nil (hG.rd.below hb) hlen
  have hc1 : ((w.alloc (.cells #[.int .i64 1, .int .i64 0, .slice ao l.length c] 50)).drew).cell? ⟨R, 3, none⟩ = some va := by
    rw [cell_of_row _ R 3 _ 70 (0, 0) hD1.cells]; rfl
  have hne : some R ≠ va.ownBlock := fun e => (hD.f0 R e.symm).2 rfl
  have hcw1 := (hg1.block R (by simp; omega) hne).trans hD1.cells
  have hcs : w1.cell? ⟨R, 3, none⟩ = some va := by rw [cell_of_row _ R 3 _ 70 (0, 0) hcw1]; rfl
  have hfs : w1.frozen? ⟨R, 3, none⟩ = false := frozen_of_row _ R 3 _ 70 hcw1
  have hnb : some w.heap.size ≠ va.ownBlock := fun e => by have := hD.uF _ (hD.f0 _ e.symm).1; omega
  have hS1 : w1.cell? ⟨w.heap.size, 0, none⟩ = some (.int .i64 1) ∧ w1.cell? ⟨w.heap.size, 1, none⟩ = some (.int .i64 0) ∧ w1.cell? ⟨w.heap.size, 2, none⟩ = some (.slice ao l.length c) := ⟨hg1.cell hS0.1 hnb, hg1.cell hS0.2.1 hnb, hg1.cell hS0.2.2 hnb⟩
  have hS2 : (w1.setCell ⟨R, 3, none⟩ v1).cell? ⟨w.heap.size, 0, none⟩ = some (.int .i64 1) ∧ (w1.setCell ⟨R, 3, none⟩ v1).cell? ⟨w.heap.size, 1, none⟩ = some (.int .i64 0) ∧ (w1.setCell ⟨R, 3, none⟩ v1).cell? ⟨w.heap.size, 2, none⟩ = some (.slice ao l.length c) := by
    have hq := grown_setCell w1 ⟨R, 3, none⟩ v1
    have hq2 : some w.heap.size ≠ some R := by simp; omega
    exact ⟨hq.cell hS1.1 hq2, hq.cell hS1.2.1 hq2, hq.cell hS1.2.2 hq2⟩
  obtain ⟨a1, cp1, hv1, _⟩ := ho1.form
  have hon1 : Only F w (w1.setCell ⟨R, 3, none⟩ v1) := (((Only.ofBelow hb).mono (D := F) (fun _ _ h => h.elim)).trans (Only.ofGrown hg1) (fun j _ hj => (hD.f0 j hj).1)).setCell ⟨R, 3, none⟩ v1 (fun _ => hD.fR)
  have hfirst : Disk refL 70 (Mut R v1 vb vl) G (w1.setCell ⟨R, 3, none⟩ v1) R cap beg { now with a0 := now.a0 ++ l } log ∧ Grown F (Mut R v1 vb vl) w ∧ ¬ Mut R v1 vb vl w.heap.size := by
    have hset := Only.ofGrown (grown_setCell w1 ⟨R, 3, none⟩ v1)
    have hgr := Only.ofGrown hg1
    have hwv : Where w va v1 := fun j hj => by
      rcases hw1 j hj with q | q
      · exact .inl q
      · simp at q; exact .inr (by omega)
    have hR1 : ∀ j, v1.ownBlock = some j → ¬ (some R = some j) := fun j hj e => by
      cases e
      rcases hwv R hj with q | q
      · exact hne q.symm
      · omega
    have sO : ∀ {u : Value} {m : List Int}, Own 5 ((w.alloc (.cells #[.int .i64 1, .int .i64 0, .slice ao l.length c] 50)).drew) 0 u m → (∀ j, u.ownBlock = some j → j ≠ R ∧ va.ownBlock ≠ some j) → Own 5 (w1.setCell ⟨R, 3, none⟩ v1) 0 u m := fun hu hj => hset.own (hgr.own hu (fun j e => (hj j e).2)) (fun j e q => (hj j e).1 (by cases q; rfl))
    have hnew : ∀ {u : Value}, (∀ j, u.ownBlock = some j → F j) → ∀ j, w.heap.size ≤ j → u.ownBlock ≠ some j := fun hu j hj e => by have := hD.uF j (hu j e); omega
    obtain ⟨r1, r2⟩ := hD.turn (now' := { now with a0 := now.a0 ++ l }) (log' := log) (va' := v1) (vb' := vb) (vl' := vl) (xs' := xs) hon1 (by rw [heap_setCell_same _ _ _ _ 70 _ hcw1]; simp [refL])
      (hset.own ho1 hR1) (sO hD1.o1 (fun j hj => ⟨(hD.f1 j hj).2.1, (hD.f1 j hj).2.2⟩))
      (hset.row (hgr.row hD1.ol (fun j hj e => (hD.fl j hj).2.2.1 e)) (fun j hj e => (hD.fl j hj).2.1 (by cases e; rfl))) (((hD1.it.only hgr (fun j e hG => hD.apart j (hD.f0 j e).1 hG))).only hset (fun j e hG => hD.apart j (by cases e; exact hD.fR) hG))
      hwv (fun j hj => .inl hj) (fun j hj => .inl hj)
      (fun j hj _ => hnew (fun j e => (hD.f1 j e).1) j hj) (fun j hj _ => hnew (fun j e => (hD.fl j e).1) j hj) (fun j hj _ => hnew (fun j e => (hD.fl j e).1) j hj)
    refine ⟨⟨_, _, _, _, _, _, _, _, r1⟩, r2, ?_⟩
    rintro (e | e | e | e)
    · omega
    · exact (hw1 _ e).elim (fun q => hnb q.symm) (fun q => by have hz : ((w.alloc (.cells #[.int .i64 1, .int .i64 0, .slice ao l.length c] 50)).drew).heap.size = w.heap.size + 1 := (by simp); omega)
    · have := hD.uF _ (hD.f1 _ e).1; omega
    · have := hD.uF _ (hD.fl _ e).1; omega
  have hszb : w.heap.size + 1 ≤ (w1.setCell ⟨R, 3, none⟩ v1).heap.size := by have := hg1.size; simpa using this
  clear hcw1 ho1 hg1 hw1 hne hnb
  have HD := hide hD
  have HF := hide (And.intro hfirst (And.intro hon1 hszb))
  clear hD hD1 hfirst hon1 hszb
  unfold wrv
  go_enter Try.func42, Try.ntmps42
  go_wp2
  refine wp_region_held_drew (S := (fun w' => w'.cell? ⟨w.heap.size, 0, none⟩ = some (.int .i64 1) ∧ w'.cell? ⟨w.heap.size, 1, none⟩ = some (.int .i64 0) ∧ w'.cell? ⟨w.heap.size, 2, none⟩ = some (.slice ao l.length c))) (by kernel_rfl) (by exact hS0) (fun hHeld => ?_)
  try dsimp only at hHeld
  refine take_op (i := 0) (d := 8) (OP := Op.move (Operand.tmp 0)) (T := 32) (v := ?vq1x) rfl rfl rfl rfl (by kernel_rfl) (by kernel_rfl) (by kernel_rfl) (fun _ _ _ h => h) (by rfl) ?hq1x hHeld ?rq1x
  case hq1x => (intro w' hSw; (try dsimp only at hSw); go_simp <;> with_reducible rfl)
  try simp only [Act.put, List.setIfInBounds_toArray, List.set_cons_zero, List.set_cons_succ]
  refine take_op (i := 1) (d := 9) (OP := Op.fieldAddr 50 (Operand.tmp 3) 1) (T := 0) (v := ?vq2x) rfl rfl rfl rfl (by kernel_rfl) (by kernel_rfl) (by kernel_rfl) (fun _ _ _ h => h) (by rfl) ?hq2x hHeld ?rq2x
  case hq2x => (intro w' hSw; (try dsimp only at hSw); go_simp <;> with_reducible rfl)
  try simp only [Act.put, List.setIfInBounds_toArray, List.set_cons_zero, List.set_cons_succ]
  refine take_op (i := 2) (d := 10) (OP := Op.load 3 (Operand.tmp 9)) (T := 3) (v := ?vq3x) rfl rfl rfl rfl (by kernel_rfl) (by kernel_rfl) (by kernel_rfl) (fun _ _ _ h => h) (by rfl) ?hq3x hHeld ?rq3x
  case hq3x => (intro w' hSw; (try dsimp only at hSw); go_simp <;> with_reducible rfl)
  try simp only [Act.put, List.setIfInBounds_toArray, List.set_cons_zero, List.set_cons_succ]
  refine take_op (i := 3) (d := 11) (OP := Op.move (Operand.tmp 0)) (T := 32) (v := ?vq4x) rfl rfl rfl rfl (by kernel_rfl) (by kernel_rfl) (by kernel_rfl) (fun _ _ _ h => h) (by rfl) ?hq4x hHeld ?rq4x
  case hq4x => (intro w' hSw; (try dsimp only at hSw); go_simp <;> with_reducible rfl)
  try simp only [Act.put, List.setIfInBounds_toArray, List.set_cons_zero, List.set_cons_succ]
  refine take_op (i := 4) (d := 12) (OP := Op.fieldAddr 50 (Operand.tmp 3) 1) (T := 0) (v := ?vq5x) rfl rfl rfl rfl (by kernel_rfl) (by kernel_rfl) (by kernel_rfl) (fun _ _ _ h => h) (by rfl) ?hq5x hHeld ?rq5x
  case hq5x => (intro w' hSw; (try dsimp only at hSw); go_simp <;> with_reducible rfl)
  try simp only [Act.put, List.setIfInBounds_toArray, List.set_cons_zero, List.set_cons_succ]
  refine take_op (i := 5) (d := 13) (OP := Op.load 3 (Operand.tmp 12)) (T := 3) (v := ?vq6x) rfl rfl rfl rfl (by kernel_rfl) (by kernel_rfl) (by kernel_rfl) (fun _ _ _ h => h) (by rfl) ?hq6x hHeld ?rq6x
  case hq6x => (intro w' hSw; (try dsimp only at hSw); go_simp <;> with_reducible rfl)
  try simp only [Act.put, List.setIfInBounds_toArray, List.set_cons_zero, List.set_cons_succ]
  refine take_op (i := 6) (d := 14) (OP := Op.nilCheck (Operand.tmp 11)) (T := 0) (v := ?vq7x) rfl rfl rfl rfl (by kernel_rfl) (by kernel_rfl) (by kernel_rfl) (fun _ _ _ h => h) (by rfl) ?hq7x hHeld ?rq7x
  case hq7x => (intro w' hSw; (try dsimp only at hSw); go_simp <;> with_reducible rfl)
  try simp only [Act.put, List.setIfInBounds_toArray, List.set_cons_zero, List.set_cons_succ]
  refine take_op (i := 7) (d := 15) (OP := Op.fieldAddr 70 (Operand.tmp 14) 3) (T := 0) (v := ?vq8x) rfl rfl rfl rfl (by kernel_rfl) (by kernel_rfl) (by kernel_rfl) (fun _ _ _ h => h) (by rfl) ?hq8x hHeld ?rq8x
  case hq8x => (intro w' hSw; (try dsimp only at hSw); go_simp <;> with_reducible rfl)
  try simp only [Act.put, List.setIfInBounds_toArray, List.set_cons_zero, List.set_cons_succ]
  refine take_op (i := 8) (d := 16) (OP := Op.indexAddr 55 (Operand.tmp 15) (Operand.tmp 13)) (T := 0) (v := ?vq9x) rfl rfl rfl rfl (by kernel_rfl) (by kernel_rfl) (by kernel_rfl) (fun _ _ _ h => h) (by rfl) ?hq9x hHeld ?rq9x
  case hq9x => (intro w' hSw; (try dsimp only at hSw); go_simp <;> with_reducible rfl)
  try simp only [Act.put, List.setIfInBounds_toArray, List.set_cons_zero, List.set_cons_succ]
  refine take_op (i := 10) (d := 18) (OP := Op.fieldAddr 50 (Operand.tmp 3) 2) (T := 0) (v := ?vq10x) rfl rfl rfl rfl (by kernel_rfl) (by kernel_rfl) (by kernel_rfl) (fun _ _ _ h => h) (by rfl) ?hq10x hHeld ?rq10x
  case hq10x => (intro w' hSw; (try dsimp only at hSw); go_simp <;> with_reducible rfl)
  try simp only [Act.put, List.setIfInBounds_toArray, List.set_cons_zero, List.set_cons_succ]
  refine take_op (i := 11) (d := 19) (OP := Op.load 22 (Operand.tmp 18)) (T := 22) (v := ?vq11x) rfl rfl rfl rfl (by kernel_rfl) (by kernel_rfl) (by kernel_rfl) (fun _ _ _ h => h) (by rfl) ?hq11x hHeld ?rq11x
  case hq11x => (intro w' hSw; (try dsimp only at hSw); go_simp <;> with_reducible rfl)
  try simp only [Act.put, List.setIfInBounds_toArray, List.set_cons_zero, List.set_cons_succ]
  refine take_op (i := 13) (d := 21) (OP := Op.nilCheck (Operand.tmp 8)) (T := 0) (v := ?vq12x) rfl rfl rfl rfl (by kernel_rfl) (by kernel_rfl) (by kernel_rfl) (fun _ _ _ h => h) (by rfl) ?hq12x hHeld ?rq12x
  case hq12x => (intro w' hSw; (try dsimp only at hSw); go_simp <;> with_reducible rfl)
  try simp only [Act.put, List.setIfInBounds_toArray, List.set_cons_zero, List.set_cons_succ]
  refine take_op (i := 14) (d := 22) (OP := Op.fieldAddr 70 (Operand.tmp 21) 3) (T := 0) (v := ?vq13x) rfl rfl rfl rfl (by kernel_rfl) (by kernel_rfl) (by kernel_rfl) (fun _ _ _ h => h) (by rfl) ?hq13x hHeld ?rq13x
  case hq13x => (intro w' hSw; (try dsimp only at hSw); go_simp <;> with_reducible rfl)
  try simp only [Act.put, List.setIfInBounds_toArray, List.set_cons_zero, List.set_cons_succ]
  refine alone_op (i := 9) (d := 17) (OP := Op.load 22 (Operand.tmp 16)) (T := 22) (v := ?vq14x) rfl rfl rfl rfl (by kernel_rfl) (by rfl) ?hq14x hHeld ?rq14x
  case hq14x => (go_simp <;> with_reducible rfl)
  try simp only [Act.put, List.setIfInBounds_toArray, List.set_cons_zero, List.set_cons_succ]
  refine turn_op (i := 12) (d := 20) (OP := Op.call { callee := Callee.builtin Builtin.append, args := #[Operand.tmp 17, Operand.tmp 19], argTypes := #[22, 22] }) (T := 22) (v := v1) (w' := w1) rfl rfl rfl rfl (by kernel_rfl) (by rfl) (exec_append rfl rfl hr1) hS1 ?_
  replace hHeld := hS1
  try simp only [Act.put, List.setIfInBounds_toArray, List.set_cons_zero, List.set_cons_succ]
  refine take_op (i := 15) (d := 23) (OP := Op.indexAddr 55 (Operand.tmp 22) (Operand.tmp 10)) (T := 0) (v := ?vq16x) rfl rfl rfl rfl (by kernel_rfl) (by kernel_rfl) (by kernel_rfl) (fun _ _ _ h => h) (by rfl) ?hq16x hHeld ?rq16x
  case hq16x => (intro w' hSw; (try dsimp only at hSw); go_simp <;> with_reducible rfl)
  try simp only [Act.put, List.setIfInBounds_toArray, List.set_cons_zero, List.set_cons_succ]
  refine skip_op (i := 16) (OP := Op.store 22 (Operand.tmp 23) (Operand.tmp 20)) (T := 0) (w' := w1.setCell ⟨R, 3, none⟩ v1) rfl rfl rfl rfl (by kernel_rfl) (by rfl) (by go_simp) ⟨hS2, ?_⟩
  replace hHeld := hS2
  refine wpAnyH_done (by kernel_rfl) ?_ _
  go_wp2
  generalize hw2 : (w1.setCell ⟨R, 3, none⟩ v1) = w2 at hS2 HF ⊢
  clear hw2
  obtain ⟨⟨hE1, hgr1, hNB⟩, hon1, hsz2⟩ := HF.out
  obtain ⟨y0, d0, y1, d1, ua, ub, ul, ys, hE⟩ := hE1
  have hltE : R < w2.heap.size := by omega
  have hbE : Below w2.heap.size w2 (w2.drew.alloc (.cells #[.int .i64 1, .int .i64 0, .slice ao l.length c] 50)) := ((Below.refl _ w2).drew).alloc (Nat.le_refl _) _
  have hEB := hE.below hbE
  have hcE2 : w2.cell? ⟨R, 7, none⟩ = some ul := by rw [cell_of_row w2 R 7 _ 70 (0, 0) hE.cells]; rfl
  have hcE : w2.drew.cell? ⟨R, 7, none⟩ = some ul := hcE2
  have hcB : (w2.drew.alloc (.cells #[.int .i64 1, .int .i64 0, .slice ao l.length c] 50)).cell? ⟨R, 7, none⟩ = some ul := by rw [cell_of_row _ R 7 _ 70 (0, 0) hEB.cells]; rfl
  have hS3 : (w2.drew.alloc (.cells #[.int .i64 1, .int .i64 0, .slice ao l.length c] 50)).cell? ⟨w.heap.size, 0, none⟩ = some (.int .i64 1) ∧ (w2.drew.alloc (.cells #[.int .i64 1, .int .i64 0, .slice ao l.length c] 50)).cell? ⟨w.heap.size, 1, none⟩ = some (.int .i64 0) ∧ (w2.drew.alloc (.cells #[.int .i64 1, .int .i64 0, .slice ao l.length c] 50)).cell? ⟨w.heap.size, 2, none⟩ = some (.slice ao l.length c) := ⟨(hbE.cell (by simp; omega)).trans hS2.1, (hbE.cell (by simp; omega)).trans hS2.2.1, (hbE.cell (by simp; omega)).trans hS2.2.2⟩
  obtain ⟨q0, q1, q2, _⟩ := blk3 (w := (w2.drew.alloc (.cells #[.int .i64 1, .int .i64 0, .slice ao l.length c] 50))) (R := w2.heap.size) (heap_alloc_new w2.drew _)
  obtain ⟨v3, w3, hr3, ho3, hg3, hw3⟩ := append_where (P := Try.prog) (w2.drew.alloc (.cells #[.int .i64 1, .int .i64 0, .slice ao l.length c] 50)) 58 58 50 i50 _ 3 40 Try.underlying58 hi hz0 hz1 hz2 rfl (by decide) ul _ _ hEB.ol ⟨w2.heap.size, 0, none⟩ 1 1 [.int .i64 1, .int .i64 0, .slice ao l.length c] rfl (by
    intro j u hj
    rw [add_lit]
    match j, hj with
    | 0, hj => cases hj; exact q0
    | 1, hj => cases hj; exact q1
    | 2, hj => cases hj; exact q2) (by simp [Value.oneCell']) (by unfold maxLen; omega) (by omega)
  obtain ⟨a3, n3, cp3, hv3⟩ : ∃ a n c, v3 = .slice a n c := by
    rcases ho3.2 with ⟨h, _⟩ | ⟨_, _, _, h, _⟩
    · exact ⟨_, _, _, h⟩
    · exact ⟨_, _, _, h⟩
  have hne : some R ≠ ul.ownBlock := fun e => (hE.fl R e.symm).2.1 rfl
  have hc3 := (hg3.block R (by simp; omega) hne).trans hEB.cells
  have hcs3 : w3.cell? ⟨R, 7, none⟩ = some ul := by rw [cell_of_row _ R 7 _ 70 (0, 0) hc3]; rfl
  have hfs3 : w3.frozen? ⟨R, 7, none⟩ = false := frozen_of_row _ R 7 _ 70 hc3
  have hnl : some w.heap.size ≠ ul.ownBlock := fun e => hNB (hE.fl _ e.symm).1
  have hS4 : w3.cell? ⟨w.heap.size, 0, none⟩ = some (.int .i64 1) ∧ w3.cell? ⟨w.heap.size, 1, none⟩ = some (.int .i64 0) ∧ w3.cell? ⟨w.heap.size, 2, none⟩ = some (.slice ao l.length c) := ⟨hg3.cell hS3.1 hnl, hg3.cell hS3.2.1 hnl, hg3.cell hS3.2.2 hnl⟩
  have hS5 : (w3.setCell ⟨R, 7, none⟩ v3).cell? ⟨w.heap.size, 0, none⟩ = some (.int .i64 1) ∧ (w3.setCell ⟨R, 7, none⟩ v3).cell? ⟨w.heap.size, 1, none⟩ = some (.int .i64 0) ∧ (w3.setCell ⟨R, 7, none⟩ v3).cell? ⟨w.heap.size, 2, none⟩ = some (.slice ao l.length c) := by
    have hq := grown_setCell w3 ⟨R, 7, none⟩ v3
    have hq2 : some w.heap.size ≠ some R := by simp; omega
    exact ⟨hq.cell hS4.1 hq2, hq.cell hS4.2.1 hq2, hq.cell hS4.2.2 hq2⟩
  have hfin : (∃ v, Ending.returned (.tuple #[]) = .returned v) ∧ ∃ F', Disk refL 70 F' G (w3.setCell ⟨R, 7, none⟩ v3) R cap beg { now with a0 := now.a0 ++ l } (log ++ [⟨1, 0, l⟩]) ∧ Only F w (w3.setCell ⟨R, 7, none⟩ v3) ∧ Grown F F' w := by
    have hset := Only.ofGrown (grown_setCell w3 ⟨R, 7, none⟩ v3)
    have hgr := Only.ofGrown hg3
    have hon : Only (Mut R ua ub ul) w2 (w3.setCell ⟨R, 7, none⟩ v3) := (((Only.ofBelow hbE).mono (D := Mut R ua ub ul) (fun _ _ h => h.elim)).trans hgr (fun j _ hj => .inr (.inr (.inr hj)))).setCell ⟨R, 7, none⟩ v3 (fun _ => .inl rfl)
    have hE' : Only (Mut R v1 vb vl) w2 (w3.setCell ⟨R, 7, none⟩ v3) := hon.mono (fun j _ hj => by
      rcases hj with e | e | e | e
      · rw [e]; exact hE.fR
      · exact (hE.f0 j e).1
      · exact (hE.f1 j e).1
      · exact (hE.fl j e).1)
    have hwv : Where w2 ul v3 := fun j hj => by
      rcases hw3 j hj with q | q
      · exact .inl q
      · simp at q; exact .inr (by omega)
    have hR3 : ∀ j, v3.ownBlock = some j → ¬ (some R = some j) := fun j hj e => by
      cases e
      rcases hwv R hj with q | q
      · exact hne q.symm
      · omega
    have hGd : RdG w2 G ao c l := hG.only hon1 HD.out.apart
    obtain ⟨r1, r2⟩ := hE.turn (now' := { now with a0 := now.a0 ++ l }) (log' := log ++ [⟨1, 0, l⟩]) (va' := ua) (vb' := ub) (vl' := v3) (xs' := ys ++ [.int .i64 1, .int .i64 0, .slice ao l.length c]) hE' (by rw [heap_setCell_same _ _ _ _ 70 _ hc3]; simp [refL])
      (hset.own (hgr.own hEB.o0 (fun j hj e => (hE.fl j e).2.2.1 hj)) (fun j hj e => (hE.f0 j hj).2 (by cases e; rfl))) (hset.own (hgr.own hEB.o1 (fun j hj e => (hE.fl j e).2.2.2 hj)) (fun j hj e => (hE.f1 j hj).2.1 (by cases e; rfl)))
      (by rw [List.length_append]; exact hset.row ho3 hR3) (Items.snoc (x := ⟨1, 0, l⟩) (hGd.only hE' hE.apart) (hE.it.only hE' hE.apart))
      (fun j hj => .inl hj) (fun j hj => .inl hj) hwv
      (fun j hj e e2 => by have := hE.uF j (hE.f1 j e2).1; omega) (fun j hj e e2 => by have := hE.uF j (hE.f0 j e).1; omega) (fun j hj e e2 => by have := hE.uF j (hE.f1 j e).1; omega)
    refine ⟨⟨_, rfl⟩, _, ⟨_, _, _, _, _, _, _, _, r1⟩, hon1.trans hE' (fun j hj hF1 => ?_), ?_⟩
    · rcases hgr1 j hF1 with q | q
      · exact q
      · omega
    · exact (fun j hj => by
        rcases r2 j hj with q | q
        · exact hgr1 j q
        · exact .inr (by omega))
  have HX := hide (And.intro hE (And.intro hEB (And.intro ho3 (And.intro hg3 (And.intro hw3 hc3)))))
  clear hE hEB ho3 hg3 hw3 hc3 hgr1 hon1
  refine wp_region_held_drew (S := (fun w' => w'.cell? ⟨w.heap.size, 0, none⟩ = some (.int .i64 1) ∧ w'.cell? ⟨w.heap.size, 1, none⟩ = some (.int .i64 0) ∧ w'.cell? ⟨w.heap.size, 2, none⟩ = some (.slice ao l.length c))) (by kernel_rfl) (by exact hS2) (fun hHeld => ?_)
  try dsimp only at hHeld
  refine take_op (i := 0) (d := 42) (OP := Op.move (Operand.tmp 0)) (T := 32) (v := ?vq18x) rfl rfl rfl rfl (by kernel_rfl) (by kernel_rfl) (by kernel_rfl) (fun _ _ _ h => h) (by rfl) ?hq18x hHeld ?rq18x
  case hq18x => (intro w' hSw; (try dsimp only at hSw); go_simp <;> with_reducible rfl)
  try simp only [Act.put, List.setIfInBounds_toArray, List.set_cons_zero, List.set_cons_succ]
  refine take_op (i := 1) (d := 43) (OP := Op.move (Operand.tmp 0)) (T := 32) (v := ?vq19x) rfl rfl rfl rfl (by kernel_rfl) (by kernel_rfl) (by kernel_rfl) (fun _ _ _ h => h) (by rfl) ?hq19x hHeld ?rq19x
  case hq19x => (intro w' hSw; (try dsimp only at hSw); go_simp <;> with_reducible rfl)
  try simp only [Act.put, List.setIfInBounds_toArray, List.set_cons_zero, List.set_cons_succ]
  refine take_op (i := 2) (d := 44) (OP := Op.nilCheck (Operand.tmp 43)) (T := 0) (v := ?vq20x) rfl rfl rfl rfl (by kernel_rfl) (by kernel_rfl) (by kernel_rfl) (fun _ _ _ h => h) (by rfl) ?hq20x hHeld ?rq20x
  case hq20x => (intro w' hSw; (try dsimp only at hSw); go_simp <;> with_reducible rfl)
  try simp only [Act.put, List.setIfInBounds_toArray, List.set_cons_zero, List.set_cons_succ]
  refine take_op (i := 3) (d := 45) (OP := Op.fieldAddr 70 (Operand.tmp 44) 5) (T := 0) (v := ?vq21x) rfl rfl rfl rfl (by kernel_rfl) (by kernel_rfl) (by kernel_rfl) (fun _ _ _ h => h) (by rfl) ?hq21x hHeld ?rq21x
  case hq21x => (intro w' hSw; (try dsimp only at hSw); go_simp <;> with_reducible rfl)
  try simp only [Act.put, List.setIfInBounds_toArray, List.set_cons_zero, List.set_cons_succ]
  refine take_op (i := 5) (d := 47) (OP := Op.load 50 (Operand.tmp 3)) (T := 50) (v := ?vq22x) rfl rfl rfl rfl (by kernel_rfl) (by kernel_rfl) (by kernel_rfl) (fun _ _ _ h => h) (by rfl) ?hq22x hHeld ?rq22x
  case hq22x => (intro w' hSw; (try dsimp only at hSw); go_simp <;> with_reducible rfl)
  try simp only [Act.put, List.setIfInBounds_toArray, List.set_cons_zero, List.set_cons_succ]
  refine two_op (i := 4) (j := 6) (di := 46) (dj := 48) (OPi := Op.load 58 (Operand.tmp 45)) (OPj := Op.buildSlice 58 1 #[(0, Operand.tmp 47)]) (Ti := 58) (Tj := 58) (v := ul) (u := .slice (some ⟨w2.heap.size, 0, none⟩) 1 1) (w' := (w2.drew.alloc (.cells #[.int .i64 1, .int .i64 0, .slice ao l.length c] 50))) rfl rfl rfl rfl rfl rfl rfl rfl (by kernel_rfl) (by rfl) (by rfl) ?ei ?ej hHeld hS3 ?bi ?bj
  case ei => go_simp <;> with_reducible rfl
  case ej => go_simp <;> with_reducible rfl
  case bi =>
    try simp only [Act.put, List.setIfInBounds_toArray, List.set_cons_zero, List.set_cons_succ]
    refine turn_op (i := 6) (d := 48) (OP := Op.buildSlice 58 1 #[(0, Operand.tmp 47)]) (T := 58) (v := (.slice (some ⟨w2.heap.size, 0, none⟩) 1 1)) (w' := (w2.drew.alloc (.cells #[.int .i64 1, .int .i64 0, .slice ao l.length c] 50))) rfl rfl rfl rfl (by kernel_rfl) (by rfl) (by go_simp) hS3 ?_
    replace hHeld := hS3
    try simp only [Act.put, List.setIfInBounds_toArray, List.set_cons_zero, List.set_cons_succ]
    refine turn_op (i := 7) (d := 49) (OP := Op.call { callee := Callee.builtin Builtin.append, args := #[Operand.tmp 46, Operand.tmp 48], argTypes := #[58, 58] }) (T := 58) (v := v3) (w' := w3) rfl rfl rfl rfl (by kernel_rfl) (by rfl) (exec_append rfl rfl hr3) hS4 ?_
    replace hHeld := hS4
    try simp only [Act.put, List.setIfInBounds_toArray, List.set_cons_zero, List.set_cons_succ]
    refine take_op (i := 8) (d := 50) (OP := Op.nilCheck (Operand.tmp 42)) (T := 0) (v := ?vq25x) rfl rfl rfl rfl (by kernel_rfl) (by kernel_rfl) (by kernel_rfl) (fun _ _ _ h => h) (by rfl) ?hq25x hHeld ?rq25x
    case hq25x => (intro w' hSw; (try dsimp only at hSw); go_simp <;> with_reducible rfl)
    try simp only [Act.put, List.setIfInBounds_toArray, List.set_cons_zero, List.set_cons_succ]
    refine take_op (i := 9) (d := 51) (OP := Op.fieldAddr 70 (Operand.tmp 50) 5) (T := 0) (v := ?vq26x) rfl rfl rfl rfl (by kernel_rfl) (by kernel_rfl) (by kernel_rfl) (fun _ _ _ h => h) (by rfl) ?hq26x hHeld ?rq26x
    case hq26x => (intro w' hSw; (try dsimp only at hSw); go_simp <;> with_reducible rfl)
    try simp only [Act.put, List.setIfInBounds_toArray, List.set_cons_zero, List.set_cons_succ]
    refine skip_op (i := 10) (OP := Op.store 58 (Operand.tmp 51) (Operand.tmp 49)) (T := 0) (w' := w3.setCell ⟨R, 7, none⟩ v3) rfl rfl rfl rfl (by kernel_rfl) (by rfl) (by go_simp) ⟨hS5, ?_⟩
    replace hHeld := hS5
    refine wpAnyH_done (by kernel_rfl) ?_ _
    go_wp2
    go_end0
    first | exact hfin | (rw [hv3] at hfin; exact hfin)
  case bj =>
    replace hHeld := hS3
    try simp only [Act.put, List.setIfInBounds_toArray, List.set_cons_zero, List.set_cons_succ]
    refine alone_op (i := 4) (d := 46) (OP := Op.load 58 (Operand.tmp 45)) (T := 58) (v := ?vq28x) rfl rfl rfl rfl (by kernel_rfl) (by rfl) ?hq28x hHeld ?rq28x
    case hq28x => (go_simp <;> with_reducible rfl)
    try simp only [Act.put, List.setIfInBounds_toArray, List.set_cons_zero, List.set_cons_succ]
    refine turn_op (i := 7) (d := 49) (OP := Op.call { callee := Callee.builtin Builtin.append, args := #[Operand.tmp 46, Operand.tmp 48], argTypes := #[58, 58] }) (T := 58) (v := v3) (w' := w3) rfl rfl rfl rfl (by kernel_rfl) (by rfl) (exec_append rfl rfl hr3) hS4 ?_
    replace hHeld := hS4
    try simp only [Act.put, List.setIfInBounds_toArray, List.set_cons_zero, List.set_cons_succ]
    refine take_op (i := 8) (d := 50) (OP := Op.nilCheck (Operand.tmp 42)) (T := 0) (v := ?vq30x) rfl rfl rfl rfl (by kernel_rfl) (by kernel_rfl) (by kernel_rfl) (fun _ _ _ h => h) (by rfl) ?hq30x hHeld ?rq30x
    case hq30x => (intro w' hSw; (try dsimp only at hSw); go_simp <;> with_reducible rfl)
    try simp only [Act.put, List.setIfInBounds_toArray, List.set_cons_zero, List.set_cons_succ]
    refine take_op (i := 9) (d := 51) (OP := Op.fieldAddr 70 (Operand.tmp 50) 5) (T := 0) (v := ?vq31x) rfl rfl rfl rfl (by kernel_rfl) (by kernel_rfl) (by kernel_rfl) (fun _ _ _ h => h) (by rfl) ?hq31x hHeld ?rq31x
    case hq31x => (intro w' hSw; (try dsimp only at hSw); go_simp <;> with_reducible rfl)
    try simp only [Act.put, List.setIfInBounds_toArray, List.set_cons_zero, List.set_cons_succ]
    refine skip_op (i := 10) (OP := Op.store 58 (Operand.tmp 51) (Operand.tmp 49)) (T := 0) (w' := w3.setCell ⟨R, 7, none⟩ v3) rfl rfl rfl rfl (by kernel_rfl) (by rfl) (by go_simp) ⟨hS5, ?_⟩
    replace hHeld := hS5
    refine wpAnyH_done (by kernel_rfl) ?_ _
    go_wp2
    go_end0
    first | exact hfin | (rw [hv3] at hfin; exact hfin)

set_option maxHeartbeats 2000000 in
set_option maxRecDepth 100000 in
theorem rdo11 (ao : Option Addr) (c : Nat) (l : List Int) (hD : Rep refL 70 F G w R cap beg now log x0 c0 x1 c1 va vb vl xs) (hG : RdG w G ao c l) (hlen : now.a1.length + l.length ≤ 140737488355328) (hlog : log.length < 1000000) :
    Calls Try.prog 42 #[.pointer (some ⟨R, 0, none⟩), wrv 1 1 ao l.length c] w fun e w' => (∃ v, e = .returned v) ∧ ∃ F', Disk refL 70 F' G w' R cap beg { now with a1 := now.a1 ++ l } (log ++ [⟨1, 1, l⟩]) ∧ Only F w w' ∧ Grown F F' w := by
  obtain ⟨i50, hi, hz0, hz1, hz2⟩ := info_parts Try.info50
  have hb : Below w.heap.size w ((w.alloc (.cells #[.int .i64 1, .int .i64 1, .slice ao l.length c] 50)).drew) := ((Below.refl _ w).alloc (Nat.le_refl _) _).drew
  have hD1 := hD.below hb
  have hlt := hD.uF R hD.fR
  have hS0 : ((w.alloc (.cells #[.int .i64 1, .int .i64 1, .slice ao l.length c] 50)).drew).cell? ⟨w.heap.size, 0, none⟩ = some (.int .i64 1) ∧ ((w.alloc (.cells #[.int .i64 1, .int .i64 1, .slice ao l.length c] 50)).drew).cell? ⟨w.heap.size, 1, none⟩ = some (.int .i64 1) ∧ ((w.alloc (.cells #[.int .i64 1, .int .i64 1, .slice ao l.length c] 50)).drew).cell? ⟨w.heap.size, 2, none⟩ = some (.slice ao l.length c) := by
    obtain ⟨q0, q1, q2, _⟩ := blk3 (w := ((w.alloc (.cells #[.int .i64 1, .int .i64 1, .slice ao l.length c] 50)).drew)) (R := w.heap.size) (heap_alloc_new w _)
    exact ⟨q0, q1, q2⟩
  obtain ⟨v1, w1, hr1, ho1, hg1, hw1⟩ := app_bytes 22 _ _ _ hD1.o1 ao c l hG.nil (hG.rd.below hb) hlen
  have hc1 : ((w.alloc (.cells #[.int .i64 1, .int .i64 1, .slice ao l.length c] 50)).drew).cell? ⟨R, 4, none⟩ = some vb := by
    rw [cell_of_row _ R 4 _ 70 (0, 0) hD1.cells]; rfl
  have hne : some R ≠ vb.ownBlock := fun e => (hD.f1 R e.symm).2.1 rfl
  have hcw1 := (hg1.block R (by simp; omega) hne).trans hD1.cells
  have hcs : w1.cell? ⟨R, 4, none⟩ = some vb := by rw [cell_of_row _ R 4 _ 70 (0, 0) hcw1]; rfl
  have hfs : w1.frozen? ⟨R, 4, none⟩ = false := frozen_of_row _ R 4 _ 70 hcw1
  have hnb : some w.heap.size ≠ vb.ownBlock := fun e => by have := hD.uF _ (hD.f1 _ e.symm).1; omega
  have hS1 : w1.cell? ⟨w.heap.size, 0, none⟩ = some (.int .i64 1) ∧ w1.cell? ⟨w.heap.size, 1, none⟩ = some (.int .i64 1) ∧ w1.cell? ⟨w.heap.size, 2, none⟩ = some (.slice ao l.length c) := ⟨hg1.cell hS0.1 hnb, hg1.cell hS0.2.1 hnb, hg1.cell hS0.2.2 hnb⟩
  have hS2 : (w1.setCell ⟨R, 4, none⟩ v1).cell? ⟨w.heap.size, 0, none⟩ = some (.int .i64 1) ∧ (w1.setCell ⟨R, 4, none⟩ v1).cell? ⟨w.heap.size, 1, none⟩ = some (.int .i64 1) ∧ (w1.setCell ⟨R, 4, none⟩ v1).cell? ⟨w.heap.size, 2, none⟩ = some (.slice ao l.length c) := by
    have hq := grown_setCell w1 ⟨R, 4, none⟩ v1
    have hq2 : some w.heap.size ≠ some R := by simp; omega
    exact ⟨hq.cell hS1.1 hq2, hq.cell hS1.2.1 hq2, hq.cell hS1.2.2 hq2⟩
  obtain ⟨a1, cp1, hv1, _⟩ := ho1.form
  have hon1 : Only F w (w1.setCell ⟨R, 4, none⟩ v1) := (((Only.ofBelow hb).mono (D := F) (fun _ _ h => h.elim)).trans (Only.ofGrown hg1) (fun j _ hj => (hD.f1 j hj).1)).setCell ⟨R, 4, none⟩ v1 (fun _ => hD.fR)
  have hfirst : Disk refL 70 (Mut R va v1 vl) G (w1.setCell ⟨R, 4, none⟩ v1) R cap beg { now with a1 := now.a1 ++ l } log ∧ Grown F (Mut R va v1 vl) w ∧ ¬ Mut R va v1 vl w.heap.size := by
    have hset := Only.ofGrown (grown_setCell w1 ⟨R, 4, none⟩ v1)
    have hgr := Only.ofGrown hg1
    have hwv : Where w vb v1 := fun j hj => by
      rcases hw1 j hj with q | q
      · exact .inl q
      · simp at q; exact .inr (by omega)
    have hR1 : ∀ j, v1.ownBlock = some j → ¬ (some R = some j) := fun j hj e => by
      cases e
      rcases hwv R hj with q | q
      · exact hne q.symm
      · omega
    have sO : ∀ {u : Value} {m : List Int}, Own 5 ((w.alloc (.cells #[.int .i64 1, .int .i64 1, .slice ao l.length c] 50)).drew) 0 u m → (∀ j, u.ownBlock = some j → j ≠ R ∧ vb.ownBlock ≠ some j) → Own 5 (w1.setCell ⟨R, 4, none⟩ v1) 0 u m := fun hu hj => hset.own (hgr.own hu (fun j e => (hj j e).2)) (fun j e q => (hj j e).1 (by cases q; rfl))
    have hnew : ∀ {u : Value}, (∀ j, u.ownBlock = some j → F j) → ∀ j, w.heap.size ≤ j → u.ownBlock ≠ some j := fun hu j hj e => by have := hD.uF j (hu j e); omega
    obtain ⟨r1, r2⟩ := hD.turn (now' := { now with a1 := now.a1 ++ l }) (log' := log) (va' := va) (vb' := v1) (vl' := vl) (xs' := xs) hon1 (by rw [heap_setCell_same _ _ _ _ 70 _ hcw1]; simp [refL])
      (sO hD1.o0 (fun j hj => ⟨(hD.f0 j hj).2, fun e => (hD.f1 j e).2.2 hj⟩)) (hset.own ho1 hR1)
      (hset.row (hgr.row hD1.ol (fun j hj e => (hD.fl j hj).2.2.2 e)) (fun j hj e => (hD.fl j hj).2.1 (by cases e; rfl))) (((hD1.it.only hgr (fun j e hG => hD.apart j (hD.f1 j e).1 hG))).only hset (fun j e hG => hD.apart j (by cases e; exact hD.fR) hG))
      (fun j hj => .inl hj) hwv (fun j hj => .inl hj)
      (fun j hj e => absurd e (hnew (fun j e => (hD.f0 j e).1) j hj)) (fun j hj _ => hnew (fun j e => (hD.fl j e).1) j hj) (fun j hj _ => hnew (fun j e => (hD.fl j e).1) j hj)
    refine ⟨⟨_, _, _, _, _, _, _, _, r1⟩, r2, ?_⟩
    rintro (e | e | e | e)
    · omega
    · have := hD.uF _ (hD.f0 _ e).1; omega
    · exact (hw1 _ e).elim (fun q => hnb q.symm) (fun q => by have hz : ((w.alloc (.cells #[.int .i64 1, .int .i64 1, .slice ao l.length c] 50)).drew).heap.size = w.heap.size + 1 := (by simp); omega)
    · have := hD.uF _ (hD.fl _ e).1; omega
  have hszb : w.heap.size + 1 ≤ (w1.setCell ⟨R, 4, none⟩ v1).heap.size := by have := hg1.size; simpa using this
  clear hcw1 ho1 hg1 hw1 hne hnb
  have HD := hide hD
  have HF := hide (And.intro hfirst (And.intro hon1 hszb))
  clear hD hD1 hfirst hon1 hszb
  unfold wrv
  go_enter Try.func42, Try.ntmps42
  go_wp2
  refine wp_region_held_drew (S := (fun w' => w'.cell? ⟨w.heap.size, 0, none⟩ = some (.int .i64 1) ∧ w'.cell? ⟨w.heap.size, 1, none⟩ = some (.int .i64 1) ∧ w'.cell? ⟨w.heap.size, 2, none⟩ = some (.slice ao l.length c))) (by kernel_rfl) (by exact hS0) (fun hHeld => ?_)
  try dsimp only at hHeld
  refine take_op (i := 0) (d := 8) (OP := Op.move (Operand.tmp 0)) (T := 32) (v := ?vq33x) rfl rfl rfl rfl (by kernel_rfl) (by kernel_rfl) (by kernel_rfl) (fun _ _ _ h => h) (by rfl) ?hq33x hHeld ?rq33x
  case hq33x => (intro w' hSw; (try dsimp only at hSw); go_simp <;> with_reducible rfl)
  try simp only [Act.put, List.setIfInBounds_toArray, List.set_cons_zero, List.set_cons_succ]
  refine take_op (i := 1) (d := 9) (OP := Op.fieldAddr 50 (Operand.tmp 3) 1) (T := 0) (v := ?vq34x) rfl rfl rfl rfl (by kernel_rfl) (by kernel_rfl) (by kernel_rfl) (fun _ _ _ h => h) (by rfl) ?hq34x hHeld ?rq34x
  case hq34x => (intro w' hSw; (try dsimp only at hSw); go_simp <;> with_reducible rfl)
  try simp only [Act.put, List.setIfInBounds_toArray, List.set_cons_zero, List.set_cons_succ]
  refine take_op (i := 2) (d := 10) (OP := Op.load 3 (Operand.tmp 9)) (T := 3) (v := ?vq35x) rfl rfl rfl rfl (by kernel_rfl) (by kernel_rfl) (by kernel_rfl) (fun _ _ _ h => h) (by rfl) ?hq35x hHeld ?rq35x
  case hq35x => (intro w' hSw; (try dsimp only at hSw); go_simp <;> with_reducible rfl)
  try simp only [Act.put, List.setIfInBounds_toArray, List.set_cons_zero, List.set_cons_succ]
  refine take_op (i := 3) (d := 11) (OP := Op.move (Operand.tmp 0)) (T := 32) (v := ?vq36x) rfl rfl rfl rfl (by kernel_rfl) (by kernel_rfl) (by kernel_rfl) (fun _ _ _ h => h) (by rfl) ?hq36x hHeld ?rq36x
  case hq36x => (intro w' hSw; (try dsimp only at hSw); go_simp <;> with_reducible rfl)
  try simp only [Act.put, List.setIfInBounds_toArray, List.set_cons_zero, List.set_cons_succ]
  refine take_op (i := 4) (d := 12) (OP := Op.fieldAddr 50 (Operand.tmp 3) 1) (T := 0) (v := ?vq37x) rfl rfl rfl rfl (by kernel_rfl) (by kernel_rfl) (by kernel_rfl) (fun _ _ _ h => h) (by rfl) ?hq37x hHeld ?rq37x
  case hq37x => (intro w' hSw; (try dsimp only at hSw); go_simp <;> with_reducible rfl)
  try simp only [Act.put, List.setIfInBounds_toArray, List.set_cons_zero, List.set_cons_succ]
  refine take_op (i := 5) (d := 13) (OP := Op.load 3 (Operand.tmp 12)) (T := 3) (v := ?vq38x) rfl rfl rfl rfl (by kernel_rfl) (by kernel_rfl) (by kernel_rfl) (fun _ _ _ h => h) (by rfl) ?hq38x hHeld ?rq38x
  case hq38x => (intro w' hSw; (try dsimp only at hSw); go_simp <;> with_reducible rfl)
  try simp only [Act.put, List.setIfInBounds_toArray, List.set_cons_zero, List.set_cons_succ]
  refine take_op (i := 6) (d := 14) (OP := Op.nilCheck (Operand.tmp 11)) (T := 0) (v := ?vq39x) rfl rfl rfl rfl (by kernel_rfl) (by kernel_rfl) (by kernel_rfl) (fun _ _ _ h => h) (by rfl) ?hq39x hHeld ?rq39x
  case hq39x => (intro w' hSw; (try dsimp only at hSw); go_simp <;> with_reducible rfl)
  try simp only [Act.put, List.setIfInBounds_toArray, List.set_cons_zero, List.set_cons_succ]
  refine take_op (i := 7) (d := 15) (OP := Op.fieldAddr 70 (Operand.tmp 14) 3) (T := 0) (v := ?vq40x) rfl rfl rfl rfl (by kernel_rfl) (by kernel_rfl) (by kernel_rfl) (fun _ _ _ h => h) (by rfl) ?hq40x hHeld ?rq40x
  case hq40x => (intro w' hSw; (try dsimp only at hSw); go_simp <;> with_reducible rfl)
  try simp only [Act.put, List.setIfInBounds_toArray, List.set_cons_zero, List.set_cons_succ]
  refine take_op (i := 8) (d := 16) (OP := Op.indexAddr 55 (Operand.tmp 15) (Operand.tmp 13)) (T := 0) (v := ?vq41x) rfl rfl rfl rfl (by kernel_rfl) (by kernel_rfl) (by kernel_rfl) (fun _ _ _ h => h) (by rfl) ?hq41x hHeld ?rq41x
  case hq41x => (intro w' hSw; (try dsimp only at hSw); go_simp <;> with_reducible rfl)
  try simp only [Act.put, List.setIfInBounds_toArray, List.set_cons_zero, List.set_cons_succ]
  refine take_op (i := 10) (d := 18) (OP := Op.fieldAddr 50 (Operand.tmp 3) 2) (T := 0) (v := ?vq42x) rfl rfl rfl rfl (by kernel_rfl) (by kernel_rfl) (by kernel_rfl) (fun _ _ _ h => h) (by rfl) ?hq42x hHeld ?rq42x
  case hq42x => (intro w' hSw; (try dsimp only at hSw); go_simp <;> with_reducible rfl)
  try simp only [Act.put, List.setIfInBounds_toArray, List.set_cons_zero, List.set_cons_succ]
  refine take_op (i := 11) (d := 19) (OP := Op.load 22 (Operand.tmp 18)) (T := 22) (v := ?vq43x) rfl rfl rfl rfl (by kernel_rfl) (by kernel_rfl) (by kernel_rfl) (fun _ _ _ h => h) (by rfl) ?hq43x hHeld ?rq43x
  case hq43x => (intro w' hSw; (try dsimp only at hSw); go_simp <;> with_reducible rfl)
  try simp only [Act.put, List.setIfInBounds_toArray, List.set_cons_zero, List.set_cons_succ]
  refine take_op (i := 13) (d := 21) (OP := Op.nilCheck (Operand.tmp 8)) (T := 0) (v := ?vq44x) rfl rfl rfl rfl (by kernel_rfl) (by kernel_rfl) (by kernel_rfl) (fun _ _ _ h => h) (by rfl) ?hq44x hHeld ?rq44x
  case hq44x => (intro w' hSw; (try dsimp only at hSw); go_simp <;> with_reducible rfl)
  try simp only [Act.put, List.setIfInBounds_toArray, List.set_cons_zero, List.set_cons_succ]
  refine take_op (i := 14) (d := 22) (OP := Op.fieldAddr 70 (Operand.tmp 21) 3) (T := 0) (v := ?vq45x) rfl rfl rfl rfl (by kernel_rfl) (by kernel_rfl) (by kernel_rfl) (fun _ _ _ h => h) (by rfl) ?hq45x hHeld ?rq45x
  case hq45x => (intro w' hSw; (try dsimp only at hSw); go_simp <;> with_reducible rfl)
  try simp only [Act.put, List.setIfInBounds_toArray, List.set_cons_zero, List.set_cons_succ]
  refine alone_op (i := 9) (d := 17) (OP := Op.load 22 (Operand.tmp 16)) (T := 22) (v := ?vq46x) rfl rfl rfl rfl (by kernel_rfl) (by rfl) ?hq46x hHeld ?rq46x
  case hq46x => (go_simp <;> with_reducible rfl)
  try simp only [Act.put, List.setIfInBounds_toArray, List.set_cons_zero, List.set_cons_succ]
  refine turn_op (i := 12) (d := 20) (OP := Op.call { callee := Callee.builtin Builtin.append, args := #[Operand.tmp 17, Operand.tmp 19], argTypes := #[22, 22] }) (T := 22) (v := v1) (w' := w1) rfl rfl rfl rfl (by kernel_rfl) (by rfl) (exec_append rfl rfl hr1) hS1 ?_
  replace hHeld := hS1
  try simp only [Act.put, List.setIfInBounds_toArray, List.set_cons_zero, List.set_cons_succ]
  refine take_op (i := 15) (d := 23) (OP := Op.indexAddr 55 (Operand.tmp 22) (Operand.tmp 10)) (T := 0) (v := ?vq48x) rfl rfl rfl rfl (by kernel_rfl) (by kernel_rfl) (by kernel_rfl) (fun _ _ _ h => h) (by rfl) ?hq48x hHeld ?rq48x
  case hq48x => (intro w' hSw; (try dsimp only at hSw); go_simp <;> with_reducible rfl)
  try simp only [Act.put, List.setIfInBounds_toArray, List.set_cons_zero, List.set_cons_succ]
  refine skip_op (i := 16) (OP := Op.store 22 (Operand.tmp 23) (Operand.tmp 20)) (T := 0) (w' := w1.setCell ⟨R, 4, none⟩ v1) rfl rfl rfl rfl (by kernel_rfl) (by rfl) (by go_simp) ⟨hS2, ?_⟩
  replace hHeld := hS2
  refine wpAnyH_done (by kernel_rfl) ?_ _
  go_wp2
  generalize hw2 : (w1.setCell ⟨R, 4, none⟩ v1) = w2 at hS2 HF ⊢
  clear hw2
  obtain ⟨⟨hE1, hgr1, hNB⟩, hon1, hsz2⟩ := HF.out
  obtain ⟨y0, d0, y1, d1, ua, ub, ul, ys, hE⟩ := hE1
  have hltE : R < w2.heap.size := by omega
  have hbE : Below w2.heap.size w2 (w2.drew.alloc (.cells #[.int .i64 1, .int .i64 1, .slice ao l.length c] 50)) := ((Below.refl _ w2).drew).alloc (Nat.le_refl _) _
  have hEB := hE.below hbE
  have hcE2 : w2.cell? ⟨R, 7, none⟩ = some ul := by rw [cell_of_row w2 R 7 _ 70 (0, 0) hE.cells]; rfl
  have hcE : w2.drew.cell? ⟨R, 7, none⟩ = some ul := hcE2
  have hcB : (w2.drew.alloc (.cells #[.int .i64 1, .int .i64 1, .slice ao l.length c] 50)).cell? ⟨R, 7, none⟩ = some ul := by rw [cell_of_row _ R 7 _ 70 (0, 0) hEB.cells]; rfl
  have hS3 : (w2.drew.alloc (.cells #[.int .i64 1, .int .i64 1, .slice ao l.length c] 50)).cell? ⟨w.heap.size, 0, none⟩ = some (.int .i64 1) ∧ (w2.drew.alloc (.cells #[.int .i64 1, .int .i64 1, .slice ao l.length c] 50)).cell? ⟨w.heap.size, 1, none⟩ = some (.int .i64 1) ∧ (w2.drew.alloc (.cells #[.int .i64 1, .int .i64 1, .slice ao l.length c] 50)).cell? ⟨w.heap.size, 2, none⟩ = some (.slice ao l.length c) := ⟨(hbE.cell (by simp; omega)).trans hS2.1, (hbE.cell (by simp; omega)).trans hS2.2.1, (hbE.cell (by simp; omega)).trans hS2.2.2⟩
  obtain ⟨q0, q1, q2, _⟩ := blk3 (w := (w2.drew.alloc (.cells #[.int .i64 1, .int .i64 1, .slice ao l.length c] 50))) (R := w2.heap.size) (heap_alloc_new w2.drew _)
  obtain ⟨v3, w3, hr3, ho3, hg3, hw3⟩ := append_where (P := Try.prog) (w2.drew.alloc (.cells #[.int .i64 1, .int .i64 1, .slice ao l.length c] 50)) 58 58 50 i50 _ 3 40 Try.underlying58 hi hz0 hz1 hz2 rfl (by decide) ul _ _ hEB.ol ⟨w2.heap.size, 0, none⟩ 1 1 [.int .i64 1, .int .i64 1, .slice ao l.length c] rfl (by
    intro j u hj
    rw [add_lit]
    match j, hj with
    | 0, hj => cases hj; exact q0
    | 1, hj => cases hj; exact q1
    | 2, hj => cases hj; exact q2) (by simp [Value.oneCell']) (by unfold maxLen; omega) (by omega)
  obtain ⟨a3, n3, cp3, hv3⟩ : ∃ a n c, v3 = .slice a n c := by
    rcases ho3.2 with ⟨h, _⟩ | ⟨_, _, _, h, _⟩
    · exact ⟨_, _, _, h⟩
    · exact ⟨_, _, _, h⟩
  have hne : some R ≠ ul.ownBlock := fun e => (hE.fl R e.symm).2.1 rfl
  have hc3 := (hg3.block R (by simp; omega) hne).trans hEB.cells
  have hcs3 : w3.cell? ⟨R, 7, none⟩ = some ul := by rw [cell_of_row _ R 7 _ 70 (0, 0) hc3]; rfl
  have hfs3 : w3.frozen? ⟨R, 7, none⟩ = false := frozen_of_row _ R 7 _ 70 hc3
  have hnl : some w.heap.size ≠ ul.ownBlock := fun e => hNB (hE.fl _ e.symm).1
  have hS4 : w3.cell? ⟨w.heap.size, 0, none⟩ = some (.int .i64 1) ∧ w3.cell? ⟨w.heap.size, 1, none⟩ = some (.int .i64 1) ∧ w3.cell? ⟨w.heap.size, 2, none⟩ = some (.slice ao l.length c) := ⟨hg3.cell hS3.1 hnl, hg3.cell hS3.2.1 hnl, hg3.cell hS3.2.2 hnl⟩
  have hS5 : (w3.setCell ⟨R, 7, none⟩ v3).cell? ⟨w.heap.size, 0, none⟩ = some (.int .i64 1) ∧ (w3.setCell ⟨R, 7, none⟩ v3).cell? ⟨w.heap.size, 1, none⟩ = some (.int .i64 1) ∧ (w3.setCell ⟨R, 7, none⟩ v3).cell? ⟨w.heap.size, 2, none⟩ = some (.slice ao l.length c) := by
    have hq := grown_setCell w3 ⟨R, 7, none⟩ v3
    have hq2 : some w.heap.size ≠ some R := by simp; omega
    exact ⟨hq.cell hS4.1 hq2, hq.cell hS4.2.1 hq2, hq.cell hS4.2.2 hq2⟩
  have hfin : (∃ v, Ending.returned (.tuple #[]) = .returned v) ∧ ∃ F', Disk refL 70 F' G (w3.setCell ⟨R, 7, none⟩ v3) R cap beg { now with a1 := now.a1 ++ l } (log ++ [⟨1, 1, l⟩]) ∧ Only F w (w3.setCell ⟨R, 7, none⟩ v3) ∧ Grown F F' w := by
    have hset := Only.ofGrown (grown_setCell w3 ⟨R, 7, none⟩ v3)
    have hgr := Only.ofGrown hg3
    have hon : Only (Mut R ua ub ul) w2 (w3.setCell ⟨R, 7, none⟩ v3) := (((Only.ofBelow hbE).mono (D := Mut R ua ub ul) (fun _ _ h => h.elim)).trans hgr (fun j _ hj => .inr (.inr (.inr hj)))).setCell ⟨R, 7, none⟩ v3 (fun _ => .inl rfl)
    have hE' : Only (Mut R va v1 vl) w2 (w3.setCell ⟨R, 7, none⟩ v3) := hon.mono (fun j _ hj => by
      rcases hj with e | e | e | e
      · rw [e]; exact hE.fR
      · exact (hE.f0 j e).1
      · exact (hE.f1 j e).1
      · exact (hE.fl j e).1)
    have hwv : Where w2 ul v3 := fun j hj => by
      rcases hw3 j hj with q | q
      · exact .inl q
      · simp at q; exact .inr (by omega)
    have hR3 : ∀ j, v3.ownBlock = some j → ¬ (some R = some j) := fun j hj e => by
      cases e
      rcases hwv R hj with q | q
      · exact hne q.symm
      · omega
    have hGd : RdG w2 G ao c l := hG.only hon1 HD.out.apart
    obtain ⟨r1, r2⟩ := hE.turn (now' := { now with a1 := now.a1 ++ l }) (log' := log ++ [⟨1, 1, l⟩]) (va' := ua) (vb' := ub) (vl' := v3) (xs' := ys ++ [.int .i64 1, .int .i64 1, .slice ao l.length c]) hE' (by rw [heap_setCell_same _ _ _ _ 70 _ hc3]; simp [refL])
      (hset.own (hgr.own hEB.o0 (fun j hj e => (hE.fl j e).2.2.1 hj)) (fun j hj e => (hE.f0 j hj).2 (by cases e; rfl))) (hset.own (hgr.own hEB.o1 (fun j hj e => (hE.fl j e).2.2.2 hj)) (fun j hj e => (hE.f1 j hj).2.1 (by cases e; rfl)))
      (by rw [List.length_append]; exact hset.row ho3 hR3) (Items.snoc (x := ⟨1, 1, l⟩) (hGd.only hE' hE.apart) (hE.it.only hE' hE.apart))
      (fun j hj => .inl hj) (fun j hj => .inl hj) hwv
      (fun j hj e e2 => by have := hE.uF j (hE.f1 j e2).1; omega) (fun j hj e e2 => by have := hE.uF j (hE.f0 j e).1; omega) (fun j hj e e2 => by have := hE.uF j (hE.f1 j e).1; omega)
    refine ⟨⟨_, rfl⟩, _, ⟨_, _, _, _, _, _, _, _, r1⟩, hon1.trans hE' (fun j hj hF1 => ?_), ?_⟩
    · rcases hgr1 j hF1 with q | q
      · exact q
      · omega
    · exact (fun j hj => by
        rcases r2 j hj with q | q
        · exact hgr1 j q
        · exact .inr (by omega))
  have HX := hide (And.intro hE (And.intro hEB (And.intro ho3 (And.intro hg3 (And.intro hw3 hc3)))))
  clear hE hEB ho3 hg3 hw3 hc3 hgr1 hon1
  refine wp_region_held_drew (S := (fun w' => w'.cell? ⟨w.heap.size, 0, none⟩ = some (.int .i64 1) ∧ w'.cell? ⟨w.heap.size, 1, none⟩ = some (.int .i64 1) ∧ w'.cell? ⟨w.heap.size, 2, none⟩ = some (.slice ao l.length c))) (by kernel_rfl) (by exact hS2) (fun hHeld => ?_)
  try dsimp only at hHeld
  refine take_op (i := 0) (d := 42) (OP := Op.move (Operand.tmp 0)) (T := 32) (v := ?vq50x) rfl rfl rfl rfl (by kernel_rfl) (by kernel_rfl) (by kernel_rfl) (fun _ _ _ h => h) (by rfl) ?hq50x hHeld ?rq50x
  case hq50x => (intro w' hSw; (try dsimp only at hSw); go_simp <;> with_reducible rfl)
  try simp only [Act.put, List.setIfInBounds_toArray, List.set_cons_zero, List.set_cons_succ]
  refine take_op (i := 1) (d := 43) (OP := Op.move (Operand.tmp 0)) (T := 32) (v := ?vq51x) rfl rfl rfl rfl (by kernel_rfl) (by kernel_rfl) (by kernel_rfl) (fun _ _ _ h => h) (by rfl) ?hq51x hHeld ?rq51x
  case hq51x => (intro w' hSw; (try dsimp only at hSw); go_simp <;> with_reducible rfl)
  try simp only [Act.put, List.setIfInBounds_toArray, List.set_cons_zero, List.set_cons_succ]
  refine take_op (i := 2) (d := 44) (OP := Op.nilCheck (Operand.tmp 43)) (T := 0) (v := ?vq52x) rfl rfl rfl rfl (by kernel_rfl) (by kernel_rfl) (by kernel_rfl) (fun _ _ _ h => h) (by rfl) ?hq52x hHeld ?rq52x
  case hq52x => (intro w' hSw; (try dsimp only at hSw); go_simp <;> with_reducible rfl)
  try simp only [Act.put, List.setIfInBounds_toArray, List.set_cons_zero, List.set_cons_succ]
  refine take_op (i := 3) (d := 45) (OP := Op.fieldAddr 70 (Operand.tmp 44) 5) (T := 0) (v := ?vq53x) rfl rfl rfl rfl (by kernel_rfl) (by kernel_rfl) (by kernel_rfl) (fun _ _ _ h => h) (by rfl) ?hq53x hHeld ?rq53x
  case hq53x => (intro w' hSw; (try dsimp only at hSw); go_simp <;> with_reducible rfl)
  try simp only [Act.put, List.setIfInBounds_toArray, List.set_cons_zero, List.set_cons_succ]
  refine take_op (i := 5) (d := 47) (OP := Op.load 50 (Operand.tmp 3)) (T := 50) (v := ?vq54x) rfl rfl rfl rfl (by kernel_rfl) (by kernel_rfl) (by kernel_rfl) (fun _ _ _ h => h) (by rfl) ?hq54x hHeld ?rq54x
  case hq54x => (intro w' hSw; (try dsimp only at hSw); go_simp <;> with_reducible rfl)
  try simp only [Act.put, List.setIfInBounds_toArray, List.set_cons_zero, List.set_cons_succ]
  refine two_op (i := 4) (j := 6) (di := 46) (dj := 48) (OPi := Op.load 58 (Operand.tmp 45)) (OPj := Op.buildSlice 58 1 #[(0, Operand.tmp 47)]) (Ti := 58) (Tj := 58) (v := ul) (u := .slice (some ⟨w2.heap.size, 0, none⟩) 1 1) (w' := (w2.drew.alloc (.cells #[.int .i64 1, .int .i64 1, .slice ao l.length c] 50))) rfl rfl rfl rfl rfl rfl rfl rfl (by kernel_rfl) (by rfl) (by rfl) ?ei ?ej hHeld hS3 ?bi ?bj
  case ei => go_simp <;> with_reducible rfl
  case ej => go_simp <;> with_reducible rfl
  case bi =>
    try simp only [Act.put, List.setIfInBounds_toArray, List.set_cons_zero, List.set_cons_succ]
    refine turn_op (i := 6) (d := 48) (OP := Op.buildSlice 58 1 #[(0, Operand.tmp 47)]) (T := 58) (v := (.slice (some ⟨w2.heap.size, 0, none⟩) 1 1)) (w' := (w2.drew.alloc (.cells #[.int .i64 1, .int .i64 1, .slice ao l.length c] 50))) rfl rfl rfl rfl (by kernel_rfl) (by rfl) (by go_simp) hS3 ?_
    replace hHeld := hS3
    try simp only [Act.put, List.setIfInBounds_toArray, List.set_cons_zero, List.set_cons_succ]
    refine turn_op (i := 7) (d := 49) (OP := Op.call { callee := Callee.builtin Builtin.append, args := #[Operand.tmp 46, Operand.tmp 48], argTypes := #[58, 58] }) (T := 58) (v := v3) (w' := w3) rfl rfl rfl rfl (by kernel_rfl) (by rfl) (exec_append rfl rfl hr3) hS4 ?_
    replace hHeld := hS4
    try simp only [Act.put, List.setIfInBounds_toArray, List.set_cons_zero, List.set_cons_succ]
    refine take_op (i := 8) (d := 50) (OP := Op.nilCheck (Operand.tmp 42)) (T := 0) (v := ?vq57x) rfl rfl rfl rfl (by kernel_rfl) (by kernel_rfl) (by kernel_rfl) (fun _ _ _ h => h) (by rfl) ?hq57x hHeld ?rq57x
    case hq57x => (intro w' hSw; (try dsimp only at hSw); go_simp <;> with_reducible rfl)
    try simp only [Act.put, List.setIfInBounds_toArray, List.set_cons_zero, List.set_cons_succ]
    refine take_op (i := 9) (d := 51) (OP := Op.fieldAddr 70 (Operand.tmp 50) 5) (T := 0) (v := ?vq58x) rfl rfl rfl rfl (by kernel_rfl) (by kernel_rfl) (by kernel_rfl) (fun _ _ _ h => h) (by rfl) ?hq58x hHeld ?rq58x
    case hq58x => (intro w' hSw; (try dsimp only at hSw); go_simp <;> with_reducible rfl)
    try simp only [Act.put, List.setIfInBounds_toArray, List.set_cons_zero, List.set_cons_succ]
    refine skip_op (i := 10) (OP := Op.store 58 (Operand.tmp 51) (Operand.tmp 49)) (T := 0) (w' := w3.setCell ⟨R, 7, none⟩ v3) rfl rfl rfl rfl (by kernel_rfl) (by rfl) (by go_simp) ⟨hS5, ?_⟩
    replace hHeld := hS5
    refine wpAnyH_done (by kernel_rfl) ?_ _
    go_wp2
    go_end0
    first | exact hfin | (rw [hv3] at hfin; exact hfin)
  case bj =>
    replace hHeld := hS3
    try simp only [Act.put, List.setIfInBounds_toArray, List.set_cons_zero, List.set_cons_succ]
    refine alone_op (i := 4) (d := 46) (OP := Op.load 58 (Operand.tmp 45)) (T := 58) (v := ?vq60x) rfl rfl rfl rfl (by kernel_rfl) (by rfl) ?hq60x hHeld ?rq60x
    case hq60x => (go_simp <;> with_reducible rfl)
    try simp only [Act.put, List.setIfInBounds_toArray, List.set_cons_zero, List.set_cons_succ]
    refine turn_op (i := 7) (d := 49) (OP := Op.call { callee := Callee.builtin Builtin.append, args := #[Operand.tmp 46, Operand.tmp 48], argTypes := #[58, 58] }) (T := 58) (v := v3) (w' := w3) rfl rfl rfl rfl (by kernel_rfl) (by rfl) (exec_append rfl rfl hr3) hS4 ?_
    replace hHeld := hS4
    try simp only [Act.put, List.setIfInBounds_toArray, List.set_cons_zero, List.set_cons_succ]
    refine take_op (i := 8) (d := 50) (OP := Op.nilCheck (Operand.tmp 42)) (T := 0) (v := ?vq62x) rfl rfl rfl rfl (by kernel_rfl) (by kernel_rfl) (by kernel_rfl) (fun _ _ _ h => h) (by rfl) ?hq62x hHeld ?rq62x
    case hq62x => (intro w' hSw; (try dsimp only at hSw); go_simp <;> with_reducible rfl)
    try simp only [Act.put, List.setIfInBounds_toArray, List.set_cons_zero, List.set_cons_succ]
    refine take_op (i := 9) (d := 51) (OP := Op.fieldAddr 70 (Operand.tmp 50) 5) (T := 0) (v := ?vq63x) rfl rfl rfl rfl (by kernel_rfl) (by kernel_rfl) (by kernel_rfl) (fun _ _ _ h => h) (by rfl) ?hq63x hHeld ?rq63x
    case hq63x => (intro w' hSw; (try dsimp only at hSw); go_simp <;> with_reducible rfl)
    try simp only [Act.put, List.setIfInBounds_toArray, List.set_cons_zero, List.set_cons_succ]
    refine skip_op (i := 10) (OP := Op.store 58 (Operand.tmp 51) (Operand.tmp 49)) (T := 0) (w' := w3.setCell ⟨R, 7, none⟩ v3) rfl rfl rfl rfl (by kernel_rfl) (by rfl) (by go_simp) ⟨hS5, ?_⟩
    replace hHeld := hS5
    refine wpAnyH_done (by kernel_rfl) ?_ _
    go_wp2
    go_end0
    first | exact hfin | (rw [hv3] at hfin; exact hfin)

set_option maxHeartbeats 2000000 in
set_option maxRecDepth 100000 in
theorem rdo20 (ao : Option Addr) (c : Nat) (l : List Int) (hD : Rep refL 70 F G w R cap beg now log x0 c0 x1 c1 va vb vl xs) (hG : RdG w G ao c l) (hlog : log.length < 1000000) :
    Calls Try.prog 42 #[.pointer (some ⟨R, 0, none⟩), wrv 2 0 ao l.length c] w fun e w' => (∃ v, e = .returned v) ∧ ∃ F', Disk refL 70 F' G w' R cap beg { now with a0 := [] } (log ++ [⟨2, 0, l⟩]) ∧ Only F w w' ∧ Grown F F' w := by
  obtain ⟨i50, hi, hz0, hz1, hz2⟩ := info_parts Try.info50
  have hb : Below w.heap.size w ((w.alloc (.cells #[.int .i64 2, .int .i64 0, .slice ao l.length c] 50)).drew) := ((Below.refl _ w).alloc (Nat.le_refl _) _).drew
  have hD1 := hD.below hb
  have hlt := hD.uF R hD.fR
  have hS0 : ((w.alloc (.cells #[.int .i64 2, .int .i64 0, .slice ao l.length c] 50)).drew).cell? ⟨w.heap.size, 0, none⟩ = some (.int .i64 2) ∧ ((w.alloc (.cells #[.int .i64 2, .int .i64 0, .slice ao l.length c] 50)).drew).cell? ⟨w.heap.size, 1, none⟩ = some (.int .i64 0) ∧ ((w.alloc (.cells #[.int .i64 2, .int .i64 0, .slice ao l.length c] 50)).drew).cell? ⟨w.heap.size, 2, none⟩ = some (.slice ao l.length c) := by
    obtain ⟨q0, q1, q2, _⟩ := blk3 (w := ((w.alloc (.cells #[.int .i64 2, .int .i64 0, .slice ao l.length c] 50)).drew)) (R := w.heap.size) (heap_alloc_new w _)
    exact ⟨q0, q1, q2⟩
  have hcs : ((w.alloc (.cells #[.int .i64 2, .int .i64 0, .slice ao l.length c] 50)).drew).cell? ⟨R, 3, none⟩ = some va := by rw [cell_of_row _ R 3 _ 70 (0, 0) hD1.cells]; rfl
  have hfs : ((w.alloc (.cells #[.int .i64 2, .int .i64 0, .slice ao l.length c] 50)).drew).frozen? ⟨R, 3, none⟩ = false := frozen_of_row _ R 3 _ 70 hD1.cells
  have hS2 : (((w.alloc (.cells #[.int .i64 2, .int .i64 0, .slice ao l.length c] 50)).drew).setCell ⟨R, 3, none⟩ (.slice none 0 0)).cell? ⟨w.heap.size, 0, none⟩ = some (.int .i64 2) ∧ (((w.alloc (.cells #[.int .i64 2, .int .i64 0, .slice ao l.length c] 50)).drew).setCell ⟨R, 3, none⟩ (.slice none 0 0)).cell? ⟨w.heap.size, 1, none⟩ = some (.int .i64 0) ∧ (((w.alloc (.cells #[.int .i64 2, .int .i64 0, .slice ao l.length c] 50)).drew).setCell ⟨R, 3, none⟩ (.slice none 0 0)).cell? ⟨w.heap.size, 2, none⟩ = some (.slice ao l.length c) := by
    have hq := grown_setCell ((w.alloc (.cells #[.int .i64 2, .int .i64 0, .slice ao l.length c] 50)).drew) ⟨R, 3, none⟩ (.slice none 0 0)
    have hq2 : some w.heap.size ≠ some R := by simp; omega
    exact ⟨hq.cell hS0.1 hq2, hq.cell hS0.2.1 hq2, hq.cell hS0.2.2 hq2⟩
  have hon1 : Only F w (((w.alloc (.cells #[.int .i64 2, .int .i64 0, .slice ao l.length c] 50)).drew).setCell ⟨R, 3, none⟩ (.slice none 0 0)) := (((Only.ofBelow hb).mono (D := F) (fun _ _ h => h.elim))).setCell ⟨R, 3, none⟩ _ (fun _ => hD.fR)
  have hset := Only.ofGrown (grown_setCell ((w.alloc (.cells #[.int .i64 2, .int .i64 0, .slice ao l.length c] 50)).drew) ⟨R, 3, none⟩ (.slice none 0 0))
  have hcell1 : (((w.alloc (.cells #[.int .i64 2, .int .i64 0, .slice ao l.length c] 50)).drew).setCell ⟨R, 3, none⟩ (.slice none 0 0)).heap[R]? = some (.cells (refL cap (.slice x0 beg.a0.length c0) (.slice x1 beg.a1.length c1) beg.u (.slice none 0 0) vb now.u vl) 70 (0, 0)) := by rw [heap_setCell_same _ _ _ _ 70 _ hD1.cells]; simp [refL]
  have hfirst : Disk refL 70 (Mut R (.slice none 0 0) vb vl) G (((w.alloc (.cells #[.int .i64 2, .int .i64 0, .slice ao l.length c] 50)).drew).setCell ⟨R, 3, none⟩ (.slice none 0 0)) R cap beg { now with a0 := [] } log ∧ Grown F (Mut R (.slice none 0 0) vb vl) w ∧ ¬ Mut R (.slice none 0 0) vb vl w.heap.size := by
    obtain ⟨r1, r2⟩ := hD.turn (now' := { now with a0 := [] }) (log' := log) (va' := (.slice none 0 0)) (vb' := vb) (vl' := vl) (xs' := xs) hon1 hcell1
      (Own.nil _ _ _) (hset.own hD1.o1 (fun j hj e => (hD.f1 j hj).2.1 (by cases e; rfl)))
      (hset.row hD1.ol (fun j hj e => (hD.fl j hj).2.1 (by cases e; rfl))) (hD1.it.only hset (fun j e hG => hD.apart j (by cases e; exact hD.fR) hG))
      (fun j hj => by simp [Value.ownBlock] at hj) (fun j hj => .inl hj) (fun j hj => .inl hj)
      (fun j hj e => by simp [Value.ownBlock] at e) (fun j hj e e2 => by have := hD.uF j (hD.fl j e2).1; omega) (fun j hj e e2 => by have := hD.uF j (hD.fl j e2).1; omega)
    refine ⟨⟨_, _, _, _, _, _, _, _, r1⟩, r2, ?_⟩
    rintro (e | e | e | e)
    · omega
    · simp [Value.ownBlock] at e
    · have := hD.uF _ (hD.f1 _ e).1; omega
    · have := hD.uF _ (hD.fl _ e).1; omega
  have hszb : w.heap.size + 1 ≤ (((w.alloc (.cells #[.int .i64 2, .int .i64 0, .slice ao l.length c] 50)).drew).setCell ⟨R, 3, none⟩ (.slice none 0 0)).heap.size := by simp
  clear hset hcell1
  have HD := hide hD
  have HF := hide (And.intro hfirst (And.intro hon1 hszb))
  clear hD hD1 hfirst hon1 hszb
  unfold wrv
  go_enter Try.func42, Try.ntmps42
  go_wp2
  refine wp_region_held_drew (S := (fun w' => w'.cell? ⟨w.heap.size, 0, none⟩ = some (.int .i64 2) ∧ w'.cell? ⟨w.heap.size, 1, none⟩ = some (.int .i64 0) ∧ w'.cell? ⟨w.heap.size, 2, none⟩ = some (.slice ao l.length c))) (by kernel_rfl) (by exact hS0) (fun hHeld => ?_)
  try dsimp only at hHeld
  refine take_op (i := 0) (d := 26) (OP := Op.move (Operand.tmp 0)) (T := 32) (v := ?vq65x) rfl rfl rfl rfl (by kernel_rfl) (by kernel_rfl) (by kernel_rfl) (fun _ _ _ h => h) (by rfl) ?hq65x hHeld ?rq65x
  case hq65x => (intro w' hSw; (try dsimp only at hSw); go_simp <;> with_reducible rfl)
  try simp only [Act.put, List.setIfInBounds_toArray, List.set_cons_zero, List.set_cons_succ]
  refine take_op (i := 1) (d := 27) (OP := Op.fieldAddr 50 (Operand.tmp 3) 1) (T := 0) (v := ?vq66x) rfl rfl rfl rfl (by kernel_rfl) (by kernel_rfl) (by kernel_rfl) (fun _ _ _ h => h) (by rfl) ?hq66x hHeld ?rq66x
  case hq66x => (intro w' hSw; (try dsimp only at hSw); go_simp <;> with_reducible rfl)
  try simp only [Act.put, List.setIfInBounds_toArray, List.set_cons_zero, List.set_cons_succ]
  refine take_op (i := 2) (d := 28) (OP := Op.load 3 (Operand.tmp 27)) (T := 3) (v := ?vq67x) rfl rfl rfl rfl (by kernel_rfl) (by kernel_rfl) (by kernel_rfl) (fun _ _ _ h => h) (by rfl) ?hq67x hHeld ?rq67x
  case hq67x => (intro w' hSw; (try dsimp only at hSw); go_simp <;> with_reducible rfl)
  try simp only [Act.put, List.setIfInBounds_toArray, List.set_cons_zero, List.set_cons_succ]
  refine take_op (i := 3) (d := 29) (OP := Op.nilCheck (Operand.tmp 26)) (T := 0) (v := ?vq68x) rfl rfl rfl rfl (by kernel_rfl) (by kernel_rfl) (by kernel_rfl) (fun _ _ _ h => h) (by rfl) ?hq68x hHeld ?rq68x
  case hq68x => (intro w' hSw; (try dsimp only at hSw); go_simp <;> with_reducible rfl)
  try simp only [Act.put, List.setIfInBounds_toArray, List.set_cons_zero, List.set_cons_succ]
  refine take_op (i := 4) (d := 30) (OP := Op.fieldAddr 70 (Operand.tmp 29) 3) (T := 0) (v := ?vq69x) rfl rfl rfl rfl (by kernel_rfl) (by kernel_rfl) (by kernel_rfl) (fun _ _ _ h => h) (by rfl) ?hq69x hHeld ?rq69x
  case hq69x => (intro w' hSw; (try dsimp only at hSw); go_simp <;> with_reducible rfl)
  try simp only [Act.put, List.setIfInBounds_toArray, List.set_cons_zero, List.set_cons_succ]
  refine take_op (i := 5) (d := 31) (OP := Op.indexAddr 55 (Operand.tmp 30) (Operand.tmp 28)) (T := 0) (v := ?vq70x) rfl rfl rfl rfl (by kernel_rfl) (by kernel_rfl) (by kernel_rfl) (fun _ _ _ h => h) (by rfl) ?hq70x hHeld ?rq70x
  case hq70x => (intro w' hSw; (try dsimp only at hSw); go_simp <;> with_reducible rfl)
  try simp only [Act.put, List.setIfInBounds_toArray, List.set_cons_zero, List.set_cons_succ]
  refine skip_op (i := 6) (OP := Op.store 22 (Operand.tmp 31) (Operand.const (Value.slice none 0 0))) (T := 0) (w' := (((w.alloc (.cells #[.int .i64 2, .int .i64 0, .slice ao l.length c] 50)).drew).setCell ⟨R, 3, none⟩ (.slice none 0 0))) rfl rfl rfl rfl (by kernel_rfl) (by rfl) (by go_simp) ⟨hS2, ?_⟩
  replace hHeld := hS2
  refine wpAnyH_done (by kernel_rfl) ?_ _
  go_wp2
  generalize hw2 : (((w.alloc (.cells #[.int .i64 2, .int .i64 0, .slice ao l.length c] 50)).drew).setCell ⟨R, 3, none⟩ (.slice none 0 0)) = w2 at hS2 HF ⊢
  clear hw2
  obtain ⟨⟨hE1, hgr1, hNB⟩, hon1, hsz2⟩ := HF.out
  obtain ⟨y0, d0, y1, d1, ua, ub, ul, ys, hE⟩ := hE1
  have hltE : R < w2.heap.size := by omega
  have hbE : Below w2.heap.size w2 (w2.drew.alloc (.cells #[.int .i64 2, .int .i64 0, .slice ao l.length c] 50)) := ((Below.refl _ w2).drew).alloc (Nat.le_refl _) _
  have hEB := hE.below hbE
  have hcE2 : w2.cell? ⟨R, 7, none⟩ = some ul := by rw [cell_of_row w2 R 7 _ 70 (0, 0) hE.cells]; rfl
  have hcE : w2.drew.cell? ⟨R, 7, none⟩ = some ul := hcE2
  have hcB : (w2.drew.alloc (.cells #[.int .i64 2, .int .i64 0, .slice ao l.length c] 50)).cell? ⟨R, 7, none⟩ = some ul := by rw [cell_of_row _ R 7 _ 70 (0, 0) hEB.cells]; rfl
  have hS3 : (w2.drew.alloc (.cells #[.int .i64 2, .int .i64 0, .slice ao l.length c] 50)).cell? ⟨w.heap.size, 0, none⟩ = some (.int .i64 2) ∧ (w2.drew.alloc (.cells #[.int .i64 2, .int .i64 0, .slice ao l.length c] 50)).cell? ⟨w.heap.size, 1, none⟩ = some (.int .i64 0) ∧ (w2.drew.alloc (.cells #[.int .i64 2, .int .i64 0, .slice ao l.length c] 50)).cell? ⟨w.heap.size, 2, none⟩ = some (.slice ao l.length c) := ⟨(hbE.cell (by simp; omega)).trans hS2.1, (hbE.cell (by simp; omega)).trans hS2.2.1, (hbE.cell (by simp; omega)).trans hS2.2.2⟩
  obtain ⟨q0, q1, q2, _⟩ := blk3 (w := (w2.drew.alloc (.cells #[.int .i64 2, .int .i64 0, .slice ao l.length c] 50))) (R := w2.heap.size) (heap_alloc_new w2.drew _)
  obtain ⟨v3, w3, hr3, ho3, hg3, hw3⟩ := append_where (P := Try.prog) (w2.drew.alloc (.cells #[.int .i64 2, .int .i64 0, .slice ao l.length c] 50)) 58 58 50 i50 _ 3 40 Try.underlying58 hi hz0 hz1 hz2 rfl (by decide) ul _ _ hEB.ol ⟨w2.heap.size, 0, none⟩ 1 1 [.int .i64 2, .int .i64 0, .slice ao l.length c] rfl (by
    intro j u hj
    rw [add_lit]
    match j, hj with
    | 0, hj => cases hj; exact q0
    | 1, hj => cases hj; exact q1
    | 2, hj => cases hj; exact q2) (by simp [Value.oneCell']) (by unfold maxLen; omega) (by omega)
  obtain ⟨a3, n3, cp3, hv3⟩ : ∃ a n c, v3 = .slice a n c := by
    rcases ho3.2 with ⟨h, _⟩ | ⟨_, _, _, h, _⟩
    · exact ⟨_, _, _, h⟩
    · exact ⟨_, _, _, h⟩
  have hne : some R ≠ ul.ownBlock := fun e => (hE.fl R e.symm).2.1 rfl
  have hc3 := (hg3.block R (by simp; omega) hne).trans hEB.cells
  have hcs3 : w3.cell? ⟨R, 7, none⟩ = some ul := by rw [cell_of_row _ R 7 _ 70 (0, 0) hc3]; rfl
  have hfs3 : w3.frozen? ⟨R, 7, none⟩ = false := frozen_of_row _ R 7 _ 70 hc3
  have hnl : some w.heap.size ≠ ul.ownBlock := fun e => hNB (hE.fl _ e.symm).1
  have hS4 : w3.cell? ⟨w.heap.size, 0, none⟩ = some (.int .i64 2) ∧ w3.cell? ⟨w.heap.size, 1, none⟩ = some (.int .i64 0) ∧ w3.cell? ⟨w.heap.size, 2, none⟩ = some (.slice ao l.length c) := ⟨hg3.cell hS3.1 hnl, hg3.cell hS3.2.1 hnl, hg3.cell hS3.2.2 hnl⟩
  have hS5 : (w3.setCell ⟨R, 7, none⟩ v3).cell? ⟨w.heap.size, 0, none⟩ = some (.int .i64 2) ∧ (w3.setCell ⟨R, 7, none⟩ v3).cell? ⟨w.heap.size, 1, none⟩ = some (.int .i64 0) ∧ (w3.setCell ⟨R, 7, none⟩ v3).cell? ⟨w.heap.size, 2, none⟩ = some (.slice ao l.length c) := by
    have hq := grown_setCell w3 ⟨R, 7, none⟩ v3
    have hq2 : some w.heap.size ≠ some R := by simp; omega
    exact ⟨hq.cell hS4.1 hq2, hq.cell hS4.2.1 hq2, hq.cell hS4.2.2 hq2⟩
  have hfin : (∃ v, Ending.returned (.tuple #[]) = .returned v) ∧ ∃ F', Disk refL 70 F' G (w3.setCell ⟨R, 7, none⟩ v3) R cap beg { now with a0 := [] } (log ++ [⟨2, 0, l⟩]) ∧ Only F w (w3.setCell ⟨R, 7, none⟩ v3) ∧ Grown F F' w := by
    have hset := Only.ofGrown (grown_setCell w3 ⟨R, 7, none⟩ v3)
    have hgr := Only.ofGrown hg3
    have hon : Only (Mut R ua ub ul) w2 (w3.setCell ⟨R, 7, none⟩ v3) := (((Only.ofBelow hbE).mono (D := Mut R ua ub ul) (fun _ _ h => h.elim)).trans hgr (fun j _ hj => .inr (.inr (.inr hj)))).setCell ⟨R, 7, none⟩ v3 (fun _ => .inl rfl)
    have hE' : Only (Mut R (.slice none 0 0) vb vl) w2 (w3.setCell ⟨R, 7, none⟩ v3) := hon.mono (fun j _ hj => by
      rcases hj with e | e | e | e
      · rw [e]; exact hE.fR
      · exact (hE.f0 j e).1
      · exact (hE.f1 j e).1
      · exact (hE.fl j e).1)
    have hwv : Where w2 ul v3 := fun j hj => by
      rcases hw3 j hj with q | q
      · exact .inl q
      · simp at q; exact .inr (by omega)
    have hR3 : ∀ j, v3.ownBlock = some j → ¬ (some R = some j) := fun j hj e => by
      cases e
      rcases hwv R hj with q | q
      · exact hne q.symm
      · omega
    have hGd : RdG w2 G ao c l := hG.only hon1 HD.out.apart
    obtain ⟨r1, r2⟩ := hE.turn (now' := { now with a0 := [] }) (log' := log ++ [⟨2, 0, l⟩]) (va' := ua) (vb' := ub) (vl' := v3) (xs' := ys ++ [.int .i64 2, .int .i64 0, .slice ao l.length c]) hE' (by rw [heap_setCell_same _ _ _ _ 70 _ hc3]; simp [refL])
      (hset.own (hgr.own hEB.o0 (fun j hj e => (hE.fl j e).2.2.1 hj)) (fun j hj e => (hE.f0 j hj).2 (by cases e; rfl))) (hset.own (hgr.own hEB.o1 (fun j hj e => (hE.fl j e).2.2.2 hj)) (fun j hj e => (hE.f1 j hj).2.1 (by cases e; rfl)))
      (by rw [List.length_append]; exact hset.row ho3 hR3) (Items.snoc (x := ⟨2, 0, l⟩) (hGd.only hE' hE.apart) (hE.it.only hE' hE.apart))
      (fun j hj => .inl hj) (fun j hj => .inl hj) hwv
      (fun j hj e e2 => by have := hE.uF j (hE.f1 j e2).1; omega) (fun j hj e e2 => by have := hE.uF j (hE.f0 j e).1; omega) (fun j hj e e2 => by have := hE.uF j (hE.f1 j e).1; omega)
    refine ⟨⟨_, rfl⟩, _, ⟨_, _, _, _, _, _, _, _, r1⟩, hon1.trans hE' (fun j hj hF1 => ?_), ?_⟩
    · rcases hgr1 j hF1 with q | q
      · exact q
      · omega
    · exact (fun j hj => by
        rcases r2 j hj with q | q
        · exact hgr1 j q
        · exact .inr (by omega))
  have HX := hide (And.intro hE (And.intro hEB (And.intro ho3 (And.intro hg3 (And.intro hw3 hc3)))))
  clear hE hEB ho3 hg3 hw3 hc3 hgr1 hon1
  refine wp_region_held_drew (S := (fun w' => w'.cell? ⟨w.heap.size, 0, none⟩ = some (.int .i64 2) ∧ w'.cell? ⟨w.heap.size, 1, none⟩ = some (.int .i64 0) ∧ w'.cell? ⟨w.heap.size, 2, none⟩ = some (.slice ao l.length c))) (by kernel_rfl) (by exact hS2) (fun hHeld => ?_)
  try dsimp only at hHeld
  refine take_op (i := 0) (d := 42) (OP := Op.move (Operand.tmp 0)) (T := 32) (v := ?vq72x) rfl rfl rfl rfl (by kernel_rfl) (by kernel_rfl) (by kernel_rfl) (fun _ _ _ h => h) (by rfl) ?hq72x hHeld ?rq72x
  case hq72x => (intro w' hSw; (try dsimp only at hSw); go_simp <;> with_reducible rfl)
  try simp only [Act.put, List.setIfInBounds_toArray, List.set_cons_zero, List.set_cons_succ]
  refine take_op (i := 1) (d := 43) (OP := Op.move (Operand.tmp 0)) (T := 32) (v := ?vq73x) rfl rfl rfl rfl (by kernel_rfl) (by kernel_rfl) (by kernel_rfl) (fun _ _ _ h => h) (by rfl) ?hq73x hHeld ?rq73x
  case hq73x => (intro w' hSw; (try dsimp only at hSw); go_simp <;> with_reducible rfl)
  try simp only [Act.put, List.setIfInBounds_toArray, List.set_cons_zero, List.set_cons_succ]
  refine take_op (i := 2) (d := 44) (OP := Op.nilCheck (Operand.tmp 43)) (T := 0) (v := ?vq74x) rfl rfl rfl rfl (by kernel_rfl) (by kernel_rfl) (by kernel_rfl) (fun _ _ _ h => h) (by rfl) ?hq74x hHeld ?rq74x
  case hq74x => (intro w' hSw; (try dsimp only at hSw); go_simp <;> with_reducible rfl)
  try simp only [Act.put, List.setIfInBounds_toArray, List.set_cons_zero, List.set_cons_succ]
  refine take_op (i := 3) (d := 45) (OP := Op.fieldAddr 70 (Operand.tmp 44) 5) (T := 0) (v := ?vq75x) rfl rfl rfl rfl (by kernel_rfl) (by kernel_rfl) (by kernel_rfl) (fun _ _ _ h => h) (by rfl) ?hq75x hHeld ?rq75x
  case hq75x => (intro w' hSw; (try dsimp only at hSw); go_simp <;> with_reducible rfl)
  try simp only [Act.put, List.setIfInBounds_toArray, List.set_cons_zero, List.set_cons_succ]
  refine take_op (i := 5) (d := 47) (OP := Op.load 50 (Operand.tmp 3)) (T := 50) (v := ?vq76x) rfl rfl rfl rfl (by kernel_rfl) (by kernel_rfl) (by kernel_rfl) (fun _ _ _ h => h) (by rfl) ?hq76x hHeld ?rq76x
  case hq76x => (intro w' hSw; (try dsimp only at hSw); go_simp <;> with_reducible rfl)
  try simp only [Act.put, List.setIfInBounds_toArray, List.set_cons_zero, List.set_cons_succ]
  refine two_op (i := 4) (j := 6) (di := 46) (dj := 48) (OPi := Op.load 58 (Operand.tmp 45)) (OPj := Op.buildSlice 58 1 #[(0, Operand.tmp 47)]) (Ti := 58) (Tj := 58) (v := ul) (u := .slice (some ⟨w2.heap.size, 0, none⟩) 1 1) (w' := (w2.drew.alloc (.cells #[.int .i64 2, .int .i64 0, .slice ao l.length c] 50))) rfl rfl rfl rfl rfl rfl rfl rfl (by kernel_rfl) (by rfl) (by rfl) ?ei ?ej hHeld hS3 ?bi ?bj
  case ei => go_simp <;> with_reducible rfl
  case ej => go_simp <;> with_reducible rfl
  case bi =>
    try simp only [Act.put, List.setIfInBounds_toArray, List.set_cons_zero, List.set_cons_succ]
    refine turn_op (i := 6) (d := 48) (OP := Op.buildSlice 58 1 #[(0, Operand.tmp 47)]) (T := 58) (v := (.slice (some ⟨w2.heap.size, 0, none⟩) 1 1)) (w' := (w2.drew.alloc (.cells #[.int .i64 2, .int .i64 0, .slice ao l.length c] 50))) rfl rfl rfl rfl (by kernel_rfl) (by rfl) (by go_simp) hS3 ?_
    replace hHeld := hS3
    try simp only [Act.put, List.setIfInBounds_toArray, List.set_cons_zero, List.set_cons_succ]
    refine turn_op (i := 7) (d := 49) (OP := Op.call { callee := Callee.builtin Builtin.append, args := #[Operand.tmp 46, Operand.tmp 48], argTypes := #[58, 58] }) (T := 58) (v := v3) (w' := w3) rfl rfl rfl rfl (by kernel_rfl) (by rfl) (exec_append rfl rfl hr3) hS4 ?_
    replace hHeld := hS4
    try simp only [Act.put, List.setIfInBounds_toArray, List.set_cons_zero, List.set_cons_succ]
    refine take_op (i := 8) (d := 50) (OP := Op.nilCheck (Operand.tmp 42)) (T := 0) (v := ?vq79x) rfl rfl rfl rfl (by kernel_rfl) (by kernel_rfl) (by kernel_rfl) (fun _ _ _ h => h) (by rfl) ?hq79x hHeld ?rq79x
    case hq79x => (intro w' hSw; (try dsimp only at hSw); go_simp <;> with_reducible rfl)
    try simp only [Act.put, List.setIfInBounds_toArray, List.set_cons_zero, List.set_cons_succ]
    refine take_op (i := 9) (d := 51) (OP := Op.fieldAddr 70 (Operand.tmp 50) 5) (T := 0) (v := ?vq80x) rfl rfl rfl rfl (by kernel_rfl) (by kernel_rfl) (by kernel_rfl) (fun _ _ _ h => h) (by rfl) ?hq80x hHeld ?rq80x
    case hq80x => (intro w' hSw; (try dsimp only at hSw); go_simp <;> with_reducible rfl)
    try simp only [Act.put, List.setIfInBounds_toArray, List.set_cons_zero, List.set_cons_succ]
    refine skip_op (i := 10) (OP := Op.store 58 (Operand.tmp 51) (Operand.tmp 49)) (T := 0) (w' := w3.setCell ⟨R, 7, none⟩ v3) rfl rfl rfl rfl (by kernel_rfl) (by rfl) (by go_simp) ⟨hS5, ?_⟩
    replace hHeld := hS5
    refine wpAnyH_done (by kernel_rfl) ?_ _
    go_wp2
    go_end0
    first | exact hfin | (rw [hv3] at hfin; exact hfin)
  case bj =>
    replace hHeld := hS3
    try simp only [Act.put, List.setIfInBounds_toArray, List.set_cons_zero, List.set_cons_succ]
    refine alone_op (i := 4) (d := 46) (OP := Op.load 58 (Operand.tmp 45)) (T := 58) (v := ?vq82x) rfl rfl rfl rfl (by kernel_rfl) (by rfl) ?hq82x hHeld ?rq82x
    case hq82x => (go_simp <;> with_reducible rfl)
    try simp only [Act.put, List.setIfInBounds_toArray, List.set_cons_zero, List.set_cons_succ]
    refine turn_op (i := 7) (d := 49) (OP := Op.call { callee := Callee.builtin Builtin.append, args := #[Operand.tmp 46, Operand.tmp 48], argTypes := #[58, 58] }) (T := 58) (v := v3) (w' := w3) rfl rfl rfl rfl (by kernel_rfl) (by rfl) (exec_append rfl rfl hr3) hS4 ?_
    replace hHeld := hS4
    try simp only [Act.put, List.setIfInBounds_toArray, List.set_cons_zero, List.set_cons_succ]
    refine take_op (i := 8) (d := 50) (OP := Op.nilCheck (Operand.tmp 42)) (T := 0) (v := ?vq84x) rfl rfl rfl rfl (by kernel_rfl) (by kernel_rfl) (by kernel_rfl) (fun _ _ _ h => h) (by rfl) ?hq84x hHeld ?rq84x
    case hq84x => (intro w' hSw; (try dsimp only at hSw); go_simp <;> with_reducible rfl)
    try simp only [Act.put, List.setIfInBounds_toArray, List.set_cons_zero, List.set_cons_succ]
    refine take_op (i := 9) (d := 51) (OP := Op.fieldAddr 70 (Operand.tmp 50) 5) (T := 0) (v := ?vq85x) rfl rfl rfl rfl (by kernel_rfl) (by kernel_rfl) (by kernel_rfl) (fun _ _ _ h => h) (by rfl) ?hq85x hHeld ?rq85x
    case hq85x => (intro w' hSw; (try dsimp only at hSw); go_simp <;> with_reducible rfl)
    try simp only [Act.put, List.setIfInBounds_toArray, List.set_cons_zero, List.set_cons_succ]
    refine skip_op (i := 10) (OP := Op.store 58 (Operand.tmp 51) (Operand.tmp 49)) (T := 0) (w' := w3.setCell ⟨R, 7, none⟩ v3) rfl rfl rfl rfl (by kernel_rfl) (by rfl) (by go_simp) ⟨hS5, ?_⟩
    replace hHeld := hS5
    refine wpAnyH_done (by kernel_rfl) ?_ _
    go_wp2
    go_end0
    first | exact hfin | (rw [hv3] at hfin; exact hfin)

set_option maxHeartbeats 2000000 in
set_option maxRecDepth 100000 in
theorem rdo21 (ao : Option Addr) (c : Nat) (l : List Int) (hD : Rep refL 70 F G w R cap beg now log x0 c0 x1 c1 va vb vl xs) (hG : RdG w G ao c l) (hlog : log.length < 1000000) :
    Calls Try.prog 42 #[.pointer (some ⟨R, 0, none⟩), wrv 2 1 ao l.length c] w fun e w' => (∃ v, e = .returned v) ∧ ∃ F', Disk refL 70 F' G w' R cap beg { now with a1 := [] } (log ++ [⟨2, 1, l⟩]) ∧ Only F w w' ∧ Grown F F' w := by
  obtain ⟨i50, hi, hz0, hz1, hz2⟩ := info_parts Try.info50
  have hb : Below w.heap.size w ((w.alloc (.cells #[.int .i64 2, .int .i64 1, .slice ao l.length c] 50)).drew) := ((Below.refl _ w).alloc (Nat.le_refl _) _).drew
  have hD1 := hD.below hb
  have hlt := hD.uF R hD.fR
  have hS0 : ((w.alloc (.cells #[.int .i64 2, .int .i64 1, .slice ao l.length c] 50)).drew).cell? ⟨w.heap.size, 0, none⟩ = some (.int .i64 2) ∧ ((w.alloc (.cells #[.int .i64 2, .int .i64 1, .slice ao l.length c] 50)).drew).cell? ⟨w.heap.size, 1, none⟩ = some (.int .i64 1) ∧ ((w.alloc (.cells #[.int .i64 2, .int .i64 1, .slice ao l.length c] 50)).drew).cell? ⟨w.heap.size, 2, none⟩ = some (.slice ao l.length c) := by
    obtain ⟨q0, q1, q2, _⟩ := blk3 (w := ((w.alloc (.cells #[.int .i64 2, .int .i64 1, .slice ao l.length c] 50)).drew)) (R := w.heap.size) (heap_alloc_new w _)
    exact ⟨q0, q1, q2⟩
  have hcs : ((w.alloc (.cells #[.int .i64 2, .int .i64 1, .slice ao l.length c] 50)).drew).cell? ⟨R, 4, none⟩ = some vb := by rw [cell_of_row _ R 4 _ 70 (0, 0) hD1.cells]; rfl
  have hfs : ((w.alloc (.cells #[.int .i64 2, .int .i64 1, .slice ao l.length c] 50)).drew).frozen? ⟨R, 4, none⟩ = false := frozen_of_row _ R 4 _ 70 hD1.cells
  have hS2 : (((w.alloc (.cells #[.int .i64 2, .int .i64 1, .slice ao l.length c] 50)).drew).setCell ⟨R, 4, none⟩ (.slice none 0 0)).cell? ⟨w.heap.size, 0, none⟩ = some (.int .i64 2) ∧ (((w.alloc (.cells #[.int .i64 2, .int .i64 1, .slice ao l.length c] 50)).drew).setCell ⟨R, 4, none⟩ (.slice none 0 0)).cell? ⟨w.heap.size, 1, none⟩ = some (.int .i64 1) ∧ (((w.alloc (.cells #[.int .i64 2, .int .i64 1, .slice ao l.length c] 50)).drew).setCell ⟨R, 4, none⟩ (.slice none 0 0)).cell? ⟨w.heap.size, 2, none⟩ = some (.slice ao l.length c) := by
    have hq := grown_setCell ((w.alloc (.cells #[.int .i64 2, .int .i64 1, .slice ao l.length c] 50)).drew) ⟨R, 4, none⟩ (.slice none 0 0)
    have hq2 : some w.heap.size ≠ some R := by simp; omega
    exact ⟨hq.cell hS0.1 hq2, hq.cell hS0.2.1 hq2, hq.cell hS0.2.2 hq2⟩
  have hon1 : Only F w (((w.alloc (.cells #[.int .i64 2, .int .i64 1, .slice ao l.length c] 50)).drew).setCell ⟨R, 4, none⟩ (.slice none 0 0)) := (((Only.ofBelow hb).mono (D := F) (fun _ _ h => h.elim))).setCell ⟨R, 4, none⟩ _ (fun _ => hD.fR)
  have hset := Only.ofGrown (grown_setCell ((w.alloc (.cells #[.int .i64 2, .int .i64 1, .slice ao l.length c] 50)).drew) ⟨R, 4, none⟩ (.slice none 0 0))
  have hcell1 : (((w.alloc (.cells #[.int .i64 2, .int .i64 1, .slice ao l.length c] 50)).drew).setCell ⟨R, 4, none⟩ (.slice none 0 0)).heap[R]? = some (.cells (refL cap (.slice x0 beg.a0.length c0) (.slice x1 beg.a1.length c1) beg.u va (.slice none 0 0) now.u vl) 70 (0, 0)) := by rw [heap_setCell_same _ _ _ _ 70 _ hD1.cells]; simp [refL]
  have hfirst : Disk refL 70 (Mut R va (.slice none 0 0) vl) G (((w.alloc (.cells #[.int .i64 2, .int .i64 1, .slice ao l.length c] 50)).drew).setCell ⟨R, 4, none⟩ (.slice none 0 0)) R cap beg { now with a1 := [] } log ∧ Grown F (Mut R va (.slice none 0 0) vl) w ∧ ¬ Mut R va (.slice none 0 0) vl w.heap.size := by
    obtain ⟨r1, r2⟩ := hD.turn (now' := { now with a1 := [] }) (log' := log) (va' := va) (vb' := (.slice none 0 0)) (vl' := vl) (xs' := xs) hon1 hcell1
      (hset.own hD1.o0 (fun j hj e => (hD.f0 j hj).2 (by cases e; rfl))) (Own.nil _ _ _)
      (hset.row hD1.ol (fun j hj e => (hD.fl j hj).2.1 (by cases e; rfl))) (hD1.it.only hset (fun j e hG => hD.apart j (by cases e; exact hD.fR) hG))
      (fun j hj => .inl hj) (fun j hj => by simp [Value.ownBlock] at hj) (fun j hj => .inl hj)
      (fun j hj e => by simp [Value.ownBlock]) (fun j hj e e2 => by have := hD.uF j (hD.fl j e2).1; omega) (fun j hj e e2 => by have := hD.uF j (hD.fl j e2).1; omega)
    refine ⟨⟨_, _, _, _, _, _, _, _, r1⟩, r2, ?_⟩
    rintro (e | e | e | e)
    · omega
    · have := hD.uF _ (hD.f0 _ e).1; omega
    · simp [Value.ownBlock] at e
    · have := hD.uF _ (hD.fl _ e).1; omega
  have hszb : w.heap.size + 1 ≤ (((w.alloc (.cells #[.int .i64 2, .int .i64 1, .slice ao l.length c] 50)).drew).setCell ⟨R, 4, none⟩ (.slice none 0 0)).heap.size := by simp
  clear hset hcell1
  have HD := hide hD
  have HF := hide (And.intro hfirst (And.intro hon1 hszb))
  clear hD hD1 hfirst hon1 hszb
  unfold wrv
  go_enter Try.func42, Try.ntmps42
  go_wp2
  refine wp_region_held_drew (S := (fun w' => w'.cell? ⟨w.heap.size, 0, none⟩ = some (.int .i64 2) ∧ w'.cell? ⟨w.heap.size, 1, none⟩ = some (.int .i64 1) ∧ w'.cell? ⟨w.heap.size, 2, none⟩ = some (.slice ao l.length c))) (by kernel_rfl) (by exact hS0) (fun hHeld => ?_)
  try dsimp only at hHeld
  refine take_op (i := 0) (d := 26) (OP := Op.move (Operand.tmp 0)) (T := 32) (v := ?vq87x) rfl rfl rfl rfl (by kernel_rfl) (by kernel_rfl) (by kernel_rfl) (fun _ _ _ h => h) (by rfl) ?hq87x hHeld ?rq87x
  case hq87x => (intro w' hSw; (try dsimp only at hSw); go_simp <;> with_reducible rfl)
  try simp only [Act.put, List.setIfInBounds_toArray, List.set_cons_zero, List.set_cons_succ]
  refine take_op (i := 1) (d := 27) (OP := Op.fieldAddr 50 (Operand.tmp 3) 1) (T := 0) (v := ?vq88x) rfl rfl rfl rfl (by kernel_rfl) (by kernel_rfl) (by kernel_rfl) (fun _ _ _ h => h) (by rfl) ?hq88x hHeld ?rq88x
  case hq88x => (intro w' hSw; (try dsimp only at hSw); go_simp <;> with_reducible rfl)
  try simp only [Act.put, List.setIfInBounds_toArray, List.set_cons_zero, List.set_cons_succ]
  refine take_op (i := 2) (d := 28) (OP := Op.load 3 (Operand.tmp 27)) (T := 3) (v := ?vq89x) rfl rfl rfl rfl (by kernel_rfl) (by kernel_rfl) (by kernel_rfl) (fun _ _ _ h => h) (by rfl) ?hq89x hHeld ?rq89x
  case hq89x => (intro w' hSw; (try dsimp only at hSw); go_simp <;> with_reducible rfl)
  try simp only [Act.put, List.setIfInBounds_toArray, List.set_cons_zero, List.set_cons_succ]
  refine take_op (i := 3) (d := 29) (OP := Op.nilCheck (Operand.tmp 26)) (T := 0) (v := ?vq90x) rfl rfl rfl rfl (by kernel_rfl) (by kernel_rfl) (by kernel_rfl) (fun _ _ _ h => h) (by rfl) ?hq90x hHeld ?rq90x
  case hq90x => (intro w' hSw; (try dsimp only at hSw); go_simp <;> with_reducible rfl)
  try simp only [Act.put, List.setIfInBounds_toArray, List.set_cons_zero, List.set_cons_succ]
  refine take_op (i := 4) (d := 30) (OP := Op.fieldAddr 70 (Operand.tmp 29) 3) (T := 0) (v := ?vq91x) rfl rfl rfl rfl (by kernel_rfl) (by kernel_rfl) (by kernel_rfl) (fun _ _ _ h => h) (by rfl) ?hq91x hHeld ?rq91x
  case hq91x => (intro w' hSw; (try dsimp only at hSw); go_simp <;> with_reducible rfl)
  try simp only [Act.put, List.setIfInBounds_toArray, List.set_cons_zero, List.set_cons_succ]
  refine take_op (i := 5) (d := 31) (OP := Op.indexAddr 55 (Operand.tmp 30) (Operand.tmp 28)) (T := 0) (v := ?vq92x) rfl rfl rfl rfl (by kernel_rfl) (by kernel_rfl) (by kernel_rfl) (fun _ _ _ h => h) (by rfl) ?hq92x hHeld ?rq92x
  case hq92x => (intro w' hSw; (try dsimp only at hSw); go_simp <;> with_reducible rfl)
  try simp only [Act.put, List.setIfInBounds_toArray, List.set_cons_zero, List.set_cons_succ]
  refine skip_op (i := 6) (OP := Op.store 22 (Operand.tmp 31) (Operand.const (Value.slice none 0 0))) (T := 0) (w' := (((w.alloc (.cells #[.int .i64 2, .int .i64 1, .slice ao l.length c] 50)).drew).setCell ⟨R, 4, none⟩ (.slice none 0 0))) rfl rfl rfl rfl (by kernel_rfl) (by rfl) (by go_simp) ⟨hS2, ?_⟩
  replace hHeld := hS2
  refine wpAnyH_done (by kernel_rfl) ?_ _
  go_wp2
  generalize hw2 : (((w.alloc (.cells #[.int .i64 2, .int .i64 1, .slice ao l.length c] 50)).drew).setCell ⟨R, 4, none⟩ (.slice none 0 0)) = w2 at hS2 HF ⊢
  clear hw2
  obtain ⟨⟨hE1, hgr1, hNB⟩, hon1, hsz2⟩ := HF.out
  obtain ⟨y0, d0, y1, d1, ua, ub, ul, ys, hE⟩ := hE1
  have hltE : R < w2.heap.size := by omega
  have hbE : Below w2.heap.size w2 (w2.drew.alloc (.cells #[.int .i64 2, .int .i64 1, .slice ao l.length c] 50)) := ((Below.refl _ w2).drew).alloc (Nat.le_refl _) _
  have hEB := hE.below hbE
  have hcE2 : w2.cell? ⟨R, 7, none⟩ = some ul := by rw [cell_of_row w2 R 7 _ 70 (0, 0) hE.cells]; rfl
  have hcE : w2.drew.cell? ⟨R, 7, none⟩ = some ul := hcE2
  have hcB : (w2.drew.alloc (.cells #[.int .i64 2, .int .i64 1, .slice ao l.length c] 50)).cell? ⟨R, 7, none⟩ = some ul := by rw [cell_of_row _ R 7 _ 70 (0, 0) hEB.cells]; rfl
  have hS3 : (w2.drew.alloc (.cells #[.int .i64 2, .int .i64 1, .slice ao l.length c] 50)).cell? ⟨w.heap.size, 0, none⟩ = some (.int .i64 2) ∧ (w2.drew.alloc (.cells #[.int .i64 2, .int .i64 1, .slice ao l.length c] 50)).cell? ⟨w.heap.size, 1, none⟩ = some (.int .i64 1) ∧ (w2.drew.alloc (.cells #[.int .i64 2, .int .i64 1, .slice ao l.length c] 50)).cell? ⟨w.heap.size, 2, none⟩ = some (.slice ao l.length c) := ⟨(hbE.cell (by simp; omega)).trans hS2.1, (hbE.cell (by simp; omega)).trans hS2.2.1, (hbE.cell (by simp; omega)).trans hS2.2.2⟩
  obtain ⟨q0, q1, q2, _⟩ := blk3 (w := (w2.drew.alloc (.cells #[.int .i64 2, .int .i64 1, .slice ao l.length c] 50))) (R := w2.heap.size) (heap_alloc_new w2.drew _)
  obtain ⟨v3, w3, hr3, ho3, hg3, hw3⟩ := append_where (P := Try.prog) (w2.drew.alloc (.cells #[.int .i64 2, .int .i64 1, .slice ao l.length c] 50)) 58 58 50 i50 _ 3 40 Try.underlying58 hi hz0 hz1 hz2 rfl (by decide) ul _ _ hEB.ol ⟨w2.heap.size, 0, none⟩ 1 1 [.int .i64 2, .int .i64 1, .slice ao l.length c] rfl (by
    intro j u hj
    rw [add_lit]
    match j, hj with
    | 0, hj => cases hj; exact q0
    | 1, hj => cases hj; exact q1
    | 2, hj => cases hj; exact q2) (by simp [Value.oneCell']) (by unfold maxLen; omega) (by omega)
  obtain ⟨a3, n3, cp3, hv3⟩ : ∃ a n c, v3 = .slice a n c := by
    rcases ho3.2 with ⟨h, _⟩ | ⟨_, _, _, h, _⟩
    · exact ⟨_, _, _, h⟩
    · exact ⟨_, _, _, h⟩
  have hne : some R ≠ ul.ownBlock := fun e => (hE.fl R e.symm).2.1 rfl
  have hc3 := (hg3.block R (by simp; omega) hne).trans hEB.cells
  have hcs3 : w3.cell? ⟨R, 7, none⟩ = some ul := by rw [cell_of_row _ R 7 _ 70 (0, 0) hc3]; rfl
  have hfs3 : w3.frozen? ⟨R, 7, none⟩ = false := frozen_of_row _ R 7 _ 70 hc3
  have hnl : some w.heap.size ≠ ul.ownBlock := fun e => hNB (hE.fl _ e.symm).1
  have hS4 : w3.cell? ⟨w.heap.size, 0, none⟩ = some (.int .i64 2) ∧ w3.cell? ⟨w.heap.size, 1, none⟩ = some (.int .i64 1) ∧ w3.cell? ⟨w.heap.size, 2, none⟩ = some (.slice ao l.length c) := ⟨hg3.cell hS3.1 hnl, hg3.cell hS3.2.1 hnl, hg3.cell hS3.2.2 hnl⟩
  have hS5 : (w3.setCell ⟨R, 7, none⟩ v3).cell? ⟨w.heap.size, 0, none⟩ = some (.int .i64 2) ∧ (w3.setCell ⟨R, 7, none⟩ v3).cell? ⟨w.heap.size, 1, none⟩ = some (.int .i64 1) ∧ (w3.setCell ⟨R, 7, none⟩ v3).cell? ⟨w.heap.size, 2, none⟩ = some (.slice ao l.length c) := by
    have hq := grown_setCell w3 ⟨R, 7, none⟩ v3
    have hq2 : some w.heap.size ≠ some R := by simp; omega
    exact ⟨hq.cell hS4.1 hq2, hq.cell hS4.2.1 hq2, hq.cell hS4.2.2 hq2⟩
  have hfin : (∃ v, Ending.returned (.tuple #[]) = .returned v) ∧ ∃ F', Disk refL 70 F' G (w3.setCell ⟨R, 7, none⟩ v3) R cap beg { now with a1 := [] } (log ++ [⟨2, 1, l⟩]) ∧ Only F w (w3.setCell ⟨R, 7, none⟩ v3) ∧ Grown F F' w := by
    have hset := Only.ofGrown (grown_setCell w3 ⟨R, 7, none⟩ v3)
    have hgr := Only.ofGrown hg3
    have hon : Only (Mut R ua ub ul) w2 (w3.setCell ⟨R, 7, none⟩ v3) := (((Only.ofBelow hbE).mono (D := Mut R ua ub ul) (fun _ _ h => h.elim)).trans hgr (fun j _ hj => .inr (.inr (.inr hj)))).setCell ⟨R, 7, none⟩ v3 (fun _ => .inl rfl)
    have hE' : Only (Mut R va (.slice none 0 0) vl) w2 (w3.setCell ⟨R, 7, none⟩ v3) := hon.mono (fun j _ hj => by
      rcases hj with e | e | e | e
      · rw [e]; exact hE.fR
      · exact (hE.f0 j e).1
      · exact (hE.f1 j e).1
      · exact (hE.fl j e).1)
    have hwv : Where w2 ul v3 := fun j hj => by
      rcases hw3 j hj with q | q
      · exact .inl q
      · simp at q; exact .inr (by omega)
    have hR3 : ∀ j, v3.ownBlock = some j → ¬ (some R = some j) := fun j hj e => by
      cases e
      rcases hwv R hj with q | q
      · exact hne q.symm
      · omega
    have hGd : RdG w2 G ao c l := hG.only hon1 HD.out.apart
    obtain ⟨r1, r2⟩ := hE.turn (now' := { now with a1 := [] }) (log' := log ++ [⟨2, 1, l⟩]) (va' := ua) (vb' := ub) (vl' := v3) (xs' := ys ++ [.int .i64 2, .int .i64 1, .slice ao l.length c]) hE' (by rw [heap_setCell_same _ _ _ _ 70 _ hc3]; simp [refL])
      (hset.own (hgr.own hEB.o0 (fun j hj e => (hE.fl j e).2.2.1 hj)) (fun j hj e => (hE.f0 j hj).2 (by cases e; rfl))) (hset.own (hgr.own hEB.o1 (fun j hj e => (hE.fl j e).2.2.2 hj)) (fun j hj e => (hE.f1 j hj).2.1 (by cases e; rfl)))
      (by rw [List.length_append]; exact hset.row ho3 hR3) (Items.snoc (x := ⟨2, 1, l⟩) (hGd.only hE' hE.apart) (hE.it.only hE' hE.apart))
      (fun j hj => .inl hj) (fun j hj => .inl hj) hwv
      (fun j hj e e2 => by have := hE.uF j (hE.f1 j e2).1; omega) (fun j hj e e2 => by have := hE.uF j (hE.f0 j e).1; omega) (fun j hj e e2 => by have := hE.uF j (hE.f1 j e).1; omega)
    refine ⟨⟨_, rfl⟩, _, ⟨_, _, _, _, _, _, _, _, r1⟩, hon1.trans hE' (fun j hj hF1 => ?_), ?_⟩
    · rcases hgr1 j hF1 with q | q
      · exact q
      · omega
    · exact (fun j hj => by
        rcases r2 j hj with q | q
        · exact hgr1 j q
        · exact .inr (by omega))
  have HX := hide (And.intro hE (And.intro hEB (And.intro ho3 (And.intro hg3 (And.intro hw3 hc3)))))
  clear hE hEB ho3 hg3 hw3 hc3 hgr1 hon1
  refine wp_region_held_drew (S := (fun w' => w'.cell? ⟨w.heap.size, 0, none⟩ = some (.int .i64 2) ∧ w'.cell? ⟨w.heap.size, 1, none⟩ = some (.int .i64 1) ∧ w'.cell? ⟨w.heap.size, 2, none⟩ = some (.slice ao l.length c))) (by kernel_rfl) (by exact hS2) (fun hHeld => ?_)
  try dsimp only at hHeld
  refine take_op (i := 0) (d := 42) (OP := Op.move (Operand.tmp 0)) (T := 32) (v := ?vq94x) rfl rfl rfl rfl (by kernel_rfl) (by kernel_rfl) (by kernel_rfl) (fun _ _ _ h => h) (by rfl) ?hq94x hHeld ?rq94x
  case hq94x => (intro w' hSw; (try dsimp only at hSw); go_simp <;> with_reducible rfl)
  try simp only [Act.put, List.setIfInBounds_toArray, List.set_cons_zero, List.set_cons_succ]
  refine take_op (i := 1) (d := 43) (OP := Op.move (Operand.tmp 0)) (T := 32) (v := ?vq95x) rfl rfl rfl rfl (by kernel_rfl) (by kernel_rfl) (by kernel_rfl) (fun _ _ _ h => h) (by rfl) ?hq95x hHeld ?rq95x
  case hq95x => (intro w' hSw; (try dsimp only at hSw); go_simp <;> with_reducible rfl)
  try simp only [Act.put, List.setIfInBounds_toArray, List.set_cons_zero, List.set_cons_succ]
  refine take_op (i := 2) (d := 44) (OP := Op.nilCheck (Operand.tmp 43)) (T := 0) (v := ?vq96x) rfl rfl rfl rfl (by kernel_rfl) (by kernel_rfl) (by kernel_rfl) (fun _ _ _ h => h) (by rfl) ?hq96x hHeld ?rq96x
  case hq96x => (intro w' hSw; (try dsimp only at hSw); go_simp <;> with_reducible rfl)
  try simp only [Act.put, List.setIfInBounds_toArray, List.set_cons_zero, List.set_cons_succ]
  refine take_op (i := 3) (d := 45) (OP := Op.fieldAddr 70 (Operand.tmp 44) 5) (T := 0) (v := ?vq97x) rfl rfl rfl rfl (by kernel_rfl) (by kernel_rfl) (by kernel_rfl) (fun _ _ _ h => h) (by rfl) ?hq97x hHeld ?rq97x
  case hq97x => (intro w' hSw; (try dsimp only at hSw); go_simp <;> with_reducible rfl)
  try simp only [Act.put, List.setIfInBounds_toArray, List.set_cons_zero, List.set_cons_succ]
  refine take_op (i := 5) (d := 47) (OP := Op.load 50 (Operand.tmp 3)) (T := 50) (v := ?vq98x) rfl rfl rfl rfl (by kernel_rfl) (by kernel_rfl) (by kernel_rfl) (fun _ _ _ h => h) (by rfl) ?hq98x hHeld ?rq98x
  case hq98x => (intro w' hSw; (try dsimp only at hSw); go_simp <;> with_reducible rfl)
  try simp only [Act.put, List.setIfInBounds_toArray, List.set_cons_zero, List.set_cons_succ]
  refine two_op (i := 4) (j := 6) (di := 46) (dj := 48) (OPi := Op.load 58 (Operand.tmp 45)) (OPj := Op.buildSlice 58 1 #[(0, Operand.tmp 47)]) (Ti := 58) (Tj := 58) (v := ul) (u := .slice (some ⟨w2.heap.size, 0, none⟩) 1 1) (w' := (w2.drew.alloc (.cells #[.int .i64 2, .int .i64 1, .slice ao l.length c] 50))) rfl rfl rfl rfl rfl rfl rfl rfl (by kernel_rfl) (by rfl) (by rfl) ?ei ?ej hHeld hS3 ?bi ?bj
  case ei => go_simp <;> with_reducible rfl
  case ej => go_simp <;> with_reducible rfl
  case bi =>
    try simp only [Act.put, List.setIfInBounds_toArray, List.set_cons_zero, List.set_cons_succ]
    refine turn_op (i := 6) (d := 48) (OP := Op.buildSlice 58 1 #[(0, Operand.tmp 47)]) (T := 58) (v := (.slice (some ⟨w2.heap.size, 0, none⟩) 1 1)) (w' := (w2.drew.alloc (.cells #[.int .i64 2, .int .i64 1, .slice ao l.length c] 50))) rfl rfl rfl rfl (by kernel_rfl) (by rfl) (by go_simp) hS3 ?_
    replace hHeld := hS3
    try simp only [Act.put, List.setIfInBounds_toArray, List.set_cons_zero, List.set_cons_succ]
    refine turn_op (i := 7) (d := 49) (OP := Op.call { callee := Callee.builtin Builtin.append, args := #[Operand.tmp 46, Operand.tmp 48], argTypes := #[58, 58] }) (T := 58) (v := v3) (w' := w3) rfl rfl rfl rfl (by kernel_rfl) (by rfl) (exec_append rfl rfl hr3) hS4 ?_
    replace hHeld := hS4
    try simp only [Act.put, List.setIfInBounds_toArray, List.set_cons_zero, List.set_cons_succ]
    refine take_op (i := 8) (d := 50) (OP := Op.nilCheck (Operand.tmp 42)) (T := 0) (v := ?vq101x) rfl rfl rfl rfl (by kernel_rfl) (by kernel_rfl) (by kernel_rfl) (fun _ _ _ h => h) (by rfl) ?hq101x hHeld ?rq101x
    case hq101x => (intro w' hSw; (try dsimp only at hSw); go_simp <;> with_reducible rfl)
    try simp only [Act.put, List.setIfInBounds_toArray, List.set_cons_zero, List.set_cons_succ]
    refine take_op (i := 9) (d := 51) (OP := Op.fieldAddr 70 (Operand.tmp 50) 5) (T := 0) (v := ?vq102x) rfl rfl rfl rfl (by kernel_rfl) (by kernel_rfl) (by kernel_rfl) (fun _ _ _ h => h) (by rfl) ?hq102x hHeld ?rq102x
    case hq102x => (intro w' hSw; (try dsimp only at hSw); go_simp <;> with_reducible rfl)
    try simp only [Act.put, List.setIfInBounds_toArray, List.set_cons_zero, List.set_cons_succ]
    refine skip_op (i := 10) (OP := Op.store 58 (Operand.tmp 51) (Operand.tmp 49)) (T := 0) (w' := w3.setCell ⟨R, 7, none⟩ v3) rfl rfl rfl rfl (by kernel_rfl) (by rfl) (by go_simp) ⟨hS5, ?_⟩
    replace hHeld := hS5
    refine wpAnyH_done (by kernel_rfl) ?_ _
    go_wp2
    go_end0
    first | exact hfin | (rw [hv3] at hfin; exact hfin)
  case bj =>
    replace hHeld := hS3
    try simp only [Act.put, List.setIfInBounds_toArray, List.set_cons_zero, List.set_cons_succ]
    refine alone_op (i := 4) (d := 46) (OP := Op.load 58 (Operand.tmp 45)) (T := 58) (v := ?vq104x) rfl rfl rfl rfl (by kernel_rfl) (by rfl) ?hq104x hHeld ?rq104x
    case hq104x => (go_simp <;> with_reducible rfl)
    try simp only [Act.put, List.setIfInBounds_toArray, List.set_cons_zero, List.set_cons_succ]
    refine turn_op (i := 7) (d := 49) (OP := Op.call { callee := Callee.builtin Builtin.append, args := #[Operand.tmp 46, Operand.tmp 48], argTypes := #[58, 58] }) (T := 58) (v := v3) (w' := w3) rfl rfl rfl rfl (by kernel_rfl) (by rfl) (exec_append rfl rfl hr3) hS4 ?_
    replace hHeld := hS4
    try simp only [Act.put, List.setIfInBounds_toArray, List.set_cons_zero, List.set_cons_succ]
    refine take_op (i := 8) (d := 50) (OP := Op.nilCheck (Operand.tmp 42)) (T := 0) (v := ?vq106x) rfl rfl rfl rfl (by kernel_rfl) (by kernel_rfl) (by kernel_rfl) (fun _ _ _ h => h) (by rfl) ?hq106x hHeld ?rq106x
    case hq106x => (intro w' hSw; (try dsimp only at hSw); go_simp <;> with_reducible rfl)
    try simp only [Act.put, List.setIfInBounds_toArray, List.set_cons_zero, List.set_cons_succ]
    refine take_op (i := 9) (d := 51) (OP := Op.fieldAddr 70 (Operand.tmp 50) 5) (T := 0) (v := ?vq107x) rfl rfl rfl rfl (by kernel_rfl) (by kernel_rfl) (by kernel_rfl) (fun _ _ _ h => h) (by rfl) ?hq107x hHeld ?rq107x
    case hq107x => (intro w' hSw; (try dsimp only at hSw); go_simp <;> with_reducible rfl)
    try simp only [Act.put, List.setIfInBounds_toArray, List.set_cons_zero, List.set_cons_succ]
    refine skip_op (i := 10) (OP := Op.store 58 (Operand.tmp 51) (Operand.tmp 49)) (T := 0) (w' := w3.setCell ⟨R, 7, none⟩ v3) rfl rfl rfl rfl (by kernel_rfl) (by rfl) (by go_simp) ⟨hS5, ?_⟩
    replace hHeld := hS5
    refine wpAnyH_done (by kernel_rfl) ?_ _
    go_wp2
    go_end0
    first | exact hfin | (rw [hv3] at hfin; exact hfin)

set_option maxHeartbeats 2000000 in
set_option maxRecDepth 100000 in
theorem rdo3 (ar : Int) (ao : Option Addr) (c : Nat) (l : List Int) (hD : Rep refL 70 F G w R cap beg now log x0 c0 x1 c1 va vb vl xs) (hG : RdG w G ao c l) (hu : now.u = 0 ∨ now.u = 1) (hlog : log.length < 1000000) :
    Calls Try.prog 42 #[.pointer (some ⟨R, 0, none⟩), wrv 3 ar ao l.length c] w fun e w' => (∃ v, e = .returned v) ∧ ∃ F', Disk refL 70 F' G w' R cap beg { now with u := 1 - now.u } (log ++ [⟨3, ar, l⟩]) ∧ Only F w w' ∧ Grown F F' w := by
  obtain ⟨i50, hi, hz0, hz1, hz2⟩ := info_parts Try.info50
  have hb : Below w.heap.size w (w.alloc (.cells #[.int .i64 3, .int .i64 ar, .slice ao l.length c] 50)) := (Below.refl _ w).alloc (Nat.le_refl _) _
  have hD1 := hD.below hb
  have hlt := hD.uF R hD.fR
  have hS0 : ((w.alloc (.cells #[.int .i64 3, .int .i64 ar, .slice ao l.length c] 50)).drew).cell? ⟨w.heap.size, 0, none⟩ = some (.int .i64 3) ∧ ((w.alloc (.cells #[.int .i64 3, .int .i64 ar, .slice ao l.length c] 50)).drew).cell? ⟨w.heap.size, 1, none⟩ = some (.int .i64 ar) ∧ ((w.alloc (.cells #[.int .i64 3, .int .i64 ar, .slice ao l.length c] 50)).drew).cell? ⟨w.heap.size, 2, none⟩ = some (.slice ao l.length c) := by
    obtain ⟨q0, q1, q2, _⟩ := blk3 (w := ((w.alloc (.cells #[.int .i64 3, .int .i64 ar, .slice ao l.length c] 50)).drew)) (R := w.heap.size) (heap_alloc_new w _)
    exact ⟨q0, q1, q2⟩
  have hcs : (w.alloc (.cells #[.int .i64 3, .int .i64 ar, .slice ao l.length c] 50)).cell? ⟨R, 1, none⟩ = some (.int .i64 now.u) := by rw [cell_of_row _ R 1 _ 70 (0, 0) hD1.cells]; rfl
  have hfs : (w.alloc (.cells #[.int .i64 3, .int .i64 ar, .slice ao l.length c] 50)).frozen? ⟨R, 1, none⟩ = false := frozen_of_row _ R 1 _ 70 hD1.cells
  have hS2 : ((w.setCell ⟨R, 1, none⟩ (.int .i64 (1 - now.u))).alloc (.cells #[.int .i64 3, .int .i64 ar, .slice ao l.length c] 50)).cell? ⟨w.heap.size, 0, none⟩ = some (.int .i64 3) ∧ ((w.setCell ⟨R, 1, none⟩ (.int .i64 (1 - now.u))).alloc (.cells #[.int .i64 3, .int .i64 ar, .slice ao l.length c] 50)).cell? ⟨w.heap.size, 1, none⟩ = some (.int .i64 ar) ∧ ((w.setCell ⟨R, 1, none⟩ (.int .i64 (1 - now.u))).alloc (.cells #[.int .i64 3, .int .i64 ar, .slice ao l.length c] 50)).cell? ⟨w.heap.size, 2, none⟩ = some (.slice ao l.length c) := by
    obtain ⟨q0, q1, q2, _⟩ := blk3 (w := ((w.setCell ⟨R, 1, none⟩ (.int .i64 (1 - now.u))).alloc (.cells #[.int .i64 3, .int .i64 ar, .slice ao l.length c] 50))) (R := w.heap.size) (by have := heap_alloc_new (w.setCell ⟨R, 1, none⟩ (.int .i64 (1 - now.u))) (.cells #[.int .i64 3, .int .i64 ar, .slice ao l.length c] 50); simpa using this)
    exact ⟨q0, q1, q2⟩
  have hwr : IntKind.i64.wrap (1 - now.u) = 1 - now.u := by rcases hu with h | h <;> rw [h] <;> rfl
  have hu1 : 0 ≤ now.u ∧ now.u ≤ 1 := by omega
  have hon1 : Only F w ((w.setCell ⟨R, 1, none⟩ (.int .i64 (1 - now.u))).alloc (.cells #[.int .i64 3, .int .i64 ar, .slice ao l.length c] 50)) := ((Only.refl F w).setCell ⟨R, 1, none⟩ _ (fun _ => hD.fR)).alloc _
  have hset := (Only.ofGrown (grown_setCell w ⟨R, 1, none⟩ (.int .i64 (1 - now.u)))).alloc (.cells #[.int .i64 3, .int .i64 ar, .slice ao l.length c] 50)
  have hcell1 : ((w.setCell ⟨R, 1, none⟩ (.int .i64 (1 - now.u))).alloc (.cells #[.int .i64 3, .int .i64 ar, .slice ao l.length c] 50)).heap[R]? = some (.cells (refL cap (.slice x0 beg.a0.length c0) (.slice x1 beg.a1.length c1) beg.u va vb (1 - now.u) vl) 70 (0, 0)) := by rw [(World.grownBy_alloc _ _ none).block R (by simpa using hlt) (by simp), heap_setCell_same _ _ _ _ 70 _ hD.cells]; simp [refL]
  have hfirst : Disk refL 70 (Mut R va vb vl) G ((w.setCell ⟨R, 1, none⟩ (.int .i64 (1 - now.u))).alloc (.cells #[.int .i64 3, .int .i64 ar, .slice ao l.length c] 50)) R cap beg { now with u := 1 - now.u } log ∧ Grown F (Mut R va vb vl) w ∧ ¬ Mut R va vb vl w.heap.size := by
    obtain ⟨r1, r2⟩ := hD.turn (now' := { now with u := 1 - now.u }) (log' := log) (va' := va) (vb' := vb) (vl' := vl) (xs' := xs) hon1 hcell1
      (hset.own hD.o0 (fun j hj e => (hD.f0 j hj).2 (by cases e; rfl))) (hset.own hD.o1 (fun j hj e => (hD.f1 j hj).2.1 (by cases e; rfl)))
      (hset.row hD.ol (fun j hj e => (hD.fl j hj).2.1 (by cases e; rfl))) (hD.it.only hset (fun j e hG => hD.apart j (by cases e; exact hD.fR) hG))
      (fun j hj => .inl hj) (fun j hj => .inl hj) (fun j hj => .inl hj)
      (fun j hj e e2 => by have := hD.uF j (hD.f1 j e2).1; omega) (fun j hj e e2 => by have := hD.uF j (hD.fl j e2).1; omega) (fun j hj e e2 => by have := hD.uF j (hD.fl j e2).1; omega)
    refine ⟨⟨_, _, _, _, _, _, _, _, r1⟩, r2, ?_⟩
    rintro (e | e | e | e)
    · omega
    · have := hD.uF _ (hD.f0 _ e).1; omega
    · have := hD.uF _ (hD.f1 _ e).1; omega
    · have := hD.uF _ (hD.fl _ e).1; omega
  have hszb : w.heap.size + 1 ≤ ((w.setCell ⟨R, 1, none⟩ (.int .i64 (1 - now.u))).alloc (.cells #[.int .i64 3, .int .i64 ar, .slice ao l.length c] 50)).heap.size := by simp
  clear hset hcell1
  have HD := hide hD
  have HF := hide (And.intro hfirst (And.intro hon1 hszb))
  clear hD hD1 hfirst hon1 hszb
  unfold wrv
  go_enter Try.func42, Try.ntmps42
  go_wp2


  generalize hw2 : ((w.setCell ⟨R, 1, none⟩ (.int .i64 (1 - now.u))).alloc (.cells #[.int .i64 3, .int .i64 ar, .slice ao l.length c] 50)) = w2 at hS2 HF ⊢
  clear hw2
  obtain ⟨⟨hE1, hgr1, hNB⟩, hon1, hsz2⟩ := HF.out
  obtain ⟨y0, d0, y1, d1, ua, ub, ul, ys, hE⟩ := hE1
  have hltE : R < w2.heap.size := by omega
  have hbE : Below w2.heap.size w2 (w2.drew.alloc (.cells #[.int .i64 3, .int .i64 ar, .slice ao l.length c] 50)) := ((Below.refl _ w2).drew).alloc (Nat.le_refl _) _
  have hEB := hE.below hbE
  have hcE2 : w2.cell? ⟨R, 7, none⟩ = some ul := by rw [cell_of_row w2 R 7 _ 70 (0, 0) hE.cells]; rfl
  have hcE : w2.drew.cell? ⟨R, 7, none⟩ = some ul := hcE2
  have hcB : (w2.drew.alloc (.cells #[.int .i64 3, .int .i64 ar, .slice ao l.length c] 50)).cell? ⟨R, 7, none⟩ = some ul := by rw [cell_of_row _ R 7 _ 70 (0, 0) hEB.cells]; rfl
  have hS3 : (w2.drew.alloc (.cells #[.int .i64 3, .int .i64 ar, .slice ao l.length c] 50)).cell? ⟨w.heap.size, 0, none⟩ = some (.int .i64 3) ∧ (w2.drew.alloc (.cells #[.int .i64 3, .int .i64 ar, .slice ao l.length c] 50)).cell? ⟨w.heap.size, 1, none⟩ = some (.int .i64 ar) ∧ (w2.drew.alloc (.cells #[.int .i64 3, .int .i64 ar, .slice ao l.length c] 50)).cell? ⟨w.heap.size, 2, none⟩ = some (.slice ao l.length c) := ⟨(hbE.cell (by simp; omega)).trans hS2.1, (hbE.cell (by simp; omega)).trans hS2.2.1, (hbE.cell (by simp; omega)).trans hS2.2.2⟩
  obtain ⟨q0, q1, q2, _⟩ := blk3 (w := (w2.drew.alloc (.cells #[.int .i64 3, .int .i64 ar, .slice ao l.length c] 50))) (R := w2.heap.size) (heap_alloc_new w2.drew _)
  obtain ⟨v3, w3, hr3, ho3, hg3, hw3⟩ := append_where (P := Try.prog) (w2.drew.alloc (.cells #[.int .i64 3, .int .i64 ar, .slice ao l.length c] 50)) 58 58 50 i50 _ 3 40 Try.underlying58 hi hz0 hz1 hz2 rfl (by decide) ul _ _ hEB.ol ⟨w2.heap.size, 0, none⟩ 1 1 [.int .i64 3, .int .i64 ar, .slice ao l.length c] rfl (by
    intro j u hj
    rw [add_lit]
    match j, hj with
    | 0, hj => cases hj; exact q0
    | 1, hj => cases hj; exact q1
    | 2, hj => cases hj; exact q2) (by simp [Value.oneCell']) (by unfold maxLen; omega) (by omega)
  obtain ⟨a3, n3, cp3, hv3⟩ : ∃ a n c, v3 = .slice a n c := by
    rcases ho3.2 with ⟨h, _⟩ | ⟨_, _, _, h, _⟩
    · exact ⟨_, _, _, h⟩
    · exact ⟨_, _, _, h⟩
  have hne : some R ≠ ul.ownBlock := fun e => (hE.fl R e.symm).2.1 rfl
  have hc3 := (hg3.block R (by simp; omega) hne).trans hEB.cells
  have hcs3 : w3.cell? ⟨R, 7, none⟩ = some ul := by rw [cell_of_row _ R 7 _ 70 (0, 0) hc3]; rfl
  have hfs3 : w3.frozen? ⟨R, 7, none⟩ = false := frozen_of_row _ R 7 _ 70 hc3
  have hnl : some w.heap.size ≠ ul.ownBlock := fun e => hNB (hE.fl _ e.symm).1
  have hS4 : w3.cell? ⟨w.heap.size, 0, none⟩ = some (.int .i64 3) ∧ w3.cell? ⟨w.heap.size, 1, none⟩ = some (.int .i64 ar) ∧ w3.cell? ⟨w.heap.size, 2, none⟩ = some (.slice ao l.length c) := ⟨hg3.cell hS3.1 hnl, hg3.cell hS3.2.1 hnl, hg3.cell hS3.2.2 hnl⟩
  have hS5 : (w3.setCell ⟨R, 7, none⟩ v3).cell? ⟨w.heap.size, 0, none⟩ = some (.int .i64 3) ∧ (w3.setCell ⟨R, 7, none⟩ v3).cell? ⟨w.heap.size, 1, none⟩ = some (.int .i64 ar) ∧ (w3.setCell ⟨R, 7, none⟩ v3).cell? ⟨w.heap.size, 2, none⟩ = some (.slice ao l.length c) := by
    have hq := grown_setCell w3 ⟨R, 7, none⟩ v3
    have hq2 : some w.heap.size ≠ some R := by simp; omega
    exact ⟨hq.cell hS4.1 hq2, hq.cell hS4.2.1 hq2, hq.cell hS4.2.2 hq2⟩
  have hfin : (∃ v, Ending.returned (.tuple #[]) = .returned v) ∧ ∃ F', Disk refL 70 F' G (w3.setCell ⟨R, 7, none⟩ v3) R cap beg { now with u := 1 - now.u } (log ++ [⟨3, ar, l⟩]) ∧ Only F w (w3.setCell ⟨R, 7, none⟩ v3) ∧ Grown F F' w := by
    have hset := Only.ofGrown (grown_setCell w3 ⟨R, 7, none⟩ v3)
    have hgr := Only.ofGrown hg3
    have hon : Only (Mut R ua ub ul) w2 (w3.setCell ⟨R, 7, none⟩ v3) := (((Only.ofBelow hbE).mono (D := Mut R ua ub ul) (fun _ _ h => h.elim)).trans hgr (fun j _ hj => .inr (.inr (.inr hj)))).setCell ⟨R, 7, none⟩ v3 (fun _ => .inl rfl)
    have hE' : Only (Mut R va vb vl) w2 (w3.setCell ⟨R, 7, none⟩ v3) := hon.mono (fun j _ hj => by
      rcases hj with e | e | e | e
      · rw [e]; exact hE.fR
      · exact (hE.f0 j e).1
      · exact (hE.f1 j e).1
      · exact (hE.fl j e).1)
    have hwv : Where w2 ul v3 := fun j hj => by
      rcases hw3 j hj with q | q
      · exact .inl q
      · simp at q; exact .inr (by omega)
    have hR3 : ∀ j, v3.ownBlock = some j → ¬ (some R = some j) := fun j hj e => by
      cases e
      rcases hwv R hj with q | q
      · exact hne q.symm
      · omega
    have hGd : RdG w2 G ao c l := hG.only hon1 HD.out.apart
    obtain ⟨r1, r2⟩ := hE.turn (now' := { now with u := 1 - now.u }) (log' := log ++ [⟨3, ar, l⟩]) (va' := ua) (vb' := ub) (vl' := v3) (xs' := ys ++ [.int .i64 3, .int .i64 ar, .slice ao l.length c]) hE' (by rw [heap_setCell_same _ _ _ _ 70 _ hc3]; simp [refL])
      (hset.own (hgr.own hEB.o0 (fun j hj e => (hE.fl j e).2.2.1 hj)) (fun j hj e => (hE.f0 j hj).2 (by cases e; rfl))) (hset.own (hgr.own hEB.o1 (fun j hj e => (hE.fl j e).2.2.2 hj)) (fun j hj e => (hE.f1 j hj).2.1 (by cases e; rfl)))
      (by rw [List.length_append]; exact hset.row ho3 hR3) (Items.snoc (x := ⟨3, ar, l⟩) (hGd.only hE' hE.apart) (hE.it.only hE' hE.apart))
      (fun j hj => .inl hj) (fun j hj => .inl hj) hwv
      (fun j hj e e2 => by have := hE.uF j (hE.f1 j e2).1; omega) (fun j hj e e2 => by have := hE.uF j (hE.f0 j e).1; omega) (fun j hj e e2 => by have := hE.uF j (hE.f1 j e).1; omega)
    refine ⟨⟨_, rfl⟩, _, ⟨_, _, _, _, _, _, _, _, r1⟩, hon1.trans hE' (fun j hj hF1 => ?_), ?_⟩
    · rcases hgr1 j hF1 with q | q
      · exact q
      · omega
    · exact (fun j hj => by
        rcases r2 j hj with q | q
        · exact hgr1 j q
        · exact .inr (by omega))
  have HX := hide (And.intro hE (And.intro hEB (And.intro ho3 (And.intro hg3 (And.intro hw3 hc3)))))
  clear hE hEB ho3 hg3 hw3 hc3 hgr1 hon1
  refine wp_region_held_drew (S := (fun w' => w'.cell? ⟨w.heap.size, 0, none⟩ = some (.int .i64 3) ∧ w'.cell? ⟨w.heap.size, 1, none⟩ = some (.int .i64 ar) ∧ w'.cell? ⟨w.heap.size, 2, none⟩ = some (.slice ao l.length c))) (by kernel_rfl) (by exact hS2) (fun hHeld => ?_)
  try dsimp only at hHeld
  refine take_op (i := 0) (d := 42) (OP := Op.move (Operand.tmp 0)) (T := 32) (v := ?vq109x) rfl rfl rfl rfl (by kernel_rfl) (by kernel_rfl) (by kernel_rfl) (fun _ _ _ h => h) (by rfl) ?hq109x hHeld ?rq109x
  case hq109x => (intro w' hSw; (try dsimp only at hSw); go_simp <;> with_reducible rfl)
  try simp only [Act.put, List.setIfInBounds_toArray, List.set_cons_zero, List.set_cons_succ]
  refine take_op (i := 1) (d := 43) (OP := Op.move (Operand.tmp 0)) (T := 32) (v := ?vq110x) rfl rfl rfl rfl (by kernel_rfl) (by kernel_rfl) (by kernel_rfl) (fun _ _ _ h => h) (by rfl) ?hq110x hHeld ?rq110x
  case hq110x => (intro w' hSw; (try dsimp only at hSw); go_simp <;> with_reducible rfl)
  try simp only [Act.put, List.setIfInBounds_toArray, List.set_cons_zero, List.set_cons_succ]
  refine take_op (i := 2) (d := 44) (OP := Op.nilCheck (Operand.tmp 43)) (T := 0) (v := ?vq111x) rfl rfl rfl rfl (by kernel_rfl) (by kernel_rfl) (by kernel_rfl) (fun _ _ _ h => h) (by rfl) ?hq111x hHeld ?rq111x
  case hq111x => (intro w' hSw; (try dsimp only at hSw); go_simp <;> with_reducible rfl)
  try simp only [Act.put, List.setIfInBounds_toArray, List.set_cons_zero, List.set_cons_succ]
  refine take_op (i := 3) (d := 45) (OP := Op.fieldAddr 70 (Operand.tmp 44) 5) (T := 0) (v := ?vq112x) rfl rfl rfl rfl (by kernel_rfl) (by kernel_rfl) (by kernel_rfl) (fun _ _ _ h => h) (by rfl) ?hq112x hHeld ?rq112x
  case hq112x => (intro w' hSw; (try dsimp only at hSw); go_simp <;> with_reducible rfl)
  try simp only [Act.put, List.setIfInBounds_toArray, List.set_cons_zero, List.set_cons_succ]
  refine take_op (i := 5) (d := 47) (OP := Op.load 50 (Operand.tmp 3)) (T := 50) (v := ?vq113x) rfl rfl rfl rfl (by kernel_rfl) (by kernel_rfl) (by kernel_rfl) (fun _ _ _ h => h) (by rfl) ?hq113x hHeld ?rq113x
  case hq113x => (intro w' hSw; (try dsimp only at hSw); go_simp <;> with_reducible rfl)
  try simp only [Act.put, List.setIfInBounds_toArray, List.set_cons_zero, List.set_cons_succ]
  refine two_op (i := 4) (j := 6) (di := 46) (dj := 48) (OPi := Op.load 58 (Operand.tmp 45)) (OPj := Op.buildSlice 58 1 #[(0, Operand.tmp 47)]) (Ti := 58) (Tj := 58) (v := ul) (u := .slice (some ⟨w2.heap.size, 0, none⟩) 1 1) (w' := (w2.drew.alloc (.cells #[.int .i64 3, .int .i64 ar, .slice ao l.length c] 50))) rfl rfl rfl rfl rfl rfl rfl rfl (by kernel_rfl) (by rfl) (by rfl) ?ei ?ej hHeld hS3 ?bi ?bj
  case ei => go_simp <;> with_reducible rfl
  case ej => go_simp <;> with_reducible rfl
  case bi =>
    try simp only [Act.put, List.setIfInBounds_toArray, List.set_cons_zero, List.set_cons_succ]
    refine turn_op (i := 6) (d := 48) (OP := Op.buildSlice 58 1 #[(0, Operand.tmp 47)]) (T := 58) (v := (.slice (some ⟨w2.heap.size, 0, none⟩) 1 1)) (w' := (w2.drew.alloc (.cells #[.int .i64 3, .int .i64 ar, .slice ao l.length c] 50))) rfl rfl rfl rfl (by kernel_rfl) (by rfl) (by go_simp) hS3 ?_
    replace hHeld := hS3
    try simp only [Act.put, List.setIfInBounds_toArray, List.set_cons_zero, List.set_cons_succ]
    refine turn_op (i := 7) (d := 49) (OP := Op.call { callee := Callee.builtin Builtin.append, args := #[Operand.tmp 46, Operand.tmp 48], argTypes := #[58, 58] }) (T := 58) (v := v3) (w' := w3) rfl rfl rfl rfl (by kernel_rfl) (by rfl) (exec_append rfl rfl hr3) hS4 ?_
    replace hHeld := hS4
    try simp only [Act.put, List.setIfInBounds_toArray, List.set_cons_zero, List.set_cons_succ]
    refine take_op (i := 8) (d := 50) (OP := Op.nilCheck (Operand.tmp 42)) (T := 0) (v := ?vq116x) rfl rfl rfl rfl (by kernel_rfl) (by kernel_rfl) (by kernel_rfl) (fun _ _ _ h => h) (by rfl) ?hq116x hHeld ?rq116x
    case hq116x => (intro w' hSw; (try dsimp only at hSw); go_simp <;> with_reducible rfl)
    try simp only [Act.put, List.setIfInBounds_toArray, List.set_cons_zero, List.set_cons_succ]
    refine take_op (i := 9) (d := 51) (OP := Op.fieldAddr 70 (Operand.tmp 50) 5) (T := 0) (v := ?vq117x) rfl rfl rfl rfl (by kernel_rfl) (by kernel_rfl) (by kernel_rfl) (fun _ _ _ h => h) (by rfl) ?hq117x hHeld ?rq117x
    case hq117x => (intro w' hSw; (try dsimp only at hSw); go_simp <;> with_reducible rfl)
    try simp only [Act.put, List.setIfInBounds_toArray, List.set_cons_zero, List.set_cons_succ]
    refine skip_op (i := 10) (OP := Op.store 58 (Operand.tmp 51) (Operand.tmp 49)) (T := 0) (w' := w3.setCell ⟨R, 7, none⟩ v3) rfl rfl rfl rfl (by kernel_rfl) (by rfl) (by go_simp) ⟨hS5, ?_⟩
    replace hHeld := hS5
    refine wpAnyH_done (by kernel_rfl) ?_ _
    go_wp2
    go_end0
    first | exact hfin | (rw [hv3] at hfin; exact hfin)
  case bj =>
    replace hHeld := hS3
    try simp only [Act.put, List.setIfInBounds_toArray, List.set_cons_zero, List.set_cons_succ]
    refine alone_op (i := 4) (d := 46) (OP := Op.load 58 (Operand.tmp 45)) (T := 58) (v := ?vq119x) rfl rfl rfl rfl (by kernel_rfl) (by rfl) ?hq119x hHeld ?rq119x
    case hq119x => (go_simp <;> with_reducible rfl)
    try simp only [Act.put, List.setIfInBounds_toArray, List.set_cons_zero, List.set_cons_succ]
    refine turn_op (i := 7) (d := 49) (OP := Op.call { callee := Callee.builtin Builtin.append, args := #[Operand.tmp 46, Operand.tmp 48], argTypes := #[58, 58] }) (T := 58) (v := v3) (w' := w3) rfl rfl rfl rfl (by kernel_rfl) (by rfl) (exec_append rfl rfl hr3) hS4 ?_
    replace hHeld := hS4
    try simp only [Act.put, List.setIfInBounds_toArray, List.set_cons_zero, List.set_cons_succ]
    refine take_op (i := 8) (d := 50) (OP := Op.nilCheck (Operand.tmp 42)) (T := 0) (v := ?vq121x) rfl rfl rfl rfl (by kernel_rfl) (by kernel_rfl) (by kernel_rfl) (fun _ _ _ h => h) (by rfl) ?hq121x hHeld ?rq121x
    case hq121x => (intro w' hSw; (try dsimp only at hSw); go_simp <;> with_reducible rfl)
    try simp only [Act.put, List.setIfInBounds_toArray, List.set_cons_zero, List.set_cons_succ]
    refine take_op (i := 9) (d := 51) (OP := Op.fieldAddr 70 (Operand.tmp 50) 5) (T := 0) (v := ?vq122x) rfl rfl rfl rfl (by kernel_rfl) (by kernel_rfl) (by kernel_rfl) (fun _ _ _ h => h) (by rfl) ?hq122x hHeld ?rq122x
    case hq122x => (intro w' hSw; (try dsimp only at hSw); go_simp <;> with_reducible rfl)
    try simp only [Act.put, List.setIfInBounds_toArray, List.set_cons_zero, List.set_cons_succ]
    refine skip_op (i := 10) (OP := Op.store 58 (Operand.tmp 51) (Operand.tmp 49)) (T := 0) (w' := w3.setCell ⟨R, 7, none⟩ v3) rfl rfl rfl rfl (by kernel_rfl) (by rfl) (by go_simp) ⟨hS5, ?_⟩
    replace hHeld := hS5
    refine wpAnyH_done (by kernel_rfl) ?_ _
    go_wp2
    go_end0
    first | exact hfin | (rw [hv3] at hfin; exact hfin)

end
end Go.Proofs.Ytfaceimamipbpaa
