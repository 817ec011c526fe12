/-
  PAIRS OF NUMBERS: as cells; the law's own form of a pair, and how a pair is read.
-/
import Derived.Test.YtjbnhfcacocgeaaTakes
import Derived.Test.YtjbnhfcacocgeaaDrawn2
namespace Go.Proofs.Ytjbnhfcacocgeaa
open Go.RowKit
set_option linter.unusedSimpArgs false

theorem below_undrew0 {a w' : World} (h : Below a.drew.heap.size a.drew w') : Below a.heap.size a w' := ⟨h.os, h.tape, h.output, h.size, h.block⟩
theorem two_keep {B : Nat} {x0 x1 : Value} {wa wb : World} (h : wa.cell? ⟨B, 0, none⟩ = some x0 ∧ wa.cell? ⟨B, 1, none⟩ = some x1) (hb : Below wa.heap.size wa wb) : wb.cell? ⟨B, 0, none⟩ = some x0 ∧ wb.cell? ⟨B, 1, none⟩ = some x1 := by
  have hB : B < wa.heap.size := World.block_lt_of_cell? wa _ h.1
  exact ⟨(hb.cell (p := ⟨B, 0, none⟩) hB).trans h.1, (hb.cell (p := ⟨B, 1, none⟩) hB).trans h.2⟩

set_option maxHeartbeats 1000000 in
set_option maxRecDepth 100000 in
theorem form_any (a b : Nat) (w : World) (ha : a < 18446744073709551616) (hb : b < 18446744073709551616) :
    Calls Try.prog 30 #[.agg #[.int .u64 a, .int .u64 b]] w fun e w' => Made 5 w w' e (Plain.numL a ++ Plain.numL b) := by
  obtain ⟨i0, hi, hz0, hz1, hz2⟩ := info_parts Try.info5
  have h1 := Plain.numL_ten a ha
  have h2 := Plain.numL_ten b hb
  have hS : (w.alloc (.cells #[.int .u64 a, .int .u64 b] 59)).drew.cell? ⟨w.heap.size, 0, none⟩ = some (.int .u64 a) ∧ (w.alloc (.cells #[.int .u64 a, .int .u64 b] 59)).drew.cell? ⟨w.heap.size, 1, none⟩ = some (.int .u64 b) := by simp [go_sem]
  go_enter Try.func30, Try.ntmps30
  go_wp2
  refine wp_region_held_drew (S := (fun w' => w'.cell? ⟨w.heap.size, 0, none⟩ = some (.int .u64 a) ∧ w'.cell? ⟨w.heap.size, 1, none⟩ = some (.int .u64 b))) (by kernel_rfl) (by exact hS) (fun hHeld => ?_)
  try dsimp only at hHeld
  refine take_op (i := 0) (d := 3) (OP := Go.Op.indexAddr 59 (Go.Operand.tmp 1) (Go.Operand.const (Go.Value.int Go.IntKind.i64 0))) (T := 0) (v := ?vfx1) rfl rfl rfl rfl (by kernel_rfl) (by kernel_rfl) (by kernel_rfl) (fun _ _ _ h => h) (by rfl) ?hfx1 hHeld ?rfx1
  case hfx1 => (intro w' hSw; (try dsimp only at hSw); go_simp <;> with_reducible rfl)
  try simp only [Act.put, List.setIfInBounds_toArray, List.set_cons_zero, List.set_cons_succ]
  refine take_op (i := 1) (d := 4) (OP := Go.Op.load 22 (Go.Operand.tmp 3)) (T := 22) (v := ?vfx2) rfl rfl rfl rfl (by kernel_rfl) (by kernel_rfl) (by kernel_rfl) (fun _ _ _ h => h) (by rfl) ?hfx2 hHeld ?rfx2
  case hfx2 => (intro w' hSw; (try dsimp only at hSw); go_simp <;> with_reducible rfl)
  try simp only [Act.put, List.setIfInBounds_toArray, List.set_cons_zero, List.set_cons_succ]
  refine take_op (i := 3) (d := 6) (OP := Go.Op.indexAddr 59 (Go.Operand.tmp 1) (Go.Operand.const (Go.Value.int Go.IntKind.i64 1))) (T := 0) (v := ?vfx3) rfl rfl rfl rfl (by kernel_rfl) (by kernel_rfl) (by kernel_rfl) (fun _ _ _ h => h) (by rfl) ?hfx3 hHeld ?rfx3
  case hfx3 => (intro w' hSw; (try dsimp only at hSw); go_simp <;> with_reducible rfl)
  try simp only [Act.put, List.setIfInBounds_toArray, List.set_cons_zero, List.set_cons_succ]
  refine take_op (i := 4) (d := 7) (OP := Go.Op.load 22 (Go.Operand.tmp 6)) (T := 22) (v := ?vfx4) rfl rfl rfl rfl (by kernel_rfl) (by kernel_rfl) (by kernel_rfl) (fun _ _ _ h => h) (by rfl) ?hfx4 hHeld ?rfx4
  case hfx4 => (intro w' hSw; (try dsimp only at hSw); go_simp <;> with_reducible rfl)
  try simp only [Act.put, List.setIfInBounds_toArray, List.set_cons_zero, List.set_cons_succ]
  refine call_op (i := 2) (d := 5) (OP := Go.Op.call { callee := Go.Callee.value (Go.Operand.func 9), args := #[Go.Operand.tmp 4], argTypes := #[22] }) (T := 23) (f := 9) (args := #[.int .u64 a]) rfl rfl rfl rfl (by kernel_rfl) (by rfl) (by go_simp) ?_
  refine (number_any a _ ha).mono ?_
  rintro e w1 ⟨o1, c1, rfl, own1, nil1, b1⟩
  have t1 := below_undrew0 b1
  refine ⟨_, rfl, (show w1.cell? ⟨w.heap.size, 0, none⟩ = some (.int .u64 a) ∧ w1.cell? ⟨w.heap.size, 1, none⟩ = some (.int .u64 b) from two_keep hHeld b1), ?_⟩
  replace hHeld := (show w1.cell? ⟨w.heap.size, 0, none⟩ = some (.int .u64 a) ∧ w1.cell? ⟨w.heap.size, 1, none⟩ = some (.int .u64 b) from two_keep hHeld b1)
  try simp only [Act.put, List.setIfInBounds_toArray, List.set_cons_zero, List.set_cons_succ]
  refine call_op (i := 5) (d := 8) (OP := Go.Op.call { callee := Go.Callee.value (Go.Operand.func 9), args := #[Go.Operand.tmp 7], argTypes := #[22] }) (T := 23) (f := 9) (args := #[.int .u64 b]) rfl rfl rfl rfl (by kernel_rfl) (by rfl) (by go_simp) ?_
  refine (number_any b _ hb).mono ?_
  rintro e w2 ⟨o2, c2, rfl, own2, nil2, b2⟩
  have t2 := t1.trans (b2.mono t1.size)
  have own12 := own1.below b2
  refine ⟨_, rfl, (show w2.cell? ⟨w.heap.size, 0, none⟩ = some (.int .u64 a) ∧ w2.cell? ⟨w.heap.size, 1, none⟩ = some (.int .u64 b) from two_keep hHeld b2), ?_⟩
  replace hHeld := (show w2.cell? ⟨w.heap.size, 0, none⟩ = some (.int .u64 a) ∧ w2.cell? ⟨w.heap.size, 1, none⟩ = some (.int .u64 b) from two_keep hHeld b2)
  try simp only [Act.put, List.setIfInBounds_toArray, List.set_cons_zero, List.set_cons_succ]
  have hs2 := t2.size
  refine append_op (i := 6) (d := 9) (.tmp 5) (.tmp 8) 23 rfl rfl rfl (by kernel_rfl) (by rfl) (w.heap.size + 1) 5 i0 Try.underlying23 hi hz0 hz1 hz2 (.slice o1 (Plain.numL a).length c1) (Plain.numL a) rfl (own12.lift (by simp)) o2 c2 (Plain.numL b) rfl nil2 own2.rd (by omega) (by have := t2.size; simp at this; omega) ?_
  intro ao3 cap3 w3 hown3 hg3 hnil3
  have b3 : Below (w.heap.size + 1) (w.alloc (.cells #[.int .u64 a, .int .u64 b] 59)) w3 := below_own (by simpa using t2) (by simp at hs2; omega) (own12.lift (by simp)) hg3
  have hS3 : w3.cell? ⟨w.heap.size, 0, none⟩ = some (.int .u64 a) ∧ w3.cell? ⟨w.heap.size, 1, none⟩ = some (.int .u64 b) := two_keep (wa := w.alloc (.cells #[.int .u64 a, .int .u64 b] 59)) hS (by simpa using b3)
  refine ⟨hS3, ?_⟩
  replace hHeld := hS3
  try simp only [Act.put, List.setIfInBounds_toArray, List.set_cons_zero, List.set_cons_succ]
  refine take_op (i := 7) (d := 2) (OP := Go.Op.assign (Go.Operand.tmp 9)) (T := 23) (v := ?vgx1) rfl rfl rfl rfl (by kernel_rfl) (by kernel_rfl) (by kernel_rfl) (fun _ _ _ h => h) (by rfl) ?hgx1 hHeld ?rgx1
  case hgx1 => (intro w' hSw; (try dsimp only at hSw); go_simp <;> with_reducible rfl)
  try simp only [Act.put, List.setIfInBounds_toArray, List.set_cons_zero, List.set_cons_succ]
  refine wpAnyH_done (by kernel_rfl) ?_ _
  go_wp2
  go_ret
  exact ⟨ao3, cap3, by simp, (by simpa using hown3 : Own 5 w3 (w.heap.size + 1) _ _).lift (by omega), hnil3, ((Below.refl _ _).alloc (Nat.le_refl _) _).trans (b3.mono (by omega))⟩

theorem pair_frame {w w1 w2 : World} {R : Nat} (h1 : w.grownBy w1 (some R)) (h2 : w1.grownBy w2 (some w.heap.size)) : w.grownBy w2 (some R) :=
  ⟨h2.os.trans h1.os, h2.tape.trans h1.tape, h2.output.trans h1.output, Nat.le_trans h1.size h2.size, fun k hk hne => (h2.block k (by have := h1.size; omega) (by simp; omega)).trans (h1.block k hk hne)⟩
/-- What reading a pair answers. -/
def rpair (l : List Int) : (Nat × Nat) × Int × List Int :=
  if (rnum l).2.1 = 0 then (((rnum l).1, (rnum (rnum l).2.2).1), (rnum (rnum l).2.2).2.1, (rnum (rnum l).2.2).2.2) else ((0, 0), (rnum l).2.1, (rnum l).2.2)

set_option maxHeartbeats 1000000 in
set_option maxRecDepth 100000 in
theorem pair_any (R S : Nat) (l : List Int) (w : World) (hR : Rdr 73 w R S l) (hS : S ≤ w.heap.size) :
    Calls Try.prog 32 #[.pointer (some ⟨R, 0, none⟩)] w fun e w' =>
      e = .returned (.tuple #[.agg #[.int .u64 (rpair l).1.1, .int .u64 (rpair l).1.2], .int .i64 (rpair l).2.1]) ∧ Rdr 73 w' R S (rpair l).2.2 ∧ w.grownBy w' (some R) := by
  have hRS : R < S := by obtain ⟨_, _, _, _, _, _, _, _, h, _⟩ := hR; exact h
  have hc1 : ∀ o, _ := fun o => rnumber_any R S l (w.alloc o) (hR.kept (World.grownBy_alloc w o none) (by simp))
  unfold NumPost at hc1
  have hc2 : ∀ w1, Rdr 73 w1 R S (rnum l).2.2 → _ := fun w1 h => rnumber_any R S (rnum l).2.2 w1 h
  unfold NumPost at hc2
  by_cases he : (rnum l).2.1 = 0
  · have HP : Hid (rpair l = (((rnum l).1, (rnum (rnum l).2.2).1), (rnum (rnum l).2.2).2.1, (rnum (rnum l).2.2).2.2)) := by show rpair l = _; rw [rpair, if_pos he]
    generalize rnum (rnum l).2.2 = q2 at *
    generalize rnum l = q at *
    obtain ⟨a, er, l1⟩ := q
    obtain ⟨b, er2, l2⟩ := q2
    simp only at *
    subst he
    go_enter Try.func32, Try.ntmps32
    go_wp2_with fail
    refine (hc1 _).mono ?_
    rintro e w1 ⟨rfl, hR1, hg1⟩
    have hb1 := (hg1.block w.heap.size (by simp) (by simp; omega)).trans (heap_alloc_new w _)
    go_wp2_with fail
    refine (hc2 _ hR1).mono ?_
    rintro e w2 ⟨rfl, hR2, hg2⟩
    have hs1 := hg1.size
    have hb2 := (hg2.block w.heap.size (by simp at hs1; omega) (by simp; omega)).trans hb1
    obtain ⟨c0, c1, f0, f1⟩ := cell_blk hb2
    have hgw : w.grownBy w2 (some R) := grown_trans (grown_trans (World.grownBy_alloc _ _ _) hg1) hg2
    have hs2 := hg2.size
    have hb3 := heap_setCell_same _ w.heap.size 1 _ _ (.int .u64 (b : Int)) (heap_setCell_same w2 w.heap.size 0 _ _ (.int .u64 (a : Int)) hb2)
    obtain ⟨d0, d1, _⟩ := cell_blk (by simpa using hb3)
    go_wp2
    have hg3 : w2.grownBy ((w2.setCell ⟨w.heap.size, 0, none⟩ (.int .u64 (a : Int))).setCell ⟨w.heap.size, 1, none⟩ (.int .u64 (b : Int))) (some w.heap.size) := grown_trans (grown_set w2 w.heap.size 0 _) (grown_set _ w.heap.size 1 _)
    refine bodyPost_ret (v := .tuple #[.agg #[.int .u64 (a : Int), .int .u64 (b : Int)], .int .i64 er2]) (by simp [results, Try.results32, go_sem, d0, d1]) rfl ?_
    rw [HP.out]
    exact ⟨rfl, hR2.kept hg3 (by intro k hk; cases hk; exact hS), pair_frame hgw hg3⟩
  · have HP : Hid (rpair l = ((0, 0), (rnum l).2.1, (rnum l).2.2)) := by show rpair l = _; rw [rpair, if_neg he]
    clear hc2
    generalize rnum l = q at *
    obtain ⟨a, er, l1⟩ := q
    simp only at *
    have hne : (er != 0) = true := by simpa using he
    clear he
    go_enter Try.func32, Try.ntmps32
    go_wp2_with fail
    refine (hc1 _).mono ?_
    rintro e w1 ⟨rfl, hR1, hg1⟩
    have hb1 := (hg1.block w.heap.size (by simp) (by simp; omega)).trans (heap_alloc_new w _)
    obtain ⟨c0, c1, f0, f1⟩ := cell_blk hb1
    have hgw : w.grownBy w1 (some R) := grown_trans (World.grownBy_alloc _ _ _) hg1
    have hb3 := heap_setCell_same _ w.heap.size 1 _ _ (.int .u64 0) (heap_setCell_same w1 w.heap.size 0 _ _ (.int .u64 0) hb1)
    obtain ⟨d0, d1, _⟩ := cell_blk (by simpa using hb3)
    go_wp2
    have hg3 : w1.grownBy ((w1.setCell ⟨w.heap.size, 0, none⟩ (.int .u64 0)).setCell ⟨w.heap.size, 1, none⟩ (.int .u64 0)) (some w.heap.size) := grown_trans (grown_set w1 w.heap.size 0 _) (grown_set _ w.heap.size 1 _)
    refine bodyPost_ret (v := .tuple #[.agg #[.int .u64 0, .int .u64 0], .int .i64 er]) (by simp [results, Try.results32, go_sem, d0, d1]) rfl ?_
    rw [HP.out]
    exact ⟨rfl, hR1.kept hg3 (by intro k hk; cases hk; exact hS), pair_frame hgw hg3⟩
end Go.Proofs.Ytjbnhfcacocgeaa
