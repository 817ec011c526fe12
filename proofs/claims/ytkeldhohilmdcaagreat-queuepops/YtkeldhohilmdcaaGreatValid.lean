/-
  WHICH BRANCHES, NAMES, STAMPS MAY BE: plainly, and what the program's and the document's functions answer.
-/
import Derived.Test.YtkeldhohilmdcaaGreatLabel
namespace Go.Proofs.YtkeldhohilmdcaaGreat
open Go.RowKit Go.Shelf
set_option linter.unusedSimpArgs false

abbrev bv (r : Int) (l : ByteArray) : Value := .agg #[.int .i64 r, .string l]
abbrev nv (r : Int) (l : ByteArray) (n : Int) : Value := .agg #[.int .i64 r, .string l, .int .i64 n]
abbrev sv (g r : Int) (l : ByteArray) (n x : Int) : Value := .agg #[.int .i64 g, .int .i64 r, .string l, .int .i64 n, .int .i64 x]
def cntV (n : Int) : Bool := decide (1 ≤ n) && decide (n ≤ 4611686018427387904)
def branchV (r : Int) (l : ByteArray) : Bool := decide (0 ≤ r) && decide (r < 8) && labelB l.data.toList
def nameV (r : Int) (l : ByteArray) (n : Int) : Bool := branchV r l && cntV n
def stampV (g r : Int) (l : ByteArray) (n x : Int) : Bool := cntV g && nameV r l n && (decide (0 ≤ x) && decide (x < 64))

theorem counts_any (n : Int) (w : World) : Calls Tryz.prog 188 #[.int .i64 n] w fun e w' => e = .returned (.bool (cntV n)) ∧ w' = w := by
  unfold cntV
  by_cases h1 : 1 ≤ n
  · have d1 : decide (1 ≤ n) = true := by simpa using h1
    by_cases h2 : n ≤ 4611686018427387904
    · have d2 : decide (n ≤ 4611686018427387904) = true := by simpa using h2
      rw [d1, d2]
      go_enter Tryz.func188, Tryz.ntmps188
      go_wp2
      go_ret
      exact ⟨rfl, rfl⟩
    · have d2 : decide (n ≤ 4611686018427387904) = false := by simpa using h2
      rw [d1, d2]
      go_enter Tryz.func188, Tryz.ntmps188
      go_wp2
      go_ret
      exact ⟨rfl, rfl⟩
  · have d1 : decide (1 ≤ n) = false := by simpa using h1
    rw [d1, Bool.false_and]
    go_enter Tryz.func188, Tryz.ntmps188
    go_wp2
    go_ret
    exact ⟨rfl, rfl⟩

theorem below_new (w : World) (o : Obj) : Below w.heap.size w (w.alloc o) := (Below.refl _ w).alloc (Nat.le_refl _) o

set_option maxHeartbeats 1000000 in
set_option maxRecDepth 100000 in
theorem branch_any (r : Int) (l : ByteArray) (w : World) : Calls Tryz.prog 208 #[bv r l] w fun e w' => e = .returned (.bool (branchV r l)) ∧ Below w.heap.size w w' := by
  have hb := below_new w (.cells #[.int .i64 r, .string l] 39)
  have hl := fun W => label_any l W
  unfold branchV
  generalize labelB l.data.toList = LB at hl ⊢
  by_cases h1 : 0 ≤ r
  · have d1 : decide (0 ≤ r) = true := by simpa using h1
    by_cases h2 : r < 8
    · have d2 : decide (r < 8) = true := by simpa using h2
      rw [d1, d2, Bool.true_and, Bool.true_and]
      go_enter Tryz.func208, Tryz.ntmps208
      go_wp2_with (go_at_call 225; refine (hl _).mono ?_; rintro e w1 ⟨rfl, b1⟩)
      go_ret
      exact ⟨rfl, hb.trans (b1.mono hb.size)⟩
    · have d2 : decide (r < 8) = false := by simpa using h2
      rw [d2, Bool.and_false, Bool.false_and]
      go_enter Tryz.func208, Tryz.ntmps208
      go_wp2
      go_ret
      exact ⟨rfl, hb⟩
  · have d1 : decide (0 ≤ r) = false := by simpa using h1
    rw [d1, Bool.false_and, Bool.false_and]
    go_enter Tryz.func208, Tryz.ntmps208
    go_wp2
    go_ret
    exact ⟨rfl, hb⟩
set_option maxHeartbeats 1000000 in
set_option maxRecDepth 100000 in
theorem refBranch_any (r : Int) (l : ByteArray) (w : World) (hs : l.size ≤ 9223372036854775807) : Calls Tryz.prog 164 #[bv r l] w fun e w' => e = .returned (.bool (branchV r l)) ∧ Below w.heap.size w w' := by
  have hb := below_new w (.cells #[.int .i64 r, .string l] 39)
  have hl := fun W => refLabel_any l W hs
  unfold branchV
  generalize labelB l.data.toList = LB at hl ⊢
  by_cases h1 : 0 ≤ r
  · have d1 : decide (0 ≤ r) = true := by simpa using h1
    by_cases h2 : r < 8
    · have d2 : decide (r < 8) = true := by simpa using h2
      rw [d1, d2, Bool.true_and, Bool.true_and]
      go_enter Tryz.func164, Tryz.ntmps164
      go_wp2_with (go_at_call 194; refine (hl _).mono ?_; rintro e w1 ⟨rfl, rfl⟩)
      go_ret
      exact ⟨rfl, hb⟩
    · have d2 : decide (r < 8) = false := by simpa using h2
      rw [d2, Bool.and_false, Bool.false_and]
      go_enter Tryz.func164, Tryz.ntmps164
      go_wp2
      go_ret
      exact ⟨rfl, hb⟩
  · have d1 : decide (0 ≤ r) = false := by simpa using h1
    rw [d1, Bool.false_and, Bool.false_and]
    go_enter Tryz.func164, Tryz.ntmps164
    go_wp2
    go_ret
    exact ⟨rfl, hb⟩

theorem three_new (w : World) (x y z : Value) (t : TypeId) : (w.alloc (.cells #[x, y, z] t)).cell? ⟨w.heap.size, 0, none⟩ = some x ∧ (w.alloc (.cells #[x, y, z] t)).cell? ⟨w.heap.size, 1, none⟩ = some y ∧ (w.alloc (.cells #[x, y, z] t)).cell? ⟨w.heap.size, 2, none⟩ = some z := by
  have h := heap_alloc_new w (.cells #[x, y, z] t)
  exact ⟨by rw [cell_of_row _ _ 0 _ t (0, 0) h]; rfl, by rw [cell_of_row _ _ 1 _ t (0, 0) h]; rfl, by rw [cell_of_row _ _ 2 _ t (0, 0) h]; rfl⟩
theorem kept {w w' : World} {p : Addr} {v : Value} (hb : Below w.heap.size w w') (h : w.cell? p = some v) : w'.cell? p = some v := (hb.cell (World.block_lt_of_cell? _ _ h)).trans h

set_option maxHeartbeats 1000000 in
set_option maxRecDepth 100000 in
theorem name_any (r : Int) (l : ByteArray) (n : Int) (w : World) : Calls Tryz.prog 189 #[nv r l n] w fun e w' => e = .returned (.bool (nameV r l n)) ∧ Below w.heap.size w w' := by
  have hb := below_new w (.cells #[.int .i64 r, .string l, .int .i64 n] 41)
  obtain ⟨p0, p1, p2⟩ := three_new w (.int .i64 r) (.string l) (.int .i64 n) 41
  have h1 := branch_any r l (w.alloc (.cells #[.int .i64 r, .string l, .int .i64 n] 41))
  have h2 := fun W => counts_any n W
  unfold nameV
  generalize branchV r l = B at h1 ⊢
  generalize cntV n = C at h2 ⊢
  cases B with
  | true =>
    rw [Bool.true_and]
    go_enter Tryz.func189, Tryz.ntmps189
    go_wp2_with (first
      | (go_at_call 208; refine h1.mono ?_; rintro e w1 ⟨rfl, b1⟩; have q2 := kept b1 p2)
      | (go_at_call 188; refine (h2 _).mono ?_; rintro e w2 ⟨rfl, rfl⟩))
    go_ret
    exact ⟨rfl, hb.trans (b1.mono hb.size)⟩
  | false =>
    rw [Bool.false_and]
    go_enter Tryz.func189, Tryz.ntmps189
    go_wp2_with (go_at_call 208; refine h1.mono ?_; rintro e w1 ⟨rfl, b1⟩; have q2 := kept b1 p2)
    go_ret
    exact ⟨rfl, hb.trans (b1.mono hb.size)⟩
set_option maxHeartbeats 1000000 in
set_option maxRecDepth 100000 in
theorem refName_any (r : Int) (l : ByteArray) (n : Int) (w : World) (hs : l.size ≤ 9223372036854775807) : Calls Tryz.prog 131 #[nv r l n] w fun e w' => e = .returned (.bool (nameV r l n)) ∧ Below w.heap.size w w' := by
  have hb := below_new w (.cells #[.int .i64 r, .string l, .int .i64 n] 41)
  obtain ⟨p0, p1, p2⟩ := three_new w (.int .i64 r) (.string l) (.int .i64 n) 41
  have h1 := refBranch_any r l (w.alloc (.cells #[.int .i64 r, .string l, .int .i64 n] 41)) hs
  unfold nameV cntV
  generalize branchV r l = B at h1 ⊢
  cases B with
  | true =>
    rw [Bool.true_and]
    by_cases g1 : 1 ≤ n
    · have d1 : decide (1 ≤ n) = true := by simpa using g1
      by_cases g2 : n ≤ 4611686018427387904
      · have d2 : decide (n ≤ 4611686018427387904) = true := by simpa using g2
        rw [d1, d2]
        go_enter Tryz.func131, Tryz.ntmps131
        go_wp2_with (go_at_call 164; refine h1.mono ?_; rintro e w1 ⟨rfl, b1⟩; have q2 := kept b1 p2)
        go_ret
        exact ⟨rfl, hb.trans (b1.mono hb.size)⟩
      · have d2 : decide (n ≤ 4611686018427387904) = false := by simpa using g2
        rw [d2, Bool.and_false]
        go_enter Tryz.func131, Tryz.ntmps131
        go_wp2_with (go_at_call 164; refine h1.mono ?_; rintro e w1 ⟨rfl, b1⟩; have q2 := kept b1 p2)
        go_ret
        exact ⟨rfl, hb.trans (b1.mono hb.size)⟩
    · have d1 : decide (1 ≤ n) = false := by simpa using g1
      rw [d1, Bool.false_and]
      go_enter Tryz.func131, Tryz.ntmps131
      go_wp2_with (go_at_call 164; refine h1.mono ?_; rintro e w1 ⟨rfl, b1⟩; have q2 := kept b1 p2)
      go_ret
      exact ⟨rfl, hb.trans (b1.mono hb.size)⟩
  | false =>
    rw [Bool.false_and]
    go_enter Tryz.func131, Tryz.ntmps131
    go_wp2_with (go_at_call 164; refine h1.mono ?_; rintro e w1 ⟨rfl, b1⟩; have q2 := kept b1 p2)
    go_ret
    exact ⟨rfl, hb.trans (b1.mono hb.size)⟩

theorem five_new (w : World) (x y z u v : Value) (t : TypeId) : (w.alloc (.cells #[x, y, z, u, v] t)).cell? ⟨w.heap.size, 0, none⟩ = some x ∧ (w.alloc (.cells #[x, y, z, u, v] t)).cell? ⟨w.heap.size, 1, none⟩ = some y ∧ (w.alloc (.cells #[x, y, z, u, v] t)).cell? ⟨w.heap.size, 2, none⟩ = some z ∧ (w.alloc (.cells #[x, y, z, u, v] t)).cell? ⟨w.heap.size, 3, none⟩ = some u ∧ (w.alloc (.cells #[x, y, z, u, v] t)).cell? ⟨w.heap.size, 4, none⟩ = some v := by
  have h := heap_alloc_new w (.cells #[x, y, z, u, v] t)
  exact ⟨by rw [cell_of_row _ _ 0 _ t (0, 0) h]; rfl, by rw [cell_of_row _ _ 1 _ t (0, 0) h]; rfl, by rw [cell_of_row _ _ 2 _ t (0, 0) h]; rfl, by rw [cell_of_row _ _ 3 _ t (0, 0) h]; rfl, by rw [cell_of_row _ _ 4 _ t (0, 0) h]; rfl⟩

set_option maxHeartbeats 1000000 in
set_option maxRecDepth 100000 in
theorem stamp_any (g r : Int) (l : ByteArray) (n x : Int) (w : World) : Calls Tryz.prog 150 #[sv g r l n x] w fun e w' => e = .returned (.bool (stampV g r l n x)) ∧ Below w.heap.size w w' := by
  have hb := below_new w (.cells #[.int .i64 g, .int .i64 r, .string l, .int .i64 n, .int .i64 x] 43)
  obtain ⟨p0, p1, p2, p3, p4⟩ := five_new w (.int .i64 g) (.int .i64 r) (.string l) (.int .i64 n) (.int .i64 x) 43
  have h1 := counts_any g (w.alloc (.cells #[.int .i64 g, .int .i64 r, .string l, .int .i64 n, .int .i64 x] 43))
  have h2 := name_any r l n (w.alloc (.cells #[.int .i64 g, .int .i64 r, .string l, .int .i64 n, .int .i64 x] 43))
  unfold stampV
  generalize cntV g = C at h1 ⊢
  generalize nameV r l n = B at h2 ⊢
  cases C with
  | false =>
    rw [Bool.false_and, Bool.false_and]
    go_enter Tryz.func150, Tryz.ntmps150
    go_wp2_with (go_at_call 188; refine h1.mono ?_; rintro e w1 ⟨rfl, rfl⟩)
    go_ret
    exact ⟨rfl, hb⟩
  | true =>
    cases B with
    | false =>
      rw [Bool.true_and, Bool.false_and]
      go_enter Tryz.func150, Tryz.ntmps150
      go_wp2_with (first
        | (go_at_call 188; refine h1.mono ?_; rintro e w1 ⟨rfl, hw⟩; have hwx := hw.symm; clear hw; subst hwx)
        | (go_at_call 189; refine h2.mono ?_; rintro e w2 ⟨rfl, b2⟩))
      go_ret
      exact ⟨rfl, hb.trans (b2.mono hb.size)⟩
    | true =>
      rw [Bool.true_and, Bool.true_and]
      by_cases g1 : 0 ≤ x
      · have d1 : decide (0 ≤ x) = true := by simpa using g1
        by_cases g2 : x < 64
        · have d2 : decide (x < 64) = true := by simpa using g2
          rw [d1, d2]
          go_enter Tryz.func150, Tryz.ntmps150
          go_wp2_with (first
            | (go_at_call 188; refine h1.mono ?_; rintro e w1 ⟨rfl, hw⟩; have hwx := hw.symm; clear hw; subst hwx)
            | (go_at_call 189; refine h2.mono ?_; rintro e w2 ⟨rfl, b2⟩; have q4 := kept b2 p4))
          go_ret
          exact ⟨rfl, hb.trans (b2.mono hb.size)⟩
        · have d2 : decide (x < 64) = false := by simpa using g2
          rw [d2, Bool.and_false]
          go_enter Tryz.func150, Tryz.ntmps150
          go_wp2_with (first
            | (go_at_call 188; refine h1.mono ?_; rintro e w1 ⟨rfl, hw⟩; have hwx := hw.symm; clear hw; subst hwx)
            | (go_at_call 189; refine h2.mono ?_; rintro e w2 ⟨rfl, b2⟩; have q4 := kept b2 p4))
          go_ret
          exact ⟨rfl, hb.trans (b2.mono hb.size)⟩
      · have d1 : decide (0 ≤ x) = false := by simpa using g1
        rw [d1, Bool.false_and]
        go_enter Tryz.func150, Tryz.ntmps150
        go_wp2_with (first
          | (go_at_call 188; refine h1.mono ?_; rintro e w1 ⟨rfl, hw⟩; have hwx := hw.symm; clear hw; subst hwx)
          | (go_at_call 189; refine h2.mono ?_; rintro e w2 ⟨rfl, b2⟩; have q4 := kept b2 p4))
        go_ret
        exact ⟨rfl, hb.trans (b2.mono hb.size)⟩
set_option maxHeartbeats 1000000 in
set_option maxRecDepth 100000 in
theorem refStamp_any (g r : Int) (l : ByteArray) (n x : Int) (w : World) (hs : l.size ≤ 9223372036854775807) : Calls Tryz.prog 84 #[sv g r l n x] w fun e w' => e = .returned (.bool (stampV g r l n x)) ∧ Below w.heap.size w w' := by
  have hb := below_new w (.cells #[.int .i64 g, .int .i64 r, .string l, .int .i64 n, .int .i64 x] 43)
  obtain ⟨p0, p1, p2, p3, p4⟩ := five_new w (.int .i64 g) (.int .i64 r) (.string l) (.int .i64 n) (.int .i64 x) 43
  have h2 := refName_any r l n (w.alloc (.cells #[.int .i64 g, .int .i64 r, .string l, .int .i64 n, .int .i64 x] 43)) hs
  unfold stampV cntV
  generalize nameV r l n = B at h2 ⊢
  by_cases k1 : 1 ≤ g
  · have e1 : decide (1 ≤ g) = true := by simpa using k1
    by_cases k2 : g ≤ 4611686018427387904
    · have e2 : decide (g ≤ 4611686018427387904) = true := by simpa using k2
      rw [e1, e2, Bool.true_and]
      cases B with
      | false =>
        rw [Bool.true_and, Bool.false_and]
        go_enter Tryz.func84, Tryz.ntmps84
        go_wp2_with (go_at_call 131; refine h2.mono ?_; rintro e w2 ⟨rfl, b2⟩)
        go_ret
        exact ⟨rfl, hb.trans (b2.mono hb.size)⟩
      | true =>
        rw [Bool.true_and, Bool.true_and]
        by_cases g1 : 0 ≤ x
        · have d1 : decide (0 ≤ x) = true := by simpa using g1
          by_cases g2 : x < 64
          · have d2 : decide (x < 64) = true := by simpa using g2
            rw [d1, d2]
            go_enter Tryz.func84, Tryz.ntmps84
            go_wp2_with (go_at_call 131; refine h2.mono ?_; rintro e w2 ⟨rfl, b2⟩; have q4 := kept b2 p4)
            go_ret
            exact ⟨rfl, hb.trans (b2.mono hb.size)⟩
          · have d2 : decide (x < 64) = false := by simpa using g2
            rw [d2, Bool.and_false]
            go_enter Tryz.func84, Tryz.ntmps84
            go_wp2_with (go_at_call 131; refine h2.mono ?_; rintro e w2 ⟨rfl, b2⟩; have q4 := kept b2 p4)
            go_ret
            exact ⟨rfl, hb.trans (b2.mono hb.size)⟩
        · have d1 : decide (0 ≤ x) = false := by simpa using g1
          rw [d1, Bool.false_and]
          go_enter Tryz.func84, Tryz.ntmps84
          go_wp2_with (go_at_call 131; refine h2.mono ?_; rintro e w2 ⟨rfl, b2⟩; have q4 := kept b2 p4)
          go_ret
          exact ⟨rfl, hb.trans (b2.mono hb.size)⟩
    · have e2 : decide (g ≤ 4611686018427387904) = false := by simpa using k2
      rw [e2, Bool.and_false, Bool.false_and, Bool.false_and]
      go_enter Tryz.func84, Tryz.ntmps84
      go_wp2
      go_ret
      exact ⟨rfl, hb⟩
  · have e1 : decide (1 ≤ g) = false := by simpa using k1
    rw [e1, Bool.false_and, Bool.false_and, Bool.false_and]
    go_enter Tryz.func84, Tryz.ntmps84
    go_wp2
    go_ret
    exact ⟨rfl, hb⟩
end Go.Proofs.YtkeldhohilmdcaaGreat
