/-
  WHICH BRANCHES, NAMES, STAMPS MAY BE: plainly, and what the program's and the document's functions answer.
  CMP6: stamps, names, branches held against each other.
  THEORY6: the order of stamps and of their keys; forms that are read as they were; plainly.
-/
import Derived.Test.YtkkpdgfllnbigaaGreatMg6
import Derived.Deep.DeepCutAuto
import Derived.Deep.CutBlock
import Derived.Scope
namespace Go.Proofs.YtkkpdgfllnbigaaGreat
open Go.RowKit Go.Shelf
set_option linter.unusedSimpArgs false

abbrev bv (r : Int) (l : ByteArray) : Value := .agg #[.int .i64 r, .string l]
abbrev nv (r : Int) (l : ByteArray) (n : Int) : Value := .agg #[.int .i64 r, .string l, .int .i64 n]
abbrev sv (g r : Int) (l : ByteArray) (n x : Int) : Value := .agg #[.int .i64 g, .int .i64 r, .string l, .int .i64 n, .int .i64 x]
def cntV (n : Int) : Bool := decide (1 ≤ n) && decide (n ≤ 4611686018427387904)
def branchV (r : Int) (l : ByteArray) : Bool := decide (0 ≤ r) && decide (r < 8) && labelB l.data.toList
def nameV (r : Int) (l : ByteArray) (n : Int) : Bool := branchV r l && cntV n
def stampV (g r : Int) (l : ByteArray) (n x : Int) : Bool := cntV g && nameV r l n && (decide (0 ≤ x) && decide (x < 64))

theorem counts_any (n : Int) (w : World) : Calls Tryz.prog 229 #[.int .i64 n] w fun e w' => e = .returned (.bool (cntV n)) ∧ w' = w := by
  unfold cntV
  by_cases h1 : 1 ≤ n
  · have d1 : decide (1 ≤ n) = true := by simpa using h1
    by_cases h2 : n ≤ 4611686018427387904
    · have d2 : decide (n ≤ 4611686018427387904) = true := by simpa using h2
      rw [d1, d2]
      go_enter Tryz.func229, Tryz.ntmps229
      go_wp2
      go_ret
      exact ⟨rfl, rfl⟩
    · have d2 : decide (n ≤ 4611686018427387904) = false := by simpa using h2
      rw [d1, d2]
      go_enter Tryz.func229, Tryz.ntmps229
      go_wp2
      go_ret
      exact ⟨rfl, rfl⟩
  · have d1 : decide (1 ≤ n) = false := by simpa using h1
    rw [d1, Bool.false_and]
    go_enter Tryz.func229, Tryz.ntmps229
    go_wp2
    go_ret
    exact ⟨rfl, rfl⟩

theorem below_new (w : World) (o : Obj) : Below w.heap.size w (w.alloc o) := (Below.refl _ w).alloc (Nat.le_refl _) o

set_option maxHeartbeats 1000000 in
set_option maxRecDepth 100000 in
theorem branch_any (r : Int) (l : ByteArray) (w : World) : Calls Tryz.prog 250 #[bv r l] w fun e w' => e = .returned (.bool (branchV r l)) ∧ Below w.heap.size w w' := by
  have hb := below_new w (.cells #[.int .i64 r, .string l] 39)
  have hl := fun W => label_any l W
  unfold branchV
  generalize labelB l.data.toList = LB at hl ⊢
  by_cases h1 : 0 ≤ r
  · have d1 : decide (0 ≤ r) = true := by simpa using h1
    by_cases h2 : r < 8
    · have d2 : decide (r < 8) = true := by simpa using h2
      rw [d1, d2, Bool.true_and, Bool.true_and]
      go_enter Tryz.func250, Tryz.ntmps250
      go_wp2_with (go_at_call 267; refine (hl _).mono ?_; rintro e w1 ⟨rfl, b1⟩)
      go_ret
      exact ⟨rfl, hb.trans (b1.mono hb.size)⟩
    · have d2 : decide (r < 8) = false := by simpa using h2
      rw [d2, Bool.and_false, Bool.false_and]
      go_enter Tryz.func250, Tryz.ntmps250
      go_wp2
      go_ret
      exact ⟨rfl, hb⟩
  · have d1 : decide (0 ≤ r) = false := by simpa using h1
    rw [d1, Bool.false_and, Bool.false_and]
    go_enter Tryz.func250, Tryz.ntmps250
    go_wp2
    go_ret
    exact ⟨rfl, hb⟩
set_option maxHeartbeats 1000000 in
set_option maxRecDepth 100000 in
theorem refBranch_any (r : Int) (l : ByteArray) (w : World) (hs : l.size ≤ 9223372036854775807) : Calls Tryz.prog 207 #[bv r l] w fun e w' => e = .returned (.bool (branchV r l)) ∧ Below w.heap.size w w' := by
  have hb := below_new w (.cells #[.int .i64 r, .string l] 39)
  have hl := fun W => refLabel_any l W hs
  unfold branchV
  generalize labelB l.data.toList = LB at hl ⊢
  by_cases h1 : 0 ≤ r
  · have d1 : decide (0 ≤ r) = true := by simpa using h1
    by_cases h2 : r < 8
    · have d2 : decide (r < 8) = true := by simpa using h2
      rw [d1, d2, Bool.true_and, Bool.true_and]
      go_enter Tryz.func207, Tryz.ntmps207
      go_wp2_with (go_at_call 236; refine (hl _).mono ?_; rintro e w1 ⟨rfl, rfl⟩)
      go_ret
      exact ⟨rfl, hb⟩
    · have d2 : decide (r < 8) = false := by simpa using h2
      rw [d2, Bool.and_false, Bool.false_and]
      go_enter Tryz.func207, Tryz.ntmps207
      go_wp2
      go_ret
      exact ⟨rfl, hb⟩
  · have d1 : decide (0 ≤ r) = false := by simpa using h1
    rw [d1, Bool.false_and, Bool.false_and]
    go_enter Tryz.func207, Tryz.ntmps207
    go_wp2
    go_ret
    exact ⟨rfl, hb⟩

theorem three_new (w : World) (x y z : Value) (t : TypeId) : (w.alloc (.cells #[x, y, z] t)).cell? ⟨w.heap.size, 0, none⟩ = some x ∧ (w.alloc (.cells #[x, y, z] t)).cell? ⟨w.heap.size, 1, none⟩ = some y ∧ (w.alloc (.cells #[x, y, z] t)).cell? ⟨w.heap.size, 2, none⟩ = some z := by
  have h := heap_alloc_new w (.cells #[x, y, z] t)
  exact ⟨by rw [cell_of_row _ _ 0 _ t (0, 0) h]; rfl, by rw [cell_of_row _ _ 1 _ t (0, 0) h]; rfl, by rw [cell_of_row _ _ 2 _ t (0, 0) h]; rfl⟩
theorem kept {w w' : World} {p : Addr} {v : Value} (hb : Below w.heap.size w w') (h : w.cell? p = some v) : w'.cell? p = some v := (hb.cell (World.block_lt_of_cell? _ _ h)).trans h

set_option maxHeartbeats 1000000 in
set_option maxRecDepth 100000 in
theorem name_any (r : Int) (l : ByteArray) (n : Int) (w : World) : Calls Tryz.prog 230 #[nv r l n] w fun e w' => e = .returned (.bool (nameV r l n)) ∧ Below w.heap.size w w' := by
  have hb := below_new w (.cells #[.int .i64 r, .string l, .int .i64 n] 41)
  obtain ⟨p0, p1, p2⟩ := three_new w (.int .i64 r) (.string l) (.int .i64 n) 41
  have h1 := branch_any r l (w.alloc (.cells #[.int .i64 r, .string l, .int .i64 n] 41))
  have h2 := fun W => counts_any n W
  unfold nameV
  generalize branchV r l = B at h1 ⊢
  generalize cntV n = C at h2 ⊢
  cases B with
  | true =>
    rw [Bool.true_and]
    go_enter Tryz.func230, Tryz.ntmps230
    go_wp2_with (first
      | (go_at_call 250; refine h1.mono ?_; rintro e w1 ⟨rfl, b1⟩; have q2 := kept b1 p2)
      | (go_at_call 229; refine (h2 _).mono ?_; rintro e w2 ⟨rfl, rfl⟩))
    go_ret
    exact ⟨rfl, hb.trans (b1.mono hb.size)⟩
  | false =>
    rw [Bool.false_and]
    go_enter Tryz.func230, Tryz.ntmps230
    go_wp2_with (go_at_call 250; refine h1.mono ?_; rintro e w1 ⟨rfl, b1⟩; have q2 := kept b1 p2)
    go_ret
    exact ⟨rfl, hb.trans (b1.mono hb.size)⟩
set_option maxHeartbeats 1000000 in
set_option maxRecDepth 100000 in
theorem refName_any (r : Int) (l : ByteArray) (n : Int) (w : World) (hs : l.size ≤ 9223372036854775807) : Calls Tryz.prog 169 #[nv r l n] w fun e w' => e = .returned (.bool (nameV r l n)) ∧ Below w.heap.size w w' := by
  have hb := below_new w (.cells #[.int .i64 r, .string l, .int .i64 n] 41)
  obtain ⟨p0, p1, p2⟩ := three_new w (.int .i64 r) (.string l) (.int .i64 n) 41
  have h1 := refBranch_any r l (w.alloc (.cells #[.int .i64 r, .string l, .int .i64 n] 41)) hs
  unfold nameV cntV
  generalize branchV r l = B at h1 ⊢
  cases B with
  | true =>
    rw [Bool.true_and]
    by_cases g1 : 1 ≤ n
    · have d1 : decide (1 ≤ n) = true := by simpa using g1
      by_cases g2 : n ≤ 4611686018427387904
      · have d2 : decide (n ≤ 4611686018427387904) = true := by simpa using g2
        rw [d1, d2]
        go_enter Tryz.func169, Tryz.ntmps169
        go_wp2_with (go_at_call 207; refine h1.mono ?_; rintro e w1 ⟨rfl, b1⟩; have q2 := kept b1 p2)
        go_ret
        exact ⟨rfl, hb.trans (b1.mono hb.size)⟩
      · have d2 : decide (n ≤ 4611686018427387904) = false := by simpa using g2
        rw [d2, Bool.and_false]
        go_enter Tryz.func169, Tryz.ntmps169
        go_wp2_with (go_at_call 207; refine h1.mono ?_; rintro e w1 ⟨rfl, b1⟩; have q2 := kept b1 p2)
        go_ret
        exact ⟨rfl, hb.trans (b1.mono hb.size)⟩
    · have d1 : decide (1 ≤ n) = false := by simpa using g1
      rw [d1, Bool.false_and]
      go_enter Tryz.func169, Tryz.ntmps169
      go_wp2_with (go_at_call 207; refine h1.mono ?_; rintro e w1 ⟨rfl, b1⟩; have q2 := kept b1 p2)
      go_ret
      exact ⟨rfl, hb.trans (b1.mono hb.size)⟩
  | false =>
    rw [Bool.false_and]
    go_enter Tryz.func169, Tryz.ntmps169
    go_wp2_with (go_at_call 207; refine h1.mono ?_; rintro e w1 ⟨rfl, b1⟩; have q2 := kept b1 p2)
    go_ret
    exact ⟨rfl, hb.trans (b1.mono hb.size)⟩

theorem five_new (w : World) (x y z u v : Value) (t : TypeId) : (w.alloc (.cells #[x, y, z, u, v] t)).cell? ⟨w.heap.size, 0, none⟩ = some x ∧ (w.alloc (.cells #[x, y, z, u, v] t)).cell? ⟨w.heap.size, 1, none⟩ = some y ∧ (w.alloc (.cells #[x, y, z, u, v] t)).cell? ⟨w.heap.size, 2, none⟩ = some z ∧ (w.alloc (.cells #[x, y, z, u, v] t)).cell? ⟨w.heap.size, 3, none⟩ = some u ∧ (w.alloc (.cells #[x, y, z, u, v] t)).cell? ⟨w.heap.size, 4, none⟩ = some v := by
  have h := heap_alloc_new w (.cells #[x, y, z, u, v] t)
  exact ⟨by rw [cell_of_row _ _ 0 _ t (0, 0) h]; rfl, by rw [cell_of_row _ _ 1 _ t (0, 0) h]; rfl, by rw [cell_of_row _ _ 2 _ t (0, 0) h]; rfl, by rw [cell_of_row _ _ 3 _ t (0, 0) h]; rfl, by rw [cell_of_row _ _ 4 _ t (0, 0) h]; rfl⟩

set_option maxHeartbeats 1000000 in
set_option maxRecDepth 100000 in
theorem stamp_any (g r : Int) (l : ByteArray) (n x : Int) (w : World) : Calls Tryz.prog 187 #[sv g r l n x] w fun e w' => e = .returned (.bool (stampV g r l n x)) ∧ Below w.heap.size w w' := by
  have hb := below_new w (.cells #[.int .i64 g, .int .i64 r, .string l, .int .i64 n, .int .i64 x] 43)
  obtain ⟨p0, p1, p2, p3, p4⟩ := five_new w (.int .i64 g) (.int .i64 r) (.string l) (.int .i64 n) (.int .i64 x) 43
  have h1 := counts_any g (w.alloc (.cells #[.int .i64 g, .int .i64 r, .string l, .int .i64 n, .int .i64 x] 43))
  have h2 := name_any r l n (w.alloc (.cells #[.int .i64 g, .int .i64 r, .string l, .int .i64 n, .int .i64 x] 43))
  unfold stampV
  generalize cntV g = C at h1 ⊢
  generalize nameV r l n = B at h2 ⊢
  cases C with
  | false =>
    rw [Bool.false_and, Bool.false_and]
    go_enter Tryz.func187, Tryz.ntmps187
    go_wp2_with (go_at_call 229; refine h1.mono ?_; rintro e w1 ⟨rfl, rfl⟩)
    go_ret
    exact ⟨rfl, hb⟩
  | true =>
    cases B with
    | false =>
      rw [Bool.true_and, Bool.false_and]
      go_enter Tryz.func187, Tryz.ntmps187
      go_wp2_with (first
        | (go_at_call 229; refine h1.mono ?_; rintro e w1 ⟨rfl, hw⟩; have hwx := hw.symm; clear hw; subst hwx)
        | (go_at_call 230; refine h2.mono ?_; rintro e w2 ⟨rfl, b2⟩))
      go_ret
      exact ⟨rfl, hb.trans (b2.mono hb.size)⟩
    | true =>
      rw [Bool.true_and, Bool.true_and]
      by_cases g1 : 0 ≤ x
      · have d1 : decide (0 ≤ x) = true := by simpa using g1
        by_cases g2 : x < 64
        · have d2 : decide (x < 64) = true := by simpa using g2
          rw [d1, d2]
          go_enter Tryz.func187, Tryz.ntmps187
          go_wp2_with (first
            | (go_at_call 229; refine h1.mono ?_; rintro e w1 ⟨rfl, hw⟩; have hwx := hw.symm; clear hw; subst hwx)
            | (go_at_call 230; refine h2.mono ?_; rintro e w2 ⟨rfl, b2⟩; have q4 := kept b2 p4))
          go_ret
          exact ⟨rfl, hb.trans (b2.mono hb.size)⟩
        · have d2 : decide (x < 64) = false := by simpa using g2
          rw [d2, Bool.and_false]
          go_enter Tryz.func187, Tryz.ntmps187
          go_wp2_with (first
            | (go_at_call 229; refine h1.mono ?_; rintro e w1 ⟨rfl, hw⟩; have hwx := hw.symm; clear hw; subst hwx)
            | (go_at_call 230; refine h2.mono ?_; rintro e w2 ⟨rfl, b2⟩; have q4 := kept b2 p4))
          go_ret
          exact ⟨rfl, hb.trans (b2.mono hb.size)⟩
      · have d1 : decide (0 ≤ x) = false := by simpa using g1
        rw [d1, Bool.false_and]
        go_enter Tryz.func187, Tryz.ntmps187
        go_wp2_with (first
          | (go_at_call 229; refine h1.mono ?_; rintro e w1 ⟨rfl, hw⟩; have hwx := hw.symm; clear hw; subst hwx)
          | (go_at_call 230; refine h2.mono ?_; rintro e w2 ⟨rfl, b2⟩; have q4 := kept b2 p4))
        go_ret
        exact ⟨rfl, hb.trans (b2.mono hb.size)⟩
set_option maxHeartbeats 1000000 in
set_option maxRecDepth 100000 in
theorem refStamp_any (g r : Int) (l : ByteArray) (n x : Int) (w : World) (hs : l.size ≤ 9223372036854775807) : Calls Tryz.prog 112 #[sv g r l n x] w fun e w' => e = .returned (.bool (stampV g r l n x)) ∧ Below w.heap.size w w' := by
  have hb := below_new w (.cells #[.int .i64 g, .int .i64 r, .string l, .int .i64 n, .int .i64 x] 43)
  obtain ⟨p0, p1, p2, p3, p4⟩ := five_new w (.int .i64 g) (.int .i64 r) (.string l) (.int .i64 n) (.int .i64 x) 43
  have h2 := refName_any r l n (w.alloc (.cells #[.int .i64 g, .int .i64 r, .string l, .int .i64 n, .int .i64 x] 43)) hs
  unfold stampV cntV
  generalize nameV r l n = B at h2 ⊢
  by_cases k1 : 1 ≤ g
  · have e1 : decide (1 ≤ g) = true := by simpa using k1
    by_cases k2 : g ≤ 4611686018427387904
    · have e2 : decide (g ≤ 4611686018427387904) = true := by simpa using k2
      rw [e1, e2, Bool.true_and]
      cases B with
      | false =>
        rw [Bool.true_and, Bool.false_and]
        go_enter Tryz.func112, Tryz.ntmps112
        go_wp2_with (go_at_call 169; refine h2.mono ?_; rintro e w2 ⟨rfl, b2⟩)
        go_ret
        exact ⟨rfl, hb.trans (b2.mono hb.size)⟩
      | true =>
        rw [Bool.true_and, Bool.true_and]
        by_cases g1 : 0 ≤ x
        · have d1 : decide (0 ≤ x) = true := by simpa using g1
          by_cases g2 : x < 64
          · have d2 : decide (x < 64) = true := by simpa using g2
            rw [d1, d2]
            go_enter Tryz.func112, Tryz.ntmps112
            go_wp2_with (go_at_call 169; refine h2.mono ?_; rintro e w2 ⟨rfl, b2⟩; have q4 := kept b2 p4)
            go_ret
            exact ⟨rfl, hb.trans (b2.mono hb.size)⟩
          · have d2 : decide (x < 64) = false := by simpa using g2
            rw [d2, Bool.and_false]
            go_enter Tryz.func112, Tryz.ntmps112
            go_wp2_with (go_at_call 169; refine h2.mono ?_; rintro e w2 ⟨rfl, b2⟩; have q4 := kept b2 p4)
            go_ret
            exact ⟨rfl, hb.trans (b2.mono hb.size)⟩
        · have d1 : decide (0 ≤ x) = false := by simpa using g1
          rw [d1, Bool.false_and]
          go_enter Tryz.func112, Tryz.ntmps112
          go_wp2_with (go_at_call 169; refine h2.mono ?_; rintro e w2 ⟨rfl, b2⟩; have q4 := kept b2 p4)
          go_ret
          exact ⟨rfl, hb.trans (b2.mono hb.size)⟩
    · have e2 : decide (g ≤ 4611686018427387904) = false := by simpa using k2
      rw [e2, Bool.and_false, Bool.false_and, Bool.false_and]
      go_enter Tryz.func112, Tryz.ntmps112
      go_wp2
      go_ret
      exact ⟨rfl, hb⟩
  · have e1 : decide (1 ≤ g) = false := by simpa using k1
    rw [e1, Bool.false_and, Bool.false_and, Bool.false_and]
    go_enter Tryz.func112, Tryz.ntmps112
    go_wp2
    go_ret
    exact ⟨rfl, hb⟩
end Go.Proofs.YtkkpdgfllnbigaaGreat
namespace Go.Proofs.YtkkpdgfllnbigaaGreat
open Go.RowKit Go.Shelf
set_option linter.unusedSimpArgs false

theorem exec_store_new {P : Program} {ev : Operand → Value} {x y : Operand} {b : Nat} {ty T : TypeId} {cs : List Value} {c : Array Value} {W : World} (hb : W.heap.size = b) (hx : ev x = .pointer (some ⟨b, 0, none⟩)) (hy : ev y = .agg cs.toArray) (hi : (P.info? ty).map (·.size) = some cs.length) (hc : c.size = cs.length) (h1 : ∀ v ∈ cs, v.oneCell' = true) :
    (execOp ev { dst := none, op := .store ty x y, type := T, pos := "", after := #[], guard := none }).run P (W.alloc (.cells c ty)) = .ok .skip (W.alloc (.cells cs.toArray ty)) := by
  subst hb
  unfold execOp
  simp only [hx, hy]
  rw [Sem.run_bind, run_storeAt_new W ty c cs.toArray (by rw [hi, List.size_toArray]) (by rw [hc, List.size_toArray]) (all_oneCell_toArray h1)]
  rfl
theorem blk2 {w : World} {R : Nat} {t : TypeId} {x y : Value} (h : w.heap[R]? = some (.cells #[x, y] t (0, 0))) : w.cell? ⟨R, 0, none⟩ = some x ∧ w.cell? ⟨R, 1, none⟩ = some y ∧ w.frozen? ⟨R, 0, none⟩ = false ∧ w.frozen? ⟨R, 1, none⟩ = false := by
  refine ⟨?_, ?_, frozen_of_row w R 0 _ t h, frozen_of_row w R 1 _ t h⟩
  · rw [cell_of_row w R 0 _ t (0, 0) h]; rfl
  · rw [cell_of_row w R 1 _ t (0, 0) h]; rfl
theorem set3 {w : World} {R : Nat} {t : TypeId} {x y z x' y' z' : Value} (h : w.heap[R]? = some (.cells #[x, y, z] t (0, 0))) : (((w.setCell ⟨R, 0, none⟩ x').setCell ⟨R, 1, none⟩ y').setCell ⟨R, 2, none⟩ z').heap[R]? = some (.cells #[x', y', z'] t (0, 0)) := by
  rw [heap_setCell_same _ _ _ _ t _ (heap_setCell_same _ _ _ _ t _ (heap_setCell_same _ _ _ _ t _ h))]
  simp
theorem bel3 {B : Nat} {a w : World} {R : Nat} (hR : B ≤ R) {x' y' z' : Value} (h : Below B a w) : Below B a (((w.setCell ⟨R, 0, none⟩ x').setCell ⟨R, 1, none⟩ y').setCell ⟨R, 2, none⟩ z') := (((h.setCell (p := ⟨R, 0, none⟩) hR _).setCell (p := ⟨R, 1, none⟩) hR _).setCell (p := ⟨R, 2, none⟩) hR _)
theorem blk5 {w : World} {R : Nat} {t : TypeId} {x y z u v : Value} (h : w.heap[R]? = some (.cells #[x, y, z, u, v] t (0, 0))) : w.cell? ⟨R, 0, none⟩ = some x ∧ w.cell? ⟨R, 1, none⟩ = some y ∧ w.cell? ⟨R, 2, none⟩ = some z ∧ w.cell? ⟨R, 3, none⟩ = some u ∧ w.cell? ⟨R, 4, none⟩ = some v ∧ w.frozen? ⟨R, 0, none⟩ = false ∧ w.frozen? ⟨R, 1, none⟩ = false ∧ w.frozen? ⟨R, 2, none⟩ = false ∧ w.frozen? ⟨R, 3, none⟩ = false ∧ w.frozen? ⟨R, 4, none⟩ = false := by
  refine ⟨?_, ?_, ?_, ?_, ?_, frozen_of_row w R 0 _ t h, frozen_of_row w R 1 _ t h, frozen_of_row w R 2 _ t h, frozen_of_row w R 3 _ t h, frozen_of_row w R 4 _ t h⟩
  · rw [cell_of_row w R 0 _ t (0, 0) h]; rfl
  · rw [cell_of_row w R 1 _ t (0, 0) h]; rfl
  · rw [cell_of_row w R 2 _ t (0, 0) h]; rfl
  · rw [cell_of_row w R 3 _ t (0, 0) h]; rfl
  · rw [cell_of_row w R 4 _ t (0, 0) h]; rfl
theorem set5 {w : World} {R : Nat} {t : TypeId} {x y z u v x' y' z' u' v' : Value} (h : w.heap[R]? = some (.cells #[x, y, z, u, v] t (0, 0))) : (((((w.setCell ⟨R, 0, none⟩ x').setCell ⟨R, 1, none⟩ y').setCell ⟨R, 2, none⟩ z').setCell ⟨R, 3, none⟩ u').setCell ⟨R, 4, none⟩ v').heap[R]? = some (.cells #[x', y', z', u', v'] t (0, 0)) := by
  rw [heap_setCell_same _ _ _ _ t _ (heap_setCell_same _ _ _ _ t _ (heap_setCell_same _ _ _ _ t _ (heap_setCell_same _ _ _ _ t _ (heap_setCell_same _ _ _ _ t _ h))))]
  simp
/-- Pairs held against each other, the first that differ decide. -/
def cmpPairs : List (Int × Int) → Int
  | [] => 0
  | p :: t => if p.1 < p.2 then -1 else if p.2 < p.1 then 1 else cmpPairs t
def prs (g r : Int) (l : ByteArray) (n x g' r' : Int) (l' : ByteArray) (n' x' : Int) : List (Int × Int) := [(g, g'), (r, r'), (cmpB l l', 0), (n, n'), (x, x')]
def cmpS (g r : Int) (l : ByteArray) (n x g' r' : Int) (l' : ByteArray) (n' x' : Int) : Int := cmpPairs (prs g r l n x g' r' l' n' x')
theorem exec_alloc128 {ev : Operand → Value} {T : TypeId} {w : World} :
    (execOp ev { dst := none, op := .alloc 176, type := T, pos := "", after := #[], guard := none }).run Tryz.prog w = .ok (.value (.pointer (some ⟨w.heap.size, 0, none⟩))) (w.alloc (.cells #[.int .i64 0, .int .i64 0, .int .i64 0, .int .i64 0, .int .i64 0, .int .i64 0, .int .i64 0, .int .i64 0, .int .i64 0, .int .i64 0] 176)) := by
  unfold execOp
  go_simp
  try rfl
theorem noGoto_ret {Q : Exit → Act → World → Prop} {a : Act} {w : World} (h : Q .ret a w) : Exit.noGoto Q .ret a w := h
theorem pair_cases (a b : Int) (t : List (Int × Int)) (R : Int) (h : cmpPairs ((a, b) :: t) = R) : (a < b ∧ R = -1) ∨ (¬ a < b ∧ b < a ∧ R = 1) ∨ (¬ a < b ∧ ¬ b < a ∧ cmpPairs t = R) := by
  rw [cmpPairs] at h
  split at h
  next h1 => exact .inl ⟨h1, h.symm⟩
  next h1 =>
    split at h
    next h2 => exact .inr (.inl ⟨h1, h2, h.symm⟩)
    next h2 => exact .inr (.inr ⟨h1, h2, h⟩)
theorem exec_fa27_0 {ev : Operand → Value} {x : Operand} {T : TypeId} {w : World} {b o : Nat} (hx : ev x = .pointer (some ⟨b, o, none⟩)) :
    (execOp ev { dst := none, op := .fieldAddr 43 x 0, type := T, pos := "", after := #[], guard := none }).run Tryz.prog w = .ok (.value (.pointer (some ⟨b, o + 0, none⟩))) w := by
  unfold execOp
  simp only [hx]
  go_simp
theorem exec_fa27_2 {ev : Operand → Value} {x : Operand} {T : TypeId} {w : World} {b o : Nat} (hx : ev x = .pointer (some ⟨b, o, none⟩)) :
    (execOp ev { dst := none, op := .fieldAddr 43 x 2, type := T, pos := "", after := #[], guard := none }).run Tryz.prog w = .ok (.value (.pointer (some ⟨b, o + 4, none⟩))) w := by
  unfold execOp
  simp only [hx]
  go_simp
theorem exec_fa25_0 {ev : Operand → Value} {x : Operand} {T : TypeId} {w : World} {b o : Nat} (hx : ev x = .pointer (some ⟨b, o, none⟩)) :
    (execOp ev { dst := none, op := .fieldAddr 41 x 0, type := T, pos := "", after := #[], guard := none }).run Tryz.prog w = .ok (.value (.pointer (some ⟨b, o + 0, none⟩))) w := by
  unfold execOp
  simp only [hx]
  go_simp
theorem exec_fa25_1 {ev : Operand → Value} {x : Operand} {T : TypeId} {w : World} {b o : Nat} (hx : ev x = .pointer (some ⟨b, o, none⟩)) :
    (execOp ev { dst := none, op := .fieldAddr 41 x 1, type := T, pos := "", after := #[], guard := none }).run Tryz.prog w = .ok (.value (.pointer (some ⟨b, o + 2, none⟩))) w := by
  unfold execOp
  simp only [hx]
  go_simp
theorem exec_fa23_0 {ev : Operand → Value} {x : Operand} {T : TypeId} {w : World} {b o : Nat} (hx : ev x = .pointer (some ⟨b, o, none⟩)) :
    (execOp ev { dst := none, op := .fieldAddr 39 x 0, type := T, pos := "", after := #[], guard := none }).run Tryz.prog w = .ok (.value (.pointer (some ⟨b, o + 0, none⟩))) w := by
  unfold execOp
  simp only [hx]
  go_simp
theorem exec_fa23_1 {ev : Operand → Value} {x : Operand} {T : TypeId} {w : World} {b o : Nat} (hx : ev x = .pointer (some ⟨b, o, none⟩)) :
    (execOp ev { dst := none, op := .fieldAddr 39 x 1, type := T, pos := "", after := #[], guard := none }).run Tryz.prog w = .ok (.value (.pointer (some ⟨b, o + 1, none⟩))) w := by
  unfold execOp
  simp only [hx]
  go_simp
theorem exec_load2 {ev : Operand → Value} {x : Operand} {T : TypeId} {w : World} {b o : Nat} {v : Value} (hx : ev x = .pointer (some ⟨b, o, none⟩)) (h : w.cell? ⟨b, o, none⟩ = some v) :
    (execOp ev { dst := none, op := .load 2 x, type := T, pos := "", after := #[], guard := none }).run Tryz.prog w = .ok (.value v) w := by
  unfold execOp
  simp only [hx]
  go_simp
theorem exec_load3 {ev : Operand → Value} {x : Operand} {T : TypeId} {w : World} {b o : Nat} {v : Value} (hx : ev x = .pointer (some ⟨b, o, none⟩)) (h : w.cell? ⟨b, o, none⟩ = some v) :
    (execOp ev { dst := none, op := .load 3 x, type := T, pos := "", after := #[], guard := none }).run Tryz.prog w = .ok (.value v) w := by
  unfold execOp
  simp only [hx]
  go_simp
theorem exec_load9 {ev : Operand → Value} {x : Operand} {T : TypeId} {w : World} {b o : Nat} {v : Value} (hx : ev x = .pointer (some ⟨b, o, none⟩)) (h : w.cell? ⟨b, o, none⟩ = some v) :
    (execOp ev { dst := none, op := .load 9 x, type := T, pos := "", after := #[], guard := none }).run Tryz.prog w = .ok (.value v) w := by
  unfold execOp
  simp only [hx]
  go_simp
theorem exec_build126 {ev : Operand → Value} {x y : Operand} {T : TypeId} {w : World} {a b : Int} (hx : ev x = .int .i64 a) (hy : ev y = .int .i64 b) :
    (execOp ev { dst := none, op := .build 175 #[(0, x), (1, y)], type := T, pos := "", after := #[], guard := none }).run Tryz.prog w = .ok (.value (.agg #[.int .i64 a, .int .i64 b])) w := by
  unfold execOp
  simp only [hx, hy]
  go_simp
theorem exec_build128 {ev : Operand → Value} {x0 x1 x2 x3 x4 : Operand} {T : TypeId} {w : World} {a0 b0 a1 b1 a2 b2 a3 b3 a4 b4 : Int} (h0 : ev x0 = .agg #[.int .i64 a0, .int .i64 b0]) (h1 : ev x1 = .agg #[.int .i64 a1, .int .i64 b1]) (h2 : ev x2 = .agg #[.int .i64 a2, .int .i64 b2]) (h3 : ev x3 = .agg #[.int .i64 a3, .int .i64 b3]) (h4 : ev x4 = .agg #[.int .i64 a4, .int .i64 b4]) :
    (execOp ev { dst := none, op := .build 176 #[(0, x0), (1, x1), (2, x2), (3, x3), (4, x4)], type := T, pos := "", after := #[], guard := none }).run Tryz.prog w = .ok (.value (.agg #[.int .i64 a0, .int .i64 b0, .int .i64 a1, .int .i64 b1, .int .i64 a2, .int .i64 b2, .int .i64 a3, .int .i64 b3, .int .i64 a4, .int .i64 b4])) w := by
  unfold execOp
  simp only [h0, h1, h2, h3, h4]
  go_simp
end Go.Proofs.YtkkpdgfllnbigaaGreat
namespace Go.Proofs.YtkkpdgfllnbigaaGreat
open Go.RowKit Go.Shelf
set_option linter.unusedSimpArgs false

/-- An order by -1, 0, 1. -/
structure Ord {α : Type} (f : α → α → Int) : Prop where
  range : ∀ a b, f a b = -1 ∨ f a b = 0 ∨ f a b = 1
  anti : ∀ a b, f a b = - f b a
  eq : ∀ a b, f a b = 0 → a = b
  trans : ∀ a b c, f a b = -1 → f b c = -1 → f a c = -1

theorem Ord.refl {α : Type} {f : α → α → Int} (h : Ord f) (a : α) : f a a = 0 := by have := h.anti a a; omega

theorem cb_range : ∀ l m : List UInt8, Lib.compareBytes l m = -1 ∨ Lib.compareBytes l m = 0 ∨ Lib.compareBytes l m = 1
  | [], [] => by simp [Lib.compareBytes]
  | [], _ :: _ => by simp [Lib.compareBytes]
  | _ :: _, [] => by simp [Lib.compareBytes]
  | a :: l, b :: m => by
    rw [Lib.compareBytes]
    split
    · simp
    · split
      · simp
      · exact cb_range l m

theorem cb_anti : ∀ l m : List UInt8, Lib.compareBytes l m = - Lib.compareBytes m l
  | [], [] => rfl
  | [], _ :: _ => rfl
  | _ :: _, [] => rfl
  | a :: l, b :: m => by
    rw [Lib.compareBytes, Lib.compareBytes]
    by_cases h1 : a < b
    · have h2 : ¬ b < a := fun h => absurd (UInt8.lt_iff_toNat_lt.1 h) (by have := UInt8.lt_iff_toNat_lt.1 h1; omega)
      rw [if_pos h1, if_neg h2, if_pos h1]
    · rw [if_neg h1]
      by_cases h2 : b < a
      · rw [if_pos h2, if_pos h2]; rfl
      · rw [if_neg h2, if_neg h2, if_neg h1]
        exact cb_anti l m

theorem u8_eq {a b : UInt8} (h1 : ¬ a < b) (h2 : ¬ b < a) : a = b := by
  apply UInt8.toNat_inj.1
  rw [UInt8.lt_iff_toNat_lt] at h1 h2
  omega

theorem cb_eq : ∀ l m : List UInt8, Lib.compareBytes l m = 0 → l = m
  | [], [], _ => rfl
  | [], _ :: _, h => by simp [Lib.compareBytes] at h
  | _ :: _, [], h => by simp [Lib.compareBytes] at h
  | a :: l, b :: m, h => by
    rw [Lib.compareBytes] at h
    by_cases h1 : a < b
    · rw [if_pos h1] at h; cases h
    · rw [if_neg h1] at h
      by_cases h2 : b < a
      · rw [if_pos h2] at h; cases h
      · rw [if_neg h2] at h
        rw [u8_eq h1 h2, cb_eq l m h]

theorem cb_trans : ∀ l m k : List UInt8, Lib.compareBytes l m = -1 → Lib.compareBytes m k = -1 → Lib.compareBytes l k = -1
  | [], [], _, h, _ => by simp [Lib.compareBytes] at h
  | _ :: _, [], _, h, _ => by simp [Lib.compareBytes] at h
  | _, _ :: _, [], _, h => by simp [Lib.compareBytes] at h
  | [], _ :: _, _ :: _, _, _ => rfl
  | a :: l, b :: m, c :: k, h1, h2 => by
    rw [Lib.compareBytes] at h1 h2 ⊢
    simp only [UInt8.lt_iff_toNat_lt] at h1 h2 ⊢
    by_cases ab : a.toNat < b.toNat
    · by_cases bc : b.toNat < c.toNat
      · rw [if_pos (by omega)]
      · rw [if_neg bc] at h2
        by_cases cb : c.toNat < b.toNat
        · rw [if_pos cb] at h2; cases h2
        · rw [if_pos (by omega)]
    · rw [if_neg ab] at h1
      by_cases ba : b.toNat < a.toNat
      · rw [if_pos ba] at h1; cases h1
      · rw [if_neg ba] at h1
        by_cases bc : b.toNat < c.toNat
        · rw [if_pos (by omega)]
        · rw [if_neg bc] at h2
          by_cases cb : c.toNat < b.toNat
          · rw [if_pos cb] at h2; cases h2
          · rw [if_neg cb] at h2
            rw [if_neg (by omega), if_neg (by omega)]
            exact cb_trans l m k h1 h2

theorem ba_eq {a b : ByteArray} (h : a.data.toList = b.data.toList) : a = b := ByteArray.ext (Array.toList_inj.1 h)

theorem ord_B : Ord cmpB := ⟨fun _ _ => cb_range _ _, fun _ _ => cb_anti _ _, fun _ _ h => ba_eq (cb_eq _ _ h), fun _ _ _ => cb_trans _ _ _⟩

theorem ord_I : Ord cmpI := by
  refine ⟨fun a b => ?_, fun a b => ?_, fun a b h => ?_, fun a b c h1 h2 => ?_⟩
  · unfold cmpI; split <;> (try split) <;> simp
  · unfold cmpI; split <;> split <;> (try split) <;> omega
  · unfold cmpI at h; split at h <;> (try split at h) <;> omega
  · unfold cmpI at *; split at h1 <;> (try split at h1) <;> split at h2 <;> (try split at h2) <;> (try omega) <;> (rw [if_pos (by omega)])

/-- One order, and another one behind it. -/
def lex {α β : Type} (f : α → α → Int) (g : β → β → Int) (a b : α × β) : Int := if f a.1 b.1 = 0 then g a.2 b.2 else f a.1 b.1
theorem Ord.lex {α β : Type} {f : α → α → Int} {g : β → β → Int} (hf : Ord f) (hg : Ord g) : Ord (lex f g) := by
  refine ⟨?_, ?_, ?_, ?_⟩
  · intro a b
    unfold Go.Proofs.YtkkpdgfllnbigaaGreat.lex
    split
    · exact hg.range _ _
    · exact hf.range _ _
  · intro a b
    unfold Go.Proofs.YtkkpdgfllnbigaaGreat.lex
    have h1 := hf.anti a.1 b.1
    by_cases h : f b.1 a.1 = 0
    · rw [if_pos (by omega), if_pos h]; exact hg.anti _ _
    · rw [if_neg (by omega), if_neg h]; exact h1
  · intro a b h
    unfold Go.Proofs.YtkkpdgfllnbigaaGreat.lex at h
    split at h
    next h0 => exact Prod.ext (hf.eq _ _ h0) (hg.eq _ _ h)
    next h0 => exact absurd h h0
  · intro a b c h1 h2
    unfold Go.Proofs.YtkkpdgfllnbigaaGreat.lex at h1 h2 ⊢
    by_cases ha : f a.1 b.1 = 0
    · rw [if_pos ha] at h1
      have ea := hf.eq _ _ ha
      rw [ea]
      by_cases hb : f b.1 c.1 = 0
      · rw [if_pos hb] at h2 ⊢; exact hg.trans _ _ _ h1 h2
      · rw [if_neg hb] at h2 ⊢; exact h2
    · rw [if_neg ha] at h1
      by_cases hb : f b.1 c.1 = 0
      · rw [if_pos hb] at h2
        have eb := hf.eq _ _ hb
        rw [← eb, if_neg ha]; exact h1
      · rw [if_neg hb] at h2
        have := hf.trans _ _ _ h1 h2
        rw [if_neg (by omega)]; exact this
theorem Ord.le {α : Type} {f : α → α → Int} (h : Ord f) {a b c : α} (h1 : f a b ≤ 0) (h2 : f b c ≤ 0) : f a c ≤ 0 := by
  rcases h.range a b with e | e | e
  · rcases h.range b c with e2 | e2 | e2
    · have := h.trans a b c e e2; omega
    · rw [← h.eq _ _ e2]; omega
    · omega
  · rw [h.eq _ _ e]; exact h2
  · omega
/-- Stamps as tuples. -/
abbrev St := Int × Int × ByteArray × Int × Int
def cmpT : St → St → Int := lex cmpI (lex cmpI (lex cmpB (lex cmpI cmpI)))
theorem ord_T : Ord cmpT := ord_I.lex (ord_I.lex (ord_B.lex (ord_I.lex ord_I)))
theorem pair_step (a b t : Int) : (if a < b then (-1 : Int) else if b < a then 1 else t) = if cmpI a b = 0 then t else cmpI a b := by
  unfold cmpI
  by_cases h1 : a < b
  · simp [h1]
  · by_cases h2 : b < a
    · simp [h1, h2]
    · simp [h1, h2]
theorem cmpS_eq (g r : Int) (l : ByteArray) (n x g' r' : Int) (l' : ByteArray) (n' x' : Int) : cmpS g r l n x g' r' l' n' x' = cmpT (g, r, l, n, x) (g', r', l', n', x') := by
  unfold cmpS prs cmpT Go.Proofs.YtkkpdgfllnbigaaGreat.lex
  simp only [cmpPairs, pair_step]
  have hz : cmpI (cmpB l l') 0 = cmpB l l' := by
    unfold cmpI
    rcases ord_B.range l l' with e | e | e <;> rw [e] <;> decide
  rw [hz]
  congr 1
  congr 1
  congr 1
  congr 1
  by_cases h : cmpI x x' = 0
  · rw [if_pos h, h]
  · rw [if_neg h]
theorem less_cb : ∀ (a b : List UInt8), Op.bytesLess a b = decide (Lib.compareBytes a b = -1)
  | [], [] => by simp [Op.bytesLess, Lib.compareBytes]
  | [], _ :: _ => by simp [Op.bytesLess, Lib.compareBytes]
  | _ :: _, [] => by simp [Op.bytesLess, Lib.compareBytes]
  | a :: l, b :: m => by
    have := less_cb l m
    rw [Lib.compareBytes, Op.bytesLess]
    by_cases h1 : a < b
    · simp [h1]
    · by_cases h2 : b < a
      · simp [h1, h2]
        intro e
        subst e
        exact absurd h2 h1
      · have e := u8_eq h1 h2
        subst e
        simp [this]
end Go.Proofs.YtkkpdgfllnbigaaGreat
