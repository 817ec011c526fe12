/-
  WHICH BRANCHES, NAMES, STAMPS MAY BE: plainly, and what the program's and the document's functions answer.
  CMP6: stamps, names, branches held against each other.
  THEORY6: the order of stamps and of their keys; forms that are read as they were; plainly.
  CMP7: stamps held against each other, with what is laid and drawn on the way: old blocks stand, draws only go on.
  CMPD: branches, names, stamps held against each other by the document.
  Bytes: what the elder seat had besides.
  stamp: bytes of texts, converted.
-/
import Derived.Test.YtkkpdgfllnbigaaGreatMg7
import Derived.Deep.DeepCutAuto
import Derived.Deep.CutBlock
import Derived.Scope
import Derived.Sort.Grow
import Derived.Test.YtkkpdgfllnbigaaGreatMg2
import Derived.Lib.SlBytesConst
import Derived.Laws.BitsAllLaws
import Derived.Test.YtkkpdgfllnbigaaGreatMg6
import Derived.Lib.AppendStr
import Derived.Lib.ConvBytes
namespace Go.Proofs.YtkkpdgfllnbigaaGreat
open Go.RowKit Go.Shelf
set_option linter.unusedSimpArgs false

abbrev bv (r : Int) (l : ByteArray) : Value := .agg #[.int .i64 r, .string l]
abbrev nv (r : Int) (l : ByteArray) (n : Int) : Value := .agg #[.int .i64 r, .string l, .int .i64 n]
abbrev sv (g r : Int) (l : ByteArray) (n x : Int) : Value := .agg #[.int .i64 g, .int .i64 r, .string l, .int .i64 n, .int .i64 x]
def cntV (n : Int) : Bool := decide (1 ≤ n) && decide (n ≤ 4611686018427387904)
def branchV (r : Int) (l : ByteArray) : Bool := decide (0 ≤ r) && decide (r < 8) && labelB l.data.toList
def nameV (r : Int) (l : ByteArray) (n : Int) : Bool := branchV r l && cntV n
def stampV (g r : Int) (l : ByteArray) (n x : Int) : Bool := cntV g && nameV r l n && (decide (0 ≤ x) && decide (x < 64))

theorem counts_any (n : Int) (w : World) : Calls Tryz.prog 229 #[.int .i64 n] w fun e w' => e = .returned (.bool (cntV n)) ∧ w' = w := by
  unfold cntV
  by_cases h1 : 1 ≤ n
  · have d1 : decide (1 ≤ n) = true := by simpa using h1
    by_cases h2 : n ≤ 4611686018427387904
    · have d2 : decide (n ≤ 4611686018427387904) = true := by simpa using h2
      rw [d1, d2]
      go_enter Tryz.func229, Tryz.ntmps229
      go_wp2
      go_ret
      exact ⟨rfl, rfl⟩
    · have d2 : decide (n ≤ 4611686018427387904) = false := by simpa using h2
      rw [d1, d2]
      go_enter Tryz.func229, Tryz.ntmps229
      go_wp2
      go_ret
      exact ⟨rfl, rfl⟩
  · have d1 : decide (1 ≤ n) = false := by simpa using h1
    rw [d1, Bool.false_and]
    go_enter Tryz.func229, Tryz.ntmps229
    go_wp2
    go_ret
    exact ⟨rfl, rfl⟩

theorem below_new (w : World) (o : Obj) : Below w.heap.size w (w.alloc o) := (Below.refl _ w).alloc (Nat.le_refl _) o

set_option maxHeartbeats 1000000 in
set_option maxRecDepth 100000 in
theorem branch_any (r : Int) (l : ByteArray) (w : World) : Calls Tryz.prog 250 #[bv r l] w fun e w' => e = .returned (.bool (branchV r l)) ∧ Below w.heap.size w w' := by
  have hb := below_new w (.cells #[.int .i64 r, .string l] 39)
  have hl := fun W => label_any l W
  unfold branchV
  generalize labelB l.data.toList = LB at hl ⊢
  by_cases h1 : 0 ≤ r
  · have d1 : decide (0 ≤ r) = true := by simpa using h1
    by_cases h2 : r < 8
    · have d2 : decide (r < 8) = true := by simpa using h2
      rw [d1, d2, Bool.true_and, Bool.true_and]
      go_enter Tryz.func250, Tryz.ntmps250
      go_wp2_with (go_at_call 267; refine (hl _).mono ?_; rintro e w1 ⟨rfl, b1⟩)
      go_ret
      exact ⟨rfl, hb.trans (b1.mono hb.size)⟩
    · have d2 : decide (r < 8) = false := by simpa using h2
      rw [d2, Bool.and_false, Bool.false_and]
      go_enter Tryz.func250, Tryz.ntmps250
      go_wp2
      go_ret
      exact ⟨rfl, hb⟩
  · have d1 : decide (0 ≤ r) = false := by simpa using h1
    rw [d1, Bool.false_and, Bool.false_and]
    go_enter Tryz.func250, Tryz.ntmps250
    go_wp2
    go_ret
    exact ⟨rfl, hb⟩
set_option maxHeartbeats 1000000 in
set_option maxRecDepth 100000 in
theorem refBranch_any (r : Int) (l : ByteArray) (w : World) (hs : l.size ≤ 9223372036854775807) : Calls Tryz.prog 207 #[bv r l] w fun e w' => e = .returned (.bool (branchV r l)) ∧ Below w.heap.size w w' := by
  have hb := below_new w (.cells #[.int .i64 r, .string l] 39)
  have hl := fun W => refLabel_any l W hs
  unfold branchV
  generalize labelB l.data.toList = LB at hl ⊢
  by_cases h1 : 0 ≤ r
  · have d1 : decide (0 ≤ r) = true := by simpa using h1
    by_cases h2 : r < 8
    · have d2 : decide (r < 8) = true := by simpa using h2
      rw [d1, d2, Bool.true_and, Bool.true_and]
      go_enter Tryz.func207, Tryz.ntmps207
      go_wp2_with (go_at_call 236; refine (hl _).mono ?_; rintro e w1 ⟨rfl, rfl⟩)
      go_ret
      exact ⟨rfl, hb⟩
    · have d2 : decide (r < 8) = false := by simpa using h2
      rw [d2, Bool.and_false, Bool.false_and]
      go_enter Tryz.func207, Tryz.ntmps207
      go_wp2
      go_ret
      exact ⟨rfl, hb⟩
  · have d1 : decide (0 ≤ r) = false := by simpa using h1
    rw [d1, Bool.false_and, Bool.false_and]
    go_enter Tryz.func207, Tryz.ntmps207
    go_wp2
    go_ret
    exact ⟨rfl, hb⟩

theorem three_new (w : World) (x y z : Value) (t : TypeId) : (w.alloc (.cells #[x, y, z] t)).cell? ⟨w.heap.size, 0, none⟩ = some x ∧ (w.alloc (.cells #[x, y, z] t)).cell? ⟨w.heap.size, 1, none⟩ = some y ∧ (w.alloc (.cells #[x, y, z] t)).cell? ⟨w.heap.size, 2, none⟩ = some z := by
  have h := heap_alloc_new w (.cells #[x, y, z] t)
  exact ⟨by rw [cell_of_row _ _ 0 _ t (0, 0) h]; rfl, by rw [cell_of_row _ _ 1 _ t (0, 0) h]; rfl, by rw [cell_of_row _ _ 2 _ t (0, 0) h]; rfl⟩
theorem kept {w w' : World} {p : Addr} {v : Value} (hb : Below w.heap.size w w') (h : w.cell? p = some v) : w'.cell? p = some v := (hb.cell (World.block_lt_of_cell? _ _ h)).trans h

set_option maxHeartbeats 1000000 in
set_option maxRecDepth 100000 in
theorem name_any (r : Int) (l : ByteArray) (n : Int) (w : World) : Calls Tryz.prog 230 #[nv r l n] w fun e w' => e = .returned (.bool (nameV r l n)) ∧ Below w.heap.size w w' := by
  have hb := below_new w (.cells #[.int .i64 r, .string l, .int .i64 n] 41)
  obtain ⟨p0, p1, p2⟩ := three_new w (.int .i64 r) (.string l) (.int .i64 n) 41
  have h1 := branch_any r l (w.alloc (.cells #[.int .i64 r, .string l, .int .i64 n] 41))
  have h2 := fun W => counts_any n W
  unfold nameV
  generalize branchV r l = B at h1 ⊢
  generalize cntV n = C at h2 ⊢
  cases B with
  | true =>
    rw [Bool.true_and]
    go_enter Tryz.func230, Tryz.ntmps230
    go_wp2_with (first
      | (go_at_call 250; refine h1.mono ?_; rintro e w1 ⟨rfl, b1⟩; have q2 := kept b1 p2)
      | (go_at_call 229; refine (h2 _).mono ?_; rintro e w2 ⟨rfl, rfl⟩))
    go_ret
    exact ⟨rfl, hb.trans (b1.mono hb.size)⟩
  | false =>
    rw [Bool.false_and]
    go_enter Tryz.func230, Tryz.ntmps230
    go_wp2_with (go_at_call 250; refine h1.mono ?_; rintro e w1 ⟨rfl, b1⟩; have q2 := kept b1 p2)
    go_ret
    exact ⟨rfl, hb.trans (b1.mono hb.size)⟩
set_option maxHeartbeats 1000000 in
set_option maxRecDepth 100000 in
theorem refName_any (r : Int) (l : ByteArray) (n : Int) (w : World) (hs : l.size ≤ 9223372036854775807) : Calls Tryz.prog 169 #[nv r l n] w fun e w' => e = .returned (.bool (nameV r l n)) ∧ Below w.heap.size w w' := by
  have hb := below_new w (.cells #[.int .i64 r, .string l, .int .i64 n] 41)
  obtain ⟨p0, p1, p2⟩ := three_new w (.int .i64 r) (.string l) (.int .i64 n) 41
  have h1 := refBranch_any r l (w.alloc (.cells #[.int .i64 r, .string l, .int .i64 n] 41)) hs
  unfold nameV cntV
  generalize branchV r l = B at h1 ⊢
  cases B with
  | true =>
    rw [Bool.true_and]
    by_cases g1 : 1 ≤ n
    · have d1 : decide (1 ≤ n) = true := by simpa using g1
      by_cases g2 : n ≤ 4611686018427387904
      · have d2 : decide (n ≤ 4611686018427387904) = true := by simpa using g2
        rw [d1, d2]
        go_enter Tryz.func169, Tryz.ntmps169
        go_wp2_with (go_at_call 207; refine h1.mono ?_; rintro e w1 ⟨rfl, b1⟩; have q2 := kept b1 p2)
        go_ret
        exact ⟨rfl, hb.trans (b1.mono hb.size)⟩
      · have d2 : decide (n ≤ 4611686018427387904) = false := by simpa using g2
        rw [d2, Bool.and_false]
        go_enter Tryz.func169, Tryz.ntmps169
        go_wp2_with (go_at_call 207; refine h1.mono ?_; rintro e w1 ⟨rfl, b1⟩; have q2 := kept b1 p2)
        go_ret
        exact ⟨rfl, hb.trans (b1.mono hb.size)⟩
    · have d1 : decide (1 ≤ n) = false := by simpa using g1
      rw [d1, Bool.false_and]
      go_enter Tryz.func169, Tryz.ntmps169
      go_wp2_with (go_at_call 207; refine h1.mono ?_; rintro e w1 ⟨rfl, b1⟩; have q2 := kept b1 p2)
      go_ret
      exact ⟨rfl, hb.trans (b1.mono hb.size)⟩
  | false =>
    rw [Bool.false_and]
    go_enter Tryz.func169, Tryz.ntmps169
    go_wp2_with (go_at_call 207; refine h1.mono ?_; rintro e w1 ⟨rfl, b1⟩; have q2 := kept b1 p2)
    go_ret
    exact ⟨rfl, hb.trans (b1.mono hb.size)⟩

theorem five_new (w : World) (x y z u v : Value) (t : TypeId) : (w.alloc (.cells #[x, y, z, u, v] t)).cell? ⟨w.heap.size, 0, none⟩ = some x ∧ (w.alloc (.cells #[x, y, z, u, v] t)).cell? ⟨w.heap.size, 1, none⟩ = some y ∧ (w.alloc (.cells #[x, y, z, u, v] t)).cell? ⟨w.heap.size, 2, none⟩ = some z ∧ (w.alloc (.cells #[x, y, z, u, v] t)).cell? ⟨w.heap.size, 3, none⟩ = some u ∧ (w.alloc (.cells #[x, y, z, u, v] t)).cell? ⟨w.heap.size, 4, none⟩ = some v := by
  have h := heap_alloc_new w (.cells #[x, y, z, u, v] t)
  exact ⟨by rw [cell_of_row _ _ 0 _ t (0, 0) h]; rfl, by rw [cell_of_row _ _ 1 _ t (0, 0) h]; rfl, by rw [cell_of_row _ _ 2 _ t (0, 0) h]; rfl, by rw [cell_of_row _ _ 3 _ t (0, 0) h]; rfl, by rw [cell_of_row _ _ 4 _ t (0, 0) h]; rfl⟩

set_option maxHeartbeats 1000000 in
set_option maxRecDepth 100000 in
theorem stamp_any (g r : Int) (l : ByteArray) (n x : Int) (w : World) : Calls Tryz.prog 187 #[sv g r l n x] w fun e w' => e = .returned (.bool (stampV g r l n x)) ∧ Below w.heap.size w w' := by
  have hb := below_new w (.cells #[.int .i64 g, .int .i64 r, .string l, .int .i64 n, .int .i64 x] 43)
  obtain ⟨p0, p1, p2, p3, p4⟩ := five_new w (.int .i64 g) (.int .i64 r) (.string l) (.int .i64 n) (.int .i64 x) 43
  have h1 := counts_any g (w.alloc (.cells #[.int .i64 g, .int .i64 r, .string l, .int .i64 n, .int .i64 x] 43))
  have h2 := name_any r l n (w.alloc (.cells #[.int .i64 g, .int .i64 r, .string l, .int .i64 n, .int .i64 x] 43))
  unfold stampV
  generalize cntV g = C at h1 ⊢
  generalize nameV r l n = B at h2 ⊢
  cases C with
  | false =>
    rw [Bool.false_and, Bool.false_and]
    go_enter Tryz.func187, Tryz.ntmps187
    go_wp2_with (go_at_call 229; refine h1.mono ?_; rintro e w1 ⟨rfl, rfl⟩)
    go_ret
    exact ⟨rfl, hb⟩
  | true =>
    cases B with
    | false =>
      rw [Bool.true_and, Bool.false_and]
      go_enter Tryz.func187, Tryz.ntmps187
      go_wp2_with (first
        | (go_at_call 229; refine h1.mono ?_; rintro e w1 ⟨rfl, hw⟩; have hwx := hw.symm; clear hw; subst hwx)
        | (go_at_call 230; refine h2.mono ?_; rintro e w2 ⟨rfl, b2⟩))
      go_ret
      exact ⟨rfl, hb.trans (b2.mono hb.size)⟩
    | true =>
      rw [Bool.true_and, Bool.true_and]
      by_cases g1 : 0 ≤ x
      · have d1 : decide (0 ≤ x) = true := by simpa using g1
        by_cases g2 : x < 64
        · have d2 : decide (x < 64) = true := by simpa using g2
          rw [d1, d2]
          go_enter Tryz.func187, Tryz.ntmps187
          go_wp2_with (first
            | (go_at_call 229; refine h1.mono ?_; rintro e w1 ⟨rfl, hw⟩; have hwx := hw.symm; clear hw; subst hwx)
            | (go_at_call 230; refine h2.mono ?_; rintro e w2 ⟨rfl, b2⟩; have q4 := kept b2 p4))
          go_ret
          exact ⟨rfl, hb.trans (b2.mono hb.size)⟩
        · have d2 : decide (x < 64) = false := by simpa using g2
          rw [d2, Bool.and_false]
          go_enter Tryz.func187, Tryz.ntmps187
          go_wp2_with (first
            | (go_at_call 229; refine h1.mono ?_; rintro e w1 ⟨rfl, hw⟩; have hwx := hw.symm; clear hw; subst hwx)
            | (go_at_call 230; refine h2.mono ?_; rintro e w2 ⟨rfl, b2⟩; have q4 := kept b2 p4))
          go_ret
          exact ⟨rfl, hb.trans (b2.mono hb.size)⟩
      · have d1 : decide (0 ≤ x) = false := by simpa using g1
        rw [d1, Bool.false_and]
        go_enter Tryz.func187, Tryz.ntmps187
        go_wp2_with (first
          | (go_at_call 229; refine h1.mono ?_; rintro e w1 ⟨rfl, hw⟩; have hwx := hw.symm; clear hw; subst hwx)
          | (go_at_call 230; refine h2.mono ?_; rintro e w2 ⟨rfl, b2⟩; have q4 := kept b2 p4))
        go_ret
        exact ⟨rfl, hb.trans (b2.mono hb.size)⟩
set_option maxHeartbeats 1000000 in
set_option maxRecDepth 100000 in
theorem refStamp_any (g r : Int) (l : ByteArray) (n x : Int) (w : World) (hs : l.size ≤ 9223372036854775807) : Calls Tryz.prog 112 #[sv g r l n x] w fun e w' => e = .returned (.bool (stampV g r l n x)) ∧ Below w.heap.size w w' := by
  have hb := below_new w (.cells #[.int .i64 g, .int .i64 r, .string l, .int .i64 n, .int .i64 x] 43)
  obtain ⟨p0, p1, p2, p3, p4⟩ := five_new w (.int .i64 g) (.int .i64 r) (.string l) (.int .i64 n) (.int .i64 x) 43
  have h2 := refName_any r l n (w.alloc (.cells #[.int .i64 g, .int .i64 r, .string l, .int .i64 n, .int .i64 x] 43)) hs
  unfold stampV cntV
  generalize nameV r l n = B at h2 ⊢
  by_cases k1 : 1 ≤ g
  · have e1 : decide (1 ≤ g) = true := by simpa using k1
    by_cases k2 : g ≤ 4611686018427387904
    · have e2 : decide (g ≤ 4611686018427387904) = true := by simpa using k2
      rw [e1, e2, Bool.true_and]
      cases B with
      | false =>
        rw [Bool.true_and, Bool.false_and]
        go_enter Tryz.func112, Tryz.ntmps112
        go_wp2_with (go_at_call 169; refine h2.mono ?_; rintro e w2 ⟨rfl, b2⟩)
        go_ret
        exact ⟨rfl, hb.trans (b2.mono hb.size)⟩
      | true =>
        rw [Bool.true_and, Bool.true_and]
        by_cases g1 : 0 ≤ x
        · have d1 : decide (0 ≤ x) = true := by simpa using g1
          by_cases g2 : x < 64
          · have d2 : decide (x < 64) = true := by simpa using g2
            rw [d1, d2]
            go_enter Tryz.func112, Tryz.ntmps112
            go_wp2_with (go_at_call 169; refine h2.mono ?_; rintro e w2 ⟨rfl, b2⟩; have q4 := kept b2 p4)
            go_ret
            exact ⟨rfl, hb.trans (b2.mono hb.size)⟩
          · have d2 : decide (x < 64) = false := by simpa using g2
            rw [d2, Bool.and_false]
            go_enter Tryz.func112, Tryz.ntmps112
            go_wp2_with (go_at_call 169; refine h2.mono ?_; rintro e w2 ⟨rfl, b2⟩; have q4 := kept b2 p4)
            go_ret
            exact ⟨rfl, hb.trans (b2.mono hb.size)⟩
        · have d1 : decide (0 ≤ x) = false := by simpa using g1
          rw [d1, Bool.false_and]
          go_enter Tryz.func112, Tryz.ntmps112
          go_wp2_with (go_at_call 169; refine h2.mono ?_; rintro e w2 ⟨rfl, b2⟩; have q4 := kept b2 p4)
          go_ret
          exact ⟨rfl, hb.trans (b2.mono hb.size)⟩
    · have e2 : decide (g ≤ 4611686018427387904) = false := by simpa using k2
      rw [e2, Bool.and_false, Bool.false_and, Bool.false_and]
      go_enter Tryz.func112, Tryz.ntmps112
      go_wp2
      go_ret
      exact ⟨rfl, hb⟩
  · have e1 : decide (1 ≤ g) = false := by simpa using k1
    rw [e1, Bool.false_and, Bool.false_and, Bool.false_and]
    go_enter Tryz.func112, Tryz.ntmps112
    go_wp2
    go_ret
    exact ⟨rfl, hb⟩
end Go.Proofs.YtkkpdgfllnbigaaGreat
namespace Go.Proofs.YtkkpdgfllnbigaaGreat
open Go.RowKit Go.Shelf
set_option linter.unusedSimpArgs false

theorem exec_store_new {P : Program} {ev : Operand → Value} {x y : Operand} {b : Nat} {ty T : TypeId} {cs : List Value} {c : Array Value} {W : World} (hb : W.heap.size = b) (hx : ev x = .pointer (some ⟨b, 0, none⟩)) (hy : ev y = .agg cs.toArray) (hi : (P.info? ty).map (·.size) = some cs.length) (hc : c.size = cs.length) (h1 : ∀ v ∈ cs, v.oneCell' = true) :
    (execOp ev { dst := none, op := .store ty x y, type := T, pos := "", after := #[], guard := none }).run P (W.alloc (.cells c ty)) = .ok .skip (W.alloc (.cells cs.toArray ty)) := by
  subst hb
  unfold execOp
  simp only [hx, hy]
  rw [Sem.run_bind, run_storeAt_new W ty c cs.toArray (by rw [hi, List.size_toArray]) (by rw [hc, List.size_toArray]) (all_oneCell_toArray h1)]
  rfl
theorem blk2 {w : World} {R : Nat} {t : TypeId} {x y : Value} (h : w.heap[R]? = some (.cells #[x, y] t (0, 0))) : w.cell? ⟨R, 0, none⟩ = some x ∧ w.cell? ⟨R, 1, none⟩ = some y ∧ w.frozen? ⟨R, 0, none⟩ = false ∧ w.frozen? ⟨R, 1, none⟩ = false := by
  refine ⟨?_, ?_, frozen_of_row w R 0 _ t h, frozen_of_row w R 1 _ t h⟩
  · rw [cell_of_row w R 0 _ t (0, 0) h]; rfl
  · rw [cell_of_row w R 1 _ t (0, 0) h]; rfl
theorem set3 {w : World} {R : Nat} {t : TypeId} {x y z x' y' z' : Value} (h : w.heap[R]? = some (.cells #[x, y, z] t (0, 0))) : (((w.setCell ⟨R, 0, none⟩ x').setCell ⟨R, 1, none⟩ y').setCell ⟨R, 2, none⟩ z').heap[R]? = some (.cells #[x', y', z'] t (0, 0)) := by
  rw [heap_setCell_same _ _ _ _ t _ (heap_setCell_same _ _ _ _ t _ (heap_setCell_same _ _ _ _ t _ h))]
  simp
theorem bel3 {B : Nat} {a w : World} {R : Nat} (hR : B ≤ R) {x' y' z' : Value} (h : Below B a w) : Below B a (((w.setCell ⟨R, 0, none⟩ x').setCell ⟨R, 1, none⟩ y').setCell ⟨R, 2, none⟩ z') := (((h.setCell (p := ⟨R, 0, none⟩) hR _).setCell (p := ⟨R, 1, none⟩) hR _).setCell (p := ⟨R, 2, none⟩) hR _)
theorem blk5 {w : World} {R : Nat} {t : TypeId} {x y z u v : Value} (h : w.heap[R]? = some (.cells #[x, y, z, u, v] t (0, 0))) : w.cell? ⟨R, 0, none⟩ = some x ∧ w.cell? ⟨R, 1, none⟩ = some y ∧ w.cell? ⟨R, 2, none⟩ = some z ∧ w.cell? ⟨R, 3, none⟩ = some u ∧ w.cell? ⟨R, 4, none⟩ = some v ∧ w.frozen? ⟨R, 0, none⟩ = false ∧ w.frozen? ⟨R, 1, none⟩ = false ∧ w.frozen? ⟨R, 2, none⟩ = false ∧ w.frozen? ⟨R, 3, none⟩ = false ∧ w.frozen? ⟨R, 4, none⟩ = false := by
  refine ⟨?_, ?_, ?_, ?_, ?_, frozen_of_row w R 0 _ t h, frozen_of_row w R 1 _ t h, frozen_of_row w R 2 _ t h, frozen_of_row w R 3 _ t h, frozen_of_row w R 4 _ t h⟩
  · rw [cell_of_row w R 0 _ t (0, 0) h]; rfl
  · rw [cell_of_row w R 1 _ t (0, 0) h]; rfl
  · rw [cell_of_row w R 2 _ t (0, 0) h]; rfl
  · rw [cell_of_row w R 3 _ t (0, 0) h]; rfl
  · rw [cell_of_row w R 4 _ t (0, 0) h]; rfl
theorem set5 {w : World} {R : Nat} {t : TypeId} {x y z u v x' y' z' u' v' : Value} (h : w.heap[R]? = some (.cells #[x, y, z, u, v] t (0, 0))) : (((((w.setCell ⟨R, 0, none⟩ x').setCell ⟨R, 1, none⟩ y').setCell ⟨R, 2, none⟩ z').setCell ⟨R, 3, none⟩ u').setCell ⟨R, 4, none⟩ v').heap[R]? = some (.cells #[x', y', z', u', v'] t (0, 0)) := by
  rw [heap_setCell_same _ _ _ _ t _ (heap_setCell_same _ _ _ _ t _ (heap_setCell_same _ _ _ _ t _ (heap_setCell_same _ _ _ _ t _ (heap_setCell_same _ _ _ _ t _ h))))]
  simp
/-- Pairs held against each other, the first that differ decide. -/
def cmpPairs : List (Int × Int) → Int
  | [] => 0
  | p :: t => if p.1 < p.2 then -1 else if p.2 < p.1 then 1 else cmpPairs t
def prs (g r : Int) (l : ByteArray) (n x g' r' : Int) (l' : ByteArray) (n' x' : Int) : List (Int × Int) := [(g, g'), (r, r'), (cmpB l l', 0), (n, n'), (x, x')]
def cmpS (g r : Int) (l : ByteArray) (n x g' r' : Int) (l' : ByteArray) (n' x' : Int) : Int := cmpPairs (prs g r l n x g' r' l' n' x')
theorem noGoto_ret {Q : Exit → Act → World → Prop} {a : Act} {w : World} (h : Q .ret a w) : Exit.noGoto Q .ret a w := h
end Go.Proofs.YtkkpdgfllnbigaaGreat
namespace Go.Proofs.YtkkpdgfllnbigaaGreat
open Go.RowKit Go.Shelf
set_option linter.unusedSimpArgs false

/-- An order by -1, 0, 1. -/
structure Ord {α : Type} (f : α → α → Int) : Prop where
  range : ∀ a b, f a b = -1 ∨ f a b = 0 ∨ f a b = 1
  anti : ∀ a b, f a b = - f b a
  eq : ∀ a b, f a b = 0 → a = b
  trans : ∀ a b c, f a b = -1 → f b c = -1 → f a c = -1

theorem Ord.refl {α : Type} {f : α → α → Int} (h : Ord f) (a : α) : f a a = 0 := by have := h.anti a a; omega

theorem cb_range : ∀ l m : List UInt8, Lib.compareBytes l m = -1 ∨ Lib.compareBytes l m = 0 ∨ Lib.compareBytes l m = 1
  | [], [] => by simp [Lib.compareBytes]
  | [], _ :: _ => by simp [Lib.compareBytes]
  | _ :: _, [] => by simp [Lib.compareBytes]
  | a :: l, b :: m => by
    rw [Lib.compareBytes]
    split
    · simp
    · split
      · simp
      · exact cb_range l m

theorem cb_anti : ∀ l m : List UInt8, Lib.compareBytes l m = - Lib.compareBytes m l
  | [], [] => rfl
  | [], _ :: _ => rfl
  | _ :: _, [] => rfl
  | a :: l, b :: m => by
    rw [Lib.compareBytes, Lib.compareBytes]
    by_cases h1 : a < b
    · have h2 : ¬ b < a := fun h => absurd (UInt8.lt_iff_toNat_lt.1 h) (by have := UInt8.lt_iff_toNat_lt.1 h1; omega)
      rw [if_pos h1, if_neg h2, if_pos h1]
    · rw [if_neg h1]
      by_cases h2 : b < a
      · rw [if_pos h2, if_pos h2]; rfl
      · rw [if_neg h2, if_neg h2, if_neg h1]
        exact cb_anti l m

theorem u8_eq {a b : UInt8} (h1 : ¬ a < b) (h2 : ¬ b < a) : a = b := by
  apply UInt8.toNat_inj.1
  rw [UInt8.lt_iff_toNat_lt] at h1 h2
  omega

theorem cb_eq : ∀ l m : List UInt8, Lib.compareBytes l m = 0 → l = m
  | [], [], _ => rfl
  | [], _ :: _, h => by simp [Lib.compareBytes] at h
  | _ :: _, [], h => by simp [Lib.compareBytes] at h
  | a :: l, b :: m, h => by
    rw [Lib.compareBytes] at h
    by_cases h1 : a < b
    · rw [if_pos h1] at h; cases h
    · rw [if_neg h1] at h
      by_cases h2 : b < a
      · rw [if_pos h2] at h; cases h
      · rw [if_neg h2] at h
        rw [u8_eq h1 h2, cb_eq l m h]

theorem cb_trans : ∀ l m k : List UInt8, Lib.compareBytes l m = -1 → Lib.compareBytes m k = -1 → Lib.compareBytes l k = -1
  | [], [], _, h, _ => by simp [Lib.compareBytes] at h
  | _ :: _, [], _, h, _ => by simp [Lib.compareBytes] at h
  | _, _ :: _, [], _, h => by simp [Lib.compareBytes] at h
  | [], _ :: _, _ :: _, _, _ => rfl
  | a :: l, b :: m, c :: k, h1, h2 => by
    rw [Lib.compareBytes] at h1 h2 ⊢
    simp only [UInt8.lt_iff_toNat_lt] at h1 h2 ⊢
    by_cases ab : a.toNat < b.toNat
    · by_cases bc : b.toNat < c.toNat
      · rw [if_pos (by omega)]
      · rw [if_neg bc] at h2
        by_cases cb : c.toNat < b.toNat
        · rw [if_pos cb] at h2; cases h2
        · rw [if_pos (by omega)]
    · rw [if_neg ab] at h1
      by_cases ba : b.toNat < a.toNat
      · rw [if_pos ba] at h1; cases h1
      · rw [if_neg ba] at h1
        by_cases bc : b.toNat < c.toNat
        · rw [if_pos (by omega)]
        · rw [if_neg bc] at h2
          by_cases cb : c.toNat < b.toNat
          · rw [if_pos cb] at h2; cases h2
          · rw [if_neg cb] at h2
            rw [if_neg (by omega), if_neg (by omega)]
            exact cb_trans l m k h1 h2

theorem ba_eq {a b : ByteArray} (h : a.data.toList = b.data.toList) : a = b := ByteArray.ext (Array.toList_inj.1 h)

theorem ord_B : Ord cmpB := ⟨fun _ _ => cb_range _ _, fun _ _ => cb_anti _ _, fun _ _ h => ba_eq (cb_eq _ _ h), fun _ _ _ => cb_trans _ _ _⟩

theorem ord_I : Ord cmpI := by
  refine ⟨fun a b => ?_, fun a b => ?_, fun a b h => ?_, fun a b c h1 h2 => ?_⟩
  · unfold cmpI; split <;> (try split) <;> simp
  · unfold cmpI; split <;> split <;> (try split) <;> omega
  · unfold cmpI at h; split at h <;> (try split at h) <;> omega
  · unfold cmpI at *; split at h1 <;> (try split at h1) <;> split at h2 <;> (try split at h2) <;> (try omega) <;> (rw [if_pos (by omega)])

/-- One order, and another one behind it. -/
def lex {α β : Type} (f : α → α → Int) (g : β → β → Int) (a b : α × β) : Int := if f a.1 b.1 = 0 then g a.2 b.2 else f a.1 b.1
theorem Ord.lex {α β : Type} {f : α → α → Int} {g : β → β → Int} (hf : Ord f) (hg : Ord g) : Ord (lex f g) := by
  refine ⟨?_, ?_, ?_, ?_⟩
  · intro a b
    unfold Go.Proofs.YtkkpdgfllnbigaaGreat.lex
    split
    · exact hg.range _ _
    · exact hf.range _ _
  · intro a b
    unfold Go.Proofs.YtkkpdgfllnbigaaGreat.lex
    have h1 := hf.anti a.1 b.1
    by_cases h : f b.1 a.1 = 0
    · rw [if_pos (by omega), if_pos h]; exact hg.anti _ _
    · rw [if_neg (by omega), if_neg h]; exact h1
  · intro a b h
    unfold Go.Proofs.YtkkpdgfllnbigaaGreat.lex at h
    split at h
    next h0 => exact Prod.ext (hf.eq _ _ h0) (hg.eq _ _ h)
    next h0 => exact absurd h h0
  · intro a b c h1 h2
    unfold Go.Proofs.YtkkpdgfllnbigaaGreat.lex at h1 h2 ⊢
    by_cases ha : f a.1 b.1 = 0
    · rw [if_pos ha] at h1
      have ea := hf.eq _ _ ha
      rw [ea]
      by_cases hb : f b.1 c.1 = 0
      · rw [if_pos hb] at h2 ⊢; exact hg.trans _ _ _ h1 h2
      · rw [if_neg hb] at h2 ⊢; exact h2
    · rw [if_neg ha] at h1
      by_cases hb : f b.1 c.1 = 0
      · rw [if_pos hb] at h2
        have eb := hf.eq _ _ hb
        rw [← eb, if_neg ha]; exact h1
      · rw [if_neg hb] at h2
        have := hf.trans _ _ _ h1 h2
        rw [if_neg (by omega)]; exact this
/-- Stamps as tuples. -/
abbrev St := Int × Int × ByteArray × Int × Int
def cmpT : St → St → Int := lex cmpI (lex cmpI (lex cmpB (lex cmpI cmpI)))
theorem ord_T : Ord cmpT := ord_I.lex (ord_I.lex (ord_B.lex (ord_I.lex ord_I)))
theorem pair_step (a b t : Int) : (if a < b then (-1 : Int) else if b < a then 1 else t) = if cmpI a b = 0 then t else cmpI a b := by
  unfold cmpI
  by_cases h1 : a < b
  · simp [h1]
  · by_cases h2 : b < a
    · simp [h1, h2]
    · simp [h1, h2]
theorem cmpS_eq (g r : Int) (l : ByteArray) (n x g' r' : Int) (l' : ByteArray) (n' x' : Int) : cmpS g r l n x g' r' l' n' x' = cmpT (g, r, l, n, x) (g', r', l', n', x') := by
  unfold cmpS prs cmpT Go.Proofs.YtkkpdgfllnbigaaGreat.lex
  simp only [cmpPairs, pair_step]
  have hz : cmpI (cmpB l l') 0 = cmpB l l' := by
    unfold cmpI
    rcases ord_B.range l l' with e | e | e <;> rw [e] <;> decide
  rw [hz]
  congr 1
  congr 1
  congr 1
  congr 1
  by_cases h : cmpI x x' = 0
  · rw [if_pos h, h]
  · rw [if_neg h]
theorem less_cb : ∀ (a b : List UInt8), Op.bytesLess a b = decide (Lib.compareBytes a b = -1)
  | [], [] => by simp [Op.bytesLess, Lib.compareBytes]
  | [], _ :: _ => by simp [Op.bytesLess, Lib.compareBytes]
  | _ :: _, [] => by simp [Op.bytesLess, Lib.compareBytes]
  | a :: l, b :: m => by
    have := less_cb l m
    rw [Lib.compareBytes, Op.bytesLess]
    by_cases h1 : a < b
    · simp [h1]
    · by_cases h2 : b < a
      · simp [h1, h2]
        intro e
        subst e
        exact absurd h2 h1
      · have e := u8_eq h1 h2
        subst e
        simp [this]
end Go.Proofs.YtkkpdgfllnbigaaGreat
namespace Go.Proofs.YtkkpdgfllnbigaaGreat
open Go.RowKit Go.Shelf
set_option linter.unusedSimpArgs false

/-- Below, and draws only go on. -/
structure BelowG (B : Nat) (w w' : World) : Prop where
  low : Below B w w'
  drawn : w.drawn ≤ w'.drawn
theorem BelowG.refl (B : Nat) (w : World) : BelowG B w w := ⟨Below.refl B w, Nat.le_refl _⟩
theorem BelowG.size {B : Nat} {w w' : World} (h : BelowG B w w') : w.heap.size ≤ w'.heap.size := h.low.size
theorem BelowG.block {B : Nat} {w w' : World} (h : BelowG B w w') : ∀ k, k < B → w'.heap[k]? = w.heap[k]? := h.low.block
theorem BelowG.trans {B : Nat} {a b c : World} (h : BelowG B a b) (k : BelowG B b c) : BelowG B a c := ⟨h.low.trans k.low, Nat.le_trans h.drawn k.drawn⟩
theorem BelowG.mono {B B' : Nat} {w w' : World} (h : BelowG B w w') (hB : B' ≤ B) : BelowG B' w w' := ⟨h.low.mono hB, h.drawn⟩
theorem BelowG.alloc {B : Nat} {w w' : World} (h : BelowG B w w') (hB : B ≤ w'.heap.size) (o : Obj) : BelowG B w (w'.alloc o) := ⟨h.low.alloc hB o, h.drawn⟩
theorem BelowG.drew {B : Nat} {w w' : World} (h : BelowG B w w') : BelowG B w w'.drew := ⟨h.low.drew, Nat.le_succ_of_le h.drawn⟩
theorem BelowG.drewN {B : Nat} {w w' : World} (h : BelowG B w w') (n : Nat) : BelowG B w (w'.drewN n) := ⟨⟨h.low.os, h.low.tape, h.low.output, h.low.size, h.low.block⟩, Nat.le_trans h.drawn (Nat.le_add_right _ _)⟩
theorem belowG_new (w : World) (o : Obj) : BelowG w.heap.size w (w.alloc o) := ⟨below_new w o, Nat.le_refl _⟩
end Go.Proofs.YtkkpdgfllnbigaaGreat
namespace Go.Proofs.YtkkpdgfllnbigaaGreat
open Go.RowKit Go.Shelf
set_option linter.unusedSimpArgs false

theorem number6_any (a b : Int) (w : World) : Calls Tryz.prog 170 #[.int .i64 a, .int .i64 b] w fun e w' => e = .returned (.int .i64 (cmpI a b)) ∧ w' = w := by
  unfold cmpI
  by_cases h1 : a < b
  · rw [if_pos h1]
    go_enter Tryz.func170, Tryz.ntmps170
    go_wp2
    go_ret
    exact ⟨rfl, rfl⟩
  · rw [if_neg h1]
    by_cases h2 : b < a
    · rw [if_pos h2]
      go_enter Tryz.func170, Tryz.ntmps170
      go_wp2
      go_ret
      exact ⟨rfl, rfl⟩
    · rw [if_neg h2]
      go_enter Tryz.func170, Tryz.ntmps170
      go_wp2
      go_ret
      exact ⟨rfl, rfl⟩

/-- The first that decides. -/
def lexI (a b : Int) : Int := if a = 0 then b else a

set_option maxHeartbeats 2000000 in
set_option maxRecDepth 100000 in
theorem refCmpB_grow (r : Int) (l : ByteArray) (r' : Int) (l' : ByteArray) (w : World) (hl : l.size ≤ 9223372036854775807) : Calls Tryz.prog 208 #[bv r l, bv r' l'] w fun e w' => e = .returned (.int .i64 (lexI (cmpI r r') (cmpB l l'))) ∧ BelowG w.heap.size w w' := by
  have hb : BelowG w.heap.size w ((w.alloc (.cells #[.int .i64 r, .string l] 39)).alloc (.cells #[.int .i64 r', .string l'] 39)) := (belowG_new w _).alloc (by simp) _
  have HB := hide hb
  clear hb
  have h1 := number6_any r r'
  have h2 := fun W => refCmp_any l l' W hl
  clear hl
  generalize cmpI r r' = c1 at h1 ⊢
  generalize cmpB l l' = c2 at h2 ⊢
  unfold lexI bv
  by_cases hc : c1 = 0
  · rw [if_pos hc]
    subst hc
    go_enter Tryz.func208, Tryz.ntmps208
    go_wp2_with (first | (go_at_call 170; refine (h1 _).mono ?_; rintro e w' ⟨rfl, rfl⟩) | (go_at_call 237; refine (h2 _).mono ?_; rintro e w' ⟨rfl, n, rfl⟩))
    go_ret
    exact ⟨rfl, HB.out.drewN _⟩
  · rw [if_neg hc]
    go_enter Tryz.func208, Tryz.ntmps208
    go_wp2_with (go_at_call 170; refine (h1 _).mono ?_; rintro e w' ⟨rfl, rfl⟩)
    go_ret
    exact ⟨rfl, HB.out⟩

set_option maxHeartbeats 2000000 in
set_option maxRecDepth 100000 in
theorem refCmpN_grow (r : Int) (l : ByteArray) (n r' : Int) (l' : ByteArray) (n' : Int) (w : World) (hl : l.size ≤ 9223372036854775807) : Calls Tryz.prog 171 #[nv r l n, nv r' l' n'] w fun e w' => e = .returned (.int .i64 (lexI (lexI (cmpI r r') (cmpB l l')) (cmpI n n'))) ∧ BelowG w.heap.size w w' := by
  have hb : BelowG w.heap.size w ((w.alloc (.cells #[.int .i64 r, .string l, .int .i64 n] 41)).alloc (.cells #[.int .i64 r', .string l', .int .i64 n'] 41)) := (belowG_new w _).alloc (by simp) _
  obtain ⟨hk1, hk2⟩ := new2 w (.cells #[.int .i64 r, .string l, .int .i64 n] 41) (.cells #[.int .i64 r', .string l', .int .i64 n'] 41)
  have hz1 := (Array.getElem?_eq_some_iff.1 hk1).1
  have hz2 := (Array.getElem?_eq_some_iff.1 hk2).1
  have h2 := number6_any n n'
  have h1 : Calls Tryz.prog 208 #[bv r l, bv r' l'] ((w.alloc (.cells #[.int .i64 r, .string l, .int .i64 n] 41)).alloc (.cells #[.int .i64 r', .string l', .int .i64 n'] 41)) fun e w' => e = .returned (.int .i64 (lexI (cmpI r r') (cmpB l l'))) ∧ w'.cell? ⟨w.heap.size, 2, none⟩ = some (.int .i64 n) ∧ w'.cell? ⟨w.heap.size + 1, 2, none⟩ = some (.int .i64 n') ∧ Hid (BelowG w.heap.size w w') :=
    (refCmpB_grow r l r' l' _ hl).mono fun e w' ⟨he, hw⟩ => ⟨he, (blk3 ((hw.block _ hz1).trans hk1)).2.2.1, (blk3 ((hw.block _ hz2).trans hk2)).2.2.1, hide (hb.trans (hw.mono hb.size))⟩
  clear hb hk1 hk2 hz1 hz2 hl
  generalize lexI (cmpI r r') (cmpB l l') = c1 at h1 ⊢
  generalize cmpI n n' = c2 at h2 ⊢
  unfold bv at h1
  unfold lexI nv
  by_cases hc : c1 = 0
  · rw [if_pos hc]
    subst hc
    go_enter Tryz.func171, Tryz.ntmps171
    go_wp2_with (first | (go_at_call 208; refine h1.mono ?_; rintro e w' ⟨rfl, hc1, hc2, HW⟩) | (go_at_call 170; refine (h2 _).mono ?_; rintro e w' ⟨rfl, rfl⟩))
    go_ret
    exact ⟨rfl, HW.out⟩
  · rw [if_neg hc]
    go_enter Tryz.func171, Tryz.ntmps171
    go_wp2_with (go_at_call 208; refine h1.mono ?_; rintro e w' ⟨rfl, hc1, hc2, HW⟩)
    go_ret
    exact ⟨rfl, HW.out⟩

set_option maxHeartbeats 2000000 in
set_option maxRecDepth 100000 in
theorem refCmpS_grow (g r : Int) (l : ByteArray) (n x g' r' : Int) (l' : ByteArray) (n' x' : Int) (w : World) (hl : l.size ≤ 9223372036854775807) : Calls Tryz.prog 114 #[sv g r l n x, sv g' r' l' n' x'] w fun e w' => e = .returned (.int .i64 (lexI (lexI (cmpI g g') (lexI (lexI (cmpI r r') (cmpB l l')) (cmpI n n'))) (cmpI x x'))) ∧ BelowG w.heap.size w w' := by
  have hb : BelowG w.heap.size w ((w.alloc (.cells #[.int .i64 g, .int .i64 r, .string l, .int .i64 n, .int .i64 x] 43)).alloc (.cells #[.int .i64 g', .int .i64 r', .string l', .int .i64 n', .int .i64 x'] 43)) := (belowG_new w _).alloc (by simp) _
  obtain ⟨hk1, hk2⟩ := new2 w (.cells #[.int .i64 g, .int .i64 r, .string l, .int .i64 n, .int .i64 x] 43) (.cells #[.int .i64 g', .int .i64 r', .string l', .int .i64 n', .int .i64 x'] 43)
  have hz1 := (Array.getElem?_eq_some_iff.1 hk1).1
  have hz2 := (Array.getElem?_eq_some_iff.1 hk2).1
  have h1 := number6_any g g'
  have h3 := number6_any x x'
  have h2 : Calls Tryz.prog 171 #[nv r l n, nv r' l' n'] ((w.alloc (.cells #[.int .i64 g, .int .i64 r, .string l, .int .i64 n, .int .i64 x] 43)).alloc (.cells #[.int .i64 g', .int .i64 r', .string l', .int .i64 n', .int .i64 x'] 43)) fun e w' => e = .returned (.int .i64 (lexI (lexI (cmpI r r') (cmpB l l')) (cmpI n n'))) ∧ w'.cell? ⟨w.heap.size, 4, none⟩ = some (.int .i64 x) ∧ w'.cell? ⟨w.heap.size + 1, 4, none⟩ = some (.int .i64 x') ∧ Hid (BelowG w.heap.size w w') :=
    (refCmpN_grow r l n r' l' n' _ hl).mono fun e w' ⟨he, hw⟩ => ⟨he, (blk5 ((hw.block _ hz1).trans hk1)).2.2.2.2.1, (blk5 ((hw.block _ hz2).trans hk2)).2.2.2.2.1, hide (hb.trans (hw.mono hb.size))⟩
  have HB := hide hb
  clear hb hk1 hk2 hz1 hz2 hl
  generalize lexI (lexI (cmpI r r') (cmpB l l')) (cmpI n n') = c2 at h2 ⊢
  generalize cmpI g g' = c1 at h1 ⊢
  generalize cmpI x x' = c3 at h3 ⊢
  unfold nv at h2
  unfold lexI sv
  by_cases hc : c1 = 0
  · rw [if_pos hc]
    subst hc
    by_cases hd : c2 = 0
    · rw [if_pos hd]
      subst hd
      go_enter Tryz.func114, Tryz.ntmps114
      go_wp2_with (first | (go_at_call 170; refine (h1 _).mono ?_; rintro e w' ⟨rfl, rfl⟩) | (go_at_call 171; refine h2.mono ?_; rintro e w' ⟨rfl, hc1, hc2, HW⟩) | (go_at_call 170; refine (h3 _).mono ?_; rintro e w' ⟨rfl, rfl⟩))
      go_ret
      exact ⟨rfl, HW.out⟩
    · rw [if_neg hd]
      go_enter Tryz.func114, Tryz.ntmps114
      go_wp2_with (first | (go_at_call 170; refine (h1 _).mono ?_; rintro e w' ⟨rfl, rfl⟩) | (go_at_call 171; refine h2.mono ?_; rintro e w' ⟨rfl, hc1, hc2, HW⟩))
      go_ret
      exact ⟨rfl, HW.out⟩
  · rw [if_neg hc, if_neg hc]
    go_enter Tryz.func114, Tryz.ntmps114
    go_wp2_with (go_at_call 170; refine (h1 _).mono ?_; rintro e w' ⟨rfl, rfl⟩)
    go_ret
    exact ⟨rfl, HB.out⟩

theorem lexI_assoc (a b c : Int) : lexI (lexI a b) c = lexI a (lexI b c) := by unfold lexI; split <;> (try split) <;> simp_all
theorem lexI_zero (a : Int) : lexI a 0 = a := by unfold lexI; split <;> simp_all
theorem cmpI_flat {c : Int} (h : c = -1 ∨ c = 0 ∨ c = 1) : cmpI c 0 = c := by rcases h with rfl | rfl | rfl <;> rfl
theorem pairs_lex (a b : Int) (t : List (Int × Int)) : cmpPairs ((a, b) :: t) = lexI (cmpI a b) (cmpPairs t) := by
  rw [cmpPairs]
  unfold lexI cmpI
  dsimp only
  by_cases h1 : a < b
  · rw [if_pos h1, if_pos h1, if_neg (by decide)]
  · rw [if_neg h1, if_neg h1]
    by_cases h2 : b < a
    · rw [if_pos h2, if_pos h2, if_neg (by decide)]
    · rw [if_neg h2, if_neg h2, if_pos rfl]
/-- Both orders are one. -/
theorem cmp_lexS (g r : Int) (l : ByteArray) (n x g' r' : Int) (l' : ByteArray) (n' x' : Int) : cmpS g r l n x g' r' l' n' x' = lexI (lexI (cmpI g g') (lexI (lexI (cmpI r r') (cmpB l l')) (cmpI n n'))) (cmpI x x') := by
  unfold cmpS prs
  rw [pairs_lex, pairs_lex, pairs_lex, pairs_lex, pairs_lex, cmpPairs, lexI_zero, cmpI_flat (ord_B.range l l')]
  simp only [lexI_assoc]
end Go.Proofs.YtkkpdgfllnbigaaGreat
namespace Go.Proofs.YtkkpdgfllnbigaaGreat
open Go.RowKit

theorem conv_rd {w : World} {ao : Option Addr} {n cap : Nat} {l : List Int} (hr : Rd w ao l) (hn : l.length = n) : (convert 121 9 (.slice ao n cap)).run Tryz.prog w = .ok (.string (strOfNums l)) w := by
  cases ao with
  | none =>
    have := hr.1 rfl
    subst this
    exact run_convert_bytes_nil w 121 5 Tryz.underlying121 Tryz.underlying5 _ _ 9 Tryz.underlying9
  | some a =>
    cases l with
    | nil =>
      simp at hn
      subst hn
      rw [run_convert_bytes_string w 121 9 5 _ 0 cap Tryz.underlying121 Tryz.underlying5 Tryz.underlying9, run_bytesToString w a 0 cap [] (by simp [loadCells, loadCellsFrom])]
      rfl
    | cons b l =>
      obtain ⟨ab, off, ha, _⟩ := hr.at (k := 0) (b := b) rfl
      cases ha
      refine run_convert_bytes_arg w 121 5 Tryz.underlying121 Tryz.underlying5 ab off n cap (b :: l) hn ?_ 9 Tryz.underlying9
      intro i hi
      have := hr.2 _ rfl i (.int .u8 ((b :: l).getD i 0)) (by rw [u8s_get, List.getD, List.getElem?_eq_getElem (by omega)]; rfl)
      rwa [add_lit] at this
end Go.Proofs.YtkkpdgfllnbigaaGreat
namespace Go.Proofs.YtkkpdgfllnbigaaGreat
open Go.RowKit Go.Shelf Go.Sort
set_option linter.unusedSimpArgs false

def ints (l : List UInt8) : List Int := l.map (fun b => (b.toNat : Int))
theorem ints_length (l : List UInt8) : (ints l).length = l.length := by simp [ints]
theorem ints_size (s : ByteArray) : (ints s.data.toList).length = s.size := by rw [ints_length, ← Lib.size_eq]
/-- The bytes of a text, in new memory. -/
theorem conv_str (s : ByteArray) (W : World) : ∃ c W', (convert 9 121 (.string s)).run Tryz.prog W = .ok (.slice (some ⟨W.heap.size, 0, none⟩) s.size c) W' ∧ Rd W' (some ⟨W.heap.size, 0, none⟩) (ints s.data.toList) ∧ Below W.heap.size W W' := by
  refine ⟨_, _, Lib.run_convert_string_bytes (P := Tryz.prog) W 9 121 5 s Tryz.underlying9 Tryz.underlying121 Tryz.underlying5, ⟨by simp, ?_⟩, ⟨rfl, rfl, rfl, by rw [Lib.bytesWorld_size]; omega, fun k hk => Lib.bytesWorld_at_old W 5 s k hk⟩⟩
  intro a ha j u hj
  cases ha
  rw [u8s_get] at hj
  have hl : s.data.toList.length = s.size := (Lib.size_eq s).symm
  have hjl : j < s.size := by
    cases hg : (ints s.data.toList)[j]? with
    | none => rw [hg] at hj; cases hj
    | some v => have := (List.getElem?_eq_some_iff.1 hg).1; rw [ints_size] at this; exact this
  rw [add_lit, Nat.zero_add, Lib.bytesWorld_cell W 5 s j hjl, ← hj]
  simp [ints, List.getD, List.getElem?_eq_getElem (show j < s.data.toList.length by omega)]
theorem meant_iff (V : Bool) (t s e : ByteArray) : ((if V then (0 : Int) else 2) = 0 ∧ (if V then t else e) = s) ↔ (V && decide (t = s)) = true := by
  cases V <;> simp
theorem set3_other {w : World} {R b : Nat} {k : Nat} {x y z : Value} (h : R ≠ b) : (((w.setCell ⟨R, 0, none⟩ x).setCell ⟨R, 1, none⟩ y).setCell ⟨R, 2, none⟩ z).cell? ⟨b, k, none⟩ = w.cell? ⟨b, k, none⟩ := by
  refine World.cell?_of_block ?_
  rw [Below.heap_setCell _ _ _ _ (Ne.symm h), Below.heap_setCell _ _ _ _ (Ne.symm h), Below.heap_setCell _ _ _ _ (Ne.symm h)]
end Go.Proofs.YtkkpdgfllnbigaaGreat
