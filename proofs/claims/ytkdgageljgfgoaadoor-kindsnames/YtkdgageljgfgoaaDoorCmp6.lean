/-
  CMP6: stamps, names, branches held against each other.
-/
import Derived.Test.YtkdgageljgfgoaaDoorValid
import Derived.Deep.DeepCutAuto
import Derived.Deep.CutBlock
import Derived.Scope
namespace Go.Proofs.YtkdgageljgfgoaaDoor
open Go.RowKit Go.Shelf
set_option linter.unusedSimpArgs false

theorem exec_store_new {P : Program} {ev : Operand → Value} {x y : Operand} {b : Nat} {ty T : TypeId} {cs : List Value} {c : Array Value} {W : World} (hb : W.heap.size = b) (hx : ev x = .pointer (some ⟨b, 0, none⟩)) (hy : ev y = .agg cs.toArray) (hi : (P.info? ty).map (·.size) = some cs.length) (hc : c.size = cs.length) (h1 : ∀ v ∈ cs, v.oneCell' = true) :
    (execOp ev { dst := none, op := .store ty x y, type := T, pos := "", after := #[], guard := none }).run P (W.alloc (.cells c ty)) = .ok .skip (W.alloc (.cells cs.toArray ty)) := by
  subst hb
  unfold execOp
  simp only [hx, hy]
  rw [Sem.run_bind, run_storeAt_new W ty c cs.toArray (by rw [hi, List.size_toArray]) (by rw [hc, List.size_toArray]) (all_oneCell_toArray h1)]
  rfl
theorem blk5 {w : World} {R : Nat} {t : TypeId} {x y z u v : Value} (h : w.heap[R]? = some (.cells #[x, y, z, u, v] t (0, 0))) : w.cell? ⟨R, 0, none⟩ = some x ∧ w.cell? ⟨R, 1, none⟩ = some y ∧ w.cell? ⟨R, 2, none⟩ = some z ∧ w.cell? ⟨R, 3, none⟩ = some u ∧ w.cell? ⟨R, 4, none⟩ = some v ∧ w.frozen? ⟨R, 0, none⟩ = false ∧ w.frozen? ⟨R, 1, none⟩ = false ∧ w.frozen? ⟨R, 2, none⟩ = false ∧ w.frozen? ⟨R, 3, none⟩ = false ∧ w.frozen? ⟨R, 4, none⟩ = false := by
  refine ⟨?_, ?_, ?_, ?_, ?_, frozen_of_row w R 0 _ t h, frozen_of_row w R 1 _ t h, frozen_of_row w R 2 _ t h, frozen_of_row w R 3 _ t h, frozen_of_row w R 4 _ t h⟩
  · rw [cell_of_row w R 0 _ t (0, 0) h]; rfl
  · rw [cell_of_row w R 1 _ t (0, 0) h]; rfl
  · rw [cell_of_row w R 2 _ t (0, 0) h]; rfl
  · rw [cell_of_row w R 3 _ t (0, 0) h]; rfl
  · rw [cell_of_row w R 4 _ t (0, 0) h]; rfl
/-- Pairs held against each other, the first that differ decide. -/
def cmpPairs : List (Int × Int) → Int
  | [] => 0
  | p :: t => if p.1 < p.2 then -1 else if p.2 < p.1 then 1 else cmpPairs t
def prs (g r : Int) (l : ByteArray) (n x g' r' : Int) (l' : ByteArray) (n' x' : Int) : List (Int × Int) := [(g, g'), (r, r'), (cmpB l l', 0), (n, n'), (x, x')]
def cmpS (g r : Int) (l : ByteArray) (n x g' r' : Int) (l' : ByteArray) (n' x' : Int) : Int := cmpPairs (prs g r l n x g' r' l' n' x')
theorem exec_alloc128 {ev : Operand → Value} {T : TypeId} {w : World} :
    (execOp ev { dst := none, op := .alloc 131, type := T, pos := "", after := #[], guard := none }).run Tryd.prog w = .ok (.value (.pointer (some ⟨w.heap.size, 0, none⟩))) (w.alloc (.cells #[.int .i64 0, .int .i64 0, .int .i64 0, .int .i64 0, .int .i64 0, .int .i64 0, .int .i64 0, .int .i64 0, .int .i64 0, .int .i64 0] 131)) := by
  unfold execOp
  go_simp
  try rfl
theorem noGoto_ret {Q : Exit → Act → World → Prop} {a : Act} {w : World} (h : Q .ret a w) : Exit.noGoto Q .ret a w := h
theorem pair_cases (a b : Int) (t : List (Int × Int)) (R : Int) (h : cmpPairs ((a, b) :: t) = R) : (a < b ∧ R = -1) ∨ (¬ a < b ∧ b < a ∧ R = 1) ∨ (¬ a < b ∧ ¬ b < a ∧ cmpPairs t = R) := by
  rw [cmpPairs] at h
  split at h
  next h1 => exact .inl ⟨h1, h.symm⟩
  next h1 =>
    split at h
    next h2 => exact .inr (.inl ⟨h1, h2, h.symm⟩)
    next h2 => exact .inr (.inr ⟨h1, h2, h⟩)
theorem exec_fa27_0 {ev : Operand → Value} {x : Operand} {T : TypeId} {w : World} {b o : Nat} (hx : ev x = .pointer (some ⟨b, o, none⟩)) :
    (execOp ev { dst := none, op := .fieldAddr 46 x 0, type := T, pos := "", after := #[], guard := none }).run Tryd.prog w = .ok (.value (.pointer (some ⟨b, o + 0, none⟩))) w := by
  unfold execOp
  simp only [hx]
  go_simp
theorem exec_fa27_2 {ev : Operand → Value} {x : Operand} {T : TypeId} {w : World} {b o : Nat} (hx : ev x = .pointer (some ⟨b, o, none⟩)) :
    (execOp ev { dst := none, op := .fieldAddr 46 x 2, type := T, pos := "", after := #[], guard := none }).run Tryd.prog w = .ok (.value (.pointer (some ⟨b, o + 4, none⟩))) w := by
  unfold execOp
  simp only [hx]
  go_simp
theorem exec_fa25_0 {ev : Operand → Value} {x : Operand} {T : TypeId} {w : World} {b o : Nat} (hx : ev x = .pointer (some ⟨b, o, none⟩)) :
    (execOp ev { dst := none, op := .fieldAddr 44 x 0, type := T, pos := "", after := #[], guard := none }).run Tryd.prog w = .ok (.value (.pointer (some ⟨b, o + 0, none⟩))) w := by
  unfold execOp
  simp only [hx]
  go_simp
theorem exec_fa25_1 {ev : Operand → Value} {x : Operand} {T : TypeId} {w : World} {b o : Nat} (hx : ev x = .pointer (some ⟨b, o, none⟩)) :
    (execOp ev { dst := none, op := .fieldAddr 44 x 1, type := T, pos := "", after := #[], guard := none }).run Tryd.prog w = .ok (.value (.pointer (some ⟨b, o + 2, none⟩))) w := by
  unfold execOp
  simp only [hx]
  go_simp
theorem exec_fa23_0 {ev : Operand → Value} {x : Operand} {T : TypeId} {w : World} {b o : Nat} (hx : ev x = .pointer (some ⟨b, o, none⟩)) :
    (execOp ev { dst := none, op := .fieldAddr 42 x 0, type := T, pos := "", after := #[], guard := none }).run Tryd.prog w = .ok (.value (.pointer (some ⟨b, o + 0, none⟩))) w := by
  unfold execOp
  simp only [hx]
  go_simp
theorem exec_fa23_1 {ev : Operand → Value} {x : Operand} {T : TypeId} {w : World} {b o : Nat} (hx : ev x = .pointer (some ⟨b, o, none⟩)) :
    (execOp ev { dst := none, op := .fieldAddr 42 x 1, type := T, pos := "", after := #[], guard := none }).run Tryd.prog w = .ok (.value (.pointer (some ⟨b, o + 1, none⟩))) w := by
  unfold execOp
  simp only [hx]
  go_simp
theorem exec_load2 {ev : Operand → Value} {x : Operand} {T : TypeId} {w : World} {b o : Nat} {v : Value} (hx : ev x = .pointer (some ⟨b, o, none⟩)) (h : w.cell? ⟨b, o, none⟩ = some v) :
    (execOp ev { dst := none, op := .load 2 x, type := T, pos := "", after := #[], guard := none }).run Tryd.prog w = .ok (.value v) w := by
  unfold execOp
  simp only [hx]
  go_simp
theorem exec_load3 {ev : Operand → Value} {x : Operand} {T : TypeId} {w : World} {b o : Nat} {v : Value} (hx : ev x = .pointer (some ⟨b, o, none⟩)) (h : w.cell? ⟨b, o, none⟩ = some v) :
    (execOp ev { dst := none, op := .load 3 x, type := T, pos := "", after := #[], guard := none }).run Tryd.prog w = .ok (.value v) w := by
  unfold execOp
  simp only [hx]
  go_simp
theorem exec_load9 {ev : Operand → Value} {x : Operand} {T : TypeId} {w : World} {b o : Nat} {v : Value} (hx : ev x = .pointer (some ⟨b, o, none⟩)) (h : w.cell? ⟨b, o, none⟩ = some v) :
    (execOp ev { dst := none, op := .load 9 x, type := T, pos := "", after := #[], guard := none }).run Tryd.prog w = .ok (.value v) w := by
  unfold execOp
  simp only [hx]
  go_simp
theorem exec_build126 {ev : Operand → Value} {x y : Operand} {T : TypeId} {w : World} {a b : Int} (hx : ev x = .int .i64 a) (hy : ev y = .int .i64 b) :
    (execOp ev { dst := none, op := .build 130 #[(0, x), (1, y)], type := T, pos := "", after := #[], guard := none }).run Tryd.prog w = .ok (.value (.agg #[.int .i64 a, .int .i64 b])) w := by
  unfold execOp
  simp only [hx, hy]
  go_simp
theorem exec_build128 {ev : Operand → Value} {x0 x1 x2 x3 x4 : Operand} {T : TypeId} {w : World} {a0 b0 a1 b1 a2 b2 a3 b3 a4 b4 : Int} (h0 : ev x0 = .agg #[.int .i64 a0, .int .i64 b0]) (h1 : ev x1 = .agg #[.int .i64 a1, .int .i64 b1]) (h2 : ev x2 = .agg #[.int .i64 a2, .int .i64 b2]) (h3 : ev x3 = .agg #[.int .i64 a3, .int .i64 b3]) (h4 : ev x4 = .agg #[.int .i64 a4, .int .i64 b4]) :
    (execOp ev { dst := none, op := .build 131 #[(0, x0), (1, x1), (2, x2), (3, x3), (4, x4)], type := T, pos := "", after := #[], guard := none }).run Tryd.prog w = .ok (.value (.agg #[.int .i64 a0, .int .i64 b0, .int .i64 a1, .int .i64 b1, .int .i64 a2, .int .i64 b2, .int .i64 a3, .int .i64 b3, .int .i64 a4, .int .i64 b4])) w := by
  unfold execOp
  simp only [h0, h1, h2, h3, h4]
  go_simp
end Go.Proofs.YtkdgageljgfgoaaDoor
