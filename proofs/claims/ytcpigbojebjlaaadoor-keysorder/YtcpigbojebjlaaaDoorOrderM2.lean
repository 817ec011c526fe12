/-
  OPERATIONS of KeysOrder's last drawn region.
-/
import Derived.Test.YtcpigbojebjlaaaDoorOrderM
namespace Go.Proofs.YtcpigbojebjlaaaDoor
open Go.RowKit Go.Shelf
set_option linter.unusedSimpArgs false
theorem exec_load23 {ev : Operand → Value} {x : Operand} {T : TypeId} {b o : Nat} {v : Value} {w : World} (hx : ev x = .pointer (some ⟨b, o, none⟩)) (hc : w.cell? ⟨b, o, none⟩ = some v) :
    (execOp ev { dst := none, op := .load 23 x, type := T, pos := "", after := #[], guard := none }).run Tryd.prog w = .ok (.value v) w := by
  unfold execOp
  simp only [hx]
  go_simp
theorem exec_load9 {ev : Operand → Value} {x : Operand} {T : TypeId} {b o : Nat} {v : Value} {w : World} (hx : ev x = .pointer (some ⟨b, o, none⟩)) (hc : w.cell? ⟨b, o, none⟩ = some v) :
    (execOp ev { dst := none, op := .load 9 x, type := T, pos := "", after := #[], guard := none }).run Tryd.prog w = .ok (.value v) w := by
  unfold execOp
  simp only [hx]
  go_simp
theorem exec_load45 {ev : Operand → Value} {x : Operand} {T : TypeId} {b o : Nat} {v : Value} {w : World} (hx : ev x = .pointer (some ⟨b, o, none⟩)) (hc : w.cell? ⟨b, o, none⟩ = some v) :
    (execOp ev { dst := none, op := .load 45 x, type := T, pos := "", after := #[], guard := none }).run Tryd.prog w = .ok (.value v) w := by
  unfold execOp
  simp only [hx]
  go_simp
theorem exec_field {ev : Operand → Value} {x : Operand} {T : TypeId} {b : Nat} {w : World} (hx : ev x = .pointer (some ⟨b, 0, none⟩)) :
    (execOp ev { dst := none, op := .fieldAddr 47 x 0, type := T, pos := "", after := #[], guard := none }).run Tryd.prog w = .ok (.value (.pointer (some ⟨b, 0, none⟩))) w ∧
    (execOp ev { dst := none, op := .fieldAddr 47 x 1, type := T, pos := "", after := #[], guard := none }).run Tryd.prog w = .ok (.value (.pointer (some ⟨b, 1, none⟩))) w ∧
    (execOp ev { dst := none, op := .fieldAddr 47 x 2, type := T, pos := "", after := #[], guard := none }).run Tryd.prog w = .ok (.value (.pointer (some ⟨b, 2, none⟩))) w := by
  refine ⟨?_, ?_, ?_⟩ <;> (unfold execOp; simp only [hx]; go_simp)
theorem exec_alloc47 {ev : Operand → Value} {T : TypeId} {w : World} :
    (execOp ev { dst := none, op := .alloc 47, type := T, pos := "", after := #[], guard := none }).run Tryd.prog w = .ok (.value (.pointer (some ⟨w.heap.size, 0, none⟩))) (w.alloc (.cells #[.slice none 0 0, .int .i64 0, .string ⟨#[]⟩] 47)) := by
  unfold execOp
  go_simp
theorem exec_slice1 {ev : Operand → Value} {x : Operand} {T : TypeId} {s : ByteArray} {w : World} (hx : ev x = .string s) :
    (execOp ev { dst := none, op := .buildSlice 23 1 #[(0, x)], type := T, pos := "", after := #[], guard := none }).run Tryd.prog w = .ok (.value (.slice (some ⟨w.heap.size, 0, none⟩) 1 1)) (w.alloc (.cells #[.string s] 9)) := by
  unfold execOp
  simp [hx, go_sem]
theorem exec_build47 {ev : Operand → Value} {x y z : Operand} {T : TypeId} {a : Option Addr} {n c : Nat} {k : Int} {s : ByteArray} {w : World} (hx : ev x = .slice a n c) (hy : ev y = .int .i64 k) (hz : ev z = .string s) :
    (execOp ev { dst := none, op := .build 47 #[(0, x), (1, y), (2, z)], type := T, pos := "", after := #[], guard := none }).run Tryd.prog w = .ok (.value (.agg #[.slice a n c, .int .i64 k, .string s])) w := by
  unfold execOp
  simp [hx, hy, hz, go_sem]
theorem exec_store47 {ev : Operand → Value} {x y : Operand} {T : TypeId} {b : Nat} {a : Option Addr} {n c : Nat} {k : Int} {s : ByteArray} {u' v' t' : Value} {w : World} (hx : ev x = .pointer (some ⟨b, 0, none⟩)) (hy : ev y = .agg #[.slice a n c, .int .i64 k, .string s])
    (h0 : w.cell? ⟨b, 0, none⟩ = some u') (h1 : w.cell? ⟨b, 1, none⟩ = some v') (h2 : w.cell? ⟨b, 2, none⟩ = some t') (f0 : w.frozen? ⟨b, 0, none⟩ = false) (f1 : w.frozen? ⟨b, 1, none⟩ = false) (f2 : w.frozen? ⟨b, 2, none⟩ = false) :
    (execOp ev { dst := none, op := .store 47 x y, type := T, pos := "", after := #[], guard := none }).run Tryd.prog w = .ok .skip (((w.setCell ⟨b, 0, none⟩ (.slice a n c)).setCell ⟨b, 1, none⟩ (.int .i64 k)).setCell ⟨b, 2, none⟩ (.string s)) := by
  unfold execOp
  simp only [hx, hy]
  go_simp
end Go.Proofs.YtcpigbojebjlaaaDoor
