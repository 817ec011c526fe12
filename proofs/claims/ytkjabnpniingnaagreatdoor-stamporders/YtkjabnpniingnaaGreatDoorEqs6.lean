/-
  EQS6: branches, names, stamps compared.
-/
import Derived.Test.YtkjabnpniingnaaGreatDoorValid
import Derived.Laws.StructEq
namespace Go.Proofs.YtkjabnpniingnaaGreatDoor
open Go.RowKit Go.Shelf
set_option linter.unusedSimpArgs false

theorem equalIn23 (d : Nat) (r r' : Int) (l l' : ByteArray) (w : World) : (Op.equalIn (d + 2) 23 (bv r l) (bv r' l')).run Tryz.prog w = .ok (r == r' && l.toList == l'.toList) w := by
  have hS : Tryz.prog.underlying 23 = some (.struct (Tryz.prog.fieldsOf 23)) := by kernel_rfl
  have hp : Tryz.prog.stoodInHeld 23 = false := by kernel_rfl
  rw [run_equalIn_agg w (d + 1) 23 _ _ hS hp]
  simp only [Program.fieldsOf, Tryz.underlying23]
  go_simp
  by_cases h1 : r = r' <;> by_cases h2 : l.toList = l'.toList <;> simp [h1, h2]
theorem equalIn25 (d : Nat) (r r' n n' : Int) (l l' : ByteArray) (w : World) : (Op.equalIn (d + 3) 25 (nv r l n) (nv r' l' n')).run Tryz.prog w = .ok (r == r' && l.toList == l'.toList && n == n') w := by
  have hS : Tryz.prog.underlying 25 = some (.struct (Tryz.prog.fieldsOf 25)) := by kernel_rfl
  have hp : Tryz.prog.stoodInHeld 25 = false := by kernel_rfl
  have h23 := equalIn23 d r r' l l'
  rw [run_equalIn_agg w (d + 2) 25 _ _ hS hp]
  simp only [Program.fieldsOf, Tryz.underlying25]
  go_simp
  by_cases h1 : r = r' <;> by_cases h2 : l.toList = l'.toList <;> by_cases h3 : n = n' <;> simp [h1, h2, h3]
theorem equalIn27 (d : Nat) (g g' r r' n n' x x' : Int) (l l' : ByteArray) (w : World) : (Op.equalIn (d + 4) 27 (sv g r l n x) (sv g' r' l' n' x')).run Tryz.prog w = .ok (g == g' && (r == r' && l.toList == l'.toList && n == n') && x == x') w := by
  have hS : Tryz.prog.underlying 27 = some (.struct (Tryz.prog.fieldsOf 27)) := by kernel_rfl
  have hp : Tryz.prog.stoodInHeld 27 = false := by kernel_rfl
  have h25 := equalIn25 d r r' n n' l l'
  rw [run_equalIn_agg w (d + 3) 27 _ _ hS hp]
  simp only [Program.fieldsOf, Tryz.underlying27]
  go_simp
  by_cases h0 : g = g' <;> by_cases h1 : r = r' <;> by_cases h2 : l.toList = l'.toList <;> by_cases h3 : n = n' <;> by_cases h4 : x = x' <;> simp [h0, h1, h2, h3, h4]
theorem run_eq23 (r r' : Int) (l l' : ByteArray) (w : World) : (binOp .eql 23 (bv r l) (bv r' l')).run Tryz.prog w = .ok (.bool (r == r' && l.toList == l'.toList)) w := by
  rw [run_eql_struct, show (10000 : Nat) = 9998 + 2 from rfl, equalIn23]
  rfl
theorem run_eq25 (r r' n n' : Int) (l l' : ByteArray) (w : World) : (binOp .eql 25 (nv r l n) (nv r' l' n')).run Tryz.prog w = .ok (.bool (r == r' && l.toList == l'.toList && n == n')) w := by
  rw [run_eql_struct, show (10000 : Nat) = 9997 + 3 from rfl, equalIn25]
  rfl
theorem run_eq27 (g g' r r' n n' x x' : Int) (l l' : ByteArray) (w : World) : (binOp .eql 27 (sv g r l n x) (sv g' r' l' n' x')).run Tryz.prog w = .ok (.bool (g == g' && (r == r' && l.toList == l'.toList && n == n') && x == x')) w := by
  rw [run_eql_struct, show (10000 : Nat) = 9996 + 4 from rfl, equalIn27]
  rfl
end Go.Proofs.YtkjabnpniingnaaGreatDoor
