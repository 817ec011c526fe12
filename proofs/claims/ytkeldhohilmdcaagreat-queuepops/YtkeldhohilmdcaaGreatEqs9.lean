/-
  EQS6: branches, names, stamps compared.
-/
import Derived.Test.YtkeldhohilmdcaaGreatElR
import Derived.Laws.StructEq
namespace Go.Proofs.YtkeldhohilmdcaaGreat
open Go.RowKit Go.Shelf
set_option linter.unusedSimpArgs false

theorem equalIn48 (d : Nat) (r r' : Int) (l l' : ByteArray) (w : World) : (Op.equalIn (d + 2) 39 (bv r l) (bv r' l')).run Tryz.prog w = .ok (r == r' && l.toList == l'.toList) w := by
  have hS : Tryz.prog.underlying 39 = some (.struct (Tryz.prog.fieldsOf 39)) := by kernel_rfl
  have hp : Tryz.prog.stoodInHeld 39 = false := by kernel_rfl
  rw [run_equalIn_agg w (d + 1) 39 _ _ hS hp]
  simp only [Program.fieldsOf, Tryz.underlying39]
  go_simp
  by_cases h1 : r = r' <;> by_cases h2 : l.toList = l'.toList <;> simp [h1, h2]
theorem equalIn50 (d : Nat) (r r' n n' : Int) (l l' : ByteArray) (w : World) : (Op.equalIn (d + 3) 41 (nv r l n) (nv r' l' n')).run Tryz.prog w = .ok (r == r' && l.toList == l'.toList && n == n') w := by
  have hS : Tryz.prog.underlying 41 = some (.struct (Tryz.prog.fieldsOf 41)) := by kernel_rfl
  have hp : Tryz.prog.stoodInHeld 41 = false := by kernel_rfl
  have h48 := equalIn48 d r r' l l'
  rw [run_equalIn_agg w (d + 2) 41 _ _ hS hp]
  simp only [Program.fieldsOf, Tryz.underlying41]
  go_simp
  by_cases h1 : r = r' <;> by_cases h2 : l.toList = l'.toList <;> by_cases h3 : n = n' <;> simp [h1, h2, h3]
theorem equalIn52 (d : Nat) (g g' r r' n n' x x' : Int) (l l' : ByteArray) (w : World) : (Op.equalIn (d + 4) 43 (sv g r l n x) (sv g' r' l' n' x')).run Tryz.prog w = .ok (g == g' && (r == r' && l.toList == l'.toList && n == n') && x == x') w := by
  have hS : Tryz.prog.underlying 43 = some (.struct (Tryz.prog.fieldsOf 43)) := by kernel_rfl
  have hp : Tryz.prog.stoodInHeld 43 = false := by kernel_rfl
  have h50 := equalIn50 d r r' n n' l l'
  rw [run_equalIn_agg w (d + 3) 43 _ _ hS hp]
  simp only [Program.fieldsOf, Tryz.underlying43]
  go_simp
  by_cases h0 : g = g' <;> by_cases h1 : r = r' <;> by_cases h2 : l.toList = l'.toList <;> by_cases h3 : n = n' <;> by_cases h4 : x = x' <;> simp [h0, h1, h2, h3, h4]
theorem run_eq52 (g g' r r' n n' x x' : Int) (l l' : ByteArray) (w : World) : (binOp .eql 43 (sv g r l n x) (sv g' r' l' n' x')).run Tryz.prog w = .ok (.bool (g == g' && (r == r' && l.toList == l'.toList && n == n') && x == x')) w := by
  rw [run_eql_struct, show (10000 : Nat) = 9996 + 4 from rfl, equalIn52]
  rfl
theorem equalIn77 (d : Nat) (g g' r r' n n' x x' : Int) (l l' t t' : ByteArray) (w : World) : (Op.equalIn (d + 5) 53 (ev ((g, r, l, n, x), t)) (ev ((g', r', l', n', x'), t'))).run Tryz.prog w = .ok (g == g' && (r == r' && l.toList == l'.toList && n == n') && x == x' && t.toList == t'.toList) w := by
  have hS : Tryz.prog.underlying 53 = some (.struct (Tryz.prog.fieldsOf 53)) := by kernel_rfl
  have hp : Tryz.prog.stoodInHeld 53 = false := by kernel_rfl
  have h52 := equalIn52 d g g' r r' n n' x x' l l'
  rw [run_equalIn_agg w (d + 4) 53 _ _ hS hp]
  simp only [Program.fieldsOf, Tryz.underlying53]
  go_simp
  by_cases h0 : g = g' <;> by_cases h1 : r = r' <;> by_cases h2 : l.toList = l'.toList <;> by_cases h3 : n = n' <;> by_cases h4 : x = x' <;> by_cases h5 : t.toList = t'.toList <;> simp [h0, h1, h2, h3, h4, h5]
/-- Are two elements one? -/
def sameE (x y : El) : Bool := x.1.1 == y.1.1 && (x.1.2.1 == y.1.2.1 && x.1.2.2.1.toList == y.1.2.2.1.toList && x.1.2.2.2.1 == y.1.2.2.2.1) && x.1.2.2.2.2 == y.1.2.2.2.2 && x.2.toList == y.2.toList
theorem bytes_same {a b : ByteArray} : (a.toList == b.toList) = true ↔ a = b := by
  rw [beq_iff_eq, ByteArray.toList_eq, ByteArray.toList_eq]
  exact ⟨fun h => ba_eq h, fun h => by rw [h]⟩
theorem sameE_iff (x y : El) : sameE x y = true ↔ x = y := by
  obtain ⟨⟨g, r, l, n, i⟩, t⟩ := x
  obtain ⟨⟨g', r', l', n', i'⟩, t'⟩ := y
  unfold sameE
  simp only [Bool.and_eq_true, bytes_same, Prod.mk.injEq]
  simp only [beq_iff_eq]
  constructor
  · rintro ⟨⟨⟨rfl, ⟨rfl, rfl⟩, rfl⟩, rfl⟩, rfl⟩; exact ⟨⟨rfl, rfl, rfl, rfl, rfl⟩, rfl⟩
  · rintro ⟨⟨rfl, rfl, rfl, rfl, rfl⟩, rfl⟩; exact ⟨⟨⟨rfl, ⟨rfl, rfl⟩, rfl⟩, rfl⟩, rfl⟩
theorem sameE_dec (x y : El) : sameE x y = decide (x = y) := by
  rw [Bool.eq_iff_iff, sameE_iff, decide_eq_true_eq]
theorem run_eq77 (x y : El) (w : World) : (binOp .eql 53 (ev x) (ev y)).run Tryz.prog w = .ok (.bool (decide (x = y))) w := by
  rw [run_eql_struct, show (10000 : Nat) = 9995 + 5 from rfl, equalIn77, ← sameE_dec]
  rfl
theorem run_ne77 (x y : El) (w : World) : (binOp .neq 53 (ev x) (ev y)).run Tryz.prog w = .ok (.bool (!decide (x = y))) w := by
  rw [run_neq_struct, show (10000 : Nat) = 9995 + 5 from rfl, equalIn77, ← sameE_dec]
  rfl
theorem run_eq52' (s t : St) (w : World) : (binOp .eql 43 (svT s) (svT t)).run Tryz.prog w = .ok (.bool (decide (s = t))) w := by
  obtain ⟨g, r, l, n, i⟩ := s
  obtain ⟨g', r', l', n', i'⟩ := t
  have h := sameE_dec ((g, r, l, n, i), ⟨#[]⟩) ((g', r', l', n', i'), ⟨#[]⟩)
  rw [run_eq52]
  congr 2
  have : sameE ((g, r, l, n, i), ⟨#[]⟩) ((g', r', l', n', i'), ⟨#[]⟩) = (g == g' && (r == r' && l.toList == l'.toList && n == n') && i == i') := by
    unfold sameE
    simp
  rw [← this, h]
  simp
end Go.Proofs.YtkeldhohilmdcaaGreat
