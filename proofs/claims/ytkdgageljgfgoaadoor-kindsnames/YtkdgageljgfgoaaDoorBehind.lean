/-
  kinds: behind 55.
-/
import Derived.Test.YtkdgageljgfgoaaDoorKeep
namespace Go.Proofs.YtkdgageljgfgoaaDoor
open Go.RowKit Go.Shelf
set_option linter.unusedSimpArgs false
attribute [local go_sem] Oper.semAt_some

/-- Is a stamp behind all of rising elements? -/
def behindB (s : St) (l : List El) : Bool := match l.getLast? with
  | none => true
  | some x => decide (cmpT x.1 s < 0)

set_option maxHeartbeats 2000000 in
set_option maxRecDepth 100000 in
theorem behind_any {w : World} (s : St) {ao : Option Addr} {c : Nat} {l : List El} (h : Re w ao l) (hl : l.length ≤ 1000000) : Calls Tryd.prog 25 #[svT s, .slice ao l.length c] w fun e w' => e = .returned (.bool (behindB s l)) ∧ Below w.heap.size w w' := by
  obtain ⟨N, hN⟩ : ∃ N, N = l.length := ⟨_, rfl⟩
  by_cases h0 : N = 0
  · have : l = [] := List.eq_nil_of_length_eq_zero (hN.symm.trans h0)
    subst this
    obtain ⟨g, r, l0, n0, i0⟩ := s
    show Calls Tryd.prog 25 #[svT _, .slice ao 0 c] w _
    unfold behindB
    dsimp only [List.getLast?_nil]
    clear hN h0 h hl
    have b1 : Below w.heap.size w (w.alloc (.cells #[.int .i64 g, .int .i64 r, .string l0, .int .i64 n0, .int .i64 i0] 46)) := (Below.refl _ w).alloc (Nat.le_refl _) _
    have HB := hide b1
    clear b1
    go_enter Tryd.func25, Tryd.ntmps25
    go_wp2
    go_quiet (fail)
    go_wp2
    go_ret
    exact ⟨rfl, below_drw HB.out _⟩
  · obtain ⟨k, hk⟩ : ∃ k, N = k + 1 := ⟨N - 1, by omega⟩
    obtain ⟨x, hx⟩ : ∃ x, l[k]? = some x := ⟨_, List.getElem?_eq_getElem (by omega)⟩
    have hB : behindB s l = decide (cmpT x.1 s < 0) := by
      have : l.getLast? = some x := by rw [List.getLast?_eq_getElem?, ← hN, hk]; simpa using hx
      unfold behindB; rw [this]
    obtain ⟨R, hR⟩ : ∃ R, R = behindB s l := ⟨_, rfl⟩
    rw [← hR, ← hN]
    have hcs := fun W => cmpStamp_grow x s W
    obtain ⟨cv, hcv⟩ : ∃ cv, cv = cmpT x.1 s := ⟨_, rfl⟩
    rw [← hcv] at hB
    simp only [← hcv] at hcs
    obtain ⟨g, r, l0, n0, i0⟩ := s
    obtain ⟨w1, hw1⟩ : ∃ w1, w1 = w.alloc (.cells #[.int .i64 g, .int .i64 r, .string l0, .int .i64 n0, .int .i64 i0] 46) := ⟨_, rfl⟩
    have m0 := heap_alloc_new w (.cells #[.int .i64 g, .int .i64 r, .string l0, .int .i64 n0, .int .i64 i0] 46)
    have b1 : Below w.heap.size w w1 := by rw [hw1]; exact (Below.refl _ w).alloc (Nat.le_refl _) _
    rw [← hw1] at m0
    obtain ⟨p0, p1, p2, p3, p4, _⟩ := blk5 m0
    have hre := h.below b1
    obtain ⟨b, off, rfl, q0, q1, q2, q3, q4, q5⟩ := hre.cells hx
    obtain ⟨⟨g', r', l', n', i'⟩, t'⟩ := x
    dsimp only at q0 q1 q2 q3 q4 q5 hcs hB
    obtain ⟨B, hBB⟩ : ∃ B, B = w.heap.size := ⟨_, rfl⟩
    rw [← hBB] at p0 p1 p2 p3 p4
    have hS : w1.cell? ⟨B, 0, none⟩ = some (.int .i64 g) ∧ w1.cell? ⟨B, 1, none⟩ = some (.int .i64 r) ∧ w1.cell? ⟨B, 2, none⟩ = some (.string l0) ∧ w1.cell? ⟨B, 3, none⟩ = some (.int .i64 n0) ∧ w1.cell? ⟨B, 4, none⟩ = some (.int .i64 i0) ∧ w1.cell? ⟨b, off + k * 6, none⟩ = some (.int .i64 g') ∧ w1.cell? ⟨b, off + k * 6 + 1, none⟩ = some (.int .i64 r') ∧ w1.cell? ⟨b, off + k * 6 + 2, none⟩ = some (.string l') ∧ w1.cell? ⟨b, off + k * 6 + 3, none⟩ = some (.int .i64 n') ∧ w1.cell? ⟨b, off + k * 6 + 4, none⟩ = some (.int .i64 i') ∧ w1.cell? ⟨b, off + k * 6 + 5, none⟩ = some (.string t') := ⟨p0, p1, p2, p3, p4, q0, q1, q2, q3, q4, q5⟩
    have hk0 : ((N : Int) == 0) = false := by rw [beq_eq_false_iff_ne]; omega
    have wk : wrap64 ((N : Int) - 1) = (k : Int) := by unfold wrap64; omega
    have wk' : IntKind.i64.wrap ((N : Int) - 1) = (k : Int) := by rw [IntKind.wrap_i64, ← wrap64, wk]
    have hlt : (k : Int) < (N : Int) := by omega
    have hlt' : k < N := by omega
    have HW := hide (And.intro hw1 (And.intro b1 (And.intro hBB (And.intro hR hB))))
    clear p0 p1 p2 p3 p4 q0 q1 q2 q3 q4 q5 m0 b1 hre h hx hR hB hN h0 hl hcv hw1 hBB hk
    go_enter Tryd.func25, Tryd.ntmps25
    go_wp2
    rw [← HW.out.1]
    have eB := HW.out.2.2.1
    simp only [← eB]
    clear eB
    go_region_held3 (fun W => W.cell? ⟨B, 0, none⟩ = some (.int .i64 g) ∧ W.cell? ⟨B, 1, none⟩ = some (.int .i64 r) ∧ W.cell? ⟨B, 2, none⟩ = some (.string l0) ∧ W.cell? ⟨B, 3, none⟩ = some (.int .i64 n0) ∧ W.cell? ⟨B, 4, none⟩ = some (.int .i64 i0) ∧ W.cell? ⟨b, off + k * 6, none⟩ = some (.int .i64 g') ∧ W.cell? ⟨b, off + k * 6 + 1, none⟩ = some (.int .i64 r') ∧ W.cell? ⟨b, off + k * 6 + 2, none⟩ = some (.string l') ∧ W.cell? ⟨b, off + k * 6 + 3, none⟩ = some (.int .i64 n') ∧ W.cell? ⟨b, off + k * 6 + 4, none⟩ = some (.int .i64 i') ∧ W.cell? ⟨b, off + k * 6 + 5, none⟩ = some (.string t')) (first | exact hS | exact keepC11 hS (drew_below _) | exact keepC11 (by assumption) (by assumption))
      (first | (go_at_call 44; refine (hcs _).mono ?_; rintro e w2 ⟨rfl, b2⟩; have b2' := b2.low))
    have HE := hide (HW.out.2.1.trans ((show Below w1.heap.size w1 w2 from (drew_below w1).trans b2').mono HW.out.2.1.size))
    go_wp2
    go_ret
    exact ⟨by rw [HW.out.2.2.2.1, HW.out.2.2.2.2]; rfl, HE.out⟩
end Go.Proofs.YtkdgageljgfgoaaDoor
