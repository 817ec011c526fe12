/-
  few 7: ARE THERE FEW ENOUGH?
-/
import Derived.Test.YtckkoigghkgfdaaMapsT
namespace Go.Proofs.Ytckkoigghkgfdaa
open Go.RowKit Go.Shelf
set_option linter.unusedSimpArgs false

set_option maxHeartbeats 4000000 in
set_option maxRecDepth 100000 in
theorem few_any (a0 a1 a2 a3 a4 : Option Addr) (n0 n1 n2 n3 n4 c0 c1 c2 c3 c4 : Nat) (x y z : Bool) (w : World) :
    Calls Try.prog 7 #[.agg #[.slice a0 n0 c0, .slice a1 n1 c1, .slice a2 n2 c2, .slice a3 n3 c3, .slice a4 n4 c4, .bool x, .bool y, .bool z]] w fun e w' => e = .returned (.bool (decide (n0 ≤ 40 ∧ n1 ≤ 40 ∧ n2 ≤ 40 ∧ n3 ≤ 40 ∧ n4 ≤ 40))) ∧ Below w.heap.size w w' := by
  have HB := hide (show Below w.heap.size w (w.alloc (.cells #[.slice a0 n0 c0, .slice a1 n1 c1, .slice a2 n2 c2, .slice a3 n3 c3, .slice a4 n4 c4, .bool x, .bool y, .bool z] 25)) from (Below.refl _ w).alloc (Nat.le_refl _) _)
  by_cases h0 : n0 ≤ 40
  · by_cases h1 : n1 ≤ 40
    · by_cases h2 : n2 ≤ 40
      · by_cases h3 : n3 ≤ 40
        · by_cases h4 : n4 ≤ 40
          · rw [decide_eq_true ⟨h0, h1, h2, h3, h4⟩]
            have z0 : (n0 : Int) ≤ 40 := by omega
            have z1 : (n1 : Int) ≤ 40 := by omega
            have z2 : (n2 : Int) ≤ 40 := by omega
            have z3 : (n3 : Int) ≤ 40 := by omega
            have z4 : (n4 : Int) ≤ 40 := by omega
            clear h0 h1 h2 h3 h4
            go_enter Try.func7, Try.ntmps7
            go_wp2
            go_ret
            exact ⟨by simp, HB.out⟩
          · rw [decide_eq_false (fun h => h4 (by omega))]
            have z0 : (n0 : Int) ≤ 40 := by omega
            have z1 : (n1 : Int) ≤ 40 := by omega
            have z2 : (n2 : Int) ≤ 40 := by omega
            have z3 : (n3 : Int) ≤ 40 := by omega
            have z4 : ¬ ((n4 : Int) ≤ 40) := by omega
            have y4 : decide ((n4 : Int) ≤ 40) = false := by simpa using z4
            clear h0 h1 h2 h3 h4
            go_enter Try.func7, Try.ntmps7
            go_wp2
            go_ret
            exact ⟨by simp, HB.out⟩
        · rw [decide_eq_false (fun h => h3 (by omega))]
          have z0 : (n0 : Int) ≤ 40 := by omega
          have z1 : (n1 : Int) ≤ 40 := by omega
          have z2 : (n2 : Int) ≤ 40 := by omega
          have z3 : ¬ ((n3 : Int) ≤ 40) := by omega
          have y3 : decide ((n3 : Int) ≤ 40) = false := by simpa using z3
          clear h0 h1 h2 h3
          go_enter Try.func7, Try.ntmps7
          go_wp2
          go_ret
          exact ⟨by simp, HB.out⟩
      · rw [decide_eq_false (fun h => h2 (by omega))]
        have z0 : (n0 : Int) ≤ 40 := by omega
        have z1 : (n1 : Int) ≤ 40 := by omega
        have z2 : ¬ ((n2 : Int) ≤ 40) := by omega
        have y2 : decide ((n2 : Int) ≤ 40) = false := by simpa using z2
        clear h0 h1 h2
        go_enter Try.func7, Try.ntmps7
        go_wp2
        go_ret
        exact ⟨by simp, HB.out⟩
    · rw [decide_eq_false (fun h => h1 (by omega))]
      have z0 : (n0 : Int) ≤ 40 := by omega
      have z1 : ¬ ((n1 : Int) ≤ 40) := by omega
      have y1 : decide ((n1 : Int) ≤ 40) = false := by simpa using z1
      clear h0 h1
      go_enter Try.func7, Try.ntmps7
      go_wp2
      go_ret
      exact ⟨by simp, HB.out⟩
  · rw [decide_eq_false (fun h => h0 (by omega))]
    have z0 : ¬ ((n0 : Int) ≤ 40) := by omega
    have y0 : decide ((n0 : Int) ≤ 40) = false := by simpa using z0
    clear h0
    go_enter Try.func7, Try.ntmps7
    go_wp2
    go_ret
    exact ⟨by simp, HB.out⟩
end Go.Proofs.Ytckkoigghkgfdaa
