/-
  counter's small functions: Add 12, Delta 13, cmp.isNaN 23, cmp.Compare 21, whole 18.
-/
import Derived.Test.YtlhfkdgdbjinoaaNs
namespace Go.Proofs.Ytlhfkdgdbjinoaa
open Go.RowKit Go.Shelf
set_option linter.unusedSimpArgs false
attribute [local go_sem] Oper.semAt_some

theorem add_any (n b : Int) (w : World) : Calls Try.prog 12 #[.int .i64 n, .int .i64 b] w fun e w' => e = .returned (.int .i64 (wrap64 (n + b))) ∧ w' = w := by
  go_enter Try.func12, Try.ntmps12
  go_wp2
  go_ret
  exact ⟨rfl, rfl⟩
theorem delta_any (b n : Int) (w : World) : Calls Try.prog 13 #[.int .i64 b, .int .i64 n] w fun e w' => e = .returned (.int .i64 (wrap64 (n - b))) ∧ w' = w := by
  go_enter Try.func13, Try.ntmps13
  go_wp2
  go_ret
  exact ⟨rfl, rfl⟩
theorem nan_any (n : Int) (w : World) : Calls Try.prog 23 #[.int .i64 n] w fun e w' => e = .returned (.bool false) ∧ w' = w := by
  go_enter Try.func23, Try.ntmps23
  go_wp2
  go_ret
  exact ⟨by simp, rfl⟩
/-- The sign. -/
def sg (n : Int) : Int := if n < 0 then -1 else if 0 < n then 1 else 0
theorem cmp_any (n : Int) (w : World) : Calls Try.prog 21 #[.int .i64 n, .int .i64 0] w fun e w' => e = .returned (.int .i64 (sg n)) ∧ w' = w := by
  have h1 := nan_any n w
  have h2 := nan_any 0 w
  have hd : (n < 0 ∧ sg n = -1) ∨ (¬ n < 0 ∧ 0 < n ∧ sg n = 1) ∨ (¬ n < 0 ∧ ¬ 0 < n ∧ sg n = 0) := by
    unfold sg
    by_cases a : n < 0
    · simp [a]
    · by_cases b : 0 < n
      · simp [a, b]
      · simp [a, b]
  rcases hd with ⟨hn, hs⟩ | ⟨hn, hp, hs⟩ | ⟨hn, hp, hs⟩
  all_goals
    rw [hs]; clear hs
    go_enter Try.func21, Try.ntmps21
    go_wp2_with (go_at_call 23; (first | (refine h1.mono ?_; clear h1) | refine h2.mono ?_); rintro e w' ⟨rfl, rfl⟩)
    go_ret
    exact ⟨rfl, rfl⟩
theorem whole_any (x p : Int) (w : World) : Calls Try.prog 18 #[.int .i64 x, .int .i64 p] w fun e w' => e = .returned (.int .i64 (if 64 < p then 0 else x)) ∧ w' = w := by
  by_cases hp : 64 < p
  · go_enter Try.func18, Try.ntmps18
    go_wp2
    go_ret
    exact ⟨by simp [hp], rfl⟩
  · go_enter Try.func18, Try.ntmps18
    go_wp2
    go_ret
    exact ⟨by simp [hp], rfl⟩
end Go.Proofs.Ytlhfkdgdbjinoaa
