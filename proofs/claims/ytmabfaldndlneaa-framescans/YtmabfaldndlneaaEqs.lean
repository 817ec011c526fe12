/-
  ARRAYS OF NINE BYTES: whether two are the same.
-/
import Derived.Test.YtmabfaldndlneaaFr
namespace Go.Proofs.Ytmabfaldndlneaa
open Go.RowKit

theorem list9 {l : List Int} (h : l.length = 9) : ∃ a0 a1 a2 a3 a4 a5 a6 a7 a8, l = [a0, a1, a2, a3, a4, a5, a6, a7, a8] := by
  match l, h with
  | [a0, a1, a2, a3, a4, a5, a6, a7, a8], _ => exact ⟨a0, a1, a2, a3, a4, a5, a6, a7, a8, rfl⟩

set_option maxHeartbeats 1000000 in
theorem equal53 (l m : List Int) (hl : l.length = 9) (hm : m.length = 9) (w : World) : (Op.equalIn 10000 53 (.agg (u8s l).toArray) (.agg (u8s m).toArray)).run Try.prog w = .ok (decide (l = m)) w := by
  obtain ⟨a0, a1, a2, a3, a4, a5, a6, a7, a8, rfl⟩ := list9 hl
  obtain ⟨b0, b1, b2, b3, b4, b5, b6, b7, b8, rfl⟩ := list9 hm
  have h53 : Try.prog.underlying 53 = some (.array 9 5) := by kernel_rfl
  have h5 := Try.underlying5
  have a5' := Try.isAgg5
  have z5 := Try.sizeOf5
  simp only [u8s, List.map_cons, List.map_nil]
  rw [show (10000 : Nat) = 9999 + 1 from rfl, Op.equalIn]
  simp only [Sem.run_bind, run_underlying h53, Result.andThen_ok]
  simp only [Std.Legacy.Range.forIn_eq_forIn_range', Std.Legacy.Range.size, Nat.sub_zero, Nat.add_sub_cancel, Nat.div_one, List.range'_succ, List.range'_zero, List.forIn_cons, List.forIn_nil]
  go_simp
  by_cases h0 : a0 = b0
  · subst h0
    by_cases h1 : a1 = b1
    · subst h1
      by_cases h2 : a2 = b2
      · subst h2
        by_cases h3 : a3 = b3
        · subst h3
          by_cases h4 : a4 = b4
          · subst h4
            by_cases h5 : a5 = b5
            · subst h5
              by_cases h6 : a6 = b6
              · subst h6
                by_cases h7 : a7 = b7
                · subst h7
                  by_cases h8 : a8 = b8
                  · subst h8
                    simp [go_sem]
                  · simp [h8, go_sem]
                · simp [h7, go_sem]
              · simp [h6, go_sem]
            · simp [h5, go_sem]
          · simp [h4, go_sem]
        · simp [h3, go_sem]
      · simp [h2, go_sem]
    · simp [h1, go_sem]
  · simp [h0, go_sem]
theorem neq53 (l m : List Int) (hl : l.length = 9) (hm : m.length = 9) (w : World) : (binOp .neq 53 (.agg (u8s l).toArray) (.agg (u8s m).toArray)).run Try.prog w = .ok (.bool (!decide (l = m))) w := by
  rw [run_neq_struct, equal53 l m hl hm]
  rfl
end Go.Proofs.Ytmabfaldndlneaa
