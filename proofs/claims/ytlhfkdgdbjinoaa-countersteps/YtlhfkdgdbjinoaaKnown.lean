/-
  The law's known 6: the chapter's rows.
-/
import Derived.Test.YtlhfkdgdbjinoaaSplitD
namespace Go.Proofs.Ytlhfkdgdbjinoaa
open Go.RowKit Go.Shelf
set_option linter.unusedSimpArgs false
attribute [local go_sem] Oper.semAt_some

theorem Nd.here {w : World} {B : Nat} {l : List Int} {t : TypeId} {fr : Nat × Nat} (h : w.heap[B]? = some (.cells (n64s l).toArray t fr)) : Nd w (some ⟨B, 0, none⟩) l :=
  ⟨by simp, fun a ha j u hj => by
    cases ha
    rw [add_lit, cell_of_row _ _ (0 + j) (n64s l).toArray t fr h, Nat.zero_add]
    simpa using hj⟩

set_option maxHeartbeats 2000000 in
set_option maxRecDepth 100000 in
theorem known_any (w : World) : Calls Try.prog 6 #[] w fun e w' => e = .returned (.bool true) ∧ Below w.heap.size w w' := by
  have k1 := add_any 9223372036854775807 1 w
  have k2 := sum_any (c := 0) (Nd.nil w none) (by simp)
  have k3 := fun W => delta_any 5 3 W
  have k4 := fun W : World => three_any (w := W) 10 13 9
  have k5 := fun W : World => many_any (b := 10) (c := 3) (Nd.lit W [13, 9, 10] 2 (0, 0)) (by simp)
  have k6 := fun W : World => split_yes (w := W) (n := -7) (p := 3) (by omega) (by omega) (by omega)
  have k8 := fun W : World => split_no (w := W) (n := 1) (p := 0) (by omega)
  rw [show wrap64 (9223372036854775807 + 1) = -9223372036854775808 by decide +kernel] at k1
  simp only [show wrap64 (3 - 5) = -2 by decide +kernel, show manyN 10 10 [13, 9] = 12 by decide +kernel, show manyN 10 10 [13, 9, 10] = 12 by decide +kernel, show sumN 0 [] = 0 by decide +kernel, show splitL (-7) 3 = [-3, -2, -2] by decide +kernel, n64s, List.map_cons, List.map_nil, List.length_cons, List.length_nil, Nat.reduceAdd] at k2 k3 k4 k5 k6
  have k7 : ∀ (W W' : World) (a : Option Addr) (c : Nat), Nd W a [-3, -2, -2] → W' = W.alloc (.cells (n64s [-3, -2, -2]).toArray 2) → Calls Try.prog 9 #[.slice a 3 c, .slice (some ⟨W.heap.size, 0, none⟩) 3 3] W' fun e w' => e = .returned (.bool true) ∧ Below w.heap.size W' w' := by
    rintro W W' a c h rfl
    have := refSame_any (c := c) (d := 3) (h.below ((Below.refl _ W).alloc (Nat.le_refl _) (.cells (n64s [-3, -2, -2]).toArray 2))) (Nd.lit W [-3, -2, -2] 2 (0, 0)) (by simp)
    refine this.mono ?_
    rintro e w' ⟨rfl, n, rfl⟩
    exact ⟨rfl, ⟨rfl, rfl, rfl, Nat.le_refl _, fun _ _ => rfl⟩⟩
  simp only [n64s, List.map_cons, List.map_nil] at k7
  go_enter Try.func6, Try.ntmps6
  go_wp2_with (first
    | (go_at_call 12; refine k1.mono ?_; rintro e w' ⟨rfl, rfl⟩; clear k1)
    | (go_at_call 7; refine k2.mono ?_; rintro e w2 ⟨rfl, b2⟩; clear k2)
    | (go_at_call 13; refine (k3 _).mono ?_; rintro e w' ⟨rfl, rfl⟩; clear k3)
    | (go_at_call 14; refine (k4 _).mono ?_; rintro e w4 ⟨rfl, b4⟩; clear k4)
    | (go_at_call 8; refine (k5 _).mono ?_; rintro e w' ⟨rfl, rfl⟩; clear k5)
    | (go_at_call 16; refine (k6 _).mono ?_; rintro e w6 ⟨a6, c6, rfl, o6, n6, b6⟩; clear k6)
    | (go_at_call 9; refine (k7 _ _ _ _ o6.rd rfl).mono ?_; rintro e w7 ⟨rfl, b7⟩; clear k7)
    | (go_at_call 16; refine (k8 _).mono ?_; rintro e w' ⟨rfl, rfl⟩; clear k8))
  go_ret
  have h4 := b2.trans (b4.mono b2.size)
  have h5 := h4.alloc h4.size (.cells #[.int .i64 13, .int .i64 9, .int .i64 10] 2)
  have h6 := h5.trans (b6.mono h5.size)
  have h7 := h6.alloc h6.size (.cells #[.int .i64 (-3), .int .i64 (-2), .int .i64 (-2)] 2)
  exact ⟨rfl, h7.trans b7⟩
end Go.Proofs.Ytlhfkdgdbjinoaa
