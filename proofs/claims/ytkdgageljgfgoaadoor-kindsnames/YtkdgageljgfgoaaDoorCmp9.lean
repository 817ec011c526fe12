/-
  kinds: cmpStamp 78, cmpElements 80, behind 55.
-/
import Derived.Test.YtkdgageljgfgoaaDoorElS
namespace Go.Proofs.YtkdgageljgfgoaaDoor
open Go.RowKit Go.Shelf Go.Sort
set_option linter.unusedSimpArgs false
attribute [local go_sem] Oper.semAt_some

/-- The order of elements. -/
def cmpE (x y : El) : Int := cmpT x.1 y.1
theorem cmpT_S (s t : St) : cmpS s.1 s.2.1 s.2.2.1 s.2.2.2.1 s.2.2.2.2 t.1 t.2.1 t.2.2.1 t.2.2.2.1 t.2.2.2.2 = cmpT s t := cmpS_eq _ _ _ _ _ _ _ _ _ _
theorem cmpStamp_grow (x : El) (s : St) (w : World) : Calls Tryd.prog 44 #[ev x, svT s] w fun e w' => e = .returned (.int .i64 (cmpT x.1 s)) ∧ BelowG w.heap.size w w' := by
  obtain ⟨⟨g, r, l, n, i⟩, t⟩ := x
  obtain ⟨g', r', l', n', i'⟩ := s
  have hc := fun W : World => cmpS_grow g r l n i g' r' l' n' i' W
  rw [← cmpT_S]
  dsimp only
  generalize cmpS g r l n i g' r' l' n' i' = R at *
  have b1 : BelowG w.heap.size w ((w.alloc (.cells #[.int .i64 g, .int .i64 r, .string l, .int .i64 n, .int .i64 i, .string t] 58)).alloc (.cells #[.int .i64 g', .int .i64 r', .string l', .int .i64 n', .int .i64 i'] 46)) := ((BelowG.refl _ w).alloc (Nat.le_refl _) _).alloc (by simp) _
  have HB := hide b1
  clear b1
  go_enter Tryd.func44, Tryd.ntmps44
  go_wp2_with (go_at_call 61; refine (hc _).mono ?_; rintro e w2 ⟨rfl, b2⟩)
  go_ret
  exact ⟨rfl, HB.out.trans (b2.mono HB.out.size)⟩
theorem cmpElements_grow (x y : El) (w : World) : Calls Tryd.prog 50 #[ev x, ev y] w fun e w' => e = .returned (.int .i64 (cmpE x y)) ∧ BelowG w.heap.size w w' := by
  obtain ⟨⟨g, r, l, n, i⟩, t⟩ := x
  obtain ⟨⟨g', r', l', n', i'⟩, t'⟩ := y
  have hc := fun W : World => cmpS_grow g r l n i g' r' l' n' i' W
  unfold cmpE
  rw [← cmpT_S]
  dsimp only
  generalize cmpS g r l n i g' r' l' n' i' = R at *
  have b1 : BelowG w.heap.size w ((w.alloc (.cells #[.int .i64 g, .int .i64 r, .string l, .int .i64 n, .int .i64 i, .string t] 58)).alloc (.cells #[.int .i64 g', .int .i64 r', .string l', .int .i64 n', .int .i64 i', .string t'] 58)) := ((BelowG.refl _ w).alloc (Nat.le_refl _) _).alloc (by simp) _
  have HB := hide b1
  clear b1
  go_enter Tryd.func50, Tryd.ntmps50
  go_wp2_with (go_at_call 61; refine (hc _).mono ?_; rintro e w2 ⟨rfl, b2⟩)
  go_ret
  exact ⟨rfl, HB.out.trans (b2.mono HB.out.size)⟩
end Go.Proofs.YtkdgageljgfgoaaDoor
