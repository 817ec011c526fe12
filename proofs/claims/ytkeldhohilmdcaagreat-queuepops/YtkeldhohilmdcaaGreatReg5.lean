/-
  register: One (47), Write (38); a map that is whole.
-/
import Derived.Test.YtkeldhohilmdcaaGreatReg4
import Derived.Test.YtkeldhohilmdcaaGreatPEnv
import Derived.Test.YtkeldhohilmdcaaGreatTold
namespace Go.Proofs.YtkeldhohilmdcaaGreat.Pm
open Go.RowKit Go.Shelf
set_option linter.unusedSimpArgs false
theorem mLast_any (t : T) (w : World) (h : In w t) : Calls Tryz.prog 110 #[mv t] w fun e w' => e = .returned (.tuple #[.string t.last.key, .string t.last.val, .bool t.last.isSome]) ∧ Below w.heap.size w w' := by
  have hb : Below w.heap.size w (w.alloc (.cells #[t.ptr] 27)) := (Below.refl _ w).alloc (Nat.le_refl _) _
  have h1 := end_right t _ (In.below hb h)
  have h2 := told_any t.last _ (In.below hb h.last)
  unfold mv
  obtain ⟨a, ha⟩ := t.ptr_shape
  obtain ⟨b, hb'⟩ := t.last.ptr_shape
  rw [ha] at hb h1 h2 ⊢
  rw [hb'] at h1 h2
  generalize t.last.key = K at *
  generalize t.last.val = V at *
  generalize t.last.isSome = D at *
  clear h ha hb'
  go_enter Tryz.func110, Tryz.ntmps110
  go_wp2_with (first
    | (go_at_call 153; refine h1.mono ?_; rintro e w' ⟨rfl, rfl⟩)
    | (go_at_call 152; refine h2.mono ?_; rintro e w' ⟨rfl, rfl⟩))
  go_ret3
  exact ⟨rfl, hb⟩
end Go.Proofs.YtkeldhohilmdcaaGreat.Pm
namespace Go.Proofs.YtkeldhohilmdcaaGreat
open Go.RowKit Go.Shelf
set_option linter.unusedSimpArgs false
attribute [local go_sem] Oper.semAt_some

/-- A map that is whole. -/
structure Mg (w : World) (t : Pm.T) : Prop where
  inn : Pm.In w t
  srt : Pm.Srt t.list
  bal : t.bal
  few : t.n ≤ 400
  key : ∀ x ∈ t.list, x.1.size ≤ 9223372036854775807
theorem Mg.below {w w' : World} {t : Pm.T} (h : Mg w t) (hb : Below w.heap.size w w') : Mg w' t := ⟨Pm.In.below hb h.inn, h.srt, h.bal, h.few, h.key⟩
theorem Mg.nil (w : World) : Mg w .nil := ⟨trivial, List.Pairwise.nil, trivial, Nat.zero_le _, fun x h => by cases h⟩
theorem Mg.may {w : World} {t : Pm.T} (h : Mg w t) : Calls Tryz.prog 46 #[Pm.mv t] w fun e w' => e = .returned (.bool (mayL t.list)) ∧ Below w.heap.size w w' := rMay_any t w h.inn h.srt h.key
end Go.Proofs.YtkeldhohilmdcaaGreat
