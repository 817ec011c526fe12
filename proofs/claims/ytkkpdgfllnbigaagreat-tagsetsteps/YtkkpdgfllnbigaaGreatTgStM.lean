/-
  PROVED: the law TagsetSteps of layer 11 (tagset) returns true and leaves its arguments as they are: a set of any tags, under any inserts, removes and questions, holds just the tags that a plain list holds, and elder sets never change; for every list of elements and every list of steps, with no condition.
-/
import Derived.Test.YtkkpdgfllnbigaaGreatTgStW
import Derived.Test.YtkkpdgfllnbigaaGreatTgStO
import Derived.Test.YtkkpdgfllnbigaaGreatTgStF
import Derived.Test.YtkkpdgfllnbigaaGreatRows
namespace Go.Proofs.YtkkpdgfllnbigaaGreat.tagsetSteps
open Go.ChangeShapes Go.WideShapes Go.ChangeAt Go.RowKit Go.Shelf

set_option maxRecDepth 100000 in
theorem lifted (os : Os) (started : os.Started) (H : Type) (enc : TypeId × Value → H) :
    ReturnsInHanded {} Tryz.checked os 3 .any (Rows.tagsetStepsSpec.pre6 enc Tryz.prog Tryz.f3 Rows.tagsetStepsRow.domain false) (Rows.tagsetStepsSpec.post enc Tryz.prog Tryz.f3 false true false false) := by
  refine returnsInHanded_of_change (C := Tryz.checked) own started (by kernel_rfl) Tryz.func3
    (ChangeSpec.witness6 (enc := enc) (C := Tryz.checked) false ⟨#[], #[.slice none 0 0, .slice none 0 0], []⟩ 8 (by kernel_rfl) (by kernel_rfl) (by kernel_rfl) (by kernel_rfl)) ?_
  intro W base args ds gs before hval0 hW hcnd _
  have hval : ∀ (j : Nat) t v, Tryz.f3.params[j]? = some t → args[j]? = some v → Value.okWide Tryz.prog W .any base t v := hval0
  have hW' := hW
  obtain ⟨p, q, hA0, hV, rfl, hfz, hnd⟩ := hW
  have hA : DataW.TrodAll enc Tryz.prog W 0 (fun _ => true) true Tryz.f3.params.toList args.toList ds p := hA0
  rw [show Tryz.f3.params.toList = [22, 23] from rfl] at hA
  obtain ⟨v0, v1, d0, d1, p0, p1, rfl, rfl, rfl, h0, h1⟩ := trodAll_two hA
  obtain ⟨rfl, rfl⟩ := trodVars_none hV
  have k0 := h0
  have k1 := h1
  have lt0 : ∀ x ∈ p0, x.block < W.heap.size := by obtain ⟨m, hm⟩ := h0; exact DataW.trod_lt m _ _ _ hm
  have lt1 : ∀ x ∈ p1, x.block < W.heap.size := by obtain ⟨m, hm⟩ := h1; exact DataW.trod_lt m _ _ _ hm
  obtain ⟨fuel, hf⟩ := h0
  obtain ⟨fuel1, hf1⟩ := h1
  have hf0 : DataW.trod enc Tryz.prog W 0 (fun _ => true) true fuel 22 [v0] = some (d0, p0) := by
    obtain ⟨a, len, cap, rfl⟩ := okWide_slice Tryz.underlying22 (hval 0 22 v0 rfl rfl)
    exact hf
  have hf2 : DataW.trod enc Tryz.prog W 0 (fun _ => true) true fuel1 23 [v1] = some (d1, p1) := by
    obtain ⟨a, len, cap, rfl⟩ := okWide_slice Tryz.underlying23 (hval 1 23 v1 rfl rfl)
    exact hf1
  obtain ⟨ao, c, l, rfl, hR, hz⟩ := open_rowE hf0
  obtain ⟨bo, d, ws, rfl, kR, kz⟩ := Tg.open_rowT hf2
  clear hA0 hval0 hval
  refine (Tg.steps3 l ws hR kR hz kz).mono fun e W' ⟨he, bel⟩ => ?_
  subst he
  exact ⟨_, rfl, _, _, _, [], _, [], hW', trodAll_mk1 (shut_bool Tryz.underlying4 _), trodAll_mk2 (Below.trod laidOut (by kernel_rfl) (of_decide_eq_true (by kernel_rfl)) k0 bel lt0) (Below.trod laidOut (by kernel_rfl) (of_decide_eq_true (by kernel_rfl)) k1 bel lt1), rfl, bel.frame _, fun h => by cases h⟩

theorem over : Rows.tagsetStepsRow.holds Tryz.pinned (OpenSpec.ofChange Rows.tagsetStepsSpec) :=
  OpenClaim.holds_of_wide 3 Tryz.f3 rfl rfl rfl rfl rfl rfl rfl ⟨rfl, rfl, rfl, rfl, rfl⟩ rfl rfl rfl rfl rfl (by kernel_rfl) Tryz.func3 facts
    (of_decide_eq_true (by kernel_rfl)) (by unfold Func.isWrapper; first | (rw [if_pos (by decide +kernel)]; kernel_rfl) | (rw [if_neg (by decide +kernel)]; exact ⟨rfl, rfl⟩))
    (fun os started H enc _ => lifted os started H enc)
end Go.Proofs.YtkkpdgfllnbigaaGreat.tagsetSteps
namespace Go.Proofs.YtkkpdgfllnbigaaGreat
/-- The statement. -/
theorem tagsetSteps_holds : Rows.TagsetStepsSaid := tagsetSteps.over
#print axioms tagsetSteps_holds
end Go.Proofs.YtkkpdgfllnbigaaGreat
