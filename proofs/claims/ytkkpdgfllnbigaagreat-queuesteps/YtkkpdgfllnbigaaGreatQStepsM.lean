/-
  PROVED: the law QueueSteps of layer 13 (queue) returns true and leaves its arguments as they are: a queue of any elements, under any pushes, pops and drops, holds just what a plain list holds, its first element first, and elder queues never change; for every list of elements and every list of steps, with no condition.
-/
import Derived.Test.YtkkpdgfllnbigaaGreatMg22
import Derived.Test.YtkkpdgfllnbigaaGreatOpenS
import Derived.Test.YtkkpdgfllnbigaaGreatQStF
import Derived.Test.YtkkpdgfllnbigaaGreatRows
namespace Go.Proofs.YtkkpdgfllnbigaaGreat.queueSteps
open Go.ChangeShapes Go.WideShapes Go.ChangeAt Go.RowKit Go.Shelf

set_option maxRecDepth 100000 in
theorem lifted (os : Os) (started : os.Started) (H : Type) (enc : TypeId × Value → H) :
    ReturnsInHanded {} Tryz.checked os 9 .any (Rows.queueStepsSpec.pre6 enc Tryz.prog Tryz.f9 Rows.queueStepsRow.domain false) (Rows.queueStepsSpec.post enc Tryz.prog Tryz.f9 false true false false) := by
  refine returnsInHanded_of_change (C := Tryz.checked) own started (by kernel_rfl) Tryz.func9
    (ChangeSpec.witness6 (enc := enc) (C := Tryz.checked) false ⟨#[], #[.slice none 0 0, .slice none 0 0], []⟩ 8 (by kernel_rfl) (by kernel_rfl) (by kernel_rfl) (by kernel_rfl)) ?_
  intro W base args ds gs before hval0 hW hcnd _
  have hval : ∀ (j : Nat) t v, Tryz.f9.params[j]? = some t → args[j]? = some v → Value.okWide Tryz.prog W .any base t v := hval0
  have hW' := hW
  obtain ⟨p, q, hA0, hV, rfl, hfz, hnd⟩ := hW
  have hA : DataW.TrodAll enc Tryz.prog W 0 (fun _ => true) true Tryz.f9.params.toList args.toList ds p := hA0
  rw [show Tryz.f9.params.toList = [22, 89] from rfl] at hA
  obtain ⟨v0, v1, d0, d1, p0, p1, rfl, rfl, rfl, h0, h1⟩ := trodAll_two hA
  obtain ⟨rfl, rfl⟩ := trodVars_none hV
  have k0 := h0
  have k1 := h1
  have lt0 : ∀ x ∈ p0, x.block < W.heap.size := by obtain ⟨m, hm⟩ := h0; exact DataW.trod_lt m _ _ _ hm
  have lt1 : ∀ x ∈ p1, x.block < W.heap.size := by obtain ⟨m, hm⟩ := h1; exact DataW.trod_lt m _ _ _ hm
  obtain ⟨fuel, hf⟩ := h0
  obtain ⟨fuel1, hf1⟩ := h1
  have hf0 : DataW.trod enc Tryz.prog W 0 (fun _ => true) true fuel 22 [v0] = some (d0, p0) := by
    obtain ⟨a, len, cap, rfl⟩ := okWide_slice Tryz.underlying22 (hval 0 22 v0 rfl rfl)
    exact hf
  have hf2 : DataW.trod enc Tryz.prog W 0 (fun _ => true) true fuel1 89 [v1] = some (d1, p1) := by
    obtain ⟨a, len, cap, rfl⟩ := okWide_slice Tryz.underlying89 (hval 1 89 v1 rfl rfl)
    exact hf1
  obtain ⟨ao, c, l, rfl, hR, hz⟩ := open_rowE hf0
  obtain ⟨bo, d, ws, rfl, kR, kz⟩ := Qu.open_rowS hf2
  clear hA0 hval0 hval
  refine (Qu.steps9 l ws hR kR hz kz).mono fun e W' ⟨he, bel⟩ => ?_
  subst he
  exact ⟨_, rfl, _, _, _, [], _, [], hW', trodAll_mk1 (shut_bool Tryz.underlying4 _), trodAll_mk2 (Below.trod laidOut (by kernel_rfl) (of_decide_eq_true (by kernel_rfl)) k0 bel lt0) (Below.trod laidOut (by kernel_rfl) (of_decide_eq_true (by kernel_rfl)) k1 bel lt1), rfl, bel.frame _, fun h => by cases h⟩

theorem over : Rows.queueStepsRow.holds Tryz.pinned (OpenSpec.ofChange Rows.queueStepsSpec) :=
  OpenClaim.holds_of_wide 9 Tryz.f9 rfl rfl rfl rfl rfl rfl rfl ⟨rfl, rfl, rfl, rfl, rfl⟩ rfl rfl rfl rfl rfl (by kernel_rfl) Tryz.func9 facts
    (of_decide_eq_true (by kernel_rfl)) (by unfold Func.isWrapper; first | (rw [if_pos (by decide +kernel)]; kernel_rfl) | (rw [if_neg (by decide +kernel)]; exact ⟨rfl, rfl⟩))
    (fun os started H enc _ => lifted os started H enc)
end Go.Proofs.YtkkpdgfllnbigaaGreat.queueSteps
namespace Go.Proofs.YtkkpdgfllnbigaaGreat
/-- The statement. -/
theorem queueSteps_holds : Rows.QueueStepsSaid := queueSteps.over
#print axioms queueSteps_holds
end Go.Proofs.YtkkpdgfllnbigaaGreat
