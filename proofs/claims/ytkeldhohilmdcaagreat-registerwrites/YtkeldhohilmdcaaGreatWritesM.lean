/-
  PROVED: the law RegisterWrites of layer 12 (register) returns true and leaves its arguments as they are: a register of any elements tells them by their stamps, each write leaves itself alone, and elder registers never change; for every list of elements and every list of writes, with no condition.
-/
import Derived.Test.YtkeldhohilmdcaaGreatWritesW
import Derived.Test.YtkeldhohilmdcaaGreatOpenE
import Derived.Test.YtkeldhohilmdcaaGreatRows
namespace Go.Proofs.YtkeldhohilmdcaaGreat.registerWrites
open Go.ChangeShapes Go.WideShapes Go.ChangeAt Go.RowKit Go.Shelf

set_option maxRecDepth 100000 in
theorem lifted (os : Os) (started : os.Started) (H : Type) (enc : TypeId × Value → H) :
    ReturnsInHanded {} Tryz.checked os 6 .any (Rows.registerWritesSpec.pre6 enc Tryz.prog Tryz.f6 Rows.registerWritesRow.domain false) (Rows.registerWritesSpec.post enc Tryz.prog Tryz.f6 false true false false) := by
  refine returnsInHanded_of_change (C := Tryz.checked) own started (by kernel_rfl) Tryz.func6
    (ChangeSpec.witness6 (enc := enc) (C := Tryz.checked) false ⟨#[], #[.slice none 0 0, .slice none 0 0], []⟩ 8 (by kernel_rfl) (by kernel_rfl) (by kernel_rfl) (by kernel_rfl)) ?_
  intro W base args ds gs before hval0 hW hcnd _
  have hval : ∀ (j : Nat) t v, Tryz.f6.params[j]? = some t → args[j]? = some v → Value.okWide Tryz.prog W .any base t v := hval0
  have hW' := hW
  obtain ⟨p, q, hA0, hV, rfl, hfz, hnd⟩ := hW
  have hA : DataW.TrodAll enc Tryz.prog W 0 (fun _ => true) true Tryz.f6.params.toList args.toList ds p := hA0
  rw [show Tryz.f6.params.toList = [22, 77] from rfl] at hA
  obtain ⟨v0, v1, d0, d1, p0, p1, rfl, rfl, rfl, h0, h1⟩ := trodAll_two hA
  obtain ⟨rfl, rfl⟩ := trodVars_none hV
  have k0 := h0
  have k1 := h1
  have lt0 : ∀ x ∈ p0, x.block < W.heap.size := by obtain ⟨m, hm⟩ := h0; exact DataW.trod_lt m _ _ _ hm
  have lt1 : ∀ x ∈ p1, x.block < W.heap.size := by obtain ⟨m, hm⟩ := h1; exact DataW.trod_lt m _ _ _ hm
  obtain ⟨fuel, hf⟩ := h0
  obtain ⟨fuel1, hf1⟩ := h1
  have hf0 : DataW.trod enc Tryz.prog W 0 (fun _ => true) true fuel 22 [v0] = some (d0, p0) := by
    obtain ⟨a, len, cap, rfl⟩ := okWide_slice Tryz.underlying22 (hval 0 22 v0 rfl rfl)
    exact hf
  have hf2 : DataW.trod enc Tryz.prog W 0 (fun _ => true) true fuel1 77 [v1] = some (d1, p1) := by
    obtain ⟨a, len, cap, rfl⟩ := okWide_slice Tryz.underlying77 (hval 1 77 v1 rfl rfl)
    exact hf1
  obtain ⟨ao, c, l, rfl, hR, hz⟩ := open_rowE hf0
  obtain ⟨bo, d, ws, rfl, kR, kz⟩ := open_rowW hf2
  clear hA0 hval0 hval
  refine (writes6 l ws hR kR hz kz).mono fun e W' ⟨he, bel⟩ => ?_
  subst he
  exact ⟨_, rfl, _, _, _, [], _, [], hW', trodAll_mk1 (shut_bool Tryz.underlying4 _), trodAll_mk2 (Below.trod laidOut (by kernel_rfl) (of_decide_eq_true (by kernel_rfl)) k0 bel lt0) (Below.trod laidOut (by kernel_rfl) (of_decide_eq_true (by kernel_rfl)) k1 bel lt1), rfl, bel.frame _, fun h => by cases h⟩

theorem over : Rows.registerWritesRow.holds Tryz.pinned (OpenSpec.ofChange Rows.registerWritesSpec) :=
  OpenClaim.holds_of_wide 6 Tryz.f6 rfl rfl rfl rfl rfl rfl rfl ⟨rfl, rfl, rfl, rfl, rfl⟩ rfl rfl rfl rfl rfl (by kernel_rfl) Tryz.func6 (by kernel_rfl)
    (of_decide_eq_true (by kernel_rfl)) (by unfold Func.isWrapper; first | (rw [if_pos (by decide +kernel)]; kernel_rfl) | (rw [if_neg (by decide +kernel)]; exact ⟨rfl, rfl⟩))
    (fun os started H enc _ => lifted os started H enc)
end Go.Proofs.YtkeldhohilmdcaaGreat.registerWrites
namespace Go.Proofs.YtkeldhohilmdcaaGreat
/-- The statement. -/
theorem registerWrites_holds : Rows.RegisterWritesSaid := registerWrites.over
#print axioms registerWrites_holds
end Go.Proofs.YtkeldhohilmdcaaGreat
