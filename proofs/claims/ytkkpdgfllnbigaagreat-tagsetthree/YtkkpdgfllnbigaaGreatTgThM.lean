/-
  PROVED: the law TagsetThree of layer 11 (tagset) returns true and leaves its arguments as they are: three sets run together come to what the document's list of tags says, either side first, and with a side that stands where the base does the other side stands; for every three lists of elements, with no condition.
-/
import Derived.Test.YtkkpdgfllnbigaaGreatTgThW
import Derived.Test.YtkkpdgfllnbigaaGreatMg28
import Derived.Test.YtkkpdgfllnbigaaGreatTgThF
import Derived.Test.YtkkpdgfllnbigaaGreatRows
namespace Go.Proofs.YtkkpdgfllnbigaaGreat.tagsetThree
open Go.ChangeShapes Go.WideShapes Go.ChangeAt Go.RowKit Go.Shelf

set_option maxRecDepth 100000 in
theorem lifted (os : Os) (started : os.Started) (H : Type) (enc : TypeId × Value → H) :
    ReturnsInHanded {} Tryz.checked os 5 .any (Rows.tagsetThreeSpec.pre6 enc Tryz.prog Tryz.f5 Rows.tagsetThreeRow.domain false) (Rows.tagsetThreeSpec.post enc Tryz.prog Tryz.f5 false true false false) := by
  refine returnsInHanded_of_change (C := Tryz.checked) own started (by kernel_rfl) Tryz.func5
    (ChangeSpec.witness6 (enc := enc) (C := Tryz.checked) false ⟨#[], #[.slice none 0 0, .slice none 0 0, .slice none 0 0], []⟩ 8 (by kernel_rfl) (by kernel_rfl) (by kernel_rfl) (by kernel_rfl)) ?_
  intro W base args ds gs before hval0 hW hcnd _
  have hval : ∀ (j : Nat) t v, Tryz.f5.params[j]? = some t → args[j]? = some v → Value.okWide Tryz.prog W .any base t v := hval0
  have hW' := hW
  obtain ⟨p, q, hA0, hV, rfl, hfz, hnd⟩ := hW
  have hA : DataW.TrodAll enc Tryz.prog W 0 (fun _ => true) true Tryz.f5.params.toList args.toList ds p := hA0
  rw [show Tryz.f5.params.toList = [22, 22, 22] from rfl] at hA
  obtain ⟨v0, v1, v2, d0, d1, d2, p0, p1, p2, rfl, rfl, rfl, h0, h1, h2⟩ := trodAll_three hA
  obtain ⟨rfl, rfl⟩ := trodVars_none hV
  have k0 := h0
  have k1 := h1
  have k2 := h2
  have lt0 : ∀ x ∈ p0, x.block < W.heap.size := by obtain ⟨m, hm⟩ := h0; exact DataW.trod_lt m _ _ _ hm
  have lt1 : ∀ x ∈ p1, x.block < W.heap.size := by obtain ⟨m, hm⟩ := h1; exact DataW.trod_lt m _ _ _ hm
  have lt2 : ∀ x ∈ p2, x.block < W.heap.size := by obtain ⟨m, hm⟩ := h2; exact DataW.trod_lt m _ _ _ hm
  obtain ⟨fuel, hf⟩ := h0
  obtain ⟨fuel1, hf1⟩ := h1
  obtain ⟨fuel2, hf2⟩ := h2
  have hf0 : DataW.trod enc Tryz.prog W 0 (fun _ => true) true fuel 22 [v0] = some (d0, p0) := by
    obtain ⟨a, len, cap, rfl⟩ := okWide_slice Tryz.underlying22 (hval 0 22 v0 rfl rfl)
    exact hf
  have hg1 : DataW.trod enc Tryz.prog W 0 (fun _ => true) true fuel1 22 [v1] = some (d1, p1) := by
    obtain ⟨a, len, cap, rfl⟩ := okWide_slice Tryz.underlying22 (hval 1 22 v1 rfl rfl)
    exact hf1
  have hg2 : DataW.trod enc Tryz.prog W 0 (fun _ => true) true fuel2 22 [v2] = some (d2, p2) := by
    obtain ⟨a, len, cap, rfl⟩ := okWide_slice Tryz.underlying22 (hval 2 22 v2 rfl rfl)
    exact hf2
  obtain ⟨oo, co, base, rfl, ro, zo⟩ := open_rowE hf0
  obtain ⟨oa, ca, a, rfl, ra, za⟩ := open_rowE hg1
  obtain ⟨ob, cb, b, rfl, rb, zb⟩ := open_rowE hg2
  clear hA0 hval0 hval
  refine (Tg.three5 base a b ro ra rb zo za zb).mono fun e W' ⟨he, bel⟩ => ?_
  subst he
  exact ⟨_, rfl, _, _, _, [], _, [], hW', trodAll_mk1 (shut_bool Tryz.underlying4 _), trodAll_mk3 (Below.trod laidOut (by kernel_rfl) (of_decide_eq_true (by kernel_rfl)) k0 bel lt0) (Below.trod laidOut (by kernel_rfl) (of_decide_eq_true (by kernel_rfl)) k1 bel lt1) (Below.trod laidOut (by kernel_rfl) (of_decide_eq_true (by kernel_rfl)) k2 bel lt2), rfl, bel.frame _, fun h => by cases h⟩

theorem over : Rows.tagsetThreeRow.holds Tryz.pinned (OpenSpec.ofChange Rows.tagsetThreeSpec) :=
  OpenClaim.holds_of_wide 5 Tryz.f5 rfl rfl rfl rfl rfl rfl rfl ⟨rfl, rfl, rfl, rfl, rfl⟩ rfl rfl rfl rfl rfl (by kernel_rfl) Tryz.func5 facts
    (of_decide_eq_true (by kernel_rfl)) (by unfold Func.isWrapper; first | (rw [if_pos (by decide +kernel)]; kernel_rfl) | (rw [if_neg (by decide +kernel)]; exact ⟨rfl, rfl⟩))
    (fun os started H enc _ => lifted os started H enc)
end Go.Proofs.YtkkpdgfllnbigaaGreat.tagsetThree
namespace Go.Proofs.YtkkpdgfllnbigaaGreat
/-- The statement. -/
theorem tagsetThree_holds : Rows.TagsetThreeSaid := tagsetThree.over
#print axioms tagsetThree_holds
end Go.Proofs.YtkkpdgfllnbigaaGreat
