/-
  PROVED: the closed sentence WireNil of layer 1 (wire) returns true: readers and functions that are not there are refused, and an empty list has the form of one byte 0; for every world in which it is called, with no condition.
-/
import Derived.Test.YtjbnhfcacocgeaaHelps
import Derived.WalkKit
import Derived.ProofKit
import Derived.OpenShut
namespace Go.Proofs.Ytjbnhfcacocgeaa.wireNil
open Go.ChangeShapes Go.WideShapes Go.ChangeAt Go.RowKit
set_option linter.unusedVariables false      -- a walk need not use every 'w<i>' (that an integer argument fits its kind)

theorem strZ : strOfNums [0] = { data := #[0] } := by decide
theorem own : ownKnob Try.prog.godebug = none := by kernel_rfl

set_option maxHeartbeats 1000000 in
set_option maxRecDepth 100000 in
theorem walk (w : World) :
    Calls Try.prog 7 #[] w fun e w' => e = .returned (.bool true) ∧ Below w.heap.size w w' := by
  go_enter Try.func7, Try.ntmps7
  go_wp2_with fail
  refine (putInt_nil _).mono ?_
  rintro e w0 ⟨rfl, rfl⟩
  go_wp2_with fail
  refine (putInt_none _).mono ?_
  rintro e w1 ⟨ao1, cap1, rfl, hown1, hb1⟩
  have hs1 := hb1.size
  go_wp2_with fail
  refine (open_any _ 1 1 [0] _ rfl (Own.lit 5 w1 [0] (by decide)).rd (by simp) (by simp) (by simp)).mono ?_
  rintro e w2 ⟨R, rfl, hR2, hlo2, hsz2, hb2⟩
  have hb2' : Below w1.heap.size w1 w2 := ((Below.refl _ _).alloc (Nat.le_refl _) _).trans (hb2.mono (by simp))
  have hs2 := hb2'.size
  have hrd2 := hown1.rd.below hb2'
  have hcA := conv_rd (n := 1) (cap := cap1) hrd2 rfl
  rw [strZ] at hcA
  have hb2w : Below w.heap.size w w2 := hb1.trans (hb2'.mono hs1)
  clear hb2 hlo2 hb2'
  obtain ⟨ao, cap, c0, c1, _⟩ := hR2.cells
  go_wp2_with (first | (go_at_call 35; refine (takeInt_nil R 5 _ c1).mono ?_; rintro e w1 ⟨rfl, rfl⟩) | (go_at_call 31; refine (takePair_no _ _ _ _ (.inl rfl)).mono ?_; rintro e w1 ⟨rfl, rfl⟩) | (go_at_call 23; refine (num_any _ _).mono ?_; rintro e w1 ⟨rfl, rfl⟩))
  refine (nothing_any _ _ (.inl rfl)).mono ?_
  rintro e w3 ⟨rfl, rfl⟩
  go_wp2_with fail
  refine (nothing_any _ _ (.inr ⟨w2.heap.size, rfl, by simp [go_sem]⟩)).mono ?_
  rintro e w3 ⟨rfl, rfl⟩
  go_wp2_with fail
  refine (known_any _).mono ?_
  rintro e w4 ⟨rfl, hb4⟩
  go_wp2
  go_ret
  have hs : w.heap.size ≤ w2.heap.size := by omega
  exact ⟨rfl, (hb2w.alloc hs _).trans (hb4.mono (by simp; omega))⟩

/-! ### THE ROW's STEP: WRITTEN OUT: LEAVE IT -/
set_option maxRecDepth 100000 in
theorem lifted (os : Os) (started : os.Started) (H : Type) (enc : TypeId × Value → H) :
    ReturnsInHanded {} Try.checked os 7 .any (Rows.wireNilSpec.pre6 enc Try.prog Try.f7 Rows.wireNilRow.domain false) (Rows.wireNilSpec.post enc Try.prog Try.f7 false true false false) := by
  refine returnsInHanded_of_change (C := Try.checked) own started (by kernel_rfl) Try.func7
    (ChangeSpec.witness6 (enc := enc) (C := Try.checked) false ⟨#[], #[], []⟩ 8 (by kernel_rfl) (by kernel_rfl) (by kernel_rfl) (by kernel_rfl)) ?_
  intro W base args ds gs before hval0 hW hcnd _
  have hval : ∀ (j : Nat) t v, Try.f7.params[j]? = some t → args[j]? = some v → Value.okWide Try.prog W .any base t v := hval0
  have hW' := hW
  obtain ⟨p, q, hA0, hV, rfl, hfz, hnd⟩ := hW
  have hA : DataW.TrodAll enc Try.prog W 0 (fun _ => true) true Try.f7.params.toList args.toList ds p := hA0
  rw [Try.params7] at hA hval
  obtain ⟨rfl, rfl, rfl⟩ := trodAll_none hA
  obtain ⟨rfl, rfl⟩ := trodVars_none hV
  clear hA0 hval0
  simp only [List.append_nil] at hW'
  refine (walk W).mono fun e W' ⟨he, bel⟩ => ?_
  subst he
  exact ⟨_, rfl, _, _, _, [], _, [], hW', trodAll_mk1 (shut_bool Try.underlying4 _), trodAll_mk0, rfl, bel.frame _, fun h => by cases h⟩

theorem over : Rows.wireNilRow.holds Try.pinned (OpenSpec.ofChange Rows.wireNilSpec) :=
  OpenClaim.holds_of_wide 7 Try.f7 rfl rfl rfl rfl rfl rfl rfl ⟨rfl, rfl, rfl, rfl, rfl⟩ rfl rfl rfl rfl rfl (by kernel_rfl) Try.func7 (by kernel_rfl)
    (of_decide_eq_true (by kernel_rfl)) (by unfold Func.isWrapper; first | (rw [if_pos (by decide +kernel)]; kernel_rfl) | (rw [if_neg (by decide +kernel)]; exact ⟨rfl, rfl⟩))
    (fun os started H enc _ => lifted os started H enc)

end Go.Proofs.Ytjbnhfcacocgeaa.wireNil
namespace Go.Proofs.Ytjbnhfcacocgeaa

/-- The statement. -/
theorem wireNil_holds : Rows.WireNilSaid := wireNil.over
#print axioms wireNil_holds
end Go.Proofs.Ytjbnhfcacocgeaa
