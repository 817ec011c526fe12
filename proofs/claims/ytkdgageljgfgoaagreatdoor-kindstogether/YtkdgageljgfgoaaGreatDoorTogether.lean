/-
  PROVED: the law KindsTogether of layer 9 (kinds) returns true and leaves its argument as it is: of what two make of one value, apart from each other, run together either way it is the same, with one that did nothing it is the other one's, what one took away is gone, what one brought meanwhile stays; for every kind and every three lists of operations, with no condition but that unicode/utf8's two tables are as the library lays them (the card ties them to its text).
-/
import Derived.Test.YtkdgageljgfgoaaGreatDoorLaid9
import Derived.Test.YtkdgageljgfgoaaGreatDoorOpenO
import Derived.Test.YtkdgageljgfgoaaGreatDoorTogWk
namespace Go.Proofs.YtkdgageljgfgoaaGreatDoor.kindsTogether
open Go.ChangeShapes Go.WideShapes Go.ChangeAt Go.RowKit Go.Lib Go.Shelf
theorem laid_is : Rows.kindsTogetherRow.laid = laidL := by kernel_rfl
def arg0 : Array Value := #[.agg #[.int .i64 0, .slice none 0 0, .slice none 0 0, .slice none 0 0]]
theorem witness_row (os : Go.Os) {H : Type} (enc : TypeId × Value → H) :
    (OpenSpec.ofChange Rows.kindsTogetherSpec).preRow enc Tryz.prog Tryz.f6 Rows.kindsTogetherRow.domain false Rows.kindsTogetherRow.laid ((laidWorld os).forCall (fun _ _ => 0) ⟨#[], arg0, []⟩).memory arg0 := by
  have hw : (DataW.whole enc Tryz.prog ((laidWorld os).forCall (fun _ _ => 0) ⟨#[], arg0, []⟩).memory Tryz.f6.params.toList (OpenSpec.ofChange Rows.kindsTogetherSpec).vars false arg0.toList 12).map (fun x => (x.1, x.2.1)) =
      some ([.agg [.lit (.int .i64 0), .nil, .nil, .nil]], []) := by kernel_rfl
  obtain ⟨⟨x1, x2, x3⟩, hx, hx1⟩ := Option.map_eq_some_iff.1 hw
  simp only [Prod.mk.injEq] at hx1
  obtain ⟨rfl, rfl⟩ := hx1
  exact OpenSpec.preRow_of_cond 12 hx (by kernel_rfl) (fun k hk => by cases hk) (by kernel_rfl) (by rw [laid_is]; exact laid_met os _)

set_option maxRecDepth 100000 in
set_option maxHeartbeats 2000000 in
theorem lifted (os : Go.Os) (started : os.Started) (H : Type) (enc : TypeId × Value → H) (F : Stop.Interp) :
    ReturnsInHanded {} Tryz.checked os 6 .any ((OpenSpec.ofChange Rows.kindsTogetherSpec).preRow enc Tryz.prog Tryz.f6 Rows.kindsTogetherRow.domain false Rows.kindsTogetherRow.laid) (((OpenSpec.ofChange Rows.kindsTogetherSpec).at F).post enc Tryz.prog Tryz.f6 false true false false) := by
  refine returnsInHanded_of_row (C := Tryz.checked) (s := OpenSpec.ofChange Rows.kindsTogetherSpec) own started (by kernel_rfl) Tryz.func6
    (witness_row_atRef (enc := enc) (C := Tryz.checked) false (laidWorld os) arg0 rfl (by kernel_rfl) (by kernel_rfl) (by kernel_rfl) (witness_row os enc)) ?_
  intro W base args ds gs before hval0 hW _ _ hsz0 hL hSh _
  have hval : ∀ (j : Nat) t v, Tryz.f6.params[j]? = some t → args[j]? = some v → Value.okWide Tryz.prog W .any base t v := hval0
  have hW' := hW
  obtain ⟨p, q, hA0, hV0, rfl, _, _⟩ := hW
  have hA : DataW.TrodAll enc Tryz.prog W 0 (fun _ => true) true Tryz.f6.params.toList args.toList ds p := hA0
  rw [show Tryz.f6.params.toList = [72] from rfl] at hA
  obtain ⟨v0, d0, rfl, rfl, h0⟩ := trodAll_one hA
  obtain ⟨rfl, rfl⟩ := trodVars_none hV0
  have k0 := h0
  have lt0 : ∀ x ∈ p, x.block < W.heap.size := by obtain ⟨m, hm⟩ := h0; exact DataW.trod_lt m _ _ _ hm
  have hsz1 : (d0.weights Tryz.prog 72).all (· ≤ reachBytes) = true := by
    have h : (DataW.weightsEach Tryz.prog [72] [d0]).all (· ≤ reachBytes) = true := hsz0
    simp only [DataW.weightsEach, List.all_append, Bool.and_eq_true] at h
    exact h.1
  rw [laid_is] at hL
  have htab : Tabs W := tabs_of hL
  obtain ⟨k, oo, co, lo, oa, ca, la, ob, cb, lb, rfl, q0, q1, q2⟩ := open_stepsO h0 hsz1
  clear hA0 hV0 hval0 hval
  refine (together_walk k q0.1 q1.1 q2.1 q0.2 q1.2 q2.2 htab).mono ?_
  rintro e W' ⟨rfl, bel⟩
  exact ⟨_, rfl, _, _, _, [], _, [], hW', trodAll_mk1 (shut_bool Tryz.underlying4 _), trodAll_mk1 (Below.trod laidOut (by kernel_rfl) (of_decide_eq_true (by kernel_rfl)) k0 bel lt0), rfl, bel.frame _, fun h => by cases h⟩

theorem said : Rows.KindsTogetherSaid :=
  OpenClaim.holds_of_cond 6 Tryz.f6 rfl rfl rfl rfl rfl rfl rfl ⟨rfl, rfl, rfl, rfl, rfl⟩ rfl rfl rfl rfl rfl (by kernel_rfl) Tryz.func6 (by kernel_rfl)
    (of_decide_eq_true (by kernel_rfl)) (by unfold Func.isWrapper; first | (rw [if_pos (by decide +kernel)]; kernel_rfl) | (rw [if_neg (by decide +kernel)]; exact ⟨rfl, rfl⟩))
    (fun os started H enc _ F => by rw [OpenClaim.pre_eq_preRow]; exact lifted os started H enc F)

theorem plain (f : FuncId) (fn : Func) (hf : Tryz.pinned.checked.prog.funcNamed "estuary/estuarylaw09.KindsTogether" = some f) (hfn : Tryz.pinned.checked.prog.funcs[f]? = some fn) :
    false = Tryz.pinned.checked.prog.looks [] ∧ ∀ (j : Nat) t, fn.params[j]? = some t → Tryz.pinned.checked.prog.wantsStandIn t = false := by
  obtain rfl : f = 6 := Option.some.inj ((show Tryz.prog.funcNamed "estuary/estuarylaw09.KindsTogether" = some 6 by kernel_rfl).symm.trans hf) |>.symm
  obtain rfl : fn = Tryz.f6 := (Option.some.inj (Tryz.func6.symm.trans hfn)).symm
  refine ⟨by kernel_rfl, fun j t ht => ?_⟩
  rw [show Tryz.f6.params = #[72] from rfl] at ht
  obtain rfl : t = 72 := by simpa using Array.mem_of_getElem? ht
  exact (show Tryz.prog.wantsStandIn 72 = false by kernel_rfl)
theorem card : Rows.KindsTogetherCardSaid :=
  Claim7.holds_tied_plain_at .later [] _ _ _ _ said (fun _ h => by cases h) (by kernel_rfl) (fun _ h => by cases h) kindsTogether_row_tie rfl ⟨rfl, rfl⟩ (by kernel_rfl) rfl plain (by kernel_rfl)
end Go.Proofs.YtkdgageljgfgoaaGreatDoor.kindsTogether
namespace Go.Proofs.YtkdgageljgfgoaaGreatDoor
/-- The statement. -/
theorem kindsTogether_holds : Rows.KindsTogetherCardSaid := kindsTogether.card
#print axioms kindsTogether_holds
end Go.Proofs.YtkdgageljgfgoaaGreatDoor
