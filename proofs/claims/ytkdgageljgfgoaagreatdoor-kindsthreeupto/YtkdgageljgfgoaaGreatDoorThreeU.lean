/-
  PROVED: the law KindsThree of layer 9 (kinds) returns true and leaves its argument as it is: three values run together come to what the document's own functions say, or are refused, and stay as they are; for every three values, where what it reads is of bulk at most 1048576, and unicode/utf8's two tables are as the library lays them (the card ties them to its text).
-/
import Derived.Test.YtkdgageljgfgoaaGreatDoorLaid9
import Derived.Test.YtkdgageljgfgoaaGreatDoorOpenV
import Derived.Test.YtkdgageljgfgoaaGreatDoorThreeW
namespace Go.Proofs.YtkdgageljgfgoaaGreatDoor.kindsThreeUpto
open Go.ChangeShapes Go.WideShapes Go.ChangeAt Go.RowKit Go.Lib Go.Shelf
theorem laid_is : Rows.kindsThreeUptoRow.laid = laidL := by kernel_rfl
def arg0 : Array Value := #[.agg #[.int .i64 0, .int .i64 0, .slice none 0 0, .int .i64 0, .int .i64 0, .slice none 0 0, .int .i64 0, .int .i64 0, .slice none 0 0]]
theorem witness_row (os : Go.Os) {H : Type} (enc : TypeId × Value → H) :
    (Rows.OpenSpec.upto Rows.kindsThreeSpec).preRow enc Tryz.prog Tryz.f5 Rows.kindsThreeUptoRow.domain false Rows.kindsThreeUptoRow.laid ((laidWorld os).forCall (fun _ _ => 0) ⟨#[], arg0, []⟩).memory arg0 := by
  have hw : (DataW.whole enc Tryz.prog ((laidWorld os).forCall (fun _ _ => 0) ⟨#[], arg0, []⟩).memory Tryz.f5.params.toList (Rows.OpenSpec.upto Rows.kindsThreeSpec).vars false arg0.toList 12).map (fun x => (x.1, x.2.1)) =
      some ([.agg [.agg [.lit (.int .i64 0), .lit (.int .i64 0), .nil], .agg [.lit (.int .i64 0), .lit (.int .i64 0), .nil], .agg [.lit (.int .i64 0), .lit (.int .i64 0), .nil]]], []) := by kernel_rfl
  obtain ⟨⟨x1, x2, x3⟩, hx, hx1⟩ := Option.map_eq_some_iff.1 hw
  simp only [Prod.mk.injEq] at hx1
  obtain ⟨rfl, rfl⟩ := hx1
  exact OpenSpec.preRow_of_cond 12 hx (by kernel_rfl) (fun k hk => by cases hk; kernel_rfl) (by kernel_rfl) (by rw [laid_is]; exact laid_met os _)

set_option maxRecDepth 100000 in
set_option maxHeartbeats 2000000 in
theorem lifted (os : Go.Os) (started : os.Started) (H : Type) (enc : TypeId × Value → H) (F : Stop.Interp) :
    ReturnsInHanded {} Tryz.checked os 5 .any ((Rows.OpenSpec.upto Rows.kindsThreeSpec).preRow enc Tryz.prog Tryz.f5 Rows.kindsThreeUptoRow.domain false Rows.kindsThreeUptoRow.laid) (((Rows.OpenSpec.upto Rows.kindsThreeSpec).at F).post enc Tryz.prog Tryz.f5 false true false false) := by
  refine returnsInHanded_of_row (C := Tryz.checked) (s := Rows.OpenSpec.upto Rows.kindsThreeSpec) own started (by kernel_rfl) Tryz.func5
    (witness_row_atRef (enc := enc) (C := Tryz.checked) false (laidWorld os) arg0 rfl (by kernel_rfl) (by kernel_rfl) (by kernel_rfl) (witness_row os enc)) ?_
  intro W base args ds gs before hval0 hW _ _ hsz0 hL hSh _
  have hval : ∀ (j : Nat) t v, Tryz.f5.params[j]? = some t → args[j]? = some v → Value.okWide Tryz.prog W .any base t v := hval0
  have hW' := hW
  obtain ⟨p, q, hA0, hV0, rfl, _, _⟩ := hW
  have hA : DataW.TrodAll enc Tryz.prog W 0 (fun _ => true) true Tryz.f5.params.toList args.toList ds p := hA0
  rw [show Tryz.f5.params.toList = [66] from rfl] at hA
  obtain ⟨v0, d0, rfl, rfl, h0⟩ := trodAll_one hA
  obtain ⟨rfl, rfl⟩ := trodVars_none hV0
  have k0 := h0
  have lt0 : ∀ x ∈ p, x.block < W.heap.size := by obtain ⟨m, hm⟩ := h0; exact DataW.trod_lt m _ _ _ hm
  have hsz1 : (d0.weights Tryz.prog 66).all (· ≤ reachBytes) = true := by
    have h : (DataW.weightsEach Tryz.prog [66] [d0]).all (· ≤ reachBytes) = true := hsz0
    simp only [DataW.weightsEach, List.all_append, Bool.and_eq_true] at h
    exact h.1
  rw [laid_is] at hL
  have htab : Tabs W := tabs_of hL
  obtain ⟨kk0, n0, a0, c0, l0, kk1, n1, a1, c1, l1, kk2, n2, a2, c2, l2, rfl, q0, q1, q2⟩ := open_values h0 hsz1
  clear hA0 hV0 hval0 hval
  refine (three_walk kk0 n0 kk1 n1 kk2 n2 q0 q1 q2 htab).mono ?_
  rintro e W' ⟨rfl, bel⟩
  exact ⟨_, rfl, _, _, _, [], _, [], hW', trodAll_mk1 (shut_bool Tryz.underlying4 _), trodAll_mk1 (Below.trod laidOut (by kernel_rfl) (of_decide_eq_true (by kernel_rfl)) k0 bel lt0), rfl, bel.frame _, fun h => by cases h⟩

theorem said : Rows.KindsThreeUptoSaid :=
  OpenClaim.holds_of_cond 5 Tryz.f5 rfl rfl rfl rfl rfl rfl rfl ⟨rfl, rfl, rfl, rfl, rfl⟩ rfl rfl rfl rfl rfl (by kernel_rfl) Tryz.func5 (by kernel_rfl)
    (of_decide_eq_true (by kernel_rfl)) (by unfold Func.isWrapper; first | (rw [if_pos (by decide +kernel)]; kernel_rfl) | (rw [if_neg (by decide +kernel)]; exact ⟨rfl, rfl⟩))
    (fun os started H enc _ F => by rw [OpenClaim.pre_eq_preRow]; exact lifted os started H enc F)

theorem plain (f : FuncId) (fn : Func) (hf : Tryz.pinned.checked.prog.funcNamed "estuary/estuarylaw09.KindsThree" = some f) (hfn : Tryz.pinned.checked.prog.funcs[f]? = some fn) :
    false = Tryz.pinned.checked.prog.looks [] ∧ ∀ (j : Nat) t, fn.params[j]? = some t → Tryz.pinned.checked.prog.wantsStandIn t = false := by
  obtain rfl : f = 5 := Option.some.inj ((show Tryz.prog.funcNamed "estuary/estuarylaw09.KindsThree" = some 5 by kernel_rfl).symm.trans hf) |>.symm
  obtain rfl : fn = Tryz.f5 := (Option.some.inj (Tryz.func5.symm.trans hfn)).symm
  refine ⟨by kernel_rfl, fun j t ht => ?_⟩
  rw [show Tryz.f5.params = #[66] from rfl] at ht
  obtain rfl : t = 66 := by simpa using Array.mem_of_getElem? ht
  exact (show Tryz.prog.wantsStandIn 66 = false by kernel_rfl)
theorem card : Rows.KindsThreeUptoCardSaid :=
  Claim7.holds_tied_plain_at .later [] _ _ _ _ said (fun _ h => by cases h) (by kernel_rfl) (fun _ h => by cases h) kindsThreeUpto_row_tie rfl ⟨rfl, rfl⟩ (by kernel_rfl) rfl plain (by kernel_rfl)
end Go.Proofs.YtkdgageljgfgoaaGreatDoor.kindsThreeUpto
namespace Go.Proofs.YtkdgageljgfgoaaGreatDoor
/-- The statement. -/
theorem kindsThreeUpto_holds : Rows.KindsThreeUptoCardSaid := kindsThreeUpto.card
#print axioms kindsThreeUpto_holds
end Go.Proofs.YtkdgageljgfgoaaGreatDoor
