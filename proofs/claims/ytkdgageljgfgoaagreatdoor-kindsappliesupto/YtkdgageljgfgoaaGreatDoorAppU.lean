/-
  PROVED: the law KindsApplies of layer 9 (kinds) returns true and leaves its arguments as they are: an operation makes of a value just what the document's own functions say, or is refused, the value shows what it must, and stays as it is; for every value, every stamp and every operation, where what it reads is of bulk at most 1048576, and unicode/utf8's two tables are as the library lays them (the card ties them to its text).
-/
import Derived.Test.YtkdgageljgfgoaaGreatDoorLaid9
import Derived.Test.YtkdgageljgfgoaaGreatDoorOpenV
import Derived.Test.YtkdgageljgfgoaaGreatDoorAppW
namespace Go.Proofs.YtkdgageljgfgoaaGreatDoor.kindsAppliesUpto
open Go.ChangeShapes Go.WideShapes Go.ChangeAt Go.RowKit Go.Lib Go.Shelf
theorem laid_is : Rows.kindsAppliesUptoRow.laid = laidL := by kernel_rfl
def arg0 : Array Value := #[.agg #[.int .i64 0, .int .i64 0, .slice none 0 0], .agg #[.int .i64 0, .int .i64 0, .string ⟨#[]⟩, .int .i64 0, .int .i64 0], .agg #[.slice none 0 0, .int .i64 0, .string ⟨#[]⟩, .int .i64 0, .int .i64 0, .string ⟨#[]⟩]]
theorem witness_row (os : Go.Os) {H : Type} (enc : TypeId × Value → H) :
    (Rows.OpenSpec.upto Rows.kindsAppliesSpec).preRow enc Tryz.prog Tryz.f4 Rows.kindsAppliesUptoRow.domain false Rows.kindsAppliesUptoRow.laid ((laidWorld os).forCall (fun _ _ => 0) ⟨#[], arg0, []⟩).memory arg0 := by
  have hw : (DataW.whole enc Tryz.prog ((laidWorld os).forCall (fun _ _ => 0) ⟨#[], arg0, []⟩).memory Tryz.f4.params.toList (Rows.OpenSpec.upto Rows.kindsAppliesSpec).vars false arg0.toList 12).map (fun x => (x.1, x.2.1)) =
      some ([.agg [.lit (.int .i64 0), .lit (.int .i64 0), .nil], .agg [.lit (.int .i64 0), .agg [.agg [.lit (.int .i64 0), .lit (.string [])], .lit (.int .i64 0)], .lit (.int .i64 0)], .agg [.nil, .lit (.int .i64 0), .lit (.string []), .lit (.int .i64 0), .lit (.int .i64 0), .lit (.string [])]], []) := by kernel_rfl
  obtain ⟨⟨x1, x2, x3⟩, hx, hx1⟩ := Option.map_eq_some_iff.1 hw
  simp only [Prod.mk.injEq] at hx1
  obtain ⟨rfl, rfl⟩ := hx1
  exact OpenSpec.preRow_of_cond 12 hx (by kernel_rfl) (fun k hk => by cases hk; kernel_rfl) (by kernel_rfl) (by rw [laid_is]; exact laid_met os _)

set_option maxRecDepth 100000 in
set_option maxHeartbeats 2000000 in
theorem lifted (os : Go.Os) (started : os.Started) (H : Type) (enc : TypeId × Value → H) (F : Stop.Interp) :
    ReturnsInHanded {} Tryz.checked os 4 .any ((Rows.OpenSpec.upto Rows.kindsAppliesSpec).preRow enc Tryz.prog Tryz.f4 Rows.kindsAppliesUptoRow.domain false Rows.kindsAppliesUptoRow.laid) (((Rows.OpenSpec.upto Rows.kindsAppliesSpec).at F).post enc Tryz.prog Tryz.f4 false true false false) := by
  refine returnsInHanded_of_row (C := Tryz.checked) (s := Rows.OpenSpec.upto Rows.kindsAppliesSpec) own started (by kernel_rfl) Tryz.func4
    (witness_row_atRef (enc := enc) (C := Tryz.checked) false (laidWorld os) arg0 rfl (by kernel_rfl) (by kernel_rfl) (by kernel_rfl) (witness_row os enc)) ?_
  intro W base args ds gs before hval0 hW _ _ hsz0 hL hSh _
  have hval : ∀ (j : Nat) t v, Tryz.f4.params[j]? = some t → args[j]? = some v → Value.okWide Tryz.prog W .any base t v := hval0
  have hW' := hW
  obtain ⟨p, q, hA0, hV0, rfl, _, _⟩ := hW
  have hA : DataW.TrodAll enc Tryz.prog W 0 (fun _ => true) true Tryz.f4.params.toList args.toList ds p := hA0
  rw [show Tryz.f4.params.toList = [46, 52, 26] from rfl] at hA
  obtain ⟨v0, v1, v2, d0, d1, d2, p0, p1, p2, rfl, rfl, rfl, h0, h1, h2⟩ := trodAll_three hA
  obtain ⟨rfl, rfl⟩ := trodVars_none hV0
  have k0 := h0
  have k1 := h1
  have k2 := h2
  have lt0 : ∀ x ∈ p0, x.block < W.heap.size := by obtain ⟨m, hm⟩ := h0; exact DataW.trod_lt m _ _ _ hm
  have lt1 : ∀ x ∈ p1, x.block < W.heap.size := by obtain ⟨m, hm⟩ := h1; exact DataW.trod_lt m _ _ _ hm
  have lt2 : ∀ x ∈ p2, x.block < W.heap.size := by obtain ⟨m, hm⟩ := h2; exact DataW.trod_lt m _ _ _ hm
  have hsz1 : (d0.weights Tryz.prog 46).all (· ≤ reachBytes) = true := by
    have h : (DataW.weightsEach Tryz.prog [46, 52, 26] [d0, d1, d2]).all (· ≤ reachBytes) = true := hsz0
    simp only [DataW.weightsEach, List.all_append, Bool.and_eq_true] at h
    exact h.1
  have hsz2 : (d1.weights Tryz.prog 52).all (· ≤ reachBytes) = true := by
    have h : (DataW.weightsEach Tryz.prog [46, 52, 26] [d0, d1, d2]).all (· ≤ reachBytes) = true := hsz0
    simp only [DataW.weightsEach, List.all_append, Bool.and_eq_true] at h
    exact h.2.1
  have hsz3 : (d2.weights Tryz.prog 26).all (· ≤ reachBytes) = true := by
    have h : (DataW.weightsEach Tryz.prog [46, 52, 26] [d0, d1, d2]).all (· ≤ reachBytes) = true := hsz0
    simp only [DataW.weightsEach, List.all_append, Bool.and_eq_true] at h
    exact h.2.2.1
  rw [laid_is] at hL
  have htab : Tabs W := tabs_of hL
  obtain ⟨kk, nn, ao, c, l, rfl, qv⟩ := open_valueA h0 hsz1
  obtain ⟨s, rfl, qs⟩ := open_stampA h1
  obtain ⟨o, rfl, hr, _⟩ := open_opA h2 hsz3
  clear hA0 hV0 hval0 hval
  refine (applies_walk kk nn s o.ok o.os o.d o.on o.tx qv (by unfold maxLen at qs; omega) hr htab).mono ?_
  rintro e W' ⟨rfl, bel⟩
  exact ⟨_, rfl, _, _, _, [], _, [], hW', trodAll_mk1 (shut_bool Tryz.underlying4 _), trodAll_mk3 (Below.trod laidOut (by kernel_rfl) (of_decide_eq_true (by kernel_rfl)) k0 bel lt0) (Below.trod laidOut (by kernel_rfl) (of_decide_eq_true (by kernel_rfl)) k1 bel lt1) (Below.trod laidOut (by kernel_rfl) (of_decide_eq_true (by kernel_rfl)) k2 bel lt2), rfl, bel.frame _, fun h => by cases h⟩

theorem said : Rows.KindsAppliesUptoSaid :=
  OpenClaim.holds_of_cond 4 Tryz.f4 rfl rfl rfl rfl rfl rfl rfl ⟨rfl, rfl, rfl, rfl, rfl⟩ rfl rfl rfl rfl rfl (by kernel_rfl) Tryz.func4 (by kernel_rfl)
    (of_decide_eq_true (by kernel_rfl)) (by unfold Func.isWrapper; first | (rw [if_pos (by decide +kernel)]; kernel_rfl) | (rw [if_neg (by decide +kernel)]; exact ⟨rfl, rfl⟩))
    (fun os started H enc _ F => by rw [OpenClaim.pre_eq_preRow]; exact lifted os started H enc F)

theorem plain (f : FuncId) (fn : Func) (hf : Tryz.pinned.checked.prog.funcNamed "estuary/estuarylaw09.KindsApplies" = some f) (hfn : Tryz.pinned.checked.prog.funcs[f]? = some fn) :
    false = Tryz.pinned.checked.prog.looks [] ∧ ∀ (j : Nat) t, fn.params[j]? = some t → Tryz.pinned.checked.prog.wantsStandIn t = false := by
  obtain rfl : f = 4 := Option.some.inj ((show Tryz.prog.funcNamed "estuary/estuarylaw09.KindsApplies" = some 4 by kernel_rfl).symm.trans hf) |>.symm
  obtain rfl : fn = Tryz.f4 := (Option.some.inj (Tryz.func4.symm.trans hfn)).symm
  refine ⟨by kernel_rfl, fun j t ht => ?_⟩
  rw [show Tryz.f4.params = #[46, 52, 26] from rfl] at ht
  have hm := Array.mem_of_getElem? ht
  simp at hm
  rcases hm with rfl | rfl | rfl
  · exact (show Tryz.prog.wantsStandIn 46 = false by kernel_rfl)
  · exact (show Tryz.prog.wantsStandIn 52 = false by kernel_rfl)
  · exact (show Tryz.prog.wantsStandIn 26 = false by kernel_rfl)
theorem card : Rows.KindsAppliesUptoCardSaid :=
  Claim7.holds_tied_plain_at .later [] _ _ _ _ said (fun _ h => by cases h) (by kernel_rfl) (fun _ h => by cases h) kindsAppliesUpto_row_tie rfl ⟨rfl, rfl⟩ (by kernel_rfl) rfl plain (by kernel_rfl)
end Go.Proofs.YtkdgageljgfgoaaGreatDoor.kindsAppliesUpto
namespace Go.Proofs.YtkdgageljgfgoaaGreatDoor
/-- The statement. -/
theorem kindsAppliesUpto_holds : Rows.KindsAppliesUptoCardSaid := kindsAppliesUpto.card
#print axioms kindsAppliesUpto_holds
end Go.Proofs.YtkdgageljgfgoaaGreatDoor
