/-
  PROVED: the law WireBack of layer 1 (wire) returns true and leaves its arguments as they are: what was written is read as it was, a form that is cut short is refused, and what is read has just the form that was read; for every Things and every slice of bytes, with no condition.
-/
import Derived.Test.YtjbnhfcacocgeaaOpens
import Derived.Test.YtjbnhfcacocgeaaBackW
namespace Go.Proofs.Ytjbnhfcacocgeaa.wireBack
open Go.ChangeShapes Go.WideShapes Go.ChangeAt Go.RowKit

set_option maxRecDepth 100000 in
theorem lifted (os : Os) (started : os.Started) (H : Type) (enc : TypeId × Value → H) :
    ReturnsInHanded {} Try.checked os 5 .any (Rows.wireBackSpec.pre6 enc Try.prog Try.f5 Rows.wireBackRow.domain false) (Rows.wireBackSpec.post enc Try.prog Try.f5 false true false false) := by
  refine returnsInHanded_of_change_sized (C := Try.checked) own started (by kernel_rfl) Try.func5
    (ChangeSpec.witness6 (enc := enc) (C := Try.checked) false ⟨#[], #[.agg #[.int .u64 0, .int .i64 0, .bool false, .slice none 0 0], .slice none 0 0], []⟩ 8 (by kernel_rfl) (by kernel_rfl) (by kernel_rfl) (by kernel_rfl)) ?_
  intro W base args ds gs before hval0 hW hcnd hsz0 _
  have hval : ∀ (j : Nat) t v, Try.f5.params[j]? = some t → args[j]? = some v → Value.okWide Try.prog W .any base t v := hval0
  have hsz : (DataW.weightsEach Try.prog (Try.f5.params.toList ++ Rows.wireBackSpec.plain.varTypes Try.prog) (ds ++ gs)).all (· ≤ reachBytes) = true := hsz0
  have hW' := hW
  obtain ⟨p, q, hA0, hV, rfl, hfz, hnd⟩ := hW
  have hA : DataW.TrodAll enc Try.prog W 0 (fun _ => true) true Try.f5.params.toList args.toList ds p := hA0
  rw [Try.params5] at hA hval hsz
  obtain ⟨v0, v1, d0, d1, p0, p1, rfl, rfl, rfl, h0, h1⟩ := trodAll_two hA
  obtain ⟨rfl, rfl⟩ := trodVars_none hV
  have k0 := h0
  have k1 := h1
  have lt0 : ∀ x ∈ p0, x.block < W.heap.size := by obtain ⟨m, hm⟩ := k0; exact DataW.trod_lt m _ _ _ hm
  have lt1 : ∀ x ∈ p1, x.block < W.heap.size := by obtain ⟨m, hm⟩ := k1; exact DataW.trod_lt m _ _ _ hm
  obtain ⟨c0, c1, c2, c3, y0, y1, y2, y3, m, rfl, hd0, hp0, e0, e1, e2, e3⟩ := Joins.open_agg4 Try.underlying25 (by kernel_rfl) (by kernel_rfl) (hval 0 25 v0 rfl rfl) h0
  obtain ⟨N, rN, hy0, wN⟩ := DataW.trod_int Try.underlying22 e0
  obtain ⟨S, rS, hy1, wS⟩ := DataW.trod_int Try.underlying2 e1
  obtain ⟨F, rF, hy2⟩ := DataW.trod_bool Try.underlying4 e2
  simp only [List.cons.injEq, and_true] at rN rS rF
  subst rN rS rF
  obtain ⟨ao, capB, lB, rfl, rB, nB, cB, eB, xB⟩ := open_bytes e3
  obtain ⟨m1, e4⟩ := h1
  obtain ⟨bo, capb, lb, rfl, rb, nb, cb, eb, xb⟩ := open_bytes (x := (d1, p1)) (v := v1) (by
    obtain ⟨a, len, cap, rfl⟩ := okWide_slice Try.underlying23 (hval 1 23 v1 rfl rfl)
    exact e4)
  have hzz : capB ≤ reachBytes ∧ capb ≤ reachBytes := by
    have h : (DataW.weightsEach Try.prog [25, 23] [d0, d1]).all (· ≤ reachBytes) = true := hsz
    rw [hd0] at h
    simp only [DataW.weightsEach, DataW.weights, Try.underlying25, List.map_cons, List.map_nil, List.all_append, Bool.and_eq_true] at h
    exact ⟨cap_le xB h.1.2.2.2.1, cap_le xb h.2.1⟩
  obtain ⟨hN0, hN1⟩ := bounds_u64 wN
  obtain ⟨hS0, hS1⟩ := bounds_i64 wS
  obtain ⟨N, rfl⟩ := Int.eq_ofNat_of_zero_le hN0
  clear hA0 hval0
  unfold reachBytes at hzz
  refine (back_walk N S F ao bo capB capb lB lb W (by omega) hS0 hS1 rB nB (by omega) eB rb nb (by omega) eb cb).mono fun e W' ⟨he, bel⟩ => ?_
  subst he
  exact ⟨_, rfl, _, _, _, [], _, [], hW', trodAll_mk1 (shut_bool Try.underlying4 _), (trodAll_cons_mk (Below.trod laidOut (by kernel_rfl) (of_decide_eq_true (by kernel_rfl)) k0 bel lt0) (trodAll_cons_mk (Below.trod laidOut (by kernel_rfl) (of_decide_eq_true (by kernel_rfl)) k1 bel lt1) trodAll_mk0)), rfl, bel.frame _, fun h => by cases h⟩

theorem over : Rows.wireBackRow.holds Try.pinned (OpenSpec.ofChange Rows.wireBackSpec) :=
  OpenClaim.holds_of_wide 5 Try.f5 rfl rfl rfl rfl rfl rfl rfl ⟨rfl, rfl, rfl, rfl, rfl⟩ rfl rfl rfl rfl rfl (by kernel_rfl) Try.func5 (by kernel_rfl)
    (of_decide_eq_true (by kernel_rfl)) (by unfold Func.isWrapper; first | (rw [if_pos (by decide +kernel)]; kernel_rfl) | (rw [if_neg (by decide +kernel)]; exact ⟨rfl, rfl⟩))
    (fun os started H enc _ => lifted os started H enc)
end Go.Proofs.Ytjbnhfcacocgeaa.wireBack
namespace Go.Proofs.Ytjbnhfcacocgeaa

/-- The statement. -/
theorem wireBack_holds : Rows.WireBackSaid := wireBack.over
#print axioms wireBack_holds
end Go.Proofs.Ytjbnhfcacocgeaa
