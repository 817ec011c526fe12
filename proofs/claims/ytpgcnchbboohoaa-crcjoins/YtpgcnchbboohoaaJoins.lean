/-
  PROVED: the law CrcJoins of layer 2 (crc) returns true and leaves its arguments as they are: two sums are put together as the chapter says, and of real pieces that is the sum of both, one behind the other; for every two sums, every length and every two slices of bytes, with no condition.
-/
import Derived.Test.YtpgcnchbboohoaaOpens
import Derived.Test.YtpgcnchbboohoaaJoinsW
namespace Go.Proofs.Ytpgcnchbboohoaa.crcJoins
open Go.ChangeShapes Go.WideShapes Go.ChangeAt Go.RowKit

set_option maxRecDepth 100000 in
theorem lifted (os : Os) (started : os.Started) (H : Type) (enc : TypeId × Value → H) :
    ReturnsInHanded {} Try.checked os 4 .any (Rows.crcJoinsSpec.pre6 enc Try.prog Try.f4 Rows.crcJoinsRow.domain false) (Rows.crcJoinsSpec.post enc Try.prog Try.f4 false true false false) := by
  refine returnsInHanded_of_change_sized (C := Try.checked) own started (by kernel_rfl) Try.func4
    (ChangeSpec.witness6 (enc := enc) (C := Try.checked) false ⟨#[], #[.agg #[.int .u32 0, .int .u32 0], .int .i64 0, .agg #[.slice none 0 0, .slice none 0 0]], []⟩ 8 (by kernel_rfl) (by kernel_rfl) (by kernel_rfl) (by kernel_rfl)) ?_
  intro W base args ds gs before hval0 hW hcnd hsz0 _
  have hval : ∀ (j : Nat) t v, Try.f4.params[j]? = some t → args[j]? = some v → Value.okWide Try.prog W .any base t v := hval0
  have hsz : (DataW.weightsEach Try.prog (Try.f4.params.toList ++ Rows.crcJoinsSpec.plain.varTypes Try.prog) (ds ++ gs)).all (· ≤ reachBytes) = true := hsz0
  have hW' := hW
  obtain ⟨p, q, hA0, hV, rfl, hfz, hnd⟩ := hW
  have hA : DataW.TrodAll enc Try.prog W 0 (fun _ => true) true Try.f4.params.toList args.toList ds p := hA0
  rw [Try.params4] at hA hsz hval
  obtain ⟨v0, v1, v2, d0, d1, d2, p0, p1, p2, rfl, rfl, rfl, h0, h1, h2⟩ := trodAll_three hA
  obtain ⟨rfl, rfl⟩ := trodVars_none hV
  have k0 := h0
  have k1 := h1
  have k2 := h2
  have lt0 : ∀ x ∈ p0, x.block < W.heap.size := by obtain ⟨m, hm⟩ := k0; exact DataW.trod_lt m _ _ _ hm
  have lt1 : ∀ x ∈ p1, x.block < W.heap.size := by obtain ⟨m, hm⟩ := k1; exact DataW.trod_lt m _ _ _ hm
  have lt2 : ∀ x ∈ p2, x.block < W.heap.size := by obtain ⟨m, hm⟩ := k2; exact DataW.trod_lt m _ _ _ hm
  obtain ⟨a0, a1, ya0, ya1, m0, rfl, hd0, e0, e1⟩ := open_arr2 Try.underlying32 Try.cells32 Try.cells23 h0
  obtain ⟨b0, b1, yb0, yb1, m2, rfl, hd2, e4, e5⟩ := open_arr2 Try.underlying33 Try.cells33 Try.cells24 h2
  obtain ⟨a, ra, _, wa⟩ := DataW.trod_int Try.underlying23 e0
  obtain ⟨b, rb, _, wb⟩ := DataW.trod_int Try.underlying23 e1
  simp only [List.cons.injEq, and_true] at ra rb
  subst ra rb
  obtain ⟨n', rfl⟩ := okWide_int Try.underlying3 (hval 1 3 v1 rfl rfl)
  obtain ⟨m1, e2⟩ := h1
  have e3 : DataW.trod enc Try.prog W 0 (fun _ => true) true m1 3 [.int .i64 n'] = some (d1, p1) := e2
  obtain ⟨n, rn, _, wn⟩ := DataW.trod_int Try.underlying3 e3
  simp only [List.cons.injEq, and_true] at rn
  rw [rn] at hval hA hW' k1 ⊢
  obtain ⟨xo, cx, x, rfl, rx, nx, lx, ux, wx⟩ := open_bytes e4
  obtain ⟨yo, cy, y, rfl, ry, ny, ly, uy, wy⟩ := open_bytes e5
  have hzz : cx ≤ reachBytes ∧ cy ≤ reachBytes := by
    have h : (DataW.weightsEach Try.prog [32, 3, 33] [d0, d1, d2]).all (· ≤ reachBytes) = true := hsz
    rw [hd2] at h
    simp only [DataW.weightsEach, DataW.weights, Try.underlying33, DataW.weightsAll, List.all_append, Bool.and_eq_true] at h
    exact ⟨cap_le wx h.2.2.1.1, cap_le wy h.2.2.1.2.1⟩
  unfold reachBytes at hzz
  obtain ⟨ha0, ha1⟩ := bounds_u32 wa
  obtain ⟨hb0, hb1⟩ := bounds_u32 wb
  obtain ⟨hn0, hn1⟩ := bounds_i64 wn
  obtain ⟨a, rfl⟩ := Int.eq_ofNat_of_zero_le ha0
  obtain ⟨b, rfl⟩ := Int.eq_ofNat_of_zero_le hb0
  clear hA0 hval0
  refine (joins_walk a b n xo yo cx cy x y W (by omega) (by omega) hn0 hn1 rx nx (by omega) ux ry ny (by omega) uy).mono fun e W' ⟨he, bel⟩ => ?_
  subst he
  exact ⟨_, rfl, _, _, _, [], _, [], hW', trodAll_mk1 (shut_bool Try.underlying4 _), (trodAll_cons_mk (Below.trod laidOut (by kernel_rfl) (of_decide_eq_true (by kernel_rfl)) k0 bel lt0) (trodAll_cons_mk (Below.trod laidOut (by kernel_rfl) (of_decide_eq_true (by kernel_rfl)) k1 bel lt1) (trodAll_cons_mk (Below.trod laidOut (by kernel_rfl) (of_decide_eq_true (by kernel_rfl)) k2 bel lt2) trodAll_mk0))), rfl, bel.frame _, fun h => by cases h⟩

theorem over : Rows.crcJoinsRow.holds Try.pinned (OpenSpec.ofChange Rows.crcJoinsSpec) :=
  OpenClaim.holds_of_wide 4 Try.f4 rfl rfl rfl rfl rfl rfl rfl ⟨rfl, rfl, rfl, rfl, rfl⟩ rfl rfl rfl rfl rfl (by kernel_rfl) Try.func4 (by kernel_rfl)
    (of_decide_eq_true (by kernel_rfl)) (by unfold Func.isWrapper; first | (rw [if_pos (by decide +kernel)]; kernel_rfl) | (rw [if_neg (by decide +kernel)]; exact ⟨rfl, rfl⟩))
    (fun os started H enc _ => lifted os started H enc)
end Go.Proofs.Ytpgcnchbboohoaa.crcJoins
namespace Go.Proofs.Ytpgcnchbboohoaa

/-- The statement. -/
theorem crcJoins_holds : Rows.CrcJoinsSaid := crcJoins.over
#print axioms crcJoins_holds
end Go.Proofs.Ytpgcnchbboohoaa
