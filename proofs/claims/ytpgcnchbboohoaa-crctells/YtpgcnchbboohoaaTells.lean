/-
  PROVED: the law CrcTells of layer 2 (crc) returns true and leaves its arguments as they are: texts that are as long and differ in one to three bits, or within 32 bits that follow each other, have unlike sums, and sums are linear; for every two slices of bytes, every three places and every burst, with no condition.
-/
import Derived.Test.YtpgcnchbboohoaaOpens
import Derived.Test.YtpgcnchbboohoaaTellsW
namespace Go.Proofs.Ytpgcnchbboohoaa.crcTells
open Go.ChangeShapes Go.WideShapes Go.ChangeAt Go.RowKit

set_option maxRecDepth 100000 in
theorem lifted (os : Os) (started : os.Started) (H : Type) (enc : TypeId × Value → H) :
    ReturnsInHanded {} Try.checked os 5 .any (Rows.crcTellsSpec.pre6 enc Try.prog Try.f5 Rows.crcTellsRow.domain false) (Rows.crcTellsSpec.post enc Try.prog Try.f5 false true false false) := by
  refine returnsInHanded_of_change_sized (C := Try.checked) own started (by kernel_rfl) Try.func5
    (ChangeSpec.witness6 (enc := enc) (C := Try.checked) false ⟨#[], #[.agg #[.slice none 0 0, .slice none 0 0], .agg #[.int .i64 0, .int .i64 0, .int .i64 0], .int .u32 0], []⟩ 8 (by kernel_rfl) (by kernel_rfl) (by kernel_rfl) (by kernel_rfl)) ?_
  intro W base args ds gs before hval0 hW hcnd hsz0 _
  have hval : ∀ (j : Nat) t v, Try.f5.params[j]? = some t → args[j]? = some v → Value.okWide Try.prog W .any base t v := hval0
  have hsz : (DataW.weightsEach Try.prog (Try.f5.params.toList ++ Rows.crcTellsSpec.plain.varTypes Try.prog) (ds ++ gs)).all (· ≤ reachBytes) = true := hsz0
  have hW' := hW
  obtain ⟨p, q, hA0, hV, rfl, hfz, hnd⟩ := hW
  have hA : DataW.TrodAll enc Try.prog W 0 (fun _ => true) true Try.f5.params.toList args.toList ds p := hA0
  rw [Try.params5] at hA hsz hval
  obtain ⟨v0, v1, v2, d0, d1, d2, p0, p1, p2, rfl, rfl, rfl, h0, h1, h2⟩ := trodAll_three hA
  obtain ⟨rfl, rfl⟩ := trodVars_none hV
  have k0 := h0
  have k1 := h1
  have k2 := h2
  have lt0 : ∀ x ∈ p0, x.block < W.heap.size := by obtain ⟨m, hm⟩ := k0; exact DataW.trod_lt m _ _ _ hm
  have lt1 : ∀ x ∈ p1, x.block < W.heap.size := by obtain ⟨m, hm⟩ := k1; exact DataW.trod_lt m _ _ _ hm
  have lt2 : ∀ x ∈ p2, x.block < W.heap.size := by obtain ⟨m, hm⟩ := k2; exact DataW.trod_lt m _ _ _ hm
  obtain ⟨b0, b1, yb0, yb1, m2, rfl, hd0, e4, e5⟩ := open_arr2 Try.underlying33 Try.cells33 Try.cells24 h0
  obtain ⟨i0, i1, i2, yi0, yi1, yi2, m3, rfl, f0, f1, f2⟩ := open_arr3 Try.underlying36 Try.cells36 Try.cells3 h1
  obtain ⟨a0, r0, _, w0⟩ := DataW.trod_int Try.underlying3 f0
  obtain ⟨a1, r1, _, w1⟩ := DataW.trod_int Try.underlying3 f1
  obtain ⟨a2, r2, _, w2⟩ := DataW.trod_int Try.underlying3 f2
  simp only [List.cons.injEq, and_true] at r0 r1 r2
  subst r0 r1 r2
  obtain ⟨u', rfl⟩ := okWide_int Try.underlying23 (hval 2 23 v2 rfl rfl)
  obtain ⟨m1, e2⟩ := h2
  have e3 : DataW.trod enc Try.prog W 0 (fun _ => true) true m1 23 [.int .u32 u'] = some (d2, p2) := e2
  obtain ⟨u, ru, _, wu⟩ := DataW.trod_int Try.underlying23 e3
  simp only [List.cons.injEq, and_true] at ru
  rw [ru] at hval hA hW' k2 ⊢
  obtain ⟨xo, cx, x, rfl, rx, nx, lx, ux, wx⟩ := open_bytes e4
  obtain ⟨yo, cy, y, rfl, ry, ny, ly, uy, wy⟩ := open_bytes e5
  have hzz : cx ≤ reachBytes ∧ cy ≤ reachBytes := by
    have h : (DataW.weightsEach Try.prog [33, 36, 23] [d0, d1, d2]).all (· ≤ reachBytes) = true := hsz
    rw [hd0] at h
    simp only [DataW.weightsEach, DataW.weights, Try.underlying33, DataW.weightsAll, List.all_append, Bool.and_eq_true] at h
    exact ⟨cap_le wx h.1.1, cap_le wy h.1.2.1⟩
  unfold reachBytes at hzz
  obtain ⟨hu0, hu1⟩ := bounds_u32 wu
  obtain ⟨u, rfl⟩ := Int.eq_ofNat_of_zero_le hu0
  clear hA0 hval0
  refine (tells_walk xo yo cx cy x y a0 a1 a2 u W (by omega) (bounds_i64 w0) (bounds_i64 w1) (bounds_i64 w2) rx nx (by omega) ux ry (by omega) uy).mono fun e W' ⟨he, bel⟩ => ?_
  subst he
  exact ⟨_, rfl, _, _, _, [], _, [], hW', trodAll_mk1 (shut_bool Try.underlying4 _), (trodAll_cons_mk (Below.trod laidOut (by kernel_rfl) (of_decide_eq_true (by kernel_rfl)) k0 bel lt0) (trodAll_cons_mk (Below.trod laidOut (by kernel_rfl) (of_decide_eq_true (by kernel_rfl)) k1 bel lt1) (trodAll_cons_mk (Below.trod laidOut (by kernel_rfl) (of_decide_eq_true (by kernel_rfl)) k2 bel lt2) trodAll_mk0))), rfl, bel.frame _, fun h => by cases h⟩

theorem over : Rows.crcTellsRow.holds Try.pinned (OpenSpec.ofChange Rows.crcTellsSpec) :=
  OpenClaim.holds_of_wide 5 Try.f5 rfl rfl rfl rfl rfl rfl rfl ⟨rfl, rfl, rfl, rfl, rfl⟩ rfl rfl rfl rfl rfl (by kernel_rfl) Try.func5 (by kernel_rfl)
    (of_decide_eq_true (by kernel_rfl)) (by unfold Func.isWrapper; first | (rw [if_pos (by decide +kernel)]; kernel_rfl) | (rw [if_neg (by decide +kernel)]; exact ⟨rfl, rfl⟩))
    (fun os started H enc _ => lifted os started H enc)
end Go.Proofs.Ytpgcnchbboohoaa.crcTells
namespace Go.Proofs.Ytpgcnchbboohoaa

/-- The statement. -/
theorem crcTells_holds : Rows.CrcTellsSaid := crcTells.over
#print axioms crcTells_holds
end Go.Proofs.Ytpgcnchbboohoaa
