/-
  PROVED: the law QueuePops of layer 13 (queue) returns true and leaves its arguments as they are: two pops that do not see each other take one element away between them, whatever is pushed meanwhile; for every list of elements, every stamp and every text, with no condition.
-/
import Derived.Test.YtkeldhohilmdcaaGreatQuN
import Derived.Test.YtkeldhohilmdcaaGreatOpenE
import Derived.Test.YtkeldhohilmdcaaGreatRows
namespace Go.Proofs.YtkeldhohilmdcaaGreat
open Go.ChangeShapes Go.WideShapes Go.ChangeAt Go.RowKit Go.Shelf
theorem cells_aggQ {v : Value} {n : Nat} (h : v.cells.toList.length = n) (hn : n ≠ 1) : ∃ cs : List Value, v = .agg cs.toArray ∧ cs.length = n ∧ v.cells.toList = cs := by
  cases v with
  | agg cs => exact ⟨cs.toList, by simp, by simpa [Value.cells] using h, rfl⟩
  | _ => simp [Value.cells] at h; exact absurd h.symm hn
theorem l5o {α : Type} {l : List α} (h : l.length = 5) : ∃ a b c d e, l = [a, b, c, d, e] := by
  match l, h with
  | [a, b, c, d, e], _ => exact ⟨a, b, c, d, e, rfl⟩
theorem open_stampQ {H : Type} {enc : TypeId × Value → H} {W : World} {v : Value} {d : DataW H} {p : List MemPlace} (h : DataW.Trod enc Tryz.prog W 0 (fun _ => true) true 43 v d p) : ∃ s : St, v = svT s ∧ s.2.2.1.size ≤ maxLen := by
  obtain ⟨fuel, hf⟩ := h
  obtain ⟨xs, n, _, hx, hl, hlen, hff⟩ := DataW.trod_struct Tryz.underlying43 hf
  rw [c43o] at hl
  obtain ⟨cs, rfl, hcs, hcc⟩ := cells_aggQ hl (by decide)
  rw [hcc] at hf
  obtain ⟨u0, u1, u2, u3, u4, rfl⟩ := l5o hcs
  obtain ⟨g, r, s, n, i, rfl, rfl, rfl, rfl, rfl, hs⟩ := open_stampO hf
  exact ⟨(g, r, s, n, i), rfl, hs⟩
end Go.Proofs.YtkeldhohilmdcaaGreat
namespace Go.Proofs.YtkeldhohilmdcaaGreat.queuePops
open Go.ChangeShapes Go.WideShapes Go.ChangeAt Go.RowKit Go.Shelf

set_option maxRecDepth 100000 in
theorem lifted (os : Os) (started : os.Started) (H : Type) (enc : TypeId × Value → H) :
    ReturnsInHanded {} Tryz.checked os 10 .any (Rows.queuePopsSpec.pre6 enc Tryz.prog Tryz.f10 Rows.queuePopsRow.domain false) (Rows.queuePopsSpec.post enc Tryz.prog Tryz.f10 false true false false) := by
  refine returnsInHanded_of_change (C := Tryz.checked) own started (by kernel_rfl) Tryz.func10
    (ChangeSpec.witness6 (enc := enc) (C := Tryz.checked) false ⟨#[], #[.slice none 0 0, .agg #[.int .i64 0, .int .i64 0, .string ⟨#[]⟩, .int .i64 0, .int .i64 0], .string ⟨#[]⟩], []⟩ 8 (by kernel_rfl) (by kernel_rfl) (by kernel_rfl) (by kernel_rfl)) ?_
  intro W base args ds gs before hval0 hW hcnd _
  have hval : ∀ (j : Nat) t v, Tryz.f10.params[j]? = some t → args[j]? = some v → Value.okWide Tryz.prog W .any base t v := hval0
  have hW' := hW
  obtain ⟨p, q, hA0, hV, rfl, hfz, hnd⟩ := hW
  have hA : DataW.TrodAll enc Tryz.prog W 0 (fun _ => true) true Tryz.f10.params.toList args.toList ds p := hA0
  rw [show Tryz.f10.params.toList = [22, 43, 9] from rfl] at hA
  obtain ⟨v0, v1, v2, d0, d1, d2, p0, p1, p2, rfl, rfl, rfl, h0, h1, h2⟩ := trodAll_three hA
  obtain ⟨rfl, rfl⟩ := trodVars_none hV
  have k0 := h0
  have k1 := h1
  have k2 := h2
  have lt0 : ∀ x ∈ p0, x.block < W.heap.size := by obtain ⟨m, hm⟩ := h0; exact DataW.trod_lt m _ _ _ hm
  have lt1 : ∀ x ∈ p1, x.block < W.heap.size := by obtain ⟨m, hm⟩ := h1; exact DataW.trod_lt m _ _ _ hm
  have lt2 : ∀ x ∈ p2, x.block < W.heap.size := by obtain ⟨m, hm⟩ := h2; exact DataW.trod_lt m _ _ _ hm
  obtain ⟨fuel, hf⟩ := h0
  have hf0 : DataW.trod enc Tryz.prog W 0 (fun _ => true) true fuel 22 [v0] = some (d0, p0) := by
    obtain ⟨a, len, cap, rfl⟩ := okWide_slice Tryz.underlying22 (hval 0 22 v0 rfl rfl)
    exact hf
  obtain ⟨X, rfl⟩ := okWide_string Tryz.underlying9 (hval 2 9 v2 rfl rfl)
  obtain ⟨ao, c, l, rfl, hR, hz⟩ := open_rowE hf0
  obtain ⟨s, rfl, hsz⟩ := open_stampQ h1
  clear hA0 hval0 hval
  refine (Qu.pops10 l s X hR hz (by unfold maxLen at hsz; omega)).mono fun e W' ⟨he, bel⟩ => ?_
  subst he
  exact ⟨_, rfl, _, _, _, [], _, [], hW', trodAll_mk1 (shut_bool Tryz.underlying4 _), trodAll_mk3 (Below.trod laidOut (by kernel_rfl) (of_decide_eq_true (by kernel_rfl)) k0 bel lt0) (Below.trod laidOut (by kernel_rfl) (of_decide_eq_true (by kernel_rfl)) k1 bel lt1) (Below.trod laidOut (by kernel_rfl) (of_decide_eq_true (by kernel_rfl)) k2 bel lt2), rfl, bel.frame _, fun h => by cases h⟩

theorem over : Rows.queuePopsRow.holds Tryz.pinned (OpenSpec.ofChange Rows.queuePopsSpec) :=
  OpenClaim.holds_of_wide 10 Tryz.f10 rfl rfl rfl rfl rfl rfl rfl ⟨rfl, rfl, rfl, rfl, rfl⟩ rfl rfl rfl rfl rfl (by kernel_rfl) Tryz.func10 (by kernel_rfl)
    (of_decide_eq_true (by kernel_rfl)) (by unfold Func.isWrapper; first | (rw [if_pos (by decide +kernel)]; kernel_rfl) | (rw [if_neg (by decide +kernel)]; exact ⟨rfl, rfl⟩))
    (fun os started H enc _ => lifted os started H enc)
end Go.Proofs.YtkeldhohilmdcaaGreat.queuePops
namespace Go.Proofs.YtkeldhohilmdcaaGreat
/-- The statement. -/
theorem queuePops_holds : Rows.QueuePopsSaid := queuePops.over
#print axioms queuePops_holds
end Go.Proofs.YtkeldhohilmdcaaGreat
