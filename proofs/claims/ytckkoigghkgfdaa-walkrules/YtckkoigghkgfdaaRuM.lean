/-
  PROVED: the law WalkRules of layer 8 (walk) returns true and leaves its arguments as they are: a walk by any rule that answers what both have alike, and one side's where the other one is as the base, asks it of each key at most once, with what the three have, and does what it says; for every Three and every list of picks, with no condition.
-/
import Derived.Test.YtckkoigghkgfdaaOpenT
import Derived.Test.YtckkoigghkgfdaaRuW
import Derived.Test.YtckkoigghkgfdaaKnownW
namespace Go.Proofs.Ytckkoigghkgfdaa
open Go.ChangeShapes Go.WideShapes Go.ChangeAt Go.RowKit Go.Shelf
/-- A slice of bits. -/
theorem open_bits {H : Type} {enc : TypeId × Value → H} {W : World} {fuel : Nat} {v : Value} {x : DataW H × List MemPlace} (h : DataW.trod enc Try.prog W 0 (fun _ => true) true fuel 50 [v] = some x) : ∃ bs : List Bool, Cs W v (bs.map .bool) := by
  rcases Deep.open_bools Try.underlying50 Try.underlying4 Try.cells4 h with ⟨hcs, _⟩ | ⟨a, len, cap, B, hcs, _, hl, hm, hx, hcell⟩
  · simp only [List.cons.injEq, and_true] at hcs
    subst hcs
    exact ⟨[], none, 0, rfl, by simp, by simp⟩
  · simp only [List.cons.injEq, and_true] at hcs
    subst hcs
    have hlen : (((List.range len).map B).map Value.bool).length = len := by simp
    refine ⟨(List.range len).map B, ?_⟩
    have := cs_at (W := W) (a := a) (l := ((List.range len).map B).map .bool) (cap := cap) (by omega) (fun j u hj => by
      have hjl := (List.getElem?_eq_some_iff.1 hj).1
      rw [hlen] at hjl
      rw [hcell j (by omega)]
      simp [hjl] at hj
      rw [hj])
    rw [hlen] at this
    exact this
end Go.Proofs.Ytckkoigghkgfdaa
namespace Go.Proofs.Ytckkoigghkgfdaa.walkRules
open Go.ChangeShapes Go.WideShapes Go.ChangeAt Go.RowKit Go.Shelf

set_option maxRecDepth 100000 in
theorem lifted (os : Os) (started : os.Started) (H : Type) (enc : TypeId × Value → H) :
    ReturnsInHanded {} Try.checked os 5 .any (Rows.walkRulesSpec.pre6 enc Try.prog Try.f5 Rows.walkRulesRow.domain false) (Rows.walkRulesSpec.post enc Try.prog Try.f5 false true false false) := by
  refine returnsInHanded_of_change (C := Try.checked) own started (by kernel_rfl) Try.func5
    (ChangeSpec.witness6 (enc := enc) (C := Try.checked) false ⟨#[], #[.agg #[.slice none 0 0, .slice none 0 0, .slice none 0 0, .slice none 0 0, .slice none 0 0, .bool false, .bool false, .bool false], .slice none 0 0], []⟩ 8 (by kernel_rfl) (by kernel_rfl) (by kernel_rfl) (by kernel_rfl)) ?_
  intro W base args ds gs before hval0 hW hcnd _
  have hW' := hW
  obtain ⟨p, q, hA0, hV, rfl, hfz, hnd⟩ := hW
  have hA : DataW.TrodAll enc Try.prog W 0 (fun _ => true) true Try.f5.params.toList args.toList ds p := hA0
  rw [show Try.f5.params.toList = [25, 50] from rfl] at hA
  obtain ⟨v0, v1, d0, d1, p0, p1, rfl, rfl, rfl, h0, h1⟩ := trodAll_two hA
  obtain ⟨rfl, rfl⟩ := trodVars_none hV
  have k0 := h0
  have k1 := h1
  have lt1 : ∀ x ∈ p1, x.block < W.heap.size := by obtain ⟨m, hm⟩ := h1; exact DataW.trod_lt m _ _ _ hm
  have lt0 : ∀ x ∈ p0, x.block < W.heap.size := by obtain ⟨m, hm⟩ := h0; exact DataW.trod_lt m _ _ _ hm
  obtain ⟨s0, s1, s2, s3, s4, x, y, z, ks, pa, pb, ta, tb, rfl, hT⟩ := open_three h0
  obtain ⟨m1, e1⟩ := h1
  have hval : ∀ (j : Nat) t v, Try.f5.params[j]? = some t → #[Value.agg #[s0, s1, s2, s3, s4, .bool x, .bool y, .bool z], v1][j]? = some v → Value.okWide Try.prog W .any base t v := hval0
  obtain ⟨bs, hb⟩ := open_bits (x := (d1, p1)) (v := v1) (by
    obtain ⟨a, len, cap, rfl⟩ := okWide_slice Try.underlying50 (hval 1 50 v1 rfl rfl)
    exact e1)
  obtain ⟨ap, np, cp, rfl⟩ := okWide_slice Try.underlying50 (hval 1 50 v1 rfl rfl)
  clear hA0 hval0 hval
  refine (rules_walk known_any x y z W hT hb).mono fun e W' ⟨he, bel⟩ => ?_
  subst he
  exact ⟨_, rfl, _, _, _, [], _, [], hW', trodAll_mk1 (shut_bool Try.underlying4 _), trodAll_mk2 (Below.trod laidOut (by kernel_rfl) (of_decide_eq_true (by kernel_rfl)) k0 bel lt0) (Below.trod laidOut (by kernel_rfl) (of_decide_eq_true (by kernel_rfl)) k1 bel lt1), rfl, bel.frame _, fun h => by cases h⟩

theorem over : Rows.walkRulesRow.holds Try.pinned (OpenSpec.ofChange Rows.walkRulesSpec) :=
  OpenClaim.holds_of_wide 5 Try.f5 rfl rfl rfl rfl rfl rfl rfl ⟨rfl, rfl, rfl, rfl, rfl⟩ rfl rfl rfl rfl rfl (by kernel_rfl) Try.func5 (by kernel_rfl)
    (of_decide_eq_true (by kernel_rfl)) (by unfold Func.isWrapper; first | (rw [if_pos (by decide +kernel)]; kernel_rfl) | (rw [if_neg (by decide +kernel)]; exact ⟨rfl, rfl⟩))
    (fun os started H enc _ => lifted os started H enc)
end Go.Proofs.Ytckkoigghkgfdaa.walkRules
namespace Go.Proofs.Ytckkoigghkgfdaa
/-- The statement. -/
theorem walkRules_holds : Rows.WalkRulesSaid := walkRules.over
#print axioms walkRules_holds
end Go.Proofs.Ytckkoigghkgfdaa
