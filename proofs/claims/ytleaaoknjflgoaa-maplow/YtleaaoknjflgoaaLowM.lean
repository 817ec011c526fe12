/-
  PROVED: the law MapLow of layer 7 (pmap) returns true and leaves its arguments as they are: whatever keys are put and taken, the map is no higher than its keys allow, and tells what was put; for every list of keys and every list of bits, with no condition.
-/
import Derived.Test.YtleaaoknjflgoaaOpens
import Derived.Test.YtleaaoknjflgoaaLow
import Derived.Deep.Grids
namespace Go.Proofs.Ytleaaoknjflgoaa
open Go.ChangeShapes Go.WideShapes Go.ChangeAt Go.RowKit Go.Shelf

theorem Try.cells59 : Try.prog.cellsOf 59 = 1 := by kernel_rfl
theorem Try.cells4 : Try.prog.cellsOf 4 = 1 := by kernel_rfl
/-- Cells at an address that is plain where there is one. -/
theorem cs_of {W : World} {a : Addr} {l : List Value} {cap : Nat} (hc : l.length ≤ cap) (h : ∀ j u, l[j]? = some u → W.cell? (a.add j) = some u) : Cs W (.slice (some a) l.length cap) l := ⟨_, _, rfl, hc, fun j u hj => by
  have h1 := h j u hj
  obtain ⟨b, off, spot⟩ := a
  have hl := (List.getElem?_eq_some_iff.1 hj).1
  obtain ⟨u0, h0⟩ : ∃ u0, l[0]? = some u0 := ⟨l[0]'(by omega), List.getElem?_eq_getElem _⟩
  have hspot : spot = none := by simpa [Addr.add] using World.cell?_spot (h 0 u0 h0)
  subst hspot
  exact ⟨b, off, rfl, by rw [← Go.WideShapes.add_plain]; exact h1⟩⟩
/-- A slice of numbers of sixteen bits. -/
theorem open_u16 {H : Type} {enc : TypeId × Value → H} {W : World} {fuel : Nat} {v : Value} {x : DataW H × List MemPlace} (h : DataW.trod enc Try.prog W 0 (fun _ => true) true fuel 57 [v] = some x) : ∃ zs : List Int, Cs W v (zs.map (.int .u16)) := by
  rcases open_ints Try.underlying57 Try.underlying59 Try.cells59 h with ⟨hcs, _⟩ | ⟨a, len, cap, zs, hcs, _, hl, hm, hz, hx, hcell, hwz⟩
  · simp only [List.cons.injEq, and_true] at hcs
    subst hcs
    exact ⟨[], none, 0, rfl, by simp, by simp⟩
  · simp only [List.cons.injEq, and_true] at hcs
    subst hcs
    simp only [if_true] at hz
    have hlen : ((zs.take len).map (Value.int .u16)).length = len := by simp; omega
    refine ⟨zs.take len, ?_⟩
    have := cs_of (W := W) (a := a) (l := (zs.take len).map (.int .u16)) (cap := cap) (by omega) (fun j u hj => by
      rw [List.getElem?_map, List.getElem?_take] at hj
      split at hj
      · obtain ⟨z, hz1, rfl⟩ := Option.map_eq_some_iff.1 hj
        have hjl : j < zs.length := (List.getElem?_eq_some_iff.1 hz1).1
        rw [hcell j hjl, List.getD, hz1]; rfl
      · cases hj)
    rw [hlen] at this
    exact this
/-- A slice of bits. -/
theorem open_bits {H : Type} {enc : TypeId × Value → H} {W : World} {fuel : Nat} {v : Value} {x : DataW H × List MemPlace} (h : DataW.trod enc Try.prog W 0 (fun _ => true) true fuel 58 [v] = some x) : ∃ bs : List Bool, Cs W v (bs.map .bool) := by
  rcases Deep.open_bools Try.underlying58 Try.underlying4 Try.cells4 h with ⟨hcs, _⟩ | ⟨a, len, cap, B, hcs, _, hl, hm, hx, hcell⟩
  · simp only [List.cons.injEq, and_true] at hcs
    subst hcs
    exact ⟨[], none, 0, rfl, by simp, by simp⟩
  · simp only [List.cons.injEq, and_true] at hcs
    subst hcs
    have hlen : (((List.range len).map B).map Value.bool).length = len := by simp
    refine ⟨(List.range len).map B, ?_⟩
    have := cs_of (W := W) (a := a) (l := ((List.range len).map B).map .bool) (cap := cap) (by omega) (fun j u hj => by
      have hjl := (List.getElem?_eq_some_iff.1 hj).1
      rw [hlen] at hjl
      rw [hcell j (by omega)]
      simp [hjl] at hj
      rw [hj])
    rw [hlen] at this
    exact this
end Go.Proofs.Ytleaaoknjflgoaa
namespace Go.Proofs.Ytleaaoknjflgoaa.mapLow
open Go.ChangeShapes Go.WideShapes Go.ChangeAt Go.RowKit Go.Shelf

set_option maxRecDepth 100000 in
theorem lifted (os : Os) (started : os.Started) (H : Type) (enc : TypeId × Value → H) :
    ReturnsInHanded {} Try.checked os 5 .any (Rows.mapLowSpec.pre6 enc Try.prog Try.f5 Rows.mapLowRow.domain false) (Rows.mapLowSpec.post enc Try.prog Try.f5 false true false false) := by
  refine returnsInHanded_of_change (C := Try.checked) own started (by kernel_rfl) Try.func5
    (ChangeSpec.witness6 (enc := enc) (C := Try.checked) false ⟨#[], #[.slice none 0 0, .slice none 0 0], []⟩ 8 (by kernel_rfl) (by kernel_rfl) (by kernel_rfl) (by kernel_rfl)) ?_
  intro W base args ds gs before hval0 hW hcnd _
  have hval : ∀ (j : Nat) t v, Try.f5.params[j]? = some t → args[j]? = some v → Value.okWide Try.prog W .any base t v := hval0
  have hW' := hW
  obtain ⟨p, q, hA0, hV, rfl, hfz, hnd⟩ := hW
  have hA : DataW.TrodAll enc Try.prog W 0 (fun _ => true) true Try.f5.params.toList args.toList ds p := hA0
  rw [show Try.f5.params.toList = [57, 58] from rfl] at hA
  obtain ⟨v0, v1, d0, d1, p0, p1, rfl, rfl, rfl, h0, h1⟩ := trodAll_two hA
  obtain ⟨rfl, rfl⟩ := trodVars_none hV
  have k0 := h0
  have k1 := h1
  have lt0 : ∀ x ∈ p0, x.block < W.heap.size := by obtain ⟨m, hm⟩ := h0; exact DataW.trod_lt m _ _ _ hm
  have lt1 : ∀ x ∈ p1, x.block < W.heap.size := by obtain ⟨m, hm⟩ := h1; exact DataW.trod_lt m _ _ _ hm
  obtain ⟨m0, e0⟩ := h0
  obtain ⟨m1, e1⟩ := h1
  obtain ⟨zs, hz⟩ := open_u16 (x := (d0, p0)) (v := v0) (by
    obtain ⟨a, len, cap, rfl⟩ := okWide_slice Try.underlying57 (hval 0 57 v0 rfl rfl)
    exact e0)
  obtain ⟨bs, hb⟩ := open_bits (x := (d1, p1)) (v := v1) (by
    obtain ⟨a, len, cap, rfl⟩ := okWide_slice Try.underlying58 (hval 1 58 v1 rfl rfl)
    exact e1)
  clear hA0 hval0 hval
  refine (low_walk zs bs v0 v1 W hz hb).mono fun e W' ⟨he, bel⟩ => ?_
  subst he
  exact ⟨_, rfl, _, _, _, [], _, [], hW', trodAll_mk1 (shut_bool Try.underlying4 _), trodAll_mk2 (Below.trod laidOut (by kernel_rfl) (of_decide_eq_true (by kernel_rfl)) k0 bel lt0) (Below.trod laidOut (by kernel_rfl) (of_decide_eq_true (by kernel_rfl)) k1 bel lt1), rfl, bel.frame _, fun h => by cases h⟩

theorem over : Rows.mapLowRow.holds Try.pinned (OpenSpec.ofChange Rows.mapLowSpec) :=
  OpenClaim.holds_of_wide 5 Try.f5 rfl rfl rfl rfl rfl rfl rfl ⟨rfl, rfl, rfl, rfl, rfl⟩ rfl rfl rfl rfl rfl (by kernel_rfl) Try.func5 (by kernel_rfl)
    (of_decide_eq_true (by kernel_rfl)) (by unfold Func.isWrapper; first | (rw [if_pos (by decide +kernel)]; kernel_rfl) | (rw [if_neg (by decide +kernel)]; exact ⟨rfl, rfl⟩))
    (fun os started H enc _ => lifted os started H enc)
end Go.Proofs.Ytleaaoknjflgoaa.mapLow
namespace Go.Proofs.Ytleaaoknjflgoaa
/-- The statement. -/
theorem mapLow_holds : Rows.MapLowSaid := mapLow.over
#print axioms mapLow_holds
end Go.Proofs.Ytleaaoknjflgoaa
