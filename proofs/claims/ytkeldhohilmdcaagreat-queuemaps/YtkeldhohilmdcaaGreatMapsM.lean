/-
  HOW ARGUMENTS ARE OPENED: slices of bytes, arrays of two and three.
  PROVED: the law RegisterMaps of layer 12 (register) returns true and leaves its argument as it is: a map that is no register is refused by every call, and shows nothing; for every list of pairs of strings, with no condition.
-/
import Derived.Test.YtkeldhohilmdcaaGreatBytes
import Derived.ProofKit
import Derived.OpenShut
import Derived.Lib.SmallJoins
import Derived.SizedLaws
import Derived.ShutString
import Derived.ChangeOld
import Derived.Below
import Derived.Test.YtkeldhohilmdcaaGreatRegF
import Derived.Test.YtkeldhohilmdcaaGreatRows
import Derived.SliceStrings
import Derived.Deep.Grids
namespace Go.Proofs.YtkeldhohilmdcaaGreat
open Go.ChangeShapes Go.WideShapes Go.ChangeAt Go.RowKit

theorem own : ownKnob Tryz.prog.godebug = none := by kernel_rfl
theorem laidOut : laidOutB Tryz.prog = true := by kernel_rfl
end Go.Proofs.YtkeldhohilmdcaaGreat
namespace Go.Proofs.YtkeldhohilmdcaaGreat
open Go.ChangeShapes Go.WideShapes Go.ChangeAt Go.RowKit Go.Shelf

set_option linter.unusedSimpArgs false
theorem cells49m : Tryz.prog.cellsOf 49 = 2 := by kernel_rfl
theorem cells9m : Tryz.prog.cellsOf 9 = 1 := by kernel_rfl
theorem list2m {α : Type} {l : List α} (h : l.length = 2) : ∃ a b, l = [a, b] := by
  match l, h with
  | [a, b], _ => exact ⟨a, b, rfl⟩
theorem add_addm (a : Addr) (k j : Nat) : (a.add k).add j = a.add (k + j) := by
  unfold Addr.add
  by_cases hk : k = 0
  · subst hk; simp
  · by_cases hj : j = 0
    · subst hj; simp [hk]
    · simp [hk, hj]; omega
/-- Pairs of strings in a slice. -/
theorem open_pairs {H : Type} {enc : TypeId × Value → H} {W : World} {fuel : Nat} {v : Value} {x : DataW H × List MemPlace} (h : DataW.trod enc Tryz.prog W 0 (fun _ => true) true fuel 47 [v] = some x) :
    ∃ ao c L, v = .slice ao (List.length L) c ∧ Rp W ao L ∧ ∀ y ∈ L, y.1.size ≤ 9223372036854775807 := by
  rcases Deep.open_slice Tryz.underlying47 h with ⟨hcs, hx⟩ | ⟨a, len, cap, m, n, D, Pl, hcs, _, hl, hm, hmm, hx, hel⟩
  · simp only [List.cons.injEq, and_true] at hcs
    subst hcs
    exact ⟨none, 0, [], rfl, fun k x hx => by simp at hx, by simp⟩
  · simp only [List.cons.injEq, and_true] at hcs
    subst hcs
    simp only [if_true] at hmm
    rw [cells49m] at hel
    obtain ⟨f, hf⟩ := Deep.choose_lt (n := len) (p := fun i (y : Kv) => W.cell? (a.add (i * 2)) = some (.string y.1) ∧ W.cell? (a.add (i * 2 + 1)) = some (.string y.2) ∧ y.1.size ≤ maxLen) (fun i hi => by
      obtain ⟨cs, h1, h2⟩ := hel i (by omega)
      obtain ⟨xs, n', _, _, hl', hl2, hea⟩ := DataW.trod_array Tryz.underlying49 h2
      rw [cells49m] at hl'
      obtain ⟨c0, c1, rfl⟩ := list2m hl'
      obtain ⟨y0, y1, rfl⟩ := list2m hl2
      have e0 := hea 0 (by omega)
      have e1 := hea 1 (by omega)
      simp only [cells9m, Nat.zero_mul, Nat.one_mul, Nat.mul_one, Nat.reduceMul, List.drop_zero, List.take_succ_cons, List.take_zero, List.drop_succ_cons, List.getElem?_cons_zero, List.getElem?_cons_succ] at e0 e1
      obtain ⟨s0, r0, _, z0⟩ := DataW.trod_string Tryz.underlying9 e0
      obtain ⟨s1, r1, _, _⟩ := DataW.trod_string Tryz.underlying9 e1
      simp only [List.cons.injEq, and_true] at r0 r1
      subst r0 r1
      obtain ⟨_, _, hc⟩ := World.cells?_some h1
      refine ⟨(s0, s1), ?_, ?_, z0⟩
      · have := hc 0 (by omega)
        rw [add_addm, Nat.add_zero] at this
        simpa using this
      · have := hc 1 (by omega)
        rw [add_addm] at this
        simpa using this)
    refine ⟨some a, cap, (List.range len).map f, by simp, ?_, ?_⟩
    · intro k x hx
      have hk := (List.getElem?_eq_some_iff.1 hx).1
      rw [List.length_map, List.length_range] at hk
      rw [List.getElem?_map, List.getElem?_range hk] at hx
      cases hx
      obtain ⟨q0, q1, -⟩ := hf k hk
      obtain ⟨b, off, sp⟩ := a
      have hsp : sp = none := by simpa [Addr.add] using World.cell?_spot (hf 0 (by omega)).1
      subst hsp
      refine ⟨b, off, rfl, ?_, ?_⟩
      · rw [← add_lit]; exact q0
      · rw [Nat.add_assoc, ← add_lit]; exact q1
    · intro y hy
      simp only [List.mem_map, List.mem_range] at hy
      obtain ⟨i, hi, rfl⟩ := hy
      have := (hf i hi).2.2
      unfold maxLen at this
      omega
end Go.Proofs.YtkeldhohilmdcaaGreat
namespace Go.Proofs.YtkeldhohilmdcaaGreat.registerMaps
open Go.ChangeShapes Go.WideShapes Go.ChangeAt Go.RowKit Go.Shelf

set_option maxRecDepth 100000 in
theorem lifted (os : Os) (started : os.Started) (H : Type) (enc : TypeId × Value → H) :
    ReturnsInHanded {} Tryz.checked os 7 .any (Rows.registerMapsSpec.pre6 enc Tryz.prog Tryz.f7 Rows.registerMapsRow.domain false) (Rows.registerMapsSpec.post enc Tryz.prog Tryz.f7 false true false false) := by
  refine returnsInHanded_of_change (C := Tryz.checked) own started (by kernel_rfl) Tryz.func7
    (ChangeSpec.witness6 (enc := enc) (C := Tryz.checked) false ⟨#[], #[.slice none 0 0], []⟩ 8 (by kernel_rfl) (by kernel_rfl) (by kernel_rfl) (by kernel_rfl)) ?_
  intro W base args ds gs before hval0 hW hcnd _
  have hval : ∀ (j : Nat) t v, Tryz.f7.params[j]? = some t → args[j]? = some v → Value.okWide Tryz.prog W .any base t v := hval0
  have hW' := hW
  obtain ⟨p, q, hA0, hV, rfl, hfz, hnd⟩ := hW
  have hA : DataW.TrodAll enc Tryz.prog W 0 (fun _ => true) true Tryz.f7.params.toList args.toList ds p := hA0
  rw [show Tryz.f7.params.toList = [47] from rfl] at hA
  obtain ⟨v0, d0, rfl, rfl, h0⟩ := trodAll_one hA
  obtain ⟨rfl, rfl⟩ := trodVars_none hV
  have k0 := h0
  have lt0 : ∀ x ∈ p, x.block < W.heap.size := by obtain ⟨m, hm⟩ := h0; exact DataW.trod_lt m _ _ _ hm
  obtain ⟨fuel, hf⟩ := h0
  have hf1 : DataW.trod enc Tryz.prog W 0 (fun _ => true) true fuel 47 [v0] = some (d0, p) := by
    obtain ⟨a, len, cap, rfl⟩ := okWide_slice Tryz.underlying47 (hval 0 47 v0 rfl rfl)
    exact hf
  obtain ⟨ao, c, L, rfl, hR, hz⟩ := open_pairs hf1
  clear hA0 hval0 hval
  refine (maps7 L ao c W hR hz).mono fun e W' ⟨he, bel⟩ => ?_
  subst he
  exact ⟨_, rfl, _, _, _, [], _, [], hW', trodAll_mk1 (shut_bool Tryz.underlying4 _), trodAll_mk1 (Below.trod laidOut (by kernel_rfl) (of_decide_eq_true (by kernel_rfl)) k0 bel lt0), rfl, bel.frame _, fun h => by cases h⟩

theorem over : Rows.registerMapsRow.holds Tryz.pinned (OpenSpec.ofChange Rows.registerMapsSpec) :=
  OpenClaim.holds_of_wide 7 Tryz.f7 rfl rfl rfl rfl rfl rfl rfl ⟨rfl, rfl, rfl, rfl, rfl⟩ rfl rfl rfl rfl rfl (by kernel_rfl) Tryz.func7 (by kernel_rfl)
    (of_decide_eq_true (by kernel_rfl)) (by unfold Func.isWrapper; first | (rw [if_pos (by decide +kernel)]; kernel_rfl) | (rw [if_neg (by decide +kernel)]; exact ⟨rfl, rfl⟩))
    (fun os started H enc _ => lifted os started H enc)
end Go.Proofs.YtkeldhohilmdcaaGreat.registerMaps
namespace Go.Proofs.YtkeldhohilmdcaaGreat
end Go.Proofs.YtkeldhohilmdcaaGreat
