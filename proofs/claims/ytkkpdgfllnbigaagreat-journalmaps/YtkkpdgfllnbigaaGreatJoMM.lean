/-
  PROVED: the law JournalMaps of layer 14 (journal) returns true and leaves its argument as it is: a map that is no journal is refused by every call, and shows nothing; for every list of pairs of strings, with no condition.
-/
import Derived.Test.YtkkpdgfllnbigaaGreatJoM
import Derived.Test.YtkkpdgfllnbigaaGreatMg21
import Derived.Test.YtkkpdgfllnbigaaGreatJoMF
namespace Go.Proofs.YtkkpdgfllnbigaaGreat.journalMaps
open Go.ChangeShapes Go.WideShapes Go.ChangeAt Go.RowKit Go.Shelf

set_option maxRecDepth 100000 in
theorem lifted (os : Os) (started : os.Started) (H : Type) (enc : TypeId × Value → H) :
    ReturnsInHanded {} Tryz.checked os 15 .any (Rows.journalMapsSpec.pre6 enc Tryz.prog Tryz.f15 Rows.journalMapsRow.domain false) (Rows.journalMapsSpec.post enc Tryz.prog Tryz.f15 false true false false) := by
  refine returnsInHanded_of_change (C := Tryz.checked) own started (by kernel_rfl) Tryz.func15
    (ChangeSpec.witness6 (enc := enc) (C := Tryz.checked) false ⟨#[], #[.slice none 0 0], []⟩ 8 (by kernel_rfl) (by kernel_rfl) (by kernel_rfl) (by kernel_rfl)) ?_
  intro W base args ds gs before hval0 hW hcnd _
  have hval : ∀ (j : Nat) t v, Tryz.f15.params[j]? = some t → args[j]? = some v → Value.okWide Tryz.prog W .any base t v := hval0
  have hW' := hW
  obtain ⟨p, q, hA0, hV, rfl, hfz, hnd⟩ := hW
  have hA : DataW.TrodAll enc Tryz.prog W 0 (fun _ => true) true Tryz.f15.params.toList args.toList ds p := hA0
  rw [show Tryz.f15.params.toList = [47] from rfl] at hA
  obtain ⟨v0, d0, rfl, rfl, h0⟩ := trodAll_one hA
  obtain ⟨rfl, rfl⟩ := trodVars_none hV
  have k0 := h0
  have lt0 : ∀ x ∈ p, x.block < W.heap.size := by obtain ⟨m, hm⟩ := h0; exact DataW.trod_lt m _ _ _ hm
  obtain ⟨fuel, hf⟩ := h0
  have hf1 : DataW.trod enc Tryz.prog W 0 (fun _ => true) true fuel 47 [v0] = some (d0, p) := by
    obtain ⟨a, len, cap, rfl⟩ := okWide_slice Tryz.underlying47 (hval 0 47 v0 rfl rfl)
    exact hf
  obtain ⟨ao, c, L, rfl, hR, hz⟩ := open_pairs hf1
  clear hA0 hval0 hval
  refine (Jo.maps15 L ao c W hR hz).mono fun e W' ⟨he, bel⟩ => ?_
  subst he
  exact ⟨_, rfl, _, _, _, [], _, [], hW', trodAll_mk1 (shut_bool Tryz.underlying4 _), trodAll_mk1 (Below.trod laidOut (by kernel_rfl) (of_decide_eq_true (by kernel_rfl)) k0 bel lt0), rfl, bel.frame _, fun h => by cases h⟩

theorem over : Rows.journalMapsRow.holds Tryz.pinned (OpenSpec.ofChange Rows.journalMapsSpec) :=
  OpenClaim.holds_of_wide 15 Tryz.f15 rfl rfl rfl rfl rfl rfl rfl ⟨rfl, rfl, rfl, rfl, rfl⟩ rfl rfl rfl rfl rfl (by kernel_rfl) Tryz.func15 facts
    (of_decide_eq_true (by kernel_rfl)) (by unfold Func.isWrapper; first | (rw [if_pos (by decide +kernel)]; kernel_rfl) | (rw [if_neg (by decide +kernel)]; exact ⟨rfl, rfl⟩))
    (fun os started H enc _ => lifted os started H enc)
end Go.Proofs.YtkkpdgfllnbigaaGreat.journalMaps
namespace Go.Proofs.YtkkpdgfllnbigaaGreat
/-- The statement. -/
theorem journalMaps_holds : Rows.JournalMapsSaid := journalMaps.over
#print axioms journalMaps_holds
end Go.Proofs.YtkkpdgfllnbigaaGreat
