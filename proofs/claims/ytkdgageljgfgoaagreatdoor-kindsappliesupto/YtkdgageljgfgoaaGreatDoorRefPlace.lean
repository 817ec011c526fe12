/-
  THE DOCUMENT's Path, CmpPlace, Place, and the program's Place: what they answer.
-/
import Derived.Test.YtkdgageljgfgoaaGreatDoorRefKey
import Derived.Test.YtkdgageljgfgoaaGreatDoorPath
namespace Go.Proofs.YtkdgageljgfgoaaGreatDoor
open Go.RowKit Go.Shelf
set_option linter.unusedSimpArgs false

set_option maxHeartbeats 1000000 in
set_option maxRecDepth 100000 in
theorem refPath_any {w : World} {ao : Option Addr} {c : Nat} {l : List ByteArray} (h : Rs w ao l) : Calls Tryz.prog 48 #[.slice ao l.length c] w fun e w' => e = .returned (.bool (pathB l)) ∧ Below w.heap.size w w' := by
  unfold pathB
  obtain ⟨N, hN⟩ : ∃ N, N = l.length := ⟨_, rfl⟩
  obtain ⟨A, hA⟩ : ∃ A, A = l.all (fun s => keyB s.data.toList) := ⟨_, rfl⟩
  rw [← hN, ← hA]
  have H := hide (And.intro hN hA)
  clear hN hA
  by_cases h6 : N ≤ 6
  · have e1 : ¬ ((6 : Int) < (N : Int)) := by omega
    have d1 : decide (N ≤ 6) = true := by simpa using h6
    rw [d1, Bool.true_and]
    go_enter Tryz.func48, Tryz.ntmps48
    go_wp2
    go_loopw [3] (fun v3 wz => ∃ i : Nat, i ≤ N ∧ v3 = .int .i64 i ∧ Hid ((l.drop i).all (fun s => keyB s.data.toList) = A) ∧ Hid (Below w.heap.size w wz)) (fun v3 _ => N - (intOf v3).toNat)
    case atStart => exact ⟨0, by omega, rfl, hide (by simpa using H.out.2.symm), hide (Below.refl _ _)⟩
    case round =>
      obtain ⟨i, hi, rfl, HD, HW⟩ := hrel
      by_cases hc : i < N
      · have z1 : (i : Int) < (N : Int) := by omega
        have hx : l[i]? = some (l[i]'(by rw [← H.out.1]; exact hc)) := List.getElem?_eq_getElem _
        generalize l[i]'(by rw [← H.out.1]; exact hc) = s at hx
        have hst : (l.drop i).all (fun s => keyB s.data.toList) = (keyB s.data.toList && (l.drop (i + 1)).all (fun s => keyB s.data.toList)) := by
          obtain ⟨hlt, he⟩ := List.getElem?_eq_some_iff.1 hx
          rw [List.drop_eq_getElem_cons hlt, List.all_cons, he]
        obtain ⟨g, off, rfl, hcx⟩ := (h.below HW.out).at hx
        have hk := refKey_any s wr
        have HS := hide hst
        clear hst hx
        generalize keyB s.data.toList = K at HS hk
        cases K with
        | true =>
          go_wp2_with (go_at_call 49; refine hk.mono ?_; rintro e w8 ⟨rfl, b8⟩)
          go_roundw
          case rel => exact ⟨i + 1, by omega, by go_num, hide (by have := HS.out; rw [Bool.true_and] at this; rw [← this]; exact HD.out), hide (HW.out.trans (b8.mono HW.out.size))⟩
          case measure => simp [intOf]; omega
        | false =>
          have hE := hide (show A = false by rw [← HD.out, HS.out, Bool.false_and])
          go_wp2_with (go_at_call 49; refine hk.mono ?_; rintro e w8 ⟨rfl, b8⟩)
          go_ret
          exact ⟨by rw [hE.out]; rfl, HW.out.trans (b8.mono HW.out.size)⟩
      · have z1 : ¬ (i : Int) < (N : Int) := by omega
        have hE := hide (show A = true by rw [← HD.out, List.drop_eq_nil_of_le (by rw [← H.out.1]; omega)]; rfl)
        go_wp2
        go_ret
        exact ⟨by rw [hE.out]; rfl, HW.out⟩
  · have e1 : (6 : Int) < (N : Int) := by omega
    have d1 : decide (N ≤ 6) = false := by simpa using h6
    rw [d1, Bool.false_and]
    go_enter Tryz.func48, Tryz.ntmps48
    go_wp2
    go_ret
    exact ⟨rfl, Below.refl _ _⟩

end Go.Proofs.YtkdgageljgfgoaaGreatDoor
