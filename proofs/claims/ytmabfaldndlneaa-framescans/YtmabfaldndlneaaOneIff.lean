/-
  PLAINLY: bytes that are just one frame; strings one behind the other.
-/
import Derived.Test.YtmabfaldndlneaaOverL
namespace Go.Proofs.Ytmabfaldndlneaa
open Go.RowKit
theorem one_iff {b : List Int} : ((FL b).length = 1 ∧ ends b = 0) ↔ (why b = 0 ∧ 9 + (fst b).body.length = b.length) := by
  constructor
  · rintro ⟨h1, h2⟩
    rw [FL_length] at h1
    by_cases h : 0 < b.length ∧ why (b.drop 0) = 0
    · have hw : why b = 0 := h.2
      refine ⟨hw, ?_⟩
      have hf := frs_yes h
      rw [hf] at h1
      have hnil : frs b (0 + 9 + (fst (b.drop 0)).body.length) = [] := by simpa using h1
      have hno : ¬ (0 + 9 + (fst (b.drop 0)).body.length < b.length ∧ why (b.drop (0 + 9 + (fst (b.drop 0)).body.length)) = 0) := fun hh => by
        rw [frs_yes hh] at hnil; simp at hnil
      have he : fend b 0 = 0 + 9 + (fst (b.drop 0)).body.length := by rw [fend_yes h, fend_no hno]
      have hle := next_le (b := b) (p := 0) h.2
      by_cases hend : fend b 0 = b.length
      · rw [he] at hend
        have e0 : b.drop 0 = b := rfl
        rw [e0] at hend
        omega
      · rw [ends, if_neg hend, he] at h2
        exact (hno ⟨by rw [he] at hend; omega, h2⟩).elim
    · rw [frs_no h] at h1
      simp at h1
  · rintro ⟨hw, hl⟩
    have h : 0 < b.length ∧ why (b.drop 0) = 0 := ⟨by omega, hw⟩
    have e0 : b.drop 0 = b := rfl
    have hno : ¬ (0 + 9 + (fst (b.drop 0)).body.length < b.length ∧ why (b.drop (0 + 9 + (fst (b.drop 0)).body.length)) = 0) := fun hh => by rw [e0] at hh; omega
    have he : fend b 0 = b.length := by rw [fend_yes h, fend_no hno, e0]; omega
    refine ⟨?_, by rw [ends, if_pos he]⟩
    rw [FL_length, frs_yes h, frs_no hno]; rfl
theorem one_FL {b : List Int} (h : why b = 0 ∧ 9 + (fst b).body.length = b.length) : (FL b)[0]? = some (fst b) := by
  have h0 : 0 < b.length ∧ why (b.drop 0) = 0 := ⟨by omega, h.1⟩
  rw [FL, frs_yes h0]; rfl
theorem str_snoc (l : List Int) : (strOfNums l).toList ++ [119] = (strOfNums (l ++ [119])).toList := by
  simp [strOfNums, ByteArray.toList_eq]
end Go.Proofs.Ytmabfaldndlneaa
