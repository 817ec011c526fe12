/-
  PLAIN LAWS on what a reader answers of forms: there and back, a form cut short.
-/
import Derived.Test.YtjbnhfcacocgeaaHelps
namespace Go.Proofs.Ytjbnhfcacocgeaa
open Go.RowKit

theorem rnum_form (n : Nat) (rest : List Int) (h : n < 18446744073709551616) : rnum (Plain.numL n ++ rest) = (n, 0, rest) := by
  have h1 := Plain.readN_form n 0 0 rest (by omega) (by simp) (by omega) (by simpa using h)
  simp only [Nat.pow_zero, Nat.mul_one, Nat.zero_add] at h1
  rw [rnum_some h1]
  simp

theorem unfoldN_fold (n : Int) : unfoldN (Plain.fold n) = n := by
  unfold unfoldN
  by_cases h : n < 0
  · have := Plain.fold_neg h
    rw [if_pos (by omega)]; omega
  · have := Plain.fold_pos h
    rw [if_neg (by omega)]; omega

theorem rflag_form (b : Bool) (rest : List Int) : rflag (flagL b ++ rest) = (b, 0, rest) := by
  cases b <;> simp [flagL, rflag]

theorem rcount_form (most : Int) (n : Nat) (rest : List Int) (h : (n : Int) ≤ most) (hn : n < 18446744073709551616) : rcount most (Plain.numL n ++ rest) = ((n : Int), 0, rest) := by
  have h1 := Plain.readN_form n 0 0 rest (by omega) (by simp) (by omega) (by simpa using hn)
  simp only [Nat.pow_zero, Nat.mul_one, Nat.zero_add] at h1
  unfold rcount
  rw [if_neg (by omega), h1]
  simp only
  rw [if_neg (by omega)]
  simp

theorem rbytes_form (most : Int) (y rest : List Int) (h : (y.length : Int) ≤ most) (hn : y.length < 18446744073709551616) : rbytes most (Plain.numL y.length ++ y ++ rest) = (y, 0, rest) := by
  rw [List.append_assoc]
  unfold rbytes
  rw [rcount_form most y.length (y ++ rest) h hn]
  simp only [if_true]
  rw [if_neg (by simp; omega)]
  simp

theorem rcount_back {most : Int} {l : List Int} (h8 : ∀ x ∈ l, 0 ≤ x ∧ x ≤ 255) (h : (rcount most l).2.1 = 0) : ∃ n : Nat, (rcount most l).1 = n ∧ l = Plain.numL n ++ (rcount most l).2.2 ∧ (n : Int) ≤ most := by
  by_cases hneg : most < 0
  · have : rcount most l = (0, 2, l) := by simp [rcount, hneg]
    rw [this] at h; simp at h
  · rcases hx : Plain.readN 0 0 l with _ | ⟨n, k⟩
    · have : rcount most l = (0, 4, l) := by simp [rcount, hneg, hx]
      rw [this] at h; simp at h
    · by_cases hlt : most < n
      · have : rcount most l = (0, 3, l) := by simp [rcount, hneg, hx, hlt]
        rw [this] at h; simp at h
      · have : rcount most l = ((n : Int), 0, l.drop k) := by simp [rcount, hneg, hx, hlt]
        rw [this]
        obtain ⟨m, h1, _, _, _, h5, h6, _⟩ := Plain.readN_spec l 0 0 n k (by omega) (by simp) h8 hx
        have hm : n = m := by simpa using h1
        subst hm
        refine ⟨n, rfl, ?_, by omega⟩
        simp only
        rw [Nat.sub_zero] at h6
        rw [← h6, List.take_append_drop]

theorem rbytes_back {most : Int} {l y l' : List Int} (h8 : ∀ x ∈ l, 0 ≤ x ∧ x ≤ 255) (h : rbytes most l = (y, 0, l')) : l = Plain.numL y.length ++ y ++ l' ∧ (y.length : Int) ≤ most := by
  by_cases he : (rcount most l).2.1 = 0
  · obtain ⟨n, hn, hl, hle⟩ := rcount_back h8 he
    unfold rbytes at h
    rw [if_pos he] at h
    by_cases hs : ((rcount most l).2.2.length : Int) < (rcount most l).1
    · rw [if_pos hs] at h; simp at h
    · rw [if_neg hs] at h
      rw [hn] at h hs
      simp only [Int.toNat_natCast, Prod.mk.injEq, true_and] at h
      obtain ⟨rfl, rfl⟩ := h
      have hlen : ((rcount most l).2.2.take n).length = n := by simp; omega
      rw [hlen, List.append_assoc, List.take_append_drop]
      exact ⟨hl, hle⟩
  · unfold rbytes at h
    rw [if_neg he] at h
    simp only [Prod.mk.injEq] at h
    exact absurd h.2.1 he

theorem rbytes_err {most : Int} {l : List Int} (hm : 0 ≤ most) (h : (rbytes most l).2.1 ≠ 0) : rbytes most l = ([], 3, l) ∨ rbytes most l = ([], 4, l) := by
  by_cases he : (rcount most l).2.1 = 0
  · unfold rbytes at h ⊢
    rw [if_pos he] at h ⊢
    by_cases hs : ((rcount most l).2.2.length : Int) < (rcount most l).1
    · rw [if_pos hs]; exact .inr rfl
    · rw [if_neg hs] at h; simp at h
  · unfold rbytes
    rw [if_neg he]
    have hc : (rcount most l).2.1 = 3 ∨ (rcount most l).2.1 = 4 := by
      revert he
      unfold rcount
      rw [if_neg (by omega)]
      split
      · simp
      · split <;> simp
    rcases hc with h | h
    · rw [h]; exact .inl rfl
    · rw [h]; exact .inr rfl

theorem rbytes_cut (most : Int) (y : List Int) (h : (y.length : Int) ≤ most) (hn : y.length < 18446744073709551616) :
    rbytes most ((Plain.numL y.length ++ y).take ((Plain.numL y.length).length + y.length - 1)) = ([], 4, (Plain.numL y.length ++ y).take ((Plain.numL y.length).length + y.length - 1)) := by
  cases y with
  | nil =>
    have h0 : Plain.numL ([] : List Int).length = [0] := num0
    rw [h0]
    have : rcount most [] = (0, 4, []) := by unfold rcount; rw [if_neg (by simp at h; omega)]; rfl
    simp [rbytes, this]
  | cons b r =>
    have e : (Plain.numL (b :: r).length ++ b :: r).take ((Plain.numL (b :: r).length).length + (b :: r).length - 1) = Plain.numL (b :: r).length ++ (b :: r).take r.length := by
      rw [show (Plain.numL (b :: r).length).length + (b :: r).length - 1 = (Plain.numL (b :: r).length).length + r.length by simp, List.take_append, List.take_of_length_le (by omega), Nat.add_sub_cancel_left]
    rw [e]
    unfold rbytes
    rw [rcount_form most (b :: r).length _ h hn]
    simp only [if_true]
    rw [if_pos (by simp; omega)]
end Go.Proofs.Ytjbnhfcacocgeaa
