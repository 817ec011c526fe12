/-
  PLAIN LAWS on lists of pairs: there and back, one fewer than there are, cut short.
-/
import Derived.Test.YtjbnhfcacocgeaaForth
import Derived.Test.YtjbnhfcacocgeaaPutP
namespace Go.Proofs.Ytjbnhfcacocgeaa
open Go.RowKit

theorem rpair_form (x y : Nat) (rest : List Int) (hx : x < 18446744073709551616) (hy : y < 18446744073709551616) : rpair (Plain.numL x ++ (Plain.numL y ++ rest)) = ((x, y), 0, rest) := by
  unfold rpair
  rw [rnum_form x _ hx]
  simp only [if_true]
  rw [rnum_form y _ hy]

theorem formsL_cons (p : Nat × Nat) (r : List (Nat × Nat)) : formsL (p :: r) = Plain.numL p.1 ++ (Plain.numL p.2 ++ formsL r) := by simp [formsL]
theorem Fits.tail {p : Nat × Nat} {r : List (Nat × Nat)} (h : Fits (p :: r)) : Fits r := fun q hq => h q (List.mem_cons_of_mem _ hq)
theorem Fits.head {p : Nat × Nat} {r : List (Nat × Nat)} (h : Fits (p :: r)) : p.1 < 18446744073709551616 ∧ p.2 < 18446744073709551616 := h p List.mem_cons_self

theorem readPairs_form : ∀ (ps : List (Nat × Nat)) (rest : List Int), Fits ps → readPairs ps.length (formsL ps ++ rest) = (ps, 0, rest)
  | [], rest, _ => by simp [formsL, readPairs]
  | p :: r, rest, h => by
    have hp := h.head
    rw [formsL_cons, List.append_assoc, List.append_assoc, List.length_cons, readPairs, rpair_form p.1 p.2 _ hp.1 hp.2]
    simp only [if_true]
    rw [readPairs_form r rest h.tail]

/-- A form that is cut short is refused. -/
theorem rnum_cut (n k : Nat) (h : k < (Plain.numL n).length) : rnum ((Plain.numL n).take k) = (0, 4, (Plain.numL n).take k) := rnum_none (Plain.readN_cut k n 0 0 h)

theorem rpair_cut (x y k : Nat) (rest : List Int) (hx : x < 18446744073709551616) (h : k < (Plain.numL x).length + (Plain.numL y).length) : (rpair ((Plain.numL x ++ (Plain.numL y ++ rest)).take k)).2.1 = 4 := by
  unfold rpair
  by_cases h1 : k < (Plain.numL x).length
  · rw [List.take_append_of_le_length (by omega), rnum_cut x k h1]
    simp
  · have e : (Plain.numL x ++ (Plain.numL y ++ rest)).take k = Plain.numL x ++ (Plain.numL y).take (k - (Plain.numL x).length) := by
      rw [List.take_append, List.take_of_length_le (by omega), List.take_append_of_le_length (by omega)]
    rw [e, rnum_form x _ hx]
    simp only [if_true]
    rw [rnum_cut y _ (by omega)]

theorem readPairs_cut : ∀ (ps : List (Nat × Nat)) (k : Nat), Fits ps → k < (formsL ps).length → (readPairs ps.length ((formsL ps).take k)).2.1 = 4
  | [], k, _, h => by simp [formsL] at h
  | p :: r, k, hf, h => by
    have hp := hf.head
    rw [formsL_cons] at h ⊢
    rw [List.length_cons, readPairs]
    by_cases h1 : k < (Plain.numL p.1).length + (Plain.numL p.2).length
    · have := rpair_cut p.1 p.2 k (formsL r) hp.1 h1
      rw [if_neg (by rw [this]; omega)]
      exact this
    · have e : (Plain.numL p.1 ++ (Plain.numL p.2 ++ formsL r)).take k = Plain.numL p.1 ++ (Plain.numL p.2 ++ (formsL r).take (k - (Plain.numL p.1).length - (Plain.numL p.2).length)) := by
        rw [List.take_append, List.take_of_length_le (by omega), List.take_append, List.take_of_length_le (l := Plain.numL p.2) (by omega)]
      rw [e, rpair_form p.1 p.2 _ hp.1 hp.2]
      simp only [if_true]
      refine readPairs_cut r _ hf.tail ?_
      simp only [List.length_append] at h
      omega

/-- The form of a list of pairs. -/
def listL (ps : List (Nat × Nat)) : List Int := Plain.numL ps.length ++ formsL ps

theorem rpairs_form (ps : List (Nat × Nat)) (hf : Fits ps) (hl : ps.length < 18446744073709551616) : rpairs (ps.length : Int) (listL ps) = (ps, 0, []) := by
  have h := readPairs_form ps [] hf
  rw [List.append_nil] at h
  unfold rpairs listL
  rw [rcount_form _ ps.length (formsL ps) (by omega) hl]
  simp only [if_true, Int.toNat_natCast]
  rw [h]
  simp

theorem rpairs_less (ps : List (Nat × Nat)) (h0 : 0 < ps.length) (hl : ps.length < 18446744073709551616) : rpairs ((ps.length : Int) - 1) (listL ps) = ([], 3, listL ps) := by
  have h1 := Plain.readN_form ps.length 0 0 (formsL ps) (by omega) (by simp) (by omega) (by simpa using hl)
  simp only [Nat.pow_zero, Nat.mul_one, Nat.zero_add] at h1
  have h2 : rcount ((ps.length : Int) - 1) (listL ps) = (0, 3, listL ps) := by
    unfold rcount listL
    rw [if_neg (by omega), h1]
    simp only
    rw [if_pos (by omega)]
  unfold rpairs
  rw [h2]
  simp

theorem rpairs_cut (ps : List (Nat × Nat)) (k : Nat) (hf : Fits ps) (hl : ps.length < 18446744073709551616) (hk : k < (listL ps).length) : rpairs (ps.length : Int) ((listL ps).take k) = ([], 4, (listL ps).take k) := by
  by_cases h1 : k < (Plain.numL ps.length).length
  · have e : (listL ps).take k = (Plain.numL ps.length).take k := by unfold listL; rw [List.take_append_of_le_length (by omega)]
    rw [e]
    have h2 : rcount (ps.length : Int) ((Plain.numL ps.length).take k) = (0, 4, (Plain.numL ps.length).take k) := by
      unfold rcount
      rw [if_neg (by omega), Plain.readN_cut k _ 0 0 h1]
    unfold rpairs
    rw [h2]
    simp
  · have e : (listL ps).take k = Plain.numL ps.length ++ (formsL ps).take (k - (Plain.numL ps.length).length) := by unfold listL; rw [List.take_append, List.take_of_length_le (by omega)]
    have hk' : k - (Plain.numL ps.length).length < (formsL ps).length := by unfold listL at hk; rw [List.length_append] at hk; omega
    have h3 := readPairs_cut ps _ hf hk'
    rw [e]
    unfold rpairs
    rw [rcount_form _ ps.length _ (by omega) hl]
    simp only [if_true, Int.toNat_natCast]
    rw [h3]
    simp

theorem formsL_bytes (ps : List (Nat × Nat)) : ∀ x ∈ formsL ps, 0 ≤ x ∧ x ≤ 255 := by
  intro x hx
  simp only [formsL, List.mem_flatMap, List.mem_append] at hx
  obtain ⟨p, _, h | h⟩ := hx
  · exact Plain.numL_bytes _ x h
  · exact Plain.numL_bytes _ x h
theorem listL_bytes (ps : List (Nat × Nat)) : ∀ x ∈ listL ps, 0 ≤ x ∧ x ≤ 255 := by
  intro x hx
  rcases List.mem_append.1 hx with h | h
  · exact Plain.numL_bytes _ x h
  · exact formsL_bytes ps x h
theorem listL_len (ps : List (Nat × Nat)) (hf : Fits ps) (hl : ps.length < 18446744073709551616) : (listL ps).length ≤ 10 + 20 * ps.length := by
  have h1 := formsL_len ps hf
  have h2 := Plain.numL_ten ps.length hl
  unfold listL
  rw [List.length_append]
  omega
end Go.Proofs.Ytjbnhfcacocgeaa
