/-
  PLAIN MATHEMATICS for the layer wire: the forms of numbers as lists of bytes. It imports nothing of the program.
-/
import Derived.WalkKit
import Derived.Laws.BitsAllLaws
namespace Go.Proofs.YtkjabnpniingnaaGreatDoor

/-- '^n' of an int64. -/
theorem i64_not_any (n : Int) (h0 : -9223372036854775808 ≤ n) (h1 : n ≤ 9223372036854775807) : bits .xor .i64 (-1) n = -1 - n := by
  show IntKind.i64.wrap ((BitVec.ofInt 64 (-1) ^^^ BitVec.ofInt 64 n).toNat : Int) = _
  have e : BitVec.ofInt 64 (-1) = BitVec.allOnes 64 := by decide
  rw [e, BitVec.allOnes_xor, BitVec.toNat_not, BitVec.toNat_ofInt]
  simp [IntKind.wrap, IntKind.bits, IntKind.signed]
  omega

namespace Plain

/-- The form of a number: its digits to the base 128, the lowest first, 128 added to all but the last. -/
def numL (n : Nat) : List Int := if _h : 127 < n then ((n % 128 + 128 : Nat) : Int) :: numL (n / 128) else [(n : Int)]

theorem numL_big {n : Nat} (h : 127 < n) : numL n = ((n % 128 + 128 : Nat) : Int) :: numL (n / 128) := by
  rw [numL]; simp [h]
theorem numL_small {n : Nat} (h : n ≤ 127) : numL n = [(n : Int)] := by
  rw [numL]; simp [show ¬ 127 < n by omega]

theorem numL_pos (n : Nat) : 0 < (numL n).length := by
  by_cases h : 127 < n
  · rw [numL_big h]; simp
  · rw [numL_small (by omega)]; simp

theorem numL_le (k : Nat) : ∀ n, n < 128 ^ (k + 1) → (numL n).length ≤ k + 1 := by
  induction k with
  | zero => intro n h; rw [numL_small (by omega)]; simp
  | succ k ih =>
    intro n h
    by_cases hn : 127 < n
    · rw [numL_big hn]
      have := ih (n / 128) (by rw [Nat.div_lt_iff_lt_mul (by omega)]; rw [Nat.pow_succ] at h; exact h)
      simp; omega
    · rw [numL_small (by omega)]; simp

theorem numL_ten (n : Nat) (h : n < 18446744073709551616) : (numL n).length ≤ 10 := numL_le 9 n (by omega)

theorem numL_bytes (n : Nat) : ∀ x ∈ numL n, 0 ≤ x ∧ x ≤ 255 := by
  induction n using Nat.strongRecOn with
  | ind n ih =>
    by_cases hn : 127 < n
    · rw [numL_big hn]
      intro x hx
      rcases List.mem_cons.1 hx with rfl | hx
      · omega
      · exact ih (n / 128) (by omega) x hx
    · rw [numL_small (by omega)]
      intro x hx
      simp at hx
      omega

/-- A signed number as one without a sign. -/
def fold (n : Int) : Nat := if n < 0 then (2 * (-(n + 1)) + 1).toNat else (2 * n).toNat
theorem fold_neg {n : Int} (h : n < 0) : (fold n : Int) = 2 * (-(n + 1)) + 1 := by unfold fold; rw [if_pos h]; omega
theorem fold_pos {n : Int} (h : ¬ n < 0) : (fold n : Int) = 2 * n := by unfold fold; rw [if_neg h]; omega
theorem fold_lt (n : Int) (h0 : -9223372036854775808 ≤ n) (h1 : n ≤ 9223372036854775807) : fold n < 18446744073709551616 := by
  unfold fold; split <;> omega

/-- A number read from bytes, from place i on: its value, and how many bytes it took in all. -/
def readN (i acc : Nat) : List Int → Option (Nat × Nat)
  | [] => none
  | b :: r =>
    if (i = 9 ∧ 1 < b) ∨ (0 < i ∧ b = 0) then none
    else if b < 128 then some (acc + b.toNat * 128 ^ i, i + 1)
    else readN (i + 1) (acc + (b % 128).toNat * 128 ^ i) r

theorem pow_pos' (i : Nat) : 0 < 128 ^ i := Nat.pow_pos (by omega)
theorem pow9 {i : Nat} (h : i ≤ 9) : 128 ^ i ≤ 9223372036854775808 := by
  have := Nat.pow_le_pow_right (n := 128) (by omega) h
  omega

/-- What is read has just the form that was read. -/
theorem readN_spec : ∀ (l : List Int) (i acc n k : Nat), i ≤ 9 → acc < 128 ^ i → (∀ x ∈ l, 0 ≤ x ∧ x ≤ 255) → readN i acc l = some (n, k) →
    ∃ m, n = acc + m * 128 ^ i ∧ n < 18446744073709551616 ∧ i < k ∧ k ≤ 10 ∧ k - i ≤ l.length ∧ l.take (k - i) = numL m ∧ (0 < i → 0 < m)
  | [], _, _, _, _, _, _, _, h => by simp [readN] at h
  | b :: r, i, acc, n, k, hi, ha, h8, h => by
    have hb := h8 b (by simp)
    rw [readN] at h
    split at h
    · simp at h
    · rename_i hc
      split at h
      · rename_i hb2
        simp only [Option.some.injEq, Prod.mk.injEq] at h
        obtain ⟨rfl, rfl⟩ := h
        obtain ⟨m, rfl⟩ := Int.eq_ofNat_of_zero_le hb.1
        refine ⟨m, by simp, ?_, by omega, by omega, by simp, ?_, by omega⟩
        · simp only [Int.toNat_natCast]
          by_cases h9 : i = 9
          · subst h9
            have : m ≤ 1 := by omega
            have : m * 128 ^ 9 ≤ 1 * 128 ^ 9 := Nat.mul_le_mul_right _ this
            omega
          · have h1 : m * 128 ^ i ≤ 127 * 128 ^ i := Nat.mul_le_mul_right _ (by omega)
            have h2 := pow9 (i := i + 1) (by omega)
            rw [Nat.pow_succ] at h2
            omega
        · rw [Nat.add_sub_cancel_left, numL_small (by omega)]; simp
      · rename_i hb2
        have hi9 : i ≠ 9 := by omega
        have hx : (b % 128).toNat ≤ 127 := by omega
        have ha' : acc + (b % 128).toNat * 128 ^ i < 128 ^ (i + 1) := by
          have := Nat.mul_le_mul_right (128 ^ i) hx
          rw [Nat.pow_succ]; omega
        obtain ⟨m, h1, h2, h3, h4, h5, h6, h7⟩ := readN_spec r (i + 1) _ n k (by omega) ha' (fun x hx => h8 x (by simp [hx])) h
        have hm := h7 (by omega)
        refine ⟨(b % 128).toNat + 128 * m, ?_, h2, by omega, h4, by simp; omega, ?_, by omega⟩
        · rw [h1, Nat.pow_succ, Nat.add_mul, Nat.mul_comm 128 m, Nat.mul_assoc m, Nat.mul_comm (128 ^ i) 128]; omega
        · rw [numL_big (by omega), show k - i = (k - (i + 1)) + 1 by omega, List.take_succ_cons, h6]
          congr 1
          · omega
          · congr 1; omega

/-- What was written is read as it was. -/
theorem readN_form : ∀ (m i acc : Nat) (rest : List Int), i ≤ 9 → acc < 128 ^ i → (0 < i → 0 < m) → acc + m * 128 ^ i < 18446744073709551616 →
    readN i acc (numL m ++ rest) = some (acc + m * 128 ^ i, i + (numL m).length) := by
  intro m
  induction m using Nat.strongRecOn with
  | ind m ih =>
    intro i acc rest hi ha hm hlt
    by_cases hbig : 127 < m
    · have hi9 : i ≠ 9 := by
        intro h; subst h
        have : 128 * 128 ^ 9 ≤ m * 128 ^ 9 := Nat.mul_le_mul_right _ (by omega)
        omega
      have ha' : acc + m % 128 * 128 ^ i < 128 ^ (i + 1) := by
        have := Nat.mul_le_mul_right (128 ^ i) (show m % 128 ≤ 127 by omega)
        rw [Nat.pow_succ]; omega
      have he : acc + m % 128 * 128 ^ i + m / 128 * 128 ^ (i + 1) = acc + m * 128 ^ i := by
        have h1 : m * 128 ^ i = (m % 128 + 128 * (m / 128)) * 128 ^ i := by rw [Nat.mod_add_div]
        rw [h1, Nat.add_mul, Nat.pow_succ, Nat.mul_comm 128 (m / 128), Nat.mul_assoc (m / 128), Nat.mul_comm (128 ^ i) 128, Nat.add_assoc]
      have h2 := ih (m / 128) (by omega) (i + 1) (acc + m % 128 * 128 ^ i) rest (by omega) ha' (by omega) (by omega)
      rw [numL_big hbig, List.cons_append, readN, if_neg (by omega), if_neg (by omega)]
      have h3 : (((m % 128 + 128 : Nat) : Int) % 128).toNat = m % 128 := by omega
      rw [h3, h2, he, List.length_cons]
      congr 2; omega
    · rw [numL_small (by omega), List.cons_append, readN, if_neg ?_, if_pos (by omega)]
      · simp
      · intro h
        rcases h with ⟨rfl, h⟩ | h
        · have : 2 * 128 ^ 9 ≤ m * 128 ^ 9 := Nat.mul_le_mul_right _ (by omega)
          omega
        · have := hm h.1; omega

/-- A form that is cut short is refused. -/
theorem readN_cut : ∀ (j m i acc : Nat), j < (numL m).length → readN i acc ((numL m).take j) = none
  | 0, _, _, _, _ => by simp [readN]
  | j + 1, m, i, acc, h => by
    by_cases hbig : 127 < m
    · rw [numL_big hbig] at h ⊢
      rw [List.take_succ_cons, readN]
      split
      · rfl
      · rw [if_neg (by omega)]
        exact readN_cut j _ _ _ (by simpa using h)
    · rw [numL_small (by omega)] at h
      simp at h

end Plain
end Go.Proofs.YtkjabnpniingnaaGreatDoor
