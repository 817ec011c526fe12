/-
  stamp: keys are ordered as stamps are.
-/
import Derived.Test.YtkkpdgfllnbigaaGreatMg8
namespace Go.Proofs.YtkkpdgfllnbigaaGreat
open Go.RowKit Go.Shelf
set_option linter.unusedSimpArgs false

theorem branch_parts {r : Int} {l : ByteArray} (h : branchV r l = true) : 0 ≤ r ∧ r < 8 ∧ labelB l.data.toList = true := by
  unfold branchV at h
  simp only [Bool.and_eq_true, decide_eq_true_eq] at h
  exact ⟨h.1.1, h.1.2, h.2⟩
theorem name_parts {r : Int} {l : ByteArray} {n : Int} (h : nameV r l n = true) : branchV r l = true ∧ 1 ≤ n ∧ n ≤ 4611686018427387904 := by
  unfold nameV cntV at h
  simp only [Bool.and_eq_true, decide_eq_true_eq] at h
  exact h
theorem app_list (a b : ByteArray) : (a ++ b).data.toList = a.data.toList ++ b.data.toList := by simp
theorem stamp_parts {g r : Int} {l : ByteArray} {n x : Int} (h : stampV g r l n x = true) : 1 ≤ g ∧ g ≤ 4611686018427387904 ∧ nameV r l n = true ∧ 0 ≤ x ∧ x < 64 := by
  unfold stampV cntV at h
  simp only [Bool.and_eq_true, decide_eq_true_eq] at h
  exact ⟨h.1.1.1, h.1.1.2, h.1.2, h.2.1, h.2.2⟩

/-- Bytes out of numbers. -/
def U (l : List Int) : List UInt8 := (strOfNums l).data.toList
theorem U_cons (a : Int) (l : List Int) : U (a :: l) = UInt8.ofNat a.toNat :: U l := by
  unfold U strOfNums
  simp
theorem U_nil : U [] = [] := by unfold U strOfNums; simp
theorem U_one (a : Int) : U [a] = [UInt8.ofNat a.toNat] := by rw [U_cons, U_nil]
theorem u8_lt {a b : Nat} (ha : a < 256) (hb : b < 256) : (UInt8.ofNat a < UInt8.ofNat b) ↔ a < b := by
  rw [UInt8.lt_iff_toNat_lt, UInt8.toNat_ofNat', UInt8.toNat_ofNat', Nat.mod_eq_of_lt ha, Nat.mod_eq_of_lt hb]
theorem cb_cons {a b : Nat} (ha : a < 256) (hb : b < 256) (s t : List UInt8) : Lib.compareBytes (UInt8.ofNat a :: s) (UInt8.ofNat b :: t) = if a < b then -1 else if b < a then 1 else Lib.compareBytes s t := by
  rw [Lib.compareBytes]
  simp only [u8_lt ha hb, u8_lt hb ha]
theorem low_mod (n : Nat) : ∀ k j, k ≤ j → low (n % 256 ^ j) k = low n k
  | 0, _, _ => rfl
  | k + 1, j, h => by
    rw [low, low, low_mod n k j (by omega)]
    congr 2
    obtain ⟨d, rfl⟩ : ∃ d, j = (k + 1) + d := ⟨j - (k + 1), by omega⟩
    rw [Nat.pow_add, Nat.pow_succ, Nat.mul_assoc, Nat.mod_mul_right_div_self]
    rw [Nat.mod_mul_right_mod]
theorem cb_low : ∀ (k n m : Nat) (s t : List UInt8), n < 256 ^ k → m < 256 ^ k → Lib.compareBytes (U (low n k) ++ s) (U (low m k) ++ t) = if n < m then -1 else if m < n then 1 else Lib.compareBytes s t
  | 0, n, m, s, t, hn, hm => by
    simp at hn hm
    subst hn hm
    rw [low, U_nil]
    simp
  | k + 1, n, m, s, t, hn, hm => by
    have hp : 0 < 256 ^ k := Nat.pow_pos (by omega)
    have hn' : n / 256 ^ k < 256 := by rw [Nat.div_lt_iff_lt_mul hp]; rw [Nat.pow_succ] at hn; omega
    have hm' : m / 256 ^ k < 256 := by rw [Nat.div_lt_iff_lt_mul hp]; rw [Nat.pow_succ] at hm; omega
    have dn := Nat.div_add_mod n (256 ^ k)
    have dm := Nat.div_add_mod m (256 ^ k)
    have mn := Nat.mod_lt n hp
    have mm := Nat.mod_lt m hp
    rw [low, low, U_cons, U_cons, List.cons_append, List.cons_append]
    rw [show ((n / 256 ^ k % 256 : Nat) : Int).toNat = n / 256 ^ k by rw [Int.toNat_natCast, Nat.mod_eq_of_lt hn'], show ((m / 256 ^ k % 256 : Nat) : Int).toNat = m / 256 ^ k by rw [Int.toNat_natCast, Nat.mod_eq_of_lt hm'], cb_cons hn' hm']
    rw [← low_mod n k k (Nat.le_refl _), ← low_mod m k k (Nat.le_refl _), cb_low k _ _ s t mn mm]
    generalize n / 256 ^ k = a at dn hn' ⊢
    generalize m / 256 ^ k = b at dm hm' ⊢
    generalize n % 256 ^ k = c at dn mn ⊢
    generalize m % 256 ^ k = d at dm mm ⊢
    generalize 256 ^ k = q at dn dm mn mm hp
    by_cases h1 : a < b
    · have : n < m := by
        have : q * (a + 1) ≤ q * b := Nat.mul_le_mul_left _ h1
        rw [Nat.mul_add] at this
        omega
      rw [if_pos h1, if_pos this]
    · by_cases h2 : b < a
      · have h3 : m < n := by
          have : q * (b + 1) ≤ q * a := Nat.mul_le_mul_left _ h2
          rw [Nat.mul_add] at this
          omega
        rw [if_neg h1, if_pos h2, if_neg (by omega), if_pos h3]
      · have e : a = b := by omega
        subst e
        rw [if_neg h1, if_neg h2]
        by_cases h3 : c < d
        · rw [if_pos h3, if_pos (by omega)]
        · rw [if_neg h3]
          by_cases h4 : d < c
          · rw [if_pos h4, if_neg (by omega), if_pos (by omega)]
          · rw [if_neg h4, if_neg (by omega), if_neg (by omega)]
theorem cb_label : ∀ (l m s t : List UInt8), l.all labelByte = true → m.all labelByte = true → Lib.compareBytes (l ++ 0 :: s) (m ++ 0 :: t) = if Lib.compareBytes l m = 0 then Lib.compareBytes s t else Lib.compareBytes l m
  | [], [], s, t, _, _ => by simp [Lib.compareBytes]
  | [], b :: m, s, t, _, hm => by
    have hb : labelByte b = true := by simp at hm; exact hm.1
    have h0 : (0 : UInt8) < b := by
      unfold labelByte at hb
      rw [UInt8.lt_iff_toNat_lt]
      simp at hb
      show 0 < b.toNat
      omega
    simp [Lib.compareBytes, h0]
  | a :: l, [], s, t, hl, _ => by
    have ha : labelByte a = true := by simp at hl; exact hl.1
    have h0 : (0 : UInt8) < a := by
      unfold labelByte at ha
      rw [UInt8.lt_iff_toNat_lt]
      simp at ha
      show 0 < a.toNat
      omega
    have h1 : ¬ a < 0 := by
      rw [UInt8.lt_iff_toNat_lt]
      show ¬ a.toNat < 0
      omega
    simp [Lib.compareBytes, h0, h1]
  | a :: l, b :: m, s, t, hl, hm => by
    have hl' : l.all labelByte = true := by simp at hl ⊢; exact hl.2
    have hm' : m.all labelByte = true := by simp at hm ⊢; exact hm.2
    rw [List.cons_append, List.cons_append, Lib.compareBytes, Lib.compareBytes, cb_label l m s t hl' hm']
    by_cases h1 : a < b
    · simp [h1]
    · by_cases h2 : b < a
      · simp [h1, h2]
      · simp [h1, h2]
theorem keyS_list (g r : Int) (l : ByteArray) (n x : Int) : (keyS g r l n x).data.toList = U (low g.toNat 8) ++ (U [r] ++ (l.data.toList ++ 0 :: (U (low n.toNat 8) ++ U [x]))) := by
  unfold keyS U
  simp only [app_list]
  show _ ++ [0] ++ _ ++ _ = _
  simp
/-- Keys are ordered as stamps are. -/
theorem key_order {g r n x g' r' n' x' : Int} {l l' : ByteArray} (h : stampV g r l n x = true) (h' : stampV g' r' l' n' x' = true) : Lib.compareBytes (keyS g r l n x).data.toList (keyS g' r' l' n' x').data.toList = cmpS g r l n x g' r' l' n' x' := by
  obtain ⟨g0, g1, hn, x0, x1⟩ := stamp_parts h
  obtain ⟨hb, n0, n1⟩ := name_parts hn
  obtain ⟨r0, r1, hl⟩ := branch_parts hb
  obtain ⟨g0', g1', hn', x0', x1'⟩ := stamp_parts h'
  obtain ⟨hb', n0', n1'⟩ := name_parts hn'
  obtain ⟨r0', r1', hl'⟩ := branch_parts hb'
  have ha : l.data.toList.all labelByte = true := by unfold labelB at hl; simp only [Bool.and_eq_true] at hl; exact hl.2
  have ha' : l'.data.toList.all labelByte = true := by unfold labelB at hl'; simp only [Bool.and_eq_true] at hl'; exact hl'.2
  rw [keyS_list, keyS_list, cb_low 8 _ _ _ _ (by simp; omega) (by simp; omega)]
  simp only [U_one, List.cons_append, List.nil_append]
  rw [cb_cons (by omega) (by omega), cb_label _ _ _ _ ha ha', cb_low 8 _ _ _ _ (by simp; omega) (by simp; omega), cb_cons (by omega) (by omega)]
  rw [cmpS_eq]
  unfold cmpT Go.Proofs.YtkkpdgfllnbigaaGreat.lex
  simp only [Lib.compareBytes]
  have cI : ∀ a b t : Int, 0 ≤ a → 0 ≤ b → (if a.toNat < b.toNat then (-1 : Int) else if b.toNat < a.toNat then 1 else t) = if cmpI a b = 0 then t else cmpI a b := fun a b t h1 h2 => by
    rw [← pair_step]
    by_cases q1 : a < b
    · rw [if_pos q1, if_pos (by omega)]
    · rw [if_neg q1, if_neg (by omega)]
      by_cases q2 : b < a
      · rw [if_pos q2, if_pos (by omega)]
      · rw [if_neg q2, if_neg (by omega)]
  rw [cI g g' _ (by omega) (by omega), cI r r' _ (by omega) (by omega), cI n n' _ (by omega) (by omega), cI x x' _ (by omega) (by omega)]
  congr 1
  congr 1
  show (if cmpB l l' = 0 then _ else cmpB l l') = _
  congr 1
  congr 1
  by_cases q : cmpI x x' = 0
  · rw [if_pos q, q]
  · rw [if_neg q]
end Go.Proofs.YtkkpdgfllnbigaaGreat
