/-
  What Split answers, plainly.
-/
import Derived.Test.YtlhfkdgdbjinoaaSum
namespace Go.Proofs.Ytlhfkdgdbjinoaa
open Go.RowKit Go.Shelf
set_option linter.unusedSimpArgs false

/-- The i-th part. -/
def piece (q r : Int) (i : Nat) : Int := q + (if (i : Int) < r then 1 else 0) - (if (i : Int) < -r then 1 else 0)
def pieces (q r : Int) (k : Nat) : List Int := (List.range k).map (piece q r)
/-- The i-th part, as it is reckoned. -/
def pieceW (q r : Int) (i : Nat) : Int := if (i : Int) < r then wrap64 (q + 1) else if (i : Int) < -r then wrap64 (q - 1) else q
def piecesW (q r : Int) (k : Nat) : List Int := (List.range k).map (pieceW q r)
def splitL (n : Int) (p : Nat) : List Int := piecesW (n.tdiv p) (n.tmod p) p
theorem piecesW_succ (q r : Int) (k : Nat) : piecesW q r (k + 1) = piecesW q r k ++ [pieceW q r k] := by simp [piecesW, List.range_succ]
theorem piecesW_len (q r : Int) (k : Nat) : (piecesW q r k).length = k := by simp [piecesW]
/-- What is left behind k parts. -/
def rest (r : Int) (k : Nat) : Int := if 0 ≤ r then (if (k : Int) ≤ r then r - k else 0) else (if (k : Int) ≤ -r then r + k else 0)
theorem pieces_succ (q r : Int) (k : Nat) : pieces q r (k + 1) = pieces q r k ++ [piece q r k] := by simp [pieces, List.range_succ]
theorem pieces_len (q r : Int) (k : Nat) : (pieces q r k).length = k := by simp [pieces]
theorem splitL_len (n : Int) (p : Nat) : (splitL n p).length = p := piecesW_len _ _ _
theorem pieces_sum (q r : Int) (k : Nat) : (pieces q r k).sum = (k : Int) * q + (if 0 ≤ r then min (k : Int) r else -(min (k : Int) (-r))) := by
  induction k with
  | zero => simp [pieces]; split <;> omega
  | succ k ih =>
    rw [pieces_succ, List.sum_append, ih]
    have : ((k + 1 : Nat) : Int) * q = (k : Int) * q + q := by rw [Int.natCast_add, Int.add_mul]; simp
    rw [this]
    simp only [List.sum_cons, List.sum_nil, piece]
    generalize (k : Int) * q = X
    split <;> split <;> split <;> omega
theorem w64_in (n : Int) : -9223372036854775808 ≤ wrap64 n ∧ wrap64 n ≤ 9223372036854775807 := by unfold wrap64; omega
theorem w64_add (a b : Int) : wrap64 (wrap64 a + b) = wrap64 (a + b) := by unfold wrap64; omega
theorem w64_add' (a b : Int) : wrap64 (a + wrap64 b) = wrap64 (a + b) := by unfold wrap64; omega
theorem sumN_eq (l : List Int) : ∀ a, wrap64 a = a → sumN a l = wrap64 (a + l.sum) := by
  induction l with
  | nil => intro a h; simp [sumN, h]
  | cons x t ih =>
    intro a h
    show sumN (wrap64 (a + x)) t = _
    rw [ih _ (by unfold wrap64; omega), w64_add, List.sum_cons]
    congr 1; omega
theorem manyN_eq (b : Int) (l : List Int) : ∀ a, wrap64 a = a → manyN b a l = wrap64 (a + l.sum - l.length * b) := by
  induction l with
  | nil => intro a h; simp [manyN, h]
  | cons x t ih =>
    intro a h
    show manyN b (wrap64 (a + wrap64 (x - b))) t = _
    rw [ih _ (by unfold wrap64; omega), w64_add']
    have : ((x :: t).length : Int) * b = (t.length : Int) * b + b := by rw [List.length_cons, Int.natCast_add, Int.add_mul]; simp
    rw [List.sum_cons, this]
    generalize (t.length : Int) * b = X
    generalize t.sum = Y
    unfold wrap64; omega
theorem split_sum (n : Int) (p : Nat) (hp : 1 ≤ p) : (pieces (n.tdiv p) (n.tmod p) p).sum = n := by
  rw [pieces_sum]
  have h := Int.mul_tdiv_add_tmod n p
  have h1 : n.tmod p < p := Int.tmod_lt_of_pos n (by omega)
  have h2 : -(p : Int) < n.tmod p := by
    have := Int.tmod_lt_of_pos (-n) (show (0 : Int) < (p : Int) by omega)
    rw [Int.neg_tmod] at this
    omega
  split <;> omega
theorem rest_yes {r : Int} {k : Nat} (hr : -64 < r ∧ r < 64) (h : rest r k ≠ 0) : wrap64 (rest r k - sg r) = rest r (k + 1) ∧ ∀ q, pieceW q r k = wrap64 (q + sg r) := by
  have rest_step : True := trivial
  unfold rest at h ⊢
  unfold pieceW sg
  constructor
  · split at h <;> split at h
    · rename_i a b
      rw [if_pos a, if_pos b, if_neg (by omega), if_pos (by omega), if_pos (by omega), if_pos (by omega)]
      unfold wrap64; omega
    · exact (h rfl).elim
    · rename_i a b
      rw [if_neg a, if_pos b, if_pos (by omega), if_neg (by omega), if_pos (by omega)]
      unfold wrap64; omega
    · exact (h rfl).elim
  · intro q
    split at h <;> split at h
    · rw [if_pos (by omega), if_neg (by omega), if_pos (by omega)]
    · exact (h rfl).elim
    · rw [if_neg (by omega), if_pos (by omega), if_pos (by omega)]; rfl
    · exact (h rfl).elim
theorem rest_no {r : Int} {k : Nat} (h : rest r k = 0) : rest r (k + 1) = 0 ∧ ∀ q, pieceW q r k = q := by
  unfold rest at h ⊢
  unfold pieceW
  constructor
  · split at h <;> split at h
    · rename_i a b
      rw [if_pos a, if_neg (by omega)]
    · rename_i a b
      rw [if_pos a, if_neg (by omega)]
    · rename_i a b
      rw [if_neg a, if_neg (by omega)]
    · rename_i a b
      rw [if_neg a, if_neg (by omega)]
  · intro q
    split at h <;> split at h <;> rw [if_neg (by omega), if_neg (by omega)]
theorem tmod_small (n : Int) (p : Nat) (hp : 1 ≤ p) (hp2 : p ≤ 64) : -64 < n.tmod p ∧ n.tmod p < 64 := by
  have h1 : n.tmod p < p := Int.tmod_lt_of_pos n (by omega)
  have := Int.tmod_lt_of_pos (-n) (show (0 : Int) < (p : Int) by omega)
  rw [Int.neg_tmod] at this
  omega
/-- The row behind k rounds. -/
def rowK (q r : Int) (p k : Nat) : List Int := piecesW q r k ++ List.replicate (p - k) 0
theorem rowK_set (q r : Int) (p k : Nat) (h : k < p) (x : Int) : ((n64s (rowK q r p k)).toArray).setIfInBounds k (.int .i64 x) = (n64s (piecesW q r k ++ x :: List.replicate (p - (k + 1)) 0)).toArray := by
  unfold rowK
  rw [show p - k = (p - (k + 1)) + 1 by omega, List.replicate_succ]
  simp [n64s, piecesW_len, List.set_append]
theorem rowK_set2 (q r : Int) (p k : Nat) (x y : Int) : ((n64s (piecesW q r k ++ x :: List.replicate (p - (k + 1)) 0)).toArray).setIfInBounds k (.int .i64 y) = (n64s (piecesW q r k ++ y :: List.replicate (p - (k + 1)) 0)).toArray := by
  simp [n64s, piecesW_len, List.set_append]
theorem rowK_succ (q r : Int) (p k : Nat) : piecesW q r k ++ pieceW q r k :: List.replicate (p - (k + 1)) 0 = rowK q r p (k + 1) := by
  unfold rowK; rw [piecesW_succ]; simp
theorem sumN_snoc (a x : Int) (l : List Int) : sumN a (l ++ [x]) = wrap64 (sumN a l + x) := by simp [sumN]
theorem sumN_pieces (q r : Int) : ∀ k, sumN 0 (piecesW q r k) = wrap64 (pieces q r k).sum := by
  intro k
  induction k with
  | zero => simp [piecesW, pieces, sumN, wrap64]
  | succ k ih =>
    rw [piecesW_succ, sumN_snoc, ih, pieces_succ, List.sum_append, w64_add]
    simp only [List.sum_cons, List.sum_nil, piece, pieceW]
    generalize (pieces q r k).sum = X
    split <;> (try split) <;> (try split) <;> unfold wrap64 <;> omega
theorem splitL_sum (n : Int) (p : Nat) (hp : 1 ≤ p) (hn : -9223372036854775808 ≤ n ∧ n ≤ 9223372036854775807) : sumN 0 (splitL n p) = n := by
  unfold splitL
  rw [sumN_pieces, split_sum n p hp]
  unfold wrap64; omega
end Go.Proofs.Ytlhfkdgdbjinoaa
