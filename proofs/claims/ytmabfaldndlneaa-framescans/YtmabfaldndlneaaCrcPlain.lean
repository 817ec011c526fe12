/-
  PLAIN MATHEMATICS for the layer crc: the register bit by bit, that it is linear, that no register but 0 becomes 0, that the parity of its bits stays; sums of bytes. It imports nothing of the program.
-/
import Derived.WalkKit
namespace Go.Proofs.Ytmabfaldndlneaa
namespace Crc

def poly : Nat := 2197175160
/-- One bit of a register. -/
def half (s : Nat) : Nat := if s % 2 = 1 then s / 2 ^^^ poly else s / 2
/-- So many bits. -/
def hs : Nat → Nat → Nat
  | 0, s => s
  | n + 1, s => hs n (half s)

theorem half_even {s : Nat} (h : s % 2 ≠ 1) : half s = s / 2 := by rw [half, if_neg h]
theorem half_odd {s : Nat} (h : s % 2 = 1) : half s = s / 2 ^^^ poly := by rw [half, if_pos h]
theorem half_zero : half 0 = 0 := rfl
theorem half_two (s : Nat) : half (2 * s) = s := by rw [half_even (by omega)]; omega

theorem half_lt {s : Nat} (h : s < 4294967296) : half s < 4294967296 := by
  unfold half
  split
  · exact Nat.xor_lt_two_pow (n := 32) (by omega) (by decide)
  · omega

theorem xor_mod_two (a b : Nat) : (a ^^^ b) % 2 = (a % 2 + b % 2) % 2 := by
  have h := Nat.testBit_xor a b 0
  simp only [Nat.testBit_zero] at h
  rcases Nat.mod_two_eq_zero_or_one a with ha | ha <;> rcases Nat.mod_two_eq_zero_or_one b with hb | hb <;> rcases Nat.mod_two_eq_zero_or_one (a ^^^ b) with hc | hc <;> simp_all
theorem xor_div_two (a b : Nat) : (a ^^^ b) / 2 = a / 2 ^^^ b / 2 := by
  apply Nat.eq_of_testBit_eq
  intro i
  rw [Nat.testBit_xor, Nat.testBit_div_two, Nat.testBit_div_two, Nat.testBit_div_two, Nat.testBit_xor]

/-- The register is linear. -/
theorem half_xor (a b : Nat) : half (a ^^^ b) = half a ^^^ half b := by
  have h1 := xor_mod_two a b
  have h2 := xor_div_two a b
  unfold half
  rw [h1, h2]
  rcases Nat.mod_two_eq_zero_or_one a with ha | ha <;> rcases Nat.mod_two_eq_zero_or_one b with hb | hb <;> rw [ha, hb]
  · simp
  · simp [Nat.xor_assoc]
  · simp only [Nat.reduceAdd, Nat.reduceMod, if_true, if_neg (show ¬ (0 : Nat) = 1 by decide)]
    rw [Nat.xor_assoc, Nat.xor_assoc, Nat.xor_comm poly]
  · simp only [Nat.reduceAdd, Nat.reduceMod, if_true, if_neg (show ¬ (0 : Nat) = 1 by decide)]
    rw [Nat.xor_assoc (a / 2), ← Nat.xor_assoc poly, Nat.xor_comm poly (b / 2), Nat.xor_assoc (b / 2), Nat.xor_self, Nat.xor_zero]

theorem hs_zero : ∀ n, hs n 0 = 0
  | 0 => rfl
  | n + 1 => by rw [hs, half_zero]; exact hs_zero n
theorem hs_xor : ∀ (n a b : Nat), hs n (a ^^^ b) = hs n a ^^^ hs n b
  | 0, _, _ => rfl
  | n + 1, a, b => by rw [hs, half_xor]; exact hs_xor n _ _
theorem hs_lt : ∀ (n : Nat) {s : Nat}, s < 4294967296 → hs n s < 4294967296
  | 0, _, h => h
  | n + 1, _, h => hs_lt n (half_lt h)
theorem hs_add : ∀ (n m s : Nat), hs (n + m) s = hs m (hs n s)
  | 0, m, s => by rw [Nat.zero_add]; rfl
  | n + 1, m, s => by rw [Nat.add_right_comm, hs, hs]; exact hs_add n m _
theorem hs_one (s : Nat) : hs 1 s = half s := rfl

/-- No register but 0 becomes 0. -/
theorem half_ne {s : Nat} (h : s < 4294967296) (hs : s ≠ 0) : half s ≠ 0 := by
  unfold half
  split
  · intro e
    have h1 := congrArg (fun x => Nat.testBit x 31) e
    simp only [Nat.testBit_xor, Nat.zero_testBit] at h1
    have h2 : (s / 2).testBit 31 = false := Nat.testBit_lt_two_pow (by omega)
    have h3 : poly.testBit 31 = true := by decide
    rw [h2, h3] at h1
    simp at h1
  · omega
theorem hs_ne : ∀ (n : Nat) {s : Nat}, s < 4294967296 → s ≠ 0 → hs n s ≠ 0
  | 0, _, _, h => h
  | n + 1, _, h, h0 => hs_ne n (half_lt h) (half_ne h h0)

/-- A single bit goes down. -/
theorem hs_bit : ∀ (t n : Nat), t ≤ n → hs n (2 ^ t) = hs (n - t) 1
  | 0, n, _ => by simp
  | t + 1, n + 1, h => by
    rw [hs, Nat.pow_succ, Nat.mul_comm, half_two, hs_bit t n (by omega)]
    congr 1; omega

/-- The parity of the k lowest bits. -/
def par : Nat → Nat → Bool
  | 0, _ => false
  | k + 1, s => Bool.xor (s % 2 == 1) (par k (s / 2))
theorem par_xor : ∀ (k a b : Nat), par k (a ^^^ b) = Bool.xor (par k a) (par k b)
  | 0, _, _ => rfl
  | k + 1, a, b => by
    rw [par, par, par, xor_div_two, par_xor k, xor_mod_two]
    rcases Nat.mod_two_eq_zero_or_one a with ha | ha <;> rcases Nat.mod_two_eq_zero_or_one b with hb | hb <;> rw [ha, hb] <;> cases par k (a / 2) <;> cases par k (b / 2) <;> rfl
theorem par_top : ∀ (k s : Nat), s < 2 ^ k → par (k + 1) s = par k s
  | 0, s, h => by have : s = 0 := by simpa using h
                  subst this; rfl
  | k + 1, s, h => by
    have e := par_top k (s / 2) (by rw [Nat.pow_succ] at h; omega)
    show Bool.xor (s % 2 == 1) (par (k + 1) (s / 2)) = Bool.xor (s % 2 == 1) (par k (s / 2))
    rw [e]
theorem par_half {s : Nat} (h : s < 4294967296) : par 32 (half s) = par 32 s := by
  have e : par 32 s = Bool.xor (s % 2 == 1) (par 31 (s / 2)) := rfl
  have t : par 32 (s / 2) = par 31 (s / 2) := par_top 31 _ (by omega)
  unfold half
  split
  · rename_i ho
    rw [par_xor, t, e, ho]
    have : par 32 poly = true := by decide
    rw [this]
    cases par 31 (s / 2) <;> rfl
  · rename_i ho
    rw [t, e]
    have : (s % 2 == 1) = false := by simpa using ho
    rw [this]
    cases par 31 (s / 2) <;> rfl
theorem par_hs : ∀ (n : Nat) {s : Nat}, s < 4294967296 → par 32 (hs n s) = par 32 s
  | 0, _, _ => rfl
  | n + 1, _, h => by rw [hs, par_hs n (half_lt h), par_half h]

/-- Three bits, wherever they are, leave a trace. -/
theorem three_bits (a b c : Nat) : hs a 1 ^^^ hs b 1 ^^^ hs c 1 ≠ 0 := by
  intro e
  have h := congrArg (par 32) e
  rw [par_xor, par_xor, par_hs a (by decide), par_hs b (by decide), par_hs c (by decide)] at h
  revert h
  decide

/-- A register behind bytes. -/
def regs (s : Nat) : List Nat → Nat
  | [] => s
  | b :: r => regs (hs 8 (s ^^^ b)) r
theorem regs_nil (s : Nat) : regs s [] = s := rfl
theorem regs_cons (s b : Nat) (r : List Nat) : regs s (b :: r) = regs (hs 8 (s ^^^ b)) r := rfl
def full : Nat := 4294967295
/-- The sum of bytes. -/
def sum (l : List Nat) : Nat := regs full l ^^^ full
/-- The sum of bytes behind others. -/
def more (s : Nat) (l : List Nat) : Nat := regs (s ^^^ full) l ^^^ full

def Bytes (l : List Nat) : Prop := ∀ b ∈ l, b < 256
theorem regs_append : ∀ (s : Nat) (l m : List Nat), regs s (l ++ m) = regs (regs s l) m
  | _, [], _ => rfl
  | s, b :: r, m => by rw [List.cons_append, regs_cons, regs_cons]; exact regs_append (hs 8 (s ^^^ b)) r m
theorem xor_lt {a b : Nat} (ha : a < 4294967296) (hb : b < 4294967296) : a ^^^ b < 4294967296 := Nat.xor_lt_two_pow (n := 32) ha hb
theorem regs_lt : ∀ (l : List Nat) {s : Nat}, s < 4294967296 → Bytes l → regs s l < 4294967296
  | [], _, h, _ => h
  | b :: r, _, h, hb => by rw [regs_cons]; exact regs_lt r (hs_lt 8 (xor_lt h (by have := hb b (by simp); omega))) (fun c hc => hb c (by simp [hc]))
theorem sum_lt {l : List Nat} (h : Bytes l) : sum l < 4294967296 := xor_lt (regs_lt l (by decide) h) (by decide)
theorem more_lt {l : List Nat} {s : Nat} (hs : s < 4294967296) (h : Bytes l) : more s l < 4294967296 := xor_lt (regs_lt l (xor_lt hs (by decide)) h) (by decide)
theorem sum_more (l : List Nat) : sum l = more 0 l := rfl
theorem sum_nil : sum [] = 0 := rfl

theorem xor_swap (a b c d : Nat) : (a ^^^ b) ^^^ (c ^^^ d) = (a ^^^ c) ^^^ (b ^^^ d) := by
  rw [Nat.xor_assoc, ← Nat.xor_assoc b, Nat.xor_comm b c, Nat.xor_assoc c, ← Nat.xor_assoc]
theorem xor_back (a b : Nat) : a ^^^ b ^^^ b = a := by rw [Nat.xor_assoc, Nat.xor_self, Nat.xor_zero]

/-- Registers are linear in what they were, and in the bytes. -/
theorem regs_xor : ∀ (l m : List Nat) (s t : Nat), l.length = m.length → regs (s ^^^ t) (List.zipWith (· ^^^ ·) l m) = regs s l ^^^ regs t m
  | [], [], _, _, _ => rfl
  | a :: l, b :: m, s, t, h => by
    rw [List.zipWith_cons_cons, regs_cons, regs_cons, regs_cons, xor_swap, hs_xor]
    exact regs_xor l m _ _ (by simpa using h)
theorem regs_zeros : ∀ (n s : Nat), regs s (List.replicate n 0) = hs (8 * n) s
  | 0, _ => rfl
  | n + 1, s => by
    rw [List.replicate_succ, regs_cons, Nat.xor_zero, regs_zeros n, Nat.mul_add, Nat.add_comm, hs_add]
theorem zip_zero (l : List Nat) : List.zipWith (· ^^^ ·) l (List.replicate l.length 0) = l := by
  induction l with
  | nil => rfl
  | cons a r ih => simp only [List.length_cons, List.replicate_succ, List.zipWith_cons_cons, Nat.xor_zero, ih]
/-- What a register was goes on by itself. -/
theorem regs_split (s t : Nat) (l : List Nat) : regs (s ^^^ t) l = regs s l ^^^ hs (8 * l.length) t := by
  have h := regs_xor l (List.replicate l.length 0) s t (by simp)
  rwa [zip_zero, regs_zeros] at h

/-- More of Sum is Sum of both. -/
theorem more_sum (l m : List Nat) : more (sum l) m = sum (l ++ m) := by
  unfold more sum
  rw [xor_back, regs_append]
/-- Join of two sums. -/
theorem sum_join (l m : List Nat) : sum (l ++ m) = hs (8 * m.length) (sum l) ^^^ sum m := by
  have h := regs_split full (sum l) m
  have e : full ^^^ sum l = regs full l := by unfold sum; rw [Nat.xor_comm, xor_back]
  rw [e] at h
  unfold sum at h ⊢
  rw [regs_append, h, Nat.xor_assoc, Nat.xor_comm, Nat.xor_assoc, Nat.xor_comm full]
/-- Sums of three pieces that are as long. -/
theorem sum_three (l m n : List Nat) (h1 : l.length = m.length) (h2 : l.length = n.length) : sum l ^^^ sum m ^^^ sum n = sum (List.zipWith (· ^^^ ·) (List.zipWith (· ^^^ ·) l m) n) := by
  have e1 := regs_xor l m full full h1
  have e2 := regs_xor (List.zipWith (· ^^^ ·) l m) n (full ^^^ full) full (by simp [h1, ← h2])
  rw [e1] at e2
  have e3 : full ^^^ full ^^^ full = full := xor_back full full
  rw [e3] at e2
  unfold sum
  rw [e2, xor_swap (regs full l), Nat.xor_self, Nat.xor_zero, Nat.xor_assoc, Nat.xor_assoc, Nat.xor_assoc]

/-- One byte turned. -/
theorem regs_set : ∀ (l : List Nat) (s i b v : Nat), l[i]? = some b → regs s (l.set i (b ^^^ v)) = regs s l ^^^ hs (8 * (l.length - i)) v
  | a :: r, s, 0, b, v, h => by
    simp at h; subst h
    rw [List.set_cons_zero, regs_cons, regs_cons, ← Nat.xor_assoc, hs_xor, regs_split, List.length_cons, Nat.sub_zero, Nat.mul_add, Nat.add_comm, hs_add]
  | a :: r, s, i + 1, b, v, h => by
    rw [List.set_cons_succ, regs_cons, regs_cons, regs_set r _ i b v (by simpa using h), List.length_cons]
    congr 3; omega
theorem sum_set (l : List Nat) (i b v : Nat) (h : l[i]? = some b) : sum (l.set i (b ^^^ v)) = sum l ^^^ hs (8 * (l.length - i)) v := by
  unfold sum
  rw [regs_set l full i b v h, Nat.xor_assoc, Nat.xor_comm (hs _ _), ← Nat.xor_assoc]

/-- One bit turned. -/
def flip (l : List Nat) (k : Nat) : List Nat := l.set (k / 8) (l.getD (k / 8) 0 ^^^ 2 ^ (k % 8))
theorem flip_length (l : List Nat) (k : Nat) : (flip l k).length = l.length := by simp [flip]
theorem flip_bytes {l : List Nat} (h : Bytes l) (k : Nat) : Bytes (flip l k) := by
  intro b hb
  by_cases hk : k / 8 < l.length
  · rcases List.mem_or_eq_of_mem_set hb with h1 | h1
    · exact h b h1
    · rw [h1]
      have h2 : l.getD (k / 8) 0 < 256 := by
        rw [List.getD_eq_getElem?_getD, List.getElem?_eq_getElem hk]
        exact h _ (List.getElem_mem hk)
      have h3 : 2 ^ (k % 8) < 256 := by
        have := Nat.pow_lt_pow_right (a := 2) (by omega) (show k % 8 < 8 by omega)
        exact this
      exact Nat.xor_lt_two_pow (n := 8) h2 h3
  · have : flip l k = l := by unfold flip; exact List.set_eq_of_length_le (by omega)
    rw [this] at hb
    exact h b hb
theorem sum_flip (l : List Nat) (k : Nat) (h : k < 8 * l.length) : sum (flip l k) = sum l ^^^ hs (8 * l.length - k) 1 := by
  have hk : k / 8 < l.length := by omega
  have hg : l[k / 8]? = some (l.getD (k / 8) 0) := by rw [List.getD_eq_getElem?_getD, List.getElem?_eq_getElem hk]; rfl
  unfold flip
  rw [sum_set l _ _ _ hg, hs_bit (k % 8) _ (by omega)]
  congr 2
  omega

/-- What 32 bits that follow each other leave. -/
theorem sum_burst_step (l y : List Nat) (k i v : Nat) (hy : y.length = l.length) (hs' : sum y = sum l ^^^ hs (8 * l.length - k) v) (h : k + i < 8 * l.length) :
    sum (flip y (k + i)) = sum l ^^^ hs (8 * l.length - k) (v ^^^ 2 ^ i) := by
  rw [sum_flip y (k + i) (by omega), hs', hs_xor, hs_bit i _ (by omega), hy, Nat.xor_assoc]
  congr 3
  omega

/-- A word, its lowest bits apart. -/
theorem apart (k s : Nat) : s = 2 ^ k * (s / 2 ^ k) ^^^ s % 2 ^ k := by
  apply Nat.eq_of_testBit_eq
  intro i
  rw [Nat.testBit_xor, Nat.testBit_two_pow_mul, Nat.testBit_mod_two_pow, Nat.testBit_div_two_pow]
  by_cases h : i < k
  · simp [h, Nat.not_le.2 h]
  · simp [h, Nat.not_lt.1 h]
theorem hs_high : ∀ (k a : Nat), hs k (2 ^ k * a) = a
  | 0, a => by rw [Nat.pow_zero, Nat.one_mul]; rfl
  | k + 1, a => by rw [hs, Nat.pow_succ, Nat.mul_comm (2 ^ k) 2, Nat.mul_assoc, half_two, hs_high k a]
/-- Some bits at once: what is left of the word, and what the lowest bits become. -/
theorem hs_table (k s : Nat) : hs k s = s / 2 ^ k ^^^ hs k (s % 2 ^ k) := by
  conv => lhs; rw [apart k s]
  rw [hs_xor, hs_high]
/-- One bit more of a word. -/
theorem low_succ (x i : Nat) : x % 2 ^ (i + 1) = if x / 2 ^ i % 2 = 1 then x % 2 ^ i ^^^ 2 ^ i else x % 2 ^ i := by
  apply Nat.eq_of_testBit_eq
  intro j
  have hb : x.testBit i = decide (x / 2 ^ i % 2 = 1) := by rw [Nat.testBit_eq_decide_div_mod_eq]
  split
  · rename_i h
    rw [Nat.testBit_xor, Nat.testBit_mod_two_pow, Nat.testBit_mod_two_pow, Nat.testBit_two_pow]
    by_cases h1 : j = i
    · subst h1; simp [hb, h]
    · have h2 : ¬ i = j := fun e => h1 e.symm
      by_cases h3 : j < i
      · simp [h2, h3, Nat.lt_succ_of_lt h3]
      · simp [h2, h3, show ¬ j < i + 1 by omega]
  · rename_i h
    rw [Nat.testBit_mod_two_pow, Nat.testBit_mod_two_pow]
    by_cases h1 : j = i
    · subst h1; simp [hb, h]
    · by_cases h3 : j < i
      · simp [h3, Nat.lt_succ_of_lt h3]
      · simp [h3, show ¬ j < i + 1 by omega]

/-- A word by a row: the images of its i lowest bits. -/
def thr (m : Nat → Nat) (x : Nat) : Nat → Nat
  | 0 => 0
  | i + 1 => if x / 2 ^ i % 2 = 1 then thr m x i ^^^ m i else thr m x i
/-- A row of what each bit becomes says what each word becomes. -/
theorem thr_row (n x : Nat) (m : Nat → Nat) : ∀ (i : Nat), (∀ j, j < i → m j = hs n (2 ^ j)) → thr m x i = hs n (x % 2 ^ i)
  | 0, _ => by rw [Nat.pow_zero, Nat.mod_one, hs_zero]; rfl
  | i + 1, h => by
    have e := thr_row n x m i (fun j hj => h j (by omega))
    rw [low_succ x i, thr, e, h i (by omega)]
    split
    · rw [hs_xor]
    · rfl
theorem thr_word (n x : Nat) (m : Nat → Nat) (h : ∀ j, j < 32 → m j = hs n (2 ^ j)) (hx : x < 4294967296) : thr m x 32 = hs n x := by
  rw [thr_row n x m 32 h, Nat.mod_eq_of_lt hx]
theorem mod_succ (x i : Nat) : x % 2 ^ (i + 1) = x % 2 ^ i + (if x / 2 ^ i % 2 = 1 then 2 ^ i else 0) := by
  rw [Nat.pow_succ, Nat.mod_mul]
  split
  · rename_i h; rw [h, Nat.mul_one]
  · rename_i h
    have : x / 2 ^ i % 2 = 0 := by omega
    rw [this, Nat.mul_zero]
/-- One step of going far by squares. -/
theorem far_step (N j s : Nat) : hs (8 * (N % 2 ^ (j + 1))) s = if N / 2 ^ j % 2 = 1 then hs (8 * 2 ^ j) (hs (8 * (N % 2 ^ j)) s) else hs (8 * (N % 2 ^ j)) s := by
  rw [mod_succ]
  split
  · rw [Nat.mul_add, hs_add]
  · rw [Nat.add_zero]
theorem far_done (N j s : Nat) (h : N / 2 ^ j = 0) : hs (8 * (N % 2 ^ j)) s = hs (8 * N) s := by
  have : N < 2 ^ j := by
    rcases Nat.div_eq_zero_iff.1 h with h1 | h1
    · exact absurd h1 (Nat.ne_of_gt (Nat.two_pow_pos j))
    · exact h1
  rw [Nat.mod_eq_of_lt this]
theorem sq_row (q i : Nat) : hs q (hs q (2 ^ i)) = hs (2 * q) (2 ^ i) := by rw [← hs_add, Nat.two_mul]

/-- The chapter's rows. -/
theorem known1 : sum [49, 50, 51, 52, 53, 54, 55, 56, 57] = 3808858755 := by decide +kernel
theorem known2 : more (sum [49, 50, 51, 52, 53]) [54, 55, 56, 57] = 3808858755 := by decide +kernel
theorem known3 : hs 32 (0 ^^^ full) ^^^ full = 1214729159 := by decide +kernel
theorem known4 : sum [97] = 3251651376 := by decide +kernel
end Crc
end Go.Proofs.Ytmabfaldndlneaa
