/-
  PLAIN MATHEMATICS for the layer wire: the forms of numbers as lists of bytes. It imports nothing of the program.
  OPS, plainly: an operation without its memory (Od), its form and its text, those of lists, when one may be.
  WALKS over wire's Number, Join, Bytes, the document's Number, Bytes, and bytes.Clone.
  Picked.
  MEANT: a value, if its own text is the text.
  READS: the program's reader: carried from layer 1's seat.
-/
import Derived.WalkKit
import Derived.Laws.BitsAllLaws
import Derived.Test.YtpepgoelnagoaaaGreatDoorMg4
import Derived.Test.YtpepgoelnagoaaaGreatDoorMg7
import Derived.Test.YtpepgoelnagoaaaGreatDoorKiB
import Derived.Lib.ItoaLen
import Derived.Test.YtpepgoelnagoaaaGreatDoorMg2
import Derived.Test.YtpepgoelnagoaaaGreatDoorMg3
import Derived.Deep.CutBlock
import Derived.Deep.DeepCutAuto
namespace Go.Proofs.YtpepgoelnagoaaaGreatDoor

/-- '^n' of an int64. -/
theorem i64_not_any (n : Int) (h0 : -9223372036854775808 ≤ n) (h1 : n ≤ 9223372036854775807) : bits .xor .i64 (-1) n = -1 - n := by
  show IntKind.i64.wrap ((BitVec.ofInt 64 (-1) ^^^ BitVec.ofInt 64 n).toNat : Int) = _
  have e : BitVec.ofInt 64 (-1) = BitVec.allOnes 64 := by decide
  rw [e, BitVec.allOnes_xor, BitVec.toNat_not, BitVec.toNat_ofInt]
  simp [IntKind.wrap, IntKind.bits, IntKind.signed]
  omega

namespace Plain

/-- The form of a number: its digits to the base 128, the lowest first, 128 added to all but the last. -/
def numL (n : Nat) : List Int := if _h : 127 < n then ((n % 128 + 128 : Nat) : Int) :: numL (n / 128) else [(n : Int)]

theorem numL_big {n : Nat} (h : 127 < n) : numL n = ((n % 128 + 128 : Nat) : Int) :: numL (n / 128) := by
  rw [numL]; simp [h]
theorem numL_small {n : Nat} (h : n ≤ 127) : numL n = [(n : Int)] := by
  rw [numL]; simp [show ¬ 127 < n by omega]

theorem numL_le (k : Nat) : ∀ n, n < 128 ^ (k + 1) → (numL n).length ≤ k + 1 := by
  induction k with
  | zero => intro n h; rw [numL_small (by omega)]; simp
  | succ k ih =>
    intro n h
    by_cases hn : 127 < n
    · rw [numL_big hn]
      have := ih (n / 128) (by rw [Nat.div_lt_iff_lt_mul (by omega)]; rw [Nat.pow_succ] at h; exact h)
      simp; omega
    · rw [numL_small (by omega)]; simp

theorem numL_ten (n : Nat) (h : n < 18446744073709551616) : (numL n).length ≤ 10 := numL_le 9 n (by omega)

theorem numL_bytes (n : Nat) : ∀ x ∈ numL n, 0 ≤ x ∧ x ≤ 255 := by
  induction n using Nat.strongRecOn with
  | ind n ih =>
    by_cases hn : 127 < n
    · rw [numL_big hn]
      intro x hx
      rcases List.mem_cons.1 hx with rfl | hx
      · omega
      · exact ih (n / 128) (by omega) x hx
    · rw [numL_small (by omega)]
      intro x hx
      simp at hx
      omega

/-- A signed number as one without a sign. -/
def fold (n : Int) : Nat := if n < 0 then (2 * (-(n + 1)) + 1).toNat else (2 * n).toNat
theorem fold_neg {n : Int} (h : n < 0) : (fold n : Int) = 2 * (-(n + 1)) + 1 := by unfold fold; rw [if_pos h]; omega
theorem fold_pos {n : Int} (h : ¬ n < 0) : (fold n : Int) = 2 * n := by unfold fold; rw [if_neg h]; omega
theorem fold_lt (n : Int) (h0 : -9223372036854775808 ≤ n) (h1 : n ≤ 9223372036854775807) : fold n < 18446744073709551616 := by
  unfold fold; split <;> omega

/-- A number read from bytes, from place i on: its value, and how many bytes it took in all. -/
def readN (i acc : Nat) : List Int → Option (Nat × Nat)
  | [] => none
  | b :: r =>
    if (i = 9 ∧ 1 < b) ∨ (0 < i ∧ b = 0) then none
    else if b < 128 then some (acc + b.toNat * 128 ^ i, i + 1)
    else readN (i + 1) (acc + (b % 128).toNat * 128 ^ i) r

theorem pow9 {i : Nat} (h : i ≤ 9) : 128 ^ i ≤ 9223372036854775808 := by
  have := Nat.pow_le_pow_right (n := 128) (by omega) h
  omega

/-- What is read has just the form that was read. -/
theorem readN_spec : ∀ (l : List Int) (i acc n k : Nat), i ≤ 9 → acc < 128 ^ i → (∀ x ∈ l, 0 ≤ x ∧ x ≤ 255) → readN i acc l = some (n, k) →
    ∃ m, n = acc + m * 128 ^ i ∧ n < 18446744073709551616 ∧ i < k ∧ k ≤ 10 ∧ k - i ≤ l.length ∧ l.take (k - i) = numL m ∧ (0 < i → 0 < m)
  | [], _, _, _, _, _, _, _, h => by simp [readN] at h
  | b :: r, i, acc, n, k, hi, ha, h8, h => by
    have hb := h8 b (by simp)
    rw [readN] at h
    split at h
    · simp at h
    · rename_i hc
      split at h
      · rename_i hb2
        simp only [Option.some.injEq, Prod.mk.injEq] at h
        obtain ⟨rfl, rfl⟩ := h
        obtain ⟨m, rfl⟩ := Int.eq_ofNat_of_zero_le hb.1
        refine ⟨m, by simp, ?_, by omega, by omega, by simp, ?_, by omega⟩
        · simp only [Int.toNat_natCast]
          by_cases h9 : i = 9
          · subst h9
            have : m ≤ 1 := by omega
            have : m * 128 ^ 9 ≤ 1 * 128 ^ 9 := Nat.mul_le_mul_right _ this
            omega
          · have h1 : m * 128 ^ i ≤ 127 * 128 ^ i := Nat.mul_le_mul_right _ (by omega)
            have h2 := pow9 (i := i + 1) (by omega)
            rw [Nat.pow_succ] at h2
            omega
        · rw [Nat.add_sub_cancel_left, numL_small (by omega)]; simp
      · rename_i hb2
        have hi9 : i ≠ 9 := by omega
        have hx : (b % 128).toNat ≤ 127 := by omega
        have ha' : acc + (b % 128).toNat * 128 ^ i < 128 ^ (i + 1) := by
          have := Nat.mul_le_mul_right (128 ^ i) hx
          rw [Nat.pow_succ]; omega
        obtain ⟨m, h1, h2, h3, h4, h5, h6, h7⟩ := readN_spec r (i + 1) _ n k (by omega) ha' (fun x hx => h8 x (by simp [hx])) h
        have hm := h7 (by omega)
        refine ⟨(b % 128).toNat + 128 * m, ?_, h2, by omega, h4, by simp; omega, ?_, by omega⟩
        · rw [h1, Nat.pow_succ, Nat.add_mul, Nat.mul_comm 128 m, Nat.mul_assoc m, Nat.mul_comm (128 ^ i) 128]; omega
        · rw [numL_big (by omega), show k - i = (k - (i + 1)) + 1 by omega, List.take_succ_cons, h6]
          congr 1
          · omega
          · congr 1; omega

/-- What was written is read as it was. -/
theorem readN_form : ∀ (m i acc : Nat) (rest : List Int), i ≤ 9 → acc < 128 ^ i → (0 < i → 0 < m) → acc + m * 128 ^ i < 18446744073709551616 →
    readN i acc (numL m ++ rest) = some (acc + m * 128 ^ i, i + (numL m).length) := by
  intro m
  induction m using Nat.strongRecOn with
  | ind m ih =>
    intro i acc rest hi ha hm hlt
    by_cases hbig : 127 < m
    · have hi9 : i ≠ 9 := by
        intro h; subst h
        have : 128 * 128 ^ 9 ≤ m * 128 ^ 9 := Nat.mul_le_mul_right _ (by omega)
        omega
      have ha' : acc + m % 128 * 128 ^ i < 128 ^ (i + 1) := by
        have := Nat.mul_le_mul_right (128 ^ i) (show m % 128 ≤ 127 by omega)
        rw [Nat.pow_succ]; omega
      have he : acc + m % 128 * 128 ^ i + m / 128 * 128 ^ (i + 1) = acc + m * 128 ^ i := by
        have h1 : m * 128 ^ i = (m % 128 + 128 * (m / 128)) * 128 ^ i := by rw [Nat.mod_add_div]
        rw [h1, Nat.add_mul, Nat.pow_succ, Nat.mul_comm 128 (m / 128), Nat.mul_assoc (m / 128), Nat.mul_comm (128 ^ i) 128, Nat.add_assoc]
      have h2 := ih (m / 128) (by omega) (i + 1) (acc + m % 128 * 128 ^ i) rest (by omega) ha' (by omega) (by omega)
      rw [numL_big hbig, List.cons_append, readN, if_neg (by omega), if_neg (by omega)]
      have h3 : (((m % 128 + 128 : Nat) : Int) % 128).toNat = m % 128 := by omega
      rw [h3, h2, he, List.length_cons]
      congr 2; omega
    · rw [numL_small (by omega), List.cons_append, readN, if_neg ?_, if_pos (by omega)]
      · simp
      · intro h
        rcases h with ⟨rfl, h⟩ | h
        · have : 2 * 128 ^ 9 ≤ m * 128 ^ 9 := Nat.mul_le_mul_right _ (by omega)
          omega
        · have := hm h.1; omega

end Plain
end Go.Proofs.YtpepgoelnagoaaaGreatDoor
namespace Go.Proofs.YtpepgoelnagoaaaGreatDoor
open Go.RowKit Go.Shelf
set_option linter.unusedSimpArgs false

/-- An operation, without its memory. -/
structure Od where
  p : List ByteArray
  k : Int
  s : ByteArray
  d : Int
  n : Int
  t : ByteArray
def frB (s : ByteArray) : List Int := Plain.numL s.size ++ ints s.data.toList
def frP (p : List ByteArray) : List Int := Plain.numL p.length ++ p.flatMap frB
def frN (o : Od) : List Int := if o.d = 1 then Plain.numL (Plain.fold o.n) else if o.d = 6 then [] else frB o.t
def frO (o : Od) : List Int := Plain.numL o.d.toNat ++ frP o.p ++ frB o.s ++ frN o
def chkO (o : Od) : Int := Ki.checkE o.p o.k o.s o.d o.n o.t
/-- Numbers that an int64 holds. -/
def I64 (n : Int) : Prop := -9223372036854775808 ≤ n ∧ n ≤ 9223372036854775807
structure OkO (o : Od) : Prop where
  path : pathB o.p = true
  key : keyB o.s.data.toList = true
  d1 : 1 ≤ o.d
  d7 : o.d ≤ 7
  kind : o.k = Ki.ofD o.d
  text : o.t.size ≤ 256
  add : o.d = 1 → o.t = ⟨#[]⟩
  num : o.d ≠ 1 → o.n = 0
  pop : o.d = 6 → o.t = ⟨#[]⟩
theorem empty_toList {s : ByteArray} (h : s.toList = (⟨#[]⟩ : ByteArray).toList) : s = ⟨#[]⟩ := by
  rw [ByteArray.toList_eq, ByteArray.toList_eq] at h
  exact ByteArray.ext (Array.toList_inj.1 h)
theorem ok_of {o : Od} (h : chkO o = 0) : OkO o := by
  unfold chkO Ki.checkE at h
  split at h
  next ha =>
    unfold Ki.argB at ha
    simp only [Bool.and_eq_true, Bool.not_eq_true', beq_eq_false_iff_ne, ne_eq, beq_iff_eq] at ha
    obtain ⟨⟨⟨⟨⟨a1, a2⟩, a3⟩, a4⟩, a5, a5'⟩, a6⟩ := ha
    have hk : Ki.ofD o.d = o.k := by
      by_cases h1 : Ki.ofD o.d = o.k
      · exact h1
      · rw [if_neg h1] at h; omega
    have hd : 1 ≤ o.d ∧ o.d ≤ 7 := by
      unfold Ki.ofD at a4
      repeat' split at a4
      all_goals first | omega | exact absurd rfl a4
    refine ⟨a1, a2, hd.1, hd.2, hk.symm, by unfold Ki.textB at a6; have := of_decide_eq_true a6; omega, fun e => ?_, fun e => ?_, fun e => ?_⟩
    · unfold Ki.unT at a5'
      rw [if_pos e] at a5'
      exact empty_toList a5'
    · unfold Ki.unN at a5
      rw [if_neg e] at a5
      exact a5
    · unfold Ki.unT at a5'
      rw [if_neg (by omega), e] at a5'
      rw [if_neg (by unfold Ki.bringsD; decide)] at a5'
      exact empty_toList a5'
  next => omega
theorem keyB_size {l : List UInt8} (h : keyB l = true) : l.length ≤ 64 := by
  unfold keyB at h
  simp only [Bool.and_eq_true, decide_eq_true_eq] at h
  exact h.1.1.2
theorem OkO.ssz {o : Od} (h : OkO o) : o.s.size ≤ 64 := by
  rw [Lib.size_eq]; exact keyB_size h.key
theorem frB_len (s : ByteArray) (h : s.size ≤ 140737488355328) : (frB s).length ≤ 10 + s.size := by
  unfold frB
  have := Plain.numL_ten s.size (by omega)
  rw [List.length_append, ints_length, ← Lib.size_eq]
  omega
theorem flat_len {α : Type} {f : α → List Int} {l : List α} {B : Nat} (h : ∀ x ∈ l, (f x).length ≤ B) : (l.flatMap f).length ≤ B * l.length := by
  induction l with
  | nil => simp
  | cons x r ih =>
    have h1 := h x (by simp)
    have h2 := ih (fun y hy => h y (List.mem_cons_of_mem _ hy))
    rw [List.flatMap_cons, List.length_append, List.length_cons, Nat.mul_succ]
    omega
theorem OkO.psz {o : Od} (h : OkO o) : o.p.length ≤ 6 ∧ ∀ s ∈ o.p, s.size ≤ 64 := path_sizes h.path
theorem frP_len {p : List ByteArray} (h : pathB p = true) : (frP p).length ≤ 454 := by
  obtain ⟨h1, h2⟩ := path_sizes h
  have h3 := flat_len (f := frB) (l := p) (B := 74) (fun x hx => by have := frB_len x (by have := h2 x hx; omega); have := h2 x hx; omega)
  have h4 := Plain.numL_ten p.length (by omega)
  unfold frP
  rw [List.length_append]
  omega
theorem frN_len {o : Od} (h : OkO o) (hn : I64 o.n) : (frN o).length ≤ 266 := by
  unfold frN
  split
  · have := Plain.numL_ten (Plain.fold o.n) (Plain.fold_lt o.n hn.1 hn.2); omega
  · split
    · simp
    · have := frB_len o.t (by have := h.text; omega); have := h.text; omega
theorem frO_len {o : Od} (h : OkO o) (hn : I64 o.n) : (frO o).length ≤ 900 := by
  have h1 := frP_len h.path
  have h2 := frN_len h hn
  have h3 := frB_len o.s (by have := h.ssz; omega)
  have h4 := h.ssz
  have h5 := Plain.numL_ten o.d.toNat (by have := h.d7; omega)
  unfold frO
  rw [List.length_append, List.length_append, List.length_append]
  omega
/-- The words of an operation's text. -/
def decL (n : Int) : List UInt8 := Lib.itoa n
def doW (d : Int) : List UInt8 := (Ki.wordB Ki.doWs d).data.toList
def txW (o : Od) : List (List UInt8) := [doW o.d, wordB (joinB o.p), wordB o.s.data.toList] ++ (if o.d = 1 then [decL o.n] else if o.d = 6 then [] else [wordB o.t.data.toList])
def txO (o : Od) : List UInt8 := Lib.join (txW o) [32]
def txA (l : List Od) : List UInt8 := if l = [] then [46] else Lib.join (l.map txO) [59, 32]
/-- The error of a list. -/
def wrongL (l : List Od) : Int := match l.find? (fun o => decide (chkO o ≠ 0)) with | some o => chkO o | none => if 64 < l.length then 3 else 0
theorem wrong_ok {l : List Od} (h : wrongL l = 0) : (∀ o ∈ l, chkO o = 0) ∧ l.length ≤ 64 := by
  unfold wrongL at h
  split at h
  next o ho =>
    have := List.find?_some ho
    simp only [ne_eq, decide_not, Bool.not_eq_true', decide_eq_false_iff_not] at this
    exact absurd h this
  next ho =>
    refine ⟨fun o hm => ?_, ?_⟩
    · have := List.find?_eq_none.1 ho o hm
      simpa using this
    · split at h <;> omega
end Go.Proofs.YtpepgoelnagoaaaGreatDoor
namespace Go.Proofs.YtpepgoelnagoaaaGreatDoor
open Go.RowKit Go.Shelf
set_option linter.unusedSimpArgs false

set_option maxHeartbeats 400000 in
set_option maxRecDepth 100000 in
theorem number_any (n : Nat) (w : World) (hn : n < 18446744073709551616) :
    Calls Tryz.prog 97 #[.int .u64 n] w fun e w' => Made 5 w w' e (Plain.numL n) := by
  obtain ⟨i0, hi, hz0, hz1, hz2⟩ := info_parts Tryz.info5
  have h10 := Plain.numL_ten n hn
  go_enter Tryz.func97, Tryz.ntmps97
  go_wp2
  go_loopw [0, 3] (fun x v wr => ∃ (m : Nat) (p : List Int), m ≤ n ∧ x = .int .u64 m ∧ p ++ Plain.numL m = Plain.numL n ∧ Own 5 wr w.heap.size v p ∧ Below w.heap.size w wr)
    (fun x _ _ => (intOf x).toNat)
  case atStart => exact ⟨n, [], Nat.le_refl _, rfl, rfl, Own.nil _ _ _, Below.refl _ _⟩
  case round =>
    obtain ⟨m, p, hmn, rfl, hp, hown, hb⟩ := hrel
    have hpl : p.length ≤ 10 := by rw [← hp] at h10; simp at h10; omega
    have hsz := hb.size
    have HP : Hid (p ++ Plain.numL m = Plain.numL n) := hp
    clear hp
    by_cases hbig : 127 < m
    · go_wp2_with (at_builtin; refine wpList_push rfl _ _ 26 rfl w.heap.size 5 i0 Tryz.underlying26 hi hz0 hz1 hz2 _ _ rfl (hown.alloc _) ⟨wr.heap.size, 0, none⟩ 1 ((m : Int) % 128 + 128) rfl (by simp [go_sem]) (by omega) (by simp; omega) ?_)
      intro ao' cap' w1 hown' hgrow _
      have hb' := below_own (hb.alloc hsz _) (by simp; omega) (hown.alloc _) hgrow
      clear hgrow hown
      go_wp2
      go_roundw
      case rel => exact ⟨m / 128, p ++ [(m : Int) % 128 + 128], by omega, by go_num, by rw [← HP.out, Plain.numL_big hbig]; simp, by simpa using hown', hb'⟩
      case measure => simp [intOf]; omega
    · go_wp2_with (at_builtin; refine wpList_push rfl _ _ 26 rfl w.heap.size 5 i0 Tryz.underlying26 hi hz0 hz1 hz2 _ _ rfl (hown.alloc _) ⟨wr.heap.size, 0, none⟩ 1 (m : Int) rfl (by simp [go_sem]) (by omega) (by simp; omega) ?_)
      intro ao' cap' w1 hown' hgrow hnil
      have hb' := below_own (hb.alloc hsz _) (by simp; omega) (hown.alloc _) hgrow
      clear hgrow hown
      go_wp2
      go_ret
      have he := HP.out
      rw [Plain.numL_small (by omega)] at he
      refine ⟨ao', cap', by rw [← he]; simp, by rw [← he]; simpa using hown', hnil, hb'⟩

set_option maxHeartbeats 400000 in
set_option maxRecDepth 100000 in
theorem refNumber_any (n : Nat) (w : World) (hn : n < 18446744073709551616) :
    Calls Tryz.prog 53 #[.int .u64 n] w fun e w' => Made 5 w w' e (Plain.numL n) := by
  obtain ⟨i0, hi, hz0, hz1, hz2⟩ := info_parts Tryz.info5
  have h10 := Plain.numL_ten n hn
  go_enter Tryz.func53, Tryz.ntmps53
  go_wp2
  go_loopw [0, 3] (fun x v wr => ∃ (m : Nat) (p : List Int), m ≤ n ∧ x = .int .u64 m ∧ p ++ Plain.numL m = Plain.numL n ∧ Own 5 wr w.heap.size v p ∧ Below w.heap.size w wr)
    (fun x _ _ => (intOf x).toNat)
  case atStart => exact ⟨n, [], Nat.le_refl _, rfl, rfl, Own.nil _ _ _, Below.refl _ _⟩
  case round =>
    obtain ⟨m, p, hmn, rfl, hp, hown, hb⟩ := hrel
    have hpl : p.length ≤ 10 := by rw [← hp] at h10; simp at h10; omega
    have hsz := hb.size
    have HP : Hid (p ++ Plain.numL m = Plain.numL n) := hp
    clear hp
    by_cases hbig : 127 < m
    · go_wp2_with (at_builtin; refine wpList_push rfl _ _ 26 rfl w.heap.size 5 i0 Tryz.underlying26 hi hz0 hz1 hz2 _ _ rfl (hown.alloc _) ⟨wr.heap.size, 0, none⟩ 1 ((m : Int) % 128 + 128) rfl (by simp [go_sem]) (by omega) (by simp; omega) ?_)
      intro ao' cap' w1 hown' hgrow _
      have hb' := below_own (hb.alloc hsz _) (by simp; omega) (hown.alloc _) hgrow
      clear hgrow hown
      go_wp2
      go_roundw
      case rel => exact ⟨m / 128, p ++ [(m : Int) % 128 + 128], by omega, by go_num, by rw [← HP.out, Plain.numL_big hbig]; simp, by simpa using hown', hb'⟩
      case measure => simp [intOf]; omega
    · go_wp2_with (at_builtin; refine wpList_push rfl _ _ 26 rfl w.heap.size 5 i0 Tryz.underlying26 hi hz0 hz1 hz2 _ _ rfl (hown.alloc _) ⟨wr.heap.size, 0, none⟩ 1 (m : Int) rfl (by simp [go_sem]) (by omega) (by simp; omega) ?_)
      intro ao' cap' w1 hown' hgrow hnil
      have hb' := below_own (hb.alloc hsz _) (by simp; omega) (hown.alloc _) hgrow
      clear hgrow hown
      go_wp2
      go_ret
      have he := HP.out
      rw [Plain.numL_small (by omega)] at he
      refine ⟨ao', cap', by rw [← he]; simp, by rw [← he]; simpa using hown', hnil, hb'⟩

theorem number_int (n : Int) (w : World) (h0 : 0 ≤ n) (h1 : n < 18446744073709551616) :
    Calls Tryz.prog 97 #[.int .u64 n] w fun e w' => Made 5 w w' e (Plain.numL n.toNat) := by
  obtain ⟨m, rfl⟩ := Int.eq_ofNat_of_zero_le h0
  exact number_any m w (by omega)

theorem refNumber_int (n : Int) (w : World) (h0 : 0 ≤ n) (h1 : n < 18446744073709551616) :
    Calls Tryz.prog 53 #[.int .u64 n] w fun e w' => Made 5 w w' e (Plain.numL n.toNat) := by
  obtain ⟨m, rfl⟩ := Int.eq_ofNat_of_zero_le h0
  exact refNumber_any m w (by omega)

set_option maxHeartbeats 400000 in
set_option maxRecDepth 100000 in
theorem join_any (ao : Option Addr) (cap : Nat) (L : List (List Int)) (w : World) (hp : Pieces w ao L) (hlen : L.length ≤ 9223372036854775807) (hsum : L.flatten.length ≤ 140737488355328) :
    Calls Tryz.prog 96 #[.slice ao L.length cap] w fun e w' => Made 5 w w' e L.flatten := by
  obtain ⟨i0, hi, hz0, hz1, hz2⟩ := info_parts Tryz.info5
  go_enter Tryz.func96, Tryz.ntmps96
  go_wp2
  go_loopw [3, 8] (fun v i wr => ∃ (k : Nat) (p : List Int) (ao' : Option Addr) (cap' : Nat), k ≤ L.length ∧ i = .int .i64 k ∧ p = (L.take k).flatten ∧ v = .slice ao' p.length cap' ∧ Own 5 wr w.heap.size (.slice ao' p.length cap') p ∧ (ao' = none → cap' = 0) ∧ Below w.heap.size w wr)
    (fun _ i _ => L.length - (intOf i).toNat)
  case atStart => exact ⟨0, [], none, 0, Nat.zero_le _, rfl, by simp, rfl, Own.nil _ _ _, by simp, Below.refl _ _⟩
  case round =>
    obtain ⟨k, p, ao', cap', hk, rfl, hpk, rfl, hown, hnil, hb⟩ := hrel
    have hsz := hb.size
    have HP : Hid (p = (L.take k).flatten) := hpk
    by_cases hlt : k < L.length
    · obtain ⟨l, hl⟩ : ∃ l, L[k]? = some l := ⟨_, List.getElem?_eq_getElem hlt⟩
      have hle : p.length + l.length ≤ 140737488355328 := by
        have h1 := flat_snoc L k l hl
        have h2 := flat_take_le L (k + 1)
        rw [h1, ← hpk, List.length_append] at h2
        omega
      have HL : Hid (L[k]? = some l) := hl
      cases ao with
      | none => have := hp.1 rfl; subst this; simp at hlt
      | some a =>
        obtain ⟨aj, cj, hc, hr, hn⟩ := (hp.below (w' := wr) hb).2 a rfl k l hl
        clear hl hpk
        obtain ⟨ab, aoff, aspot⟩ := a
        have hc0 : ∃ u, w.cell? ⟨ab, aoff, aspot⟩ = some u := by
          obtain ⟨_, _, h0, _⟩ := hp.2 _ rfl 0 (L[0]'(by omega)) (List.getElem?_eq_getElem _)
          exact ⟨_, by simpa [Addr.add] using h0⟩
        obtain ⟨_, hc0⟩ := hc0
        have hspot : aspot = none := World.cell?_spot hc0
        subst hspot
        rw [add_lit] at hc
        clear hc0
        go_wp2_with (at_builtin; refine wpList_append_rd rfl _ _ 26 rfl w.heap.size 5 i0 Tryz.underlying26 hi hz0 hz1 hz2 _ _ rfl hown aj cj l rfl hn hr hle hsz ?_)
        intro ao1 cap1 w1 hown' hgrow hnil'
        have hb' := below_own hb hsz hown hgrow
        clear hgrow hown hr hc
        go_wp2
        go_roundw
        case rel => exact ⟨k + 1, p ++ l, ao1, cap1, by omega, by go_num, by rw [flat_snoc L k l HL.out, ← HP.out], by simp, by simpa using hown', hnil', hb'⟩
        case measure => simp [intOf]; omega
    · clear hpk
      go_wp2
      go_ret
      have he : p = L.flatten := by rw [HP.out, List.take_of_length_le (by omega)]
      subst he
      exact ⟨ao', cap', rfl, hown, hnil, hb⟩

theorem Made.intro {e : TypeId} {w w1 w2 : World} {l : List Int} {x : Ending} (hb : Below w.heap.size w w1) (hs : w.heap.size ≤ w1.heap.size) (h : Made e w1 w2 x l) : Made e w w2 x l := by
  obtain ⟨ao, cap, rfl, hown, hn, hb2⟩ := h
  exact ⟨ao, cap, rfl, hown.lift hs, hn, hb.trans (hb2.mono hs)⟩

set_option maxHeartbeats 400000 in
set_option maxRecDepth 100000 in
theorem bytes_any (ao : Option Addr) (cap : Nat) (l : List Int) (w : World) (hr : Rd w ao l) (hn : ao = none → cap = 0) (hl : l.length + 10 ≤ 140737488355328) :
    Calls Tryz.prog 133 #[.slice ao l.length cap] w fun e w' => Made 5 w w' e (Plain.numL l.length ++ l) := by
  have h10 := Plain.numL_ten l.length (by omega)
  go_enter Tryz.func133, Tryz.ntmps133
  go_wp2_with (go_at_call 97; refine (number_any l.length _ (by omega)).mono ?_; rintro e w1 ⟨ao1, cap1, rfl, hown, hnil, hb⟩)
  go_wp2_with fail
  refine (join_any _ 2 [Plain.numL l.length, l] _ (Pieces.two ao1 ao cap1 cap _ _ 26 hown.rd (hr.below hb) hnil hn) (by simp) (by simp; omega)).mono ?_
  intro e w2 hm
  have hm2 : Made 5 w w2 e (Plain.numL l.length ++ l) := by
    have := hm.intro (hb.alloc hb.size _) (by have := hb.size; simp; omega)
    simpa using this
  clear hm
  obtain ⟨ao2, cap2, rfl, hown2, hnil2, hb2⟩ := hm2
  go_wp2
  go_ret
  exact ⟨ao2, cap2, by simp, hown2, hnil2, hb2⟩

set_option maxHeartbeats 400000 in
set_option maxRecDepth 100000 in
theorem refBytes_any (ao : Option Addr) (cap : Nat) (l : List Int) (w : World) (hr : Rd w ao l) (hn : ao = none → cap = 0) (hl : l.length + 10 ≤ 140737488355328) :
    Calls Tryz.prog 54 #[.slice ao l.length cap] w fun e w' => Made 5 w w' e (Plain.numL l.length ++ l) := by
  obtain ⟨i0, hi, hz0, hz1, hz2⟩ := info_parts Tryz.info5
  have h10 := Plain.numL_ten l.length (by omega)
  go_enter Tryz.func54, Tryz.ntmps54
  go_wp2_with (first | (go_at_call 53; refine (refNumber_any l.length _ (by omega)).mono ?_; rintro e w1 ⟨ao1, cap1, rfl, hown, hnil, hb⟩; have hr1 := hr.below hb; have hs1 := hb.size) | (at_builtin; refine wpList_append_rd rfl _ _ 26 rfl w.heap.size 5 i0 Tryz.underlying26 hi hz0 hz1 hz2 _ _ rfl hown ao cap l rfl hn hr1 (by omega) hs1 ?_; intro ao2 cap2 w2 hown2 hgrow hnil2; have hb2 := below_own hb hs1 hown hgrow; clear hgrow hown))
  go_ret
  exact ⟨ao2, cap2, by simp, by simpa using hown2, hnil2, hb2⟩

set_option maxHeartbeats 400000 in
set_option maxRecDepth 100000 in
theorem clone68 (ao : Option Addr) (cap : Nat) (l : List Int) (w : World) (hr : Rd w ao l) (hn : ao = none → cap = 0) (hl : l.length ≤ 140737488355328) :
    Calls Tryz.prog 68 #[.slice ao l.length cap] w fun e w' => Made 5 w w' e l := by
  obtain ⟨i0, hi, hz0, hz1, hz2⟩ := info_parts Tryz.info5
  have q23 : ∀ (w : World) (a : Option Addr) (n c n' c' : Nat), (binOp .eql 26 (.slice a n c) (.slice none n' c')).run Tryz.prog w = .ok (.bool a.isNone) w := fun w a n c n' c' => Lib.run_eql_slice_nil w _ _ a n c n' c' Tryz.underlying26
  cases ao with
  | none =>
    have := hr.1 rfl
    subst this
    have := hn rfl
    subst this
    go_enter Tryz.func68, Tryz.ntmps68
    go_wp2
    go_ret
    exact ⟨none, 0, rfl, Own.nil _ _ _, by simp, Below.refl _ _⟩
  | some a =>
    go_enter Tryz.func68, Tryz.ntmps68
    go_wp2_with (at_builtin; refine wpList_append_rd rfl _ _ 26 rfl w.heap.size 5 i0 Tryz.underlying26 hi hz0 hz1 hz2 _ [] rfl (World.ownsRow_lit w #[] 0 (Nat.le_refl _) (by decide) rfl) (some a) cap l rfl hn (hr.below ((Below.refl _ _).alloc (Nat.le_refl _) _)) (by simpa using hl) (by simp) ?_; intro ao2 cap2 w2 hown2 hgrow hnil2)
    have hb2 := below_own (l := []) ((Below.refl w.heap.size w).alloc (Nat.le_refl _) _) (by simp) (World.ownsRow_lit w #[] 0 (Nat.le_refl _) (by decide) rfl) hgrow
    go_ret
    exact ⟨ao2, cap2, by simp, by simpa using hown2, hnil2, hb2⟩

end Go.Proofs.YtpepgoelnagoaaaGreatDoor
namespace Go.Proofs.YtpepgoelnagoaaaGreatDoor
open Go.RowKit Go.Shelf
set_option linter.unusedSimpArgs false
attribute [local go_sem] Oper.semAt_some

theorem ints_size (s : ByteArray) : (ints s.data.toList).length = s.size := by rw [ints_length, ← Lib.size_eq]
/-- The bytes of a text, in new memory. -/
theorem conv_str (s : ByteArray) (W : World) : ∃ c W', (convert 9 26 (.string s)).run Tryz.prog W = .ok (.slice (some ⟨W.heap.size, 0, none⟩) s.size c) W' ∧ Rd W' (some ⟨W.heap.size, 0, none⟩) (ints s.data.toList) ∧ Below W.heap.size W W' := by
  refine ⟨_, _, Lib.run_convert_string_bytes (P := Tryz.prog) W 9 26 5 s Tryz.underlying9 Tryz.underlying26 Tryz.underlying5, ⟨by simp, ?_⟩, ⟨rfl, rfl, rfl, by rw [Lib.bytesWorld_size]; omega, fun k hk => Lib.bytesWorld_at_old W 5 s k hk⟩⟩
  intro a ha j u hj
  cases ha
  rw [u8s_get] at hj
  have hl : s.data.toList.length = s.size := (Lib.size_eq s).symm
  have hjl : j < s.size := by
    cases hg : (ints s.data.toList)[j]? with
    | none => rw [hg] at hj; cases hj
    | some v => have := (List.getElem?_eq_some_iff.1 hg).1; rw [ints_size] at this; exact this
  rw [add_lit, Nat.zero_add, Lib.bytesWorld_cell W 5 s j hjl, ← hj]
  simp [ints, List.getD, List.getElem?_eq_getElem (show j < s.data.toList.length by omega)]
theorem exec_conv {ev : Operand → Value} {x : Operand} {T : TypeId} {s : ByteArray} {v : Value} {w w' : World} (hx : ev x = .string s) (hr : (convert 9 26 (.string s)).run Tryz.prog w = .ok v w') :
    (execOp ev { dst := none, op := .convert 9 26 x, type := T, pos := "", after := #[], guard := none }).run Tryz.prog w = .ok (.value v) w' := by
  simp [execOp, hx, hr, Result.andThen]
/-- Bytes that are read, laid on bytes that are owned. -/
theorem app_own {w : World} {B : Nat} {v : Value} {p l : List Int} {ao : Option Addr} {c : Nat} (hown : Own 5 w B v p) (hc : ao = none → c = 0) (hrd : Rd w ao l) (hbytes : p.length + l.length ≤ 140737488355328) (hB : B ≤ w.heap.size) :
    ∃ a' c' w', (Builtin.append_ #[26, 26] 26 #[v, .slice ao l.length c]).run Tryz.prog w = .ok (.slice a' (p ++ l).length c') w' ∧ Own 5 w' B (.slice a' (p ++ l).length c') (p ++ l) ∧ (a' = none → c' = 0) ∧ Below B w w' := by
  obtain ⟨i0, hi, hz0, hz1, hz2⟩ := info_parts Tryz.info5
  cases ao with
  | none =>
    have hl := hrd.1 rfl
    subst hl
    have hc0 := hc rfl
    subst hc0
    obtain ⟨a', c', rfl, hn⟩ := hown.form
    rw [List.append_nil]
    exact ⟨a', c', w, run_append_owned_none (P := Tryz.prog) (w := w) B 26 26 5 i0 1 Tryz.underlying26 hi _ _ _ hown, hown, hn, Below.refl _ _⟩
  | some ad =>
    obtain ⟨v', w', hr, h2, h3, _⟩ := run_append_own (P := Tryz.prog) w B 26 26 5 i0 (.int .u8 0) 1 1 Tryz.underlying26 hi hz0 hz1 hz2 rfl (by decide) v p.length (u8s p) hown ad l.length c (u8s l) (by simp [u8s]) (fun j u hj => hrd.2 ad rfl j u hj) u8s_one (by unfold maxLen; omega) (by omega) hB
    have hO : Own 5 w' B v' (p ++ l) := by unfold Own; rw [u8s_append, List.length_append]; exact h2
    obtain ⟨a', c', rfl, hn⟩ := hO.form
    exact ⟨a', c', w', hr, hO, hn, (Below.refl B w).grown h3 hB (fun k hk => (World.ownsRow.lt hown k hk).1)⟩

end Go.Proofs.YtpepgoelnagoaaaGreatDoor
namespace Go.Proofs.YtpepgoelnagoaaaGreatDoor
open Go.RowKit Go.Shelf
set_option linter.unusedSimpArgs false

end Go.Proofs.YtpepgoelnagoaaaGreatDoor
namespace Go.Proofs.YtpepgoelnagoaaaGreatDoor
open Go.RowKit

/-- At block R lies a reader with the bytes l before it; its bytes lie below S, in another block. -/
def Rdr (K : Nat → Prop) (t : TypeId) (w : World) (R S : Nat) (l : List Int) : Prop :=
  ∃ ao cap, w.heap[R]? = some (.cells #[.slice ao l.length cap, .bool true] t (0, 0)) ∧ Rd w ao l ∧ (ao = none → cap = 0) ∧ l.length ≤ cap ∧ cap ≤ 9223372036854775807 ∧
    (∀ a, ao = some a → (a.block < S ∧ K a.block) ∧ a.block ≠ R) ∧ R < S ∧ ∀ x ∈ l, 0 ≤ x ∧ x ≤ 255

variable {K : Nat → Prop}
/-- What reading a number answers: its value, the error's number, the bytes that are left. -/
def rnum (l : List Int) : Nat × Int × List Int :=
  match Plain.readN 0 0 l with
  | none => (0, 4, l)
  | some (n, k) => (n, 0, l.drop k)

theorem rnum_none {l : List Int} (h : Plain.readN 0 0 l = none) : rnum l = (0, 4, l) := by unfold rnum; rw [h]
theorem rnum_some {l : List Int} {n k : Nat} (h : Plain.readN 0 0 l = some (n, k)) : rnum l = (n, 0, l.drop k) := by unfold rnum; rw [h]

theorem cell_blk {w : World} {R : Nat} {t : TypeId} {x y : Value} (h : w.heap[R]? = some (.cells #[x, y] t (0, 0))) : w.cell? ⟨R, 0, none⟩ = some x ∧ w.cell? ⟨R, 1, none⟩ = some y ∧ w.frozen? ⟨R, 0, none⟩ = false ∧ w.frozen? ⟨R, 1, none⟩ = false := by
  refine ⟨?_, ?_, ?_, ?_⟩
  · rw [cell_of_row w R 0 _ t (0, 0) h]; rfl
  · rw [cell_of_row w R 1 _ t (0, 0) h]; rfl
  · exact frozen_of_row w R 0 _ t h
  · exact frozen_of_row w R 1 _ t h

theorem grown_set (w : World) (R j : Nat) (v : Value) : w.grownBy (w.setCell ⟨R, j, none⟩ v) (some R) :=
  ⟨rfl, rfl, rfl, by simp, fun k _ hk => heap_setCell_other w ⟨R, j, none⟩ k v (fun e => hk (by simp [e]))⟩

theorem Rd.drop {w : World} {b off : Nat} {l : List Int} (h : Rd w (some ⟨b, off, none⟩) l) (k : Nat) : Rd w (some ⟨b, off + k, none⟩) (l.drop k) := by
  refine ⟨by simp, ?_⟩
  intro a ha j u hj
  cases ha
  have h1 := h.2 _ rfl (k + j) u (by rw [u8s_get] at hj ⊢; rw [List.getElem?_drop] at hj; exact hj)
  rw [add_lit] at h1 ⊢
  rw [Nat.add_assoc]
  exact h1

/-- The reader's slice is moved on. -/
theorem Rdr.step {t : TypeId} {w : World} {R S k cap off' cap' ab aoff : Nat} {l : List Int} (h : w.heap[R]? = some (.cells #[.slice (some ⟨ab, aoff, none⟩) l.length cap, .bool true] t (0, 0)))
    (hr : Rd w (some ⟨ab, aoff, none⟩) l) (hlc : l.length ≤ cap) (hcm : cap ≤ 9223372036854775807) (hab : ab < S ∧ K ab) (hne : ab ≠ R) (hR : R < S) (h8 : ∀ x ∈ l, 0 ≤ x ∧ x ≤ 255) (hk : k ≤ l.length)
    (hoff : (cap = k ∧ cap' = 0) ∨ (off' = aoff + k ∧ cap' = cap - k)) :
    Rdr K t (w.setCell ⟨R, 0, none⟩ (.slice (some ⟨ab, off', none⟩) (l.length - k) cap')) R S (l.drop k) ∧ w.grownBy (w.setCell ⟨R, 0, none⟩ (.slice (some ⟨ab, off', none⟩) (l.length - k) cap')) (some R) := by
  have hg := grown_set w R 0 (.slice (some ⟨ab, off', none⟩) (l.length - k) cap')
  refine ⟨⟨some ⟨ab, off', none⟩, cap', ?_, ?_, by simp, ?_, ?_, ?_, hR, fun x hx => h8 x (List.mem_of_mem_drop hx)⟩, hg⟩
  · rw [heap_setCell_same w R 0 _ t _ h]; simp
  · have h1 : Rd w (some ⟨ab, off', none⟩) (l.drop k) := by
      rcases hoff with ⟨h1, h2⟩ | ⟨rfl, _⟩
      · have : l.drop k = [] := List.drop_eq_nil_of_le (by omega)
        rw [this]; exact Rd.nil _ _
      · exact hr.drop k
    exact h1.grown hg (by intro a ha; cases ha; simpa using hne)
  · simp; omega
  · omega
  · intro a ha; cases ha; exact ⟨hab, hne⟩

/-- A reader stays where other blocks are written. -/
theorem Rdr.kept {t : TypeId} {w w' : World} {R S : Nat} {l : List Int} {row : Option Nat} (h : Rdr K t w R S l) (hg : w.grownBy w' row) (hrow : ∀ k, row = some k → S ≤ k) : Rdr K t w' R S l := by
  obtain ⟨ao, cap, h1, h2, h3, h4, h5, h6, h7, h8⟩ := h
  refine ⟨ao, cap, ?_, h2.grown hg ?_, h3, h4, h5, h6, h7, h8⟩
  · rw [hg.block R (Array.getElem?_eq_some_iff.1 h1).1 (fun e => by have := hrow R e.symm; omega)]; exact h1
  · intro a ha e
    have := hrow a.block e.symm
    have := (h6 a ha).1
    omega

set_option maxHeartbeats 400000 in
set_option maxRecDepth 100000 in
theorem missing_no (R : Nat) (w : World) (h1 : w.cell? ⟨R, 1, none⟩ = some (.bool true)) :
    Calls Tryz.prog 75 #[.pointer (some ⟨R, 0, none⟩)] w fun e w' => e = .returned (.bool false) ∧ w = w' := by
  go_enter Tryz.func75, Tryz.ntmps75
  go_wp2
  go_ret
  exact ⟨rfl, rfl⟩
theorem or_add (acc x k : Nat) (ha : acc < 2 ^ k) : acc ||| (x * 2 ^ k) = acc + x * 2 ^ k := by
  have h := Nat.two_pow_add_eq_or_of_lt ha x
  rw [Nat.or_comm, Nat.mul_comm x, ← h, Nat.add_comm]
theorem or_step (acc k : Nat) (b : Int) (hk : k < 9) (ha : acc < 128 ^ k) :
    bits BinOp.or IntKind.u64 (acc : Int) (IntKind.u64.wrap (b % 128 * 2 ^ (7 * k))) = ((acc + (b % 128).toNat * 128 ^ k : Nat) : Int) := by
  have e : (128 : Nat) ^ k = 2 ^ (7 * k) := by rw [Nat.pow_mul]
  obtain ⟨x, hx⟩ := Int.eq_ofNat_of_zero_le (show 0 ≤ b % 128 by omega)
  have hx2 : x ≤ 127 := by omega
  have hp : (2 : Nat) ^ (7 * k) ≤ 2 ^ 56 := Nat.pow_le_pow_right (by omega) (by omega)
  have hm : x * 2 ^ (7 * k) ≤ 127 * 2 ^ 56 := Nat.mul_le_mul hx2 hp
  rw [e] at ha ⊢
  rw [hx]
  have hw : IntKind.u64.wrap ((x : Int) * 2 ^ (7 * k)) = ((x * 2 ^ (7 * k) : Nat) : Int) := by
    have : ((x : Int) * 2 ^ (7 * k)) = ((x * 2 ^ (7 * k) : Nat) : Int) := by push_cast; rfl
    rw [this]
    generalize x * 2 ^ (7 * k) = y at *
    simp [IntKind.wrap, IntKind.bits, IntKind.signed]; omega
  rw [hw, u64_or_nat acc (x * 2 ^ (7 * k)) (by omega) (by omega), or_add acc x (7 * k) ha]
  simp
theorem or_nine (acc : Nat) (ha : acc < 128 ^ 9) : bits BinOp.or IntKind.u64 (acc : Int) 9223372036854775808 = ((acc + 128 ^ 9 : Nat) : Int) := by
  have h := u64_or_nat acc 9223372036854775808 (by omega) (by omega)
  have h2 := or_add acc 1 63 (by omega)
  have h3 : (1 * 2 ^ 63 : Nat) = 9223372036854775808 := by decide
  rw [h3] at h2
  rw [h2] at h
  exact h

/-- What the number's walk leaves. -/
def NumPost (K : Nat → Prop) (w w' : World) (R S : Nat) (l : List Int) (e : Ending) : Prop :=
  e = .returned (.tuple #[.int .u64 (rnum l).1, .int .i64 (rnum l).2.1]) ∧ Rdr K 77 w' R S (rnum l).2.2 ∧ w.grownBy w' (some R)

theorem ret_two {a b c d : Value} (h1 : a = c) (h2 : b = d) : Ending.returned (.tuple #[a, b]) = .returned (.tuple #[c, d]) := by rw [h1, h2]

set_option maxHeartbeats 1000000 in
set_option maxRecDepth 100000 in
theorem rnumber_any (R S : Nat) (l : List Int) (w : World) (hR : Rdr K 77 w R S l) :
    Calls Tryz.prog 177 #[.pointer (some ⟨R, 0, none⟩)] w fun e w' => NumPost K w w' R S l e := by
  have HRd : Hid (Rdr K 77 w R S l) := hR
  obtain ⟨ao, cap, hh, hr, hnil, hlc, hcm, hblk, hRS, hb8⟩ := hR
  obtain ⟨h0, h1, hf, _⟩ := cell_blk hh
  have HH : Hid (w.heap[R]? = some (.cells #[.slice ao l.length cap, .bool true] 77 (0, 0))) := hh
  clear hh
  go_enter Tryz.func177, Tryz.ntmps177
  go_wp2
  go_step3
  go_wp2_with (go_at_call 75; refine (missing_no R _ h1).mono ?_; rintro e w1 ⟨rfl, rfl⟩)
  go_step3
  go_wp2
  go_loop [4, 14] (fun a i => ∃ (k : Nat) (acc : Nat), k ≤ l.length ∧ k ≤ 9 ∧ i = .int .i64 k ∧ a = .int .u64 acc ∧ acc < 128 ^ k ∧ Plain.readN 0 0 l = Plain.readN k acc (l.drop k)) (fun _ i => l.length - (intOf i).toNat)
  case atStart => exact ⟨0, 0, by omega, by omega, rfl, rfl, by simp, by simp⟩
  case round =>
    obtain ⟨k, acc, hk, hk9, rfl, rfl, hacc, hread⟩ := hrel
    have HR : Hid (Plain.readN 0 0 l = Plain.readN k acc (l.drop k)) := hread
    have HA : Hid (acc < 128 ^ k) := hacc
    clear hread hacc
    by_cases hlt : k < l.length
    · obtain ⟨b, hb⟩ : ∃ b, l[k]? = some b := ⟨_, List.getElem?_eq_getElem hlt⟩
      have hbb : 0 ≤ b ∧ b ≤ 255 := hb8 b (List.mem_of_getElem? hb)
      obtain ⟨hb0, hb1⟩ := hbb
      have HD : Hid (l.drop k = b :: l.drop (k + 1)) := by
        show l.drop k = _
        obtain ⟨h, rfl⟩ := List.getElem?_eq_some_iff.1 hb
        exact List.drop_eq_getElem_cons h
      cases ao with
      | none => have := hr.1 rfl; subst this; simp at hlt
      | some a =>
        obtain ⟨ab, aoff, aspot⟩ := a
        have hc := hr.2 _ rfl k (.int .u8 b) (by rw [u8s_get, hb]; rfl)
        have hc0 := hr.2 _ rfl 0 (.int .u8 (l[0]'(by omega))) (by rw [u8s_get, List.getElem?_eq_getElem]; rfl)
        have hspot : aspot = none := World.cell?_spot (by simpa [Addr.add] using hc0)
        subst hspot
        rw [add_lit] at hc
        clear hc0 hb
        have HX : Hid ((ab < S ∧ K ab) ∧ ab ≠ R) := hblk _ rfl
        have H8 : Hid (∀ x ∈ l, 0 ≤ x ∧ x ≤ 255) := hb8
        clear hblk hb8
        have hacc : acc < 18446744073709551616 := by
          have h1 := HA.out
          have h2 : 128 ^ k ≤ 128 ^ 9 := Nat.pow_le_pow_right (by omega) hk9
          omega
        by_cases c1 : k = 9 ∧ 1 < b
        · have hno : Plain.readN 0 0 l = none := by rw [HR.out, HD.out, Plain.readN, if_pos (.inl c1)]
          have HN := rnum_none hno
          clear hno
          have HN' : Hid (rnum l = (0, 4, l)) := HN
          clear HN
          obtain ⟨rfl, c1⟩ := c1
          go_wp2
          all_goals
            go_ret2
            refine ⟨?_, ?_, World.grownBy.refl _ _⟩
            · rw [HN'.out]; rfl
            · rw [HN'.out]; exact HRd.out
        · by_cases c2 : 0 < k ∧ b = 0
          · have hno : Plain.readN 0 0 l = none := by rw [HR.out, HD.out, Plain.readN, if_pos (.inr c2)]
            have HN' : Hid (rnum l = (0, 4, l)) := rnum_none hno
            clear hno
            obtain ⟨c2, rfl⟩ := c2
            go_wp2
            all_goals
              go_ret2
              refine ⟨?_, ?_, World.grownBy.refl _ _⟩
              · rw [HN'.out]; rfl
              · rw [HN'.out]; exact HRd.out
          · by_cases hk9' : k = 9
            · subst hk9'
              have hb1 : b = 1 := by omega
              subst hb1
              obtain ⟨acc', hacc'⟩ : ∃ acc', acc' = acc + 128 ^ 9 := ⟨_, rfl⟩
              have hor := or_nine acc HA.out
              rw [← hacc'] at hor
              have HQ : Hid (acc' = acc + 128 ^ 9) := hacc'
              clear hacc'
              have HN' : Hid (rnum l = (acc', 0, l.drop 10)) := rnum_some (by rw [HQ.out, HR.out, HD.out, Plain.readN, if_neg (by omega), if_pos (by omega)]; simp)
              go_wp2
              all_goals
                go_ret2
                refine ⟨?_, ?_⟩
                · rw [HN'.out]; exact ret_two rfl rfl
                · rw [HN'.out]; exact Rdr.step (k := 10) HH.out hr hlc hcm HX.out.1 HX.out.2 hRS H8.out (by omega) (by omega)
            · have hk8 : k < 9 := by omega
              obtain ⟨acc', hacc'⟩ : ∃ acc', acc' = acc + (b % 128).toNat * 128 ^ k := ⟨_, rfl⟩
              have hor := or_step acc k b hk8 HA.out
              rw [← hacc'] at hor
              have HQ : Hid (acc' = acc + (b % 128).toNat * 128 ^ k) := hacc'
              clear hacc'
              by_cases c3 : b < 128
              · have HN' : Hid (rnum l = (acc', 0, l.drop (k + 1))) := rnum_some (by rw [HQ.out, HR.out, HD.out, Plain.readN, if_neg (by omega), if_pos c3, show (b % 128).toNat = b.toNat by omega])
                by_cases hk0 : 0 < k
                · have hne : (b == 0) = false := by simp; omega
                  go_wp2
                  all_goals
                    go_ret2
                    refine ⟨?_, ?_⟩
                    · rw [HN'.out]; exact ret_two rfl rfl
                    · rw [HN'.out]; exact Rdr.step (k := k + 1) HH.out hr hlc hcm HX.out.1 HX.out.2 hRS H8.out (by omega) (by omega)
                · go_wp2
                  all_goals
                    go_ret2
                    refine ⟨?_, ?_⟩
                    · rw [HN'.out]; exact ret_two rfl rfl
                    · rw [HN'.out]; exact Rdr.step (k := k + 1) HH.out hr hlc hcm HX.out.1 HX.out.2 hRS H8.out (by omega) (by omega)
              · have HN' : Hid (Plain.readN 0 0 l = Plain.readN (k + 1) acc' (l.drop (k + 1))) := by
                  show Plain.readN 0 0 l = _
                  rw [HQ.out, HR.out, HD.out, Plain.readN, if_neg (by omega), if_neg (by omega)]
                have HB' : Hid (acc' < 128 ^ (k + 1)) := by
                  show acc' < _
                  rw [HQ.out]
                  have h1 := HA.out
                  have h2 : (b % 128).toNat ≤ 127 := by omega
                  have h3 : (b % 128).toNat * 128 ^ k ≤ 127 * 128 ^ k := Nat.mul_le_mul_right _ h2
                  rw [Nat.pow_succ]; omega
                by_cases hk0 : 0 < k
                · have hne : (b == 0) = false := by simp; omega
                  go_wp2
                  all_goals
                    go_round
                    case rel => exact ⟨k + 1, _, by omega, by omega, by go_num, rfl, HB'.out, HN'.out⟩
                    case measure => simp [intOf]; omega
                · go_wp2
                  all_goals
                    go_round
                    case rel => exact ⟨k + 1, _, by omega, by omega, by go_num, rfl, HB'.out, HN'.out⟩
                    case measure => simp [intOf]; omega
    · have HN' : Hid (rnum l = (0, 4, l)) := rnum_none (by rw [HR.out, List.drop_eq_nil_of_le (by omega)]; rfl)
      go_wp2
      go_ret2
      refine ⟨?_, ?_, World.grownBy.refl _ _⟩
      · rw [HN'.out]; rfl
      · rw [HN'.out]; exact HRd.out
end Go.Proofs.YtpepgoelnagoaaaGreatDoor
