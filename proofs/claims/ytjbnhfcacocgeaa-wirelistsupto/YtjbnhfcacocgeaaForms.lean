/-
  WALKS over what the layer wire writes (Number, Signed, Flag, Join, Bytes), over the document's own answers for these, and bytes.Clone.
-/
import Derived.Test.YtjbnhfcacocgeaaRows
import Derived.Test.YtjbnhfcacocgeaaPlain
import Derived.Test.YtjbnhfcacocgeaaKit
namespace Go.Proofs.Ytjbnhfcacocgeaa
open Go.RowKit
theorem Try.info5 : (Try.prog.info? 5).map (fun i => (i.zero, i.size, i.bytes)) = some (some (.int .u8 0), 1, 1) := by kernel_rfl

set_option maxHeartbeats 400000 in
set_option maxRecDepth 100000 in
theorem number_any (n : Nat) (w : World) (hn : n < 18446744073709551616) :
    Calls Try.prog 9 #[.int .u64 n] w fun e w' => Made 5 w w' e (Plain.numL n) := by
  obtain ⟨i0, hi, hz0, hz1, hz2⟩ := info_parts Try.info5
  have h10 := Plain.numL_ten n hn
  go_enter Try.func9, Try.ntmps9
  go_wp2
  go_loopw [0, 3] (fun x v wr => ∃ (m : Nat) (p : List Int), m ≤ n ∧ x = .int .u64 m ∧ p ++ Plain.numL m = Plain.numL n ∧ Own 5 wr w.heap.size v p ∧ Below w.heap.size w wr)
    (fun x _ _ => (intOf x).toNat)
  case atStart => exact ⟨n, [], Nat.le_refl _, rfl, rfl, Own.nil _ _ _, Below.refl _ _⟩
  case round =>
    obtain ⟨m, p, hmn, rfl, hp, hown, hb⟩ := hrel
    have hpl : p.length ≤ 10 := by rw [← hp] at h10; simp at h10; omega
    have hsz := hb.size
    have HP : Hid (p ++ Plain.numL m = Plain.numL n) := hp
    clear hp
    by_cases hbig : 127 < m
    · go_wp2_with (at_builtin; refine wpList_push rfl _ _ 23 rfl w.heap.size 5 i0 Try.underlying23 hi hz0 hz1 hz2 _ _ rfl (hown.alloc _) ⟨wr.heap.size, 0, none⟩ 1 ((m : Int) % 128 + 128) rfl (by simp [go_sem]) (by omega) (by simp; omega) ?_)
      intro ao' cap' w1 hown' hgrow _
      have hb' := below_own (hb.alloc hsz _) (by simp; omega) (hown.alloc _) hgrow
      clear hgrow hown
      go_wp2
      go_roundw
      case rel => exact ⟨m / 128, p ++ [(m : Int) % 128 + 128], by omega, by go_num, by rw [← HP.out, Plain.numL_big hbig]; simp, by simpa using hown', hb'⟩
      case measure => simp [intOf]; omega
    · go_wp2_with (at_builtin; refine wpList_push rfl _ _ 23 rfl w.heap.size 5 i0 Try.underlying23 hi hz0 hz1 hz2 _ _ rfl (hown.alloc _) ⟨wr.heap.size, 0, none⟩ 1 (m : Int) rfl (by simp [go_sem]) (by omega) (by simp; omega) ?_)
      intro ao' cap' w1 hown' hgrow hnil
      have hb' := below_own (hb.alloc hsz _) (by simp; omega) (hown.alloc _) hgrow
      clear hgrow hown
      go_wp2
      go_ret
      have he := HP.out
      rw [Plain.numL_small (by omega)] at he
      refine ⟨ao', cap', by rw [← he]; simp, by rw [← he]; simpa using hown', hnil, hb'⟩

set_option maxHeartbeats 400000 in
set_option maxRecDepth 100000 in
theorem refNumber_any (n : Nat) (w : World) (hn : n < 18446744073709551616) :
    Calls Try.prog 12 #[.int .u64 n] w fun e w' => Made 5 w w' e (Plain.numL n) := by
  obtain ⟨i0, hi, hz0, hz1, hz2⟩ := info_parts Try.info5
  have h10 := Plain.numL_ten n hn
  go_enter Try.func12, Try.ntmps12
  go_wp2
  go_loopw [0, 3] (fun x v wr => ∃ (m : Nat) (p : List Int), m ≤ n ∧ x = .int .u64 m ∧ p ++ Plain.numL m = Plain.numL n ∧ Own 5 wr w.heap.size v p ∧ Below w.heap.size w wr)
    (fun x _ _ => (intOf x).toNat)
  case atStart => exact ⟨n, [], Nat.le_refl _, rfl, rfl, Own.nil _ _ _, Below.refl _ _⟩
  case round =>
    obtain ⟨m, p, hmn, rfl, hp, hown, hb⟩ := hrel
    have hpl : p.length ≤ 10 := by rw [← hp] at h10; simp at h10; omega
    have hsz := hb.size
    have HP : Hid (p ++ Plain.numL m = Plain.numL n) := hp
    clear hp
    by_cases hbig : 127 < m
    · go_wp2_with (at_builtin; refine wpList_push rfl _ _ 23 rfl w.heap.size 5 i0 Try.underlying23 hi hz0 hz1 hz2 _ _ rfl (hown.alloc _) ⟨wr.heap.size, 0, none⟩ 1 ((m : Int) % 128 + 128) rfl (by simp [go_sem]) (by omega) (by simp; omega) ?_)
      intro ao' cap' w1 hown' hgrow _
      have hb' := below_own (hb.alloc hsz _) (by simp; omega) (hown.alloc _) hgrow
      clear hgrow hown
      go_wp2
      go_roundw
      case rel => exact ⟨m / 128, p ++ [(m : Int) % 128 + 128], by omega, by go_num, by rw [← HP.out, Plain.numL_big hbig]; simp, by simpa using hown', hb'⟩
      case measure => simp [intOf]; omega
    · go_wp2_with (at_builtin; refine wpList_push rfl _ _ 23 rfl w.heap.size 5 i0 Try.underlying23 hi hz0 hz1 hz2 _ _ rfl (hown.alloc _) ⟨wr.heap.size, 0, none⟩ 1 (m : Int) rfl (by simp [go_sem]) (by omega) (by simp; omega) ?_)
      intro ao' cap' w1 hown' hgrow hnil
      have hb' := below_own (hb.alloc hsz _) (by simp; omega) (hown.alloc _) hgrow
      clear hgrow hown
      go_wp2
      go_ret
      have he := HP.out
      rw [Plain.numL_small (by omega)] at he
      refine ⟨ao', cap', by rw [← he]; simp, by rw [← he]; simpa using hown', hnil, hb'⟩

theorem wrap_not (n : Int) (h0 : -9223372036854775808 ≤ n) (h1 : n < 0) : IntKind.u64.wrap (IntKind.u64.wrap (2 * IntKind.u64.wrap (-1 - n)) + 1) = 2 * (-1 - n) + 1 := by
  simp [IntKind.wrap, IntKind.bits, IntKind.signed]; omega
theorem number_int (n : Int) (w : World) (h0 : 0 ≤ n) (h1 : n < 18446744073709551616) :
    Calls Try.prog 9 #[.int .u64 n] w fun e w' => Made 5 w w' e (Plain.numL n.toNat) := by
  obtain ⟨m, rfl⟩ := Int.eq_ofNat_of_zero_le h0
  exact number_any m w (by omega)
theorem refNumber_int (n : Int) (w : World) (h0 : 0 ≤ n) (h1 : n < 18446744073709551616) :
    Calls Try.prog 12 #[.int .u64 n] w fun e w' => Made 5 w w' e (Plain.numL n.toNat) := by
  obtain ⟨m, rfl⟩ := Int.eq_ofNat_of_zero_le h0
  exact refNumber_any m w (by omega)

set_option maxHeartbeats 400000 in
set_option maxRecDepth 100000 in
theorem signed_any (n : Int) (w : World) (h0 : -9223372036854775808 ≤ n) (h1 : n ≤ 9223372036854775807) :
    Calls Try.prog 13 #[.int .i64 n] w fun e w' => Made 5 w w' e (Plain.numL (Plain.fold n)) := by
  by_cases hneg : n < 0
  · have hx := i64_not_any n h0 h1
    have hu := wrap_not n h0 hneg
    have HF : Hid (Plain.fold n = (2 * (-1 - n) + 1).toNat) := by show Plain.fold n = _; unfold Plain.fold; rw [if_pos hneg]; omega
    go_enter Try.func13, Try.ntmps13
    go_wp2_with (go_at_call 9; refine (number_int _ _ (by omega) (by omega)).mono ?_; rintro e w1 ⟨ao, cap, rfl, hown, hnil, hb⟩)
    go_ret
    rw [HF.out]
    exact ⟨ao, cap, rfl, hown, hnil, hb⟩
  · have HF : Hid (Plain.fold n = (2 * n).toNat) := by show Plain.fold n = _; unfold Plain.fold; rw [if_neg hneg]
    go_enter Try.func13, Try.ntmps13
    go_wp2_with (go_at_call 9; refine (number_int _ _ (by omega) (by omega)).mono ?_; rintro e w1 ⟨ao, cap, rfl, hown, hnil, hb⟩)
    go_ret
    rw [HF.out]
    exact ⟨ao, cap, rfl, hown, hnil, hb⟩

theorem ret_int {k : IntKind} {a b : Int} (h : a = b) : Ending.returned (.int k a) = .returned (.int k b) := by rw [h]

set_option maxHeartbeats 400000 in
set_option maxRecDepth 100000 in
theorem folded_any (n : Int) (w : World) (h0 : -9223372036854775808 ≤ n) (h1 : n ≤ 9223372036854775807) :
    Calls Try.prog 37 #[.int .i64 n] w fun e w' => e = .returned (.int .u64 (Plain.fold n)) ∧ w' = w := by
  by_cases hneg : n < 0
  · go_enter Try.func37, Try.ntmps37
    go_wp2
    go_ret
    exact ⟨ret_int (Plain.fold_neg hneg).symm, rfl⟩
  · go_enter Try.func37, Try.ntmps37
    go_wp2
    go_ret
    exact ⟨ret_int (Plain.fold_pos (by omega)).symm, rfl⟩

set_option maxHeartbeats 400000 in
set_option maxRecDepth 100000 in
theorem refSigned_any (n : Int) (w : World) (h0 : -9223372036854775808 ≤ n) (h1 : n ≤ 9223372036854775807) :
    Calls Try.prog 14 #[.int .i64 n] w fun e w' => Made 5 w w' e (Plain.numL (Plain.fold n)) := by
  have hf := Plain.fold_lt n h0 h1
  go_enter Try.func14, Try.ntmps14
  go_wp2_with (first | (go_at_call 37; refine (folded_any _ _ h0 h1).mono ?_; rintro e w1 ⟨rfl, rfl⟩) | (go_at_call 12; refine (refNumber_any _ _ hf).mono ?_; rintro e w1 ⟨ao, cap, rfl, hown, hnil, hb⟩))
  go_ret
  exact ⟨ao, cap, rfl, hown, hnil, hb⟩

/-- A byte that a flag has. -/
def flagL (b : Bool) : List Int := [if b then 1 else 0]

set_option maxHeartbeats 400000 in
set_option maxRecDepth 100000 in
theorem flag_any (b : Bool) (w : World) :
    Calls Try.prog 15 #[.bool b] w fun e w' => Made 5 w w' e (flagL b) := by
  cases b
  all_goals
    go_enter Try.func15, Try.ntmps15
    go_wp2
    go_ret
    exact ⟨_, _, rfl, World.ownsRow_lit w #[_] 1 (Nat.le_refl _) (by decide) rfl, by simp, (Below.refl _ _).alloc (Nat.le_refl _) _⟩

set_option maxHeartbeats 400000 in
set_option maxRecDepth 100000 in
theorem refFlag_any (b : Bool) (w : World) :
    Calls Try.prog 16 #[.bool b] w fun e w' => Made 5 w w' e (flagL b) := by
  cases b
  all_goals
    go_enter Try.func16, Try.ntmps16
    go_wp2
    go_ret
    exact ⟨_, _, rfl, World.ownsRow_lit w #[_] 1 (Nat.le_refl _) (by decide) rfl, by simp, (Below.refl _ _).alloc (Nat.le_refl _) _⟩

end Go.Proofs.Ytjbnhfcacocgeaa
