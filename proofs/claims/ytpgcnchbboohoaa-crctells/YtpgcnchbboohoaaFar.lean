/-
  WALKS over going far by squares (the program's): behind, Zeros, Join.
-/
import Derived.Test.YtpgcnchbboohoaaSquares
import Derived.Laws.Bits128
namespace Go.Proofs.Ytpgcnchbboohoaa
open Go.RowKit Crc

theorem i64_and1 (n : Int) : bits .and .i64 n 1 = n % 2 := by
  have h1 : (BitVec.ofInt 64 1).toNat = 2 ^ 1 - 1 := by decide
  have key : (BitVec.ofInt 64 n &&& BitVec.ofInt 64 1).toNat = (n % ((2 ^ 64 : Nat) : Int)).toNat % 2 ^ 1 := by
    rw [BitVec.toNat_and, BitVec.toNat_ofInt, h1, Nat.and_two_pow_sub_one_eq_mod]
  show IntKind.i64.wrap ((BitVec.ofInt 64 n &&& BitVec.ofInt 64 1).toNat : Nat) = n % 2
  rw [key, IntKind.wrap_i64]
  omega
theorem pow_lt {j : Nat} (h : j < 32) : 2 ^ j < 4294967296 := Nat.pow_lt_pow_right (a := 2) (by omega) (show j < 32 from h)
/-- What each bit becomes by so many bits; beyond the word nothing. -/
def rowOf (q i : Nat) : Nat := if i < 32 then hs q (2 ^ i) else 0
theorem rowOf_lt (q i : Nat) : rowOf q i < 4294967296 := by
  unfold rowOf
  split
  · exact hs_lt q (pow_lt ‹_›)
  · decide
theorem thr_rowOf (q x : Nat) (hx : x < 4294967296) : thr (rowOf q) x 32 = hs q x :=
  thr_word q x (rowOf q) (fun j hj => by rw [rowOf, if_pos hj]) hx
theorem tab_first : tab 32 (fun i => hs 8 (2 ^ i)) 32 = tab 32 (rowOf (8 * 2 ^ 0)) 32 := tab_full fun i hi => by rw [rowOf, if_pos hi, Nat.pow_zero, Nat.mul_one]
theorem tab_square (q : Nat) : tab 32 (fun i => thr (rowOf q) (rowOf q i) 32) 32 = tab 32 (rowOf (2 * q)) 32 := tab_full fun i hi => by
  rw [thr_rowOf q _ (rowOf_lt q i), rowOf, rowOf, if_pos hi, if_pos hi, sq_row]

set_option maxHeartbeats 400000 in
set_option maxRecDepth 100000 in
/-- Below 0 it is as 0. -/
theorem behind_none (s : Nat) (n : Int) (w : World) (hn : n ≤ 0) (hn0 : -9223372036854775808 ≤ n) :
    Calls Try.prog 20 #[.int .u32 s, .int .i64 n] w fun e w' => e = .returned (.int .u32 s) ∧ Below w.heap.size w w' := by
  obtain ⟨hz, hi⟩ := zero_of_info (P := Try.prog) Try.info42
  have h0 : ¬ 0 < n := by omega
  go_enter Try.func20, Try.ntmps20
  go_wp2_with (first
    | (go_at_call 22; refine (zeroByte_any _).mono ?_; rintro e w1 ⟨rfl, hb1⟩)
    | refine wpList_store_new 42 (.tmp 5) (.tmp 6) _ 32 (tab 32 (fun i => hs 8 (2 ^ i)) 32) rfl rfl rfl rfl rfl hi (tab_length _ _ _) (by simp) rfl (tab_one _ _ _) ?_)
  go_loop [0, 1] (fun y x => x = .int .i64 n ∧ y = .int .u32 s) (fun _ _ => 0)
  case atStart => exact ⟨rfl, rfl⟩
  case round =>
    obtain ⟨rfl, rfl⟩ := hrel
    go_wp2
    go_ret
    exact ⟨rfl, hb1.alloc hb1.size _⟩

set_option maxHeartbeats 1000000 in
set_option maxRecDepth 100000 in
theorem behind_any (s N : Nat) (w : World) (hs0 : s < 4294967296) (hN : N < 9223372036854775808) :
    Calls Try.prog 20 #[.int .u32 s, .int .i64 N] w fun e w' => e = .returned (.int .u32 (hs (8 * N) s : Nat)) ∧ Below w.heap.size w w' := by
  obtain ⟨hz, hi⟩ := zero_of_info (P := Try.prog) Try.info42
  go_enter Try.func20, Try.ntmps20
  go_wp2_with (first
    | (go_at_call 22; refine (zeroByte_any _).mono ?_; rintro e w1 ⟨rfl, hb1⟩)
    | refine wpList_store_new 42 (.tmp 5) (.tmp 6) _ 32 (tab 32 (fun i => hs 8 (2 ^ i)) 32) rfl rfl rfl rfl rfl hi (tab_length _ _ _) (by simp) rfl (tab_one _ _ _) ?_)
  have HB1 : Hid (Below w.heap.size w w1) := hb1
  clear hb1
  go_loopw [0, 1, 5] (fun x n p wr => ∃ j b : Nat, x = .int .u32 (hs (8 * (N % 2 ^ j)) s : Nat) ∧ n = .int .i64 (N / 2 ^ j : Nat) ∧ p = .pointer (some ⟨b, 0, none⟩) ∧ w.heap.size ≤ b ∧ b < wr.heap.size ∧ Below w.heap.size w wr ∧
    wr.rangeAt b 0 (tab 32 (rowOf (8 * 2 ^ j)) 32) ∧ wr.there b 0 32) (fun _ n _ _ => (intOf n).toNat)
  case atStart =>
    refine ⟨0, w1.heap.size, ?_, ?_, rfl, HB1.out.size, by simp, HB1.out.alloc HB1.out.size _, ?_, ?_⟩
    · rw [Nat.pow_zero, Nat.mod_one]; rfl
    · rw [Nat.pow_zero, Nat.div_one]
    · rw [← tab_first]; exact rangeAt_new _ _ _
    · have := there_new w1 (tab 32 (fun i => hs 8 (2 ^ i)) 32) 42
      rw [tab_length] at this; exact this
  case round =>
    obtain ⟨j, b, rfl, rfl, rfl, hwb, hbs, hb, hr, ht⟩ := hrel
    have hxl : hs (8 * (N % 2 ^ j)) s < 4294967296 := hs_lt _ hs0
    have HS : Hid (hs (8 * (N % 2 ^ (j + 1))) s = if N / 2 ^ j % 2 = 1 then hs (8 * 2 ^ j) (hs (8 * (N % 2 ^ j)) s) else hs (8 * (N % 2 ^ j)) s) := far_step N j s
    have HD : Hid (N / 2 ^ j = 0 → hs (8 * (N % 2 ^ j)) s = hs (8 * N) s) := far_done N j s
    have HN : Hid (N / 2 ^ (j + 1) = N / 2 ^ j / 2) := by show N / 2 ^ (j + 1) = N / 2 ^ j / 2; rw [Nat.pow_succ, Nat.div_div_eq_div_mul]
    have HQ : Hid (8 * 2 ^ (j + 1) = 2 * (8 * 2 ^ j)) := by show 8 * 2 ^ (j + 1) = 2 * (8 * 2 ^ j); rw [Nat.pow_succ]; omega
    have hnl : N / 2 ^ j < 9223372036854775808 := Nat.lt_of_le_of_lt (Nat.div_le_self _ _) hN
    obtain ⟨n, hn⟩ : ∃ n, n = N / 2 ^ j := ⟨_, rfl⟩
    obtain ⟨x, hx⟩ : ∃ x, x = hs (8 * (N % 2 ^ j)) s := ⟨_, rfl⟩
    obtain ⟨q, hq⟩ : ∃ q, q = 8 * 2 ^ j := ⟨_, rfl⟩
    rw [← hn, ← hx] at HS HD
    rw [← hn] at HN hnl ⊢
    rw [← hx] at hxl ⊢
    rw [← hq] at HS HQ hr
    clear hn hx hq
    have ha := i64_and1 n
    by_cases h0 : 0 < n
    · by_cases ho : n % 2 = 1
      · have ho' : (n : Int) % 2 = 1 := by omega
        go_wp2_with (first
          | refine wpList_load_tab 42 (.tmp 5) b 32 (tab 32 (rowOf (2 * q)) 32) rfl rfl rfl Try.underlying42 hi (tab_length _ _ _) hr3 ?_
          | refine wpList_load_tab 42 (.tmp 5) b 32 (tab 32 (rowOf q) 32) rfl rfl rfl Try.underlying42 hi (tab_length _ _ _) hr1 ?_
          | refine wpList_load_tab 42 (.tmp 5) b 32 (tab 32 (rowOf q) 32) rfl rfl rfl Try.underlying42 hi (tab_length _ _ _) hr ?_
          | (go_at_call 23; refine (apply_any (rowOf q) x _ hxl (rowOf_lt q)).mono ?_; rintro e wa ⟨rfl, hba⟩; have hr1 := rangeAt_below hr hba hbs; have ht1 := there_below ht hba hbs; have hbs1 : b < wa.heap.size := Nat.lt_of_lt_of_le hbs hba.size)
          | (go_at_call 24; refine (square_any (rowOf q) _ (rowOf_lt q)).mono ?_; rw [tab_square q]; rintro e wb ⟨rfl, hbb⟩; have ht2 := there_below ht1 hbb hbs1)
          | (refine wpList_store_own 42 (.tmp 5) (.tmp 18) b 32 (tab 32 (rowOf (2 * q)) 32) rfl rfl rfl rfl rfl hi (tab_length _ _ _) ht2 (tab_one _ _ _) ?_; intro wc hgc hr3 ht3)
          | refine wpList_store_new 42 (.tmp 5) (.tmp 19) _ 32 (tab 32 (rowOf (2 * q)) 32) rfl rfl rfl rfl rfl hi (tab_length _ _ _) (by simp) rfl (tab_one _ _ _) ?_)
        have hb3 : Below w.heap.size w wc := ((hb.trans (hba.mono hb.size)).trans (hbb.mono (Nat.le_trans hb.size hba.size))).grown hgc (Nat.le_trans hb.size (Nat.le_trans hba.size hbb.size)) (fun k hk => by cases hk; exact hwb)
        go_roundw
        case rel =>
          refine ⟨j + 1, wc.heap.size, ?_, ?_, rfl, hb3.size, by simp, hb3.alloc hb3.size _, ?_, ?_⟩
          · rw [HS.out, if_pos ho, thr_rowOf q x hxl]
          · rw [HN.out]; go_num
          · rw [HQ.out]; exact rangeAt_new _ _ _
          · have := there_new wc (tab 32 (rowOf (2 * q)) 32) 42
            rw [tab_length] at this; exact this
        case measure => simp [intOf]; omega
      · have ho' : ¬ (n : Int) % 2 = 1 := by omega
        go_wp2_with (first
          | refine wpList_load_tab 42 (.tmp 5) b 32 (tab 32 (rowOf (2 * q)) 32) rfl rfl rfl Try.underlying42 hi (tab_length _ _ _) hr3 ?_
          | refine wpList_load_tab 42 (.tmp 5) b 32 (tab 32 (rowOf q) 32) rfl rfl rfl Try.underlying42 hi (tab_length _ _ _) hr ?_
          | (go_at_call 24; refine (square_any (rowOf q) _ (rowOf_lt q)).mono ?_; rw [tab_square q]; rintro e wb ⟨rfl, hbb⟩; have ht2 := there_below ht hbb hbs)
          | (refine wpList_store_own 42 (.tmp 5) (.tmp 18) b 32 (tab 32 (rowOf (2 * q)) 32) rfl rfl rfl rfl rfl hi (tab_length _ _ _) ht2 (tab_one _ _ _) ?_; intro wc hgc hr3 ht3)
          | refine wpList_store_new 42 (.tmp 5) (.tmp 19) _ 32 (tab 32 (rowOf (2 * q)) 32) rfl rfl rfl rfl rfl hi (tab_length _ _ _) (by simp) rfl (tab_one _ _ _) ?_)
        have hb3 : Below w.heap.size w wc := (hb.trans (hbb.mono hb.size)).grown hgc (Nat.le_trans hb.size hbb.size) (fun k hk => by cases hk; exact hwb)
        go_roundw
        case rel =>
          refine ⟨j + 1, wc.heap.size, ?_, ?_, rfl, hb3.size, by simp, hb3.alloc hb3.size _, ?_, ?_⟩
          · rw [HS.out, if_neg ho]
          · rw [HN.out]; go_num
          · rw [HQ.out]; exact rangeAt_new _ _ _
          · have := there_new wc (tab 32 (rowOf (2 * q)) 32) 42
            rw [tab_length] at this; exact this
        case measure => simp [intOf]; omega
    · have hn0 : n = 0 := by omega
      subst hn0
      have HD' := HD.out rfl
      go_wp2
      go_ret
      exact ⟨ret_int rfl, hb⟩

/-- So many noughts, below 0 as 0. -/
theorem behind_int (s : Nat) (n : Int) (w : World) (hs0 : s < 4294967296) (h0 : -9223372036854775808 ≤ n) (h1 : n ≤ 9223372036854775807) :
    Calls Try.prog 20 #[.int .u32 s, .int .i64 n] w fun e w' => e = .returned (.int .u32 (hs (8 * n.toNat) s : Nat)) ∧ Below w.heap.size w w' := by
  by_cases h : 0 < n
  · obtain ⟨N, rfl⟩ := Int.eq_ofNat_of_zero_le (Int.le_of_lt h)
    exact behind_any s N w hs0 (by omega)
  · refine (behind_none s n w (by omega) h0).mono ?_
    rintro e w' ⟨rfl, hb⟩
    exact ⟨by rw [show n.toNat = 0 by omega]; rfl, hb⟩

end Go.Proofs.Ytpgcnchbboohoaa
