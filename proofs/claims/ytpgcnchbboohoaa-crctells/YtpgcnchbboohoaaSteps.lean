/-
  WALKS over the crc layer's own small steps: eight bits of a register (the document's), so many bits (the program's).
-/
import Derived.Test.YtpgcnchbboohoaaRows
import Derived.Test.YtpgcnchbboohoaaCrcPlain
import Derived.Test.YtpgcnchbboohoaaKit
import Derived.Laws.BitsAllLaws
namespace Go.Proofs.Ytpgcnchbboohoaa
open Go.RowKit Crc

theorem ret_int {k : IntKind} {a b : Int} (h : a = b) : Ending.returned (.int k a) = .returned (.int k b) := by rw [h]
theorem int_eq {k : IntKind} {a b : Int} (h : a = b) : Value.int k a = .int k b := by rw [h]
theorem hs_succ' (n s : Nat) : hs (n + 1) s = half (hs n s) := by rw [hs_add, hs_one]

set_option maxHeartbeats 400000 in
set_option maxRecDepth 100000 in
theorem step_any (s : Nat) (w : World) (hs0 : s < 4294967296) :
    Calls Try.prog 18 #[.int .u32 s] w fun e w' => e = .returned (.int .u32 (hs 8 s : Nat)) ∧ w' = w := by
  go_enter Try.func18, Try.ntmps18
  go_wp2
  go_loop [0, 3] (fun x i => ∃ k : Nat, k ≤ 8 ∧ i = .int .i64 k ∧ x = .int .u32 (hs k s : Nat)) (fun _ i => 8 - (intOf i).toNat)
  case atStart => exact ⟨0, by omega, rfl, rfl⟩
  case round =>
    obtain ⟨k, hk, rfl, rfl⟩ := hrel
    have hlt := hs_lt k hs0
    have HS : Hid (hs (k + 1) s = half (hs k s)) := hs_succ' k s
    obtain ⟨t, ht⟩ : ∃ t, t = hs k s := ⟨_, rfl⟩
    rw [← ht] at hlt HS ⊢
    have HT : Hid (t = hs k s) := ht
    clear ht
    by_cases h8 : k < 8
    · by_cases ho : t % 2 = 1
      · have hx := u32_xor_nat (t / 2) 2197175160 (by omega) (by decide)
        have ho' : ((t : Int) % 2) = 1 := by omega
        rw [show ((t / 2 : Nat) : Int) = (t : Int) / 2 by omega] at hx
        go_wp2
        go_round
        case rel => exact ⟨k + 1, by omega, by go_num, by rw [HS.out, half_odd ho]; exact int_eq hx⟩
        case measure => simp [intOf]; omega
      · have ho' : ¬ ((t : Int) % 2) = 1 := by omega
        go_wp2
        go_round
        case rel => exact ⟨k + 1, by omega, by go_num, by rw [HS.out, half_even ho]; go_num⟩
        case measure => simp [intOf]; omega
    · have : k = 8 := by omega
      subst this
      go_wp2
      go_ret
      exact ⟨ret_int (by rw [HT.out]), rfl⟩

theorem u32_and_one (t : Nat) (h : t < 4294967296) : bits .and .u32 (t : Int) 1 = (t : Int) % 2 := by
  have := u32_and_nat t 1 h (by decide)
  rw [Nat.and_one_is_mod] at this
  rw [show ((1 : Nat) : Int) = 1 from rfl] at this
  rw [this]; omega
theorem u32_and_all (t : Nat) (h : t < 4294967296) : bits .and .u32 (t : Int) 4294967295 = (t : Int) := by
  have := u32_and_nat t 4294967295 h (by decide)
  rw [show (4294967295 : Nat) = 2 ^ 32 - 1 from rfl, Nat.and_two_pow_sub_one_eq_mod, Nat.mod_eq_of_lt h] at this
  exact this
theorem u32_and_none (t : Nat) (h : t < 4294967296) : bits .and .u32 (t : Int) 0 = 0 := by
  have := u32_and_nat t 0 h (by decide)
  rw [Nat.and_zero] at this
  exact this
theorem u32_xor_none (t : Nat) (h : t < 4294967296) : bits .xor .u32 (t : Int) 0 = (t : Int) := by
  have := u32_xor_nat t 0 h (by decide)
  rw [Nat.xor_zero] at this
  exact this

set_option maxHeartbeats 400000 in
set_option maxRecDepth 100000 in
theorem halved_any (s n : Nat) (w : World) (hs0 : s < 4294967296) (hn : n < 1000) :
    Calls Try.prog 21 #[.int .u32 s, .int .i64 n] w fun e w' => e = .returned (.int .u32 (hs n s : Nat)) ∧ w' = w := by
  go_enter Try.func21, Try.ntmps21
  go_wp2
  go_loop [0, 7] (fun x i => ∃ k : Nat, k ≤ n ∧ i = .int .i64 k ∧ x = .int .u32 (hs k s : Nat)) (fun _ i => n - (intOf i).toNat)
  case atStart => exact ⟨0, by omega, rfl, rfl⟩
  case round =>
    obtain ⟨k, hk, rfl, rfl⟩ := hrel
    have hlt := hs_lt k hs0
    have HS : Hid (hs (k + 1) s = half (hs k s)) := hs_succ' k s
    obtain ⟨t, ht⟩ : ∃ t, t = hs k s := ⟨_, rfl⟩
    rw [← ht] at hlt HS ⊢
    have HT : Hid (t = hs k s) := ht
    clear ht
    by_cases h8 : k < n
    · have ha := u32_and_one t hlt
      by_cases ho : t % 2 = 1
      · have hx := u32_xor_nat (t / 2) 2197175160 (by omega) (by decide)
        have hp : bits .and .u32 2197175160 4294967295 = 2197175160 := u32_and_all 2197175160 (by decide)
        have ho' : ((t : Int) % 2) = 1 := by omega
        rw [show ((t / 2 : Nat) : Int) = (t : Int) / 2 by omega] at hx
        go_wp2
        go_round
        case rel => exact ⟨k + 1, by omega, by go_num, by rw [HS.out, half_odd ho]; exact int_eq hx⟩
        case measure => simp [intOf]; omega
      · have ho' : ((t : Int) % 2) = 0 := by omega
        have hx := u32_xor_none (t / 2) (by omega)
        have hp : bits .and .u32 2197175160 0 = 0 := u32_and_none 2197175160 (by decide)
        rw [show ((t / 2 : Nat) : Int) = (t : Int) / 2 by omega] at hx
        go_wp2
        go_round
        case rel => exact ⟨k + 1, by omega, by go_num, by rw [HS.out, half_even ho]; go_num⟩
        case measure => simp [intOf]; omega
    · have : k = n := by omega
      subst this
      go_wp2
      go_ret
      exact ⟨ret_int (by rw [HT.out]), rfl⟩
end Go.Proofs.Ytpgcnchbboohoaa
