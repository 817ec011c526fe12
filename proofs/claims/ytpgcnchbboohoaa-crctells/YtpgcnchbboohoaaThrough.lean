/-
  WALKS over the document's going far by squares.
-/
import Derived.Test.YtpgcnchbboohoaaFarZ
import Derived.Deep.RegionHeld3
namespace Go.Proofs.Ytpgcnchbboohoaa
open Go.RowKit Crc

theorem Try.info43 : (Try.prog.info? 43).map (fun i => (i.zero, i.size)) = some (some (.agg (Array.replicate 32 (.int .u32 0))), 32) := by kernel_rfl

set_option maxHeartbeats 400000 in
set_option maxRecDepth 100000 in
theorem through_any (m : Nat → Nat) (s : Nat) (w : World) (hs0 : s < 4294967296) (hm : ∀ j, m j < 4294967296) :
    Calls Try.prog 19 #[.agg (tab 32 m 32).toArray, .int .u32 s] w fun e w' => e = .returned (.int .u32 (thr m s 32 : Nat)) ∧ Below w.heap.size w w' := by
  obtain ⟨hz, hi⟩ := zero_of_info (P := Try.prog) Try.info43
  go_enter Try.func19, Try.ntmps19
  go_wp2
  have hr := rangeAt_new w (tab 32 m 32) 43
  have hb : Below w.heap.size w (w.alloc (.cells (tab 32 m 32).toArray 43)) := (Below.refl _ _).alloc (Nat.le_refl _) _
  obtain ⟨W, hW⟩ : ∃ W, W = w.alloc (.cells (tab 32 m 32).toArray 43) := ⟨_, rfl⟩
  rw [← hW] at hr hb ⊢
  clear hW
  go_loop [5, 6] (fun o i => ∃ k : Nat, k ≤ 32 ∧ i = .int .i64 k ∧ o = .int .u32 (thr m s k : Nat)) (fun _ i => 32 - (intOf i).toNat)
  case atStart => exact ⟨0, by omega, rfl, rfl⟩
  case round =>
    obtain ⟨k, hk, rfl, rfl⟩ := hrel
    by_cases h : k < 32
    · have hc := rangeAt_cell (k := k) hr (by rw [tab_at h, if_pos h])
      have hmk := hm k
      have htl := thr_lt m s hm k
      have HT : Hid (thr m s (k + 1) = if s / 2 ^ k % 2 = 1 then thr m s k ^^^ m k else thr m s k) := rfl
      have hd : (s : Int) / 2 ^ k = ((s / 2 ^ k : Nat) : Int) := by simp
      have hxl : s / 2 ^ k < 4294967296 := Nat.lt_of_le_of_lt (Nat.div_le_self _ _) hs0
      obtain ⟨x, hx⟩ : ∃ x, x = s / 2 ^ k := ⟨_, rfl⟩
      obtain ⟨t, ht⟩ : ∃ t, t = thr m s k := ⟨_, rfl⟩
      obtain ⟨r, hr⟩ : ∃ r, r = m k := ⟨_, rfl⟩
      rw [← hx] at HT hd hxl
      rw [← ht] at HT htl ⊢
      rw [← hr] at hc HT hmk
      clear hx ht hr
      by_cases ho : x % 2 = 1
      · have ho' : ((x : Int) % 2) = 1 := by omega
        have hq := u32_xor_nat t r htl hmk
        go_wp2
        go_round
        case rel => exact ⟨k + 1, by omega, by go_num, by rw [HT.out, if_pos ho]⟩
        case measure => simp [intOf]; omega
      · have ho' : ¬ ((x : Int) % 2) = 1 := by omega
        go_wp2
        go_round
        case rel => exact ⟨k + 1, by omega, by go_num, by rw [HT.out, if_neg ho]⟩
        case measure => simp [intOf]; omega
    · obtain rfl : k = 32 := by omega
      go_wp2
      go_ret
      exact ⟨rfl, hb⟩
end Go.Proofs.Ytpgcnchbboohoaa
