/-
  WALKS over Zeros and Join.
-/
import Derived.Test.YtpgcnchbboohoaaFar
namespace Go.Proofs.Ytpgcnchbboohoaa
open Go.RowKit Crc

theorem u32_not (s : Nat) (h : s < 4294967296) : bits .xor .u32 IntKind.u32.max (s : Int) = ((s ^^^ full : Nat) : Int) := by
  have := u32_xor_nat 4294967295 s (by decide) h
  rw [Nat.xor_comm]
  exact this

set_option maxHeartbeats 400000 in
set_option maxRecDepth 100000 in
theorem zeros_any (s : Nat) (n : Int) (w : World) (hs0 : s < 4294967296) (h0 : -9223372036854775808 ≤ n) (h1 : n ≤ 9223372036854775807) :
    Calls Try.prog 13 #[.int .u32 s, .int .i64 n] w fun e w' => e = .returned (.int .u32 (hs (8 * n.toNat) (s ^^^ full) ^^^ full : Nat)) ∧ Below w.heap.size w w' := by
  have hn := u32_not s hs0
  have hl : s ^^^ full < 4294967296 := xor_lt hs0 (by decide)
  obtain ⟨x, hx⟩ : ∃ x, x = s ^^^ full := ⟨_, rfl⟩
  rw [← hx] at hn hl ⊢
  have hy := hs_lt (8 * n.toNat) hl
  obtain ⟨y, hyy⟩ : ∃ y, y = hs (8 * n.toNat) x := ⟨_, rfl⟩
  have hc := behind_int x n w hl h0 h1
  rw [← hyy] at hy hc ⊢
  have hn2 := u32_not y hy
  obtain ⟨z, hz⟩ : ∃ z, z = y ^^^ full := ⟨_, rfl⟩
  rw [← hz] at hn2 ⊢
  clear hx hyy hz
  have hsg : IntKind.u32.signed = false := rfl
  go_enter Try.func13, Try.ntmps13
  go_wp2_with (go_at_call 20; refine hc.mono ?_; rintro e w' ⟨rfl, hb⟩)
  go_ret
  exact ⟨rfl, hb⟩

set_option maxHeartbeats 400000 in
set_option maxRecDepth 100000 in
theorem join_any (a b : Nat) (n : Int) (w : World) (ha : a < 4294967296) (hb0 : b < 4294967296) (h0 : -9223372036854775808 ≤ n) (h1 : n ≤ 9223372036854775807) :
    Calls Try.prog 15 #[.int .u32 a, .int .u32 b, .int .i64 n] w fun e w' => e = .returned (.int .u32 (hs (8 * n.toNat) a ^^^ b : Nat)) ∧ Below w.heap.size w w' := by
  have hy := hs_lt (8 * n.toNat) ha
  obtain ⟨y, hyy⟩ : ∃ y, y = hs (8 * n.toNat) a := ⟨_, rfl⟩
  have hc := behind_int a n w ha h0 h1
  rw [← hyy] at hy hc ⊢
  have hx := u32_xor_nat y b hy hb0
  obtain ⟨z, hz⟩ : ∃ z, z = y ^^^ b := ⟨_, rfl⟩
  rw [← hz] at hx ⊢
  clear hyy hz
  go_enter Try.func15, Try.ntmps15
  go_wp2_with (go_at_call 20; refine hc.mono ?_; rintro e w' ⟨rfl, hb⟩)
  go_ret
  exact ⟨rfl, hb⟩
end Go.Proofs.Ytpgcnchbboohoaa
