/-
  WORDS READ: plainly (firstB, unwordB), and what the program's first and Unword answer.
-/
import Derived.Test.YtcpigbojebjlaaaDoorWord
import Derived.Deep.QuietTactic
import Derived.BigQuiet
namespace Go.Proofs.YtcpigbojebjlaaaDoor
open Go.RowKit Go.Shelf
set_option linter.unusedSimpArgs false

def hexv (c : UInt8) : Int := Lib.indexByte [48, 49, 50, 51, 52, 53, 54, 55, 56, 57, 65, 66, 67, 68, 69, 70] c
set_option maxRecDepth 100000 in
theorem hexv_range : ∀ n : Fin 256, -1 ≤ hexv n.val.toUInt8 ∧ hexv n.val.toUInt8 ≤ 15 := by decide +kernel
theorem hexv_le (c : UInt8) : -1 ≤ hexv c ∧ hexv c ≤ 15 := by
  have := hexv_range ⟨c.toNat, c.toNat_lt⟩
  simpa using this
def firstB (l : List UInt8) : UInt8 × Nat :=
  if stand (l.getD 0 0) then (l.getD 0 0, 1)
  else if (l.getD 0 0).toNat ≠ 37 ∨ l.length < 3 then (0, 0)
  else if hexv (l.getD 1 0) < 0 ∨ hexv (l.getD 2 0) < 0 then (0, 0)
  else if stand ((hexv (l.getD 1 0)).toNat * 16 + (hexv (l.getD 2 0)).toNat).toUInt8 then (0, 0)
  else (((hexv (l.getD 1 0)).toNat * 16 + (hexv (l.getD 2 0)).toNat).toUInt8, 3)
theorem firstB_le (l : List UInt8) (h : 0 < l.length) : (firstB l).2 ≤ l.length := by
  unfold firstB
  split
  · simp only; omega
  · split
    · simp
    · split
      · simp
      · split
        · simp
        · simp only; omega
def unwordGo : Nat → List UInt8 → Option (List UInt8)
  | 0, _ => some []
  | n + 1, l => if l = [] then some [] else if (firstB l).2 = 0 then none else (unwordGo n (l.drop (firstB l).2)).map ((firstB l).1 :: ·)
def unwordB (l : List UInt8) : Option (List UInt8) := if l = [] then none else if l = [37] then some [] else unwordGo l.length l

set_option maxRecDepth 100000 in
theorem or16 : ∀ (h l : Fin 16), bits .or .i64 ((h.val : Int) * 16) (l.val : Int) = ((h.val * 16 + l.val : Nat) : Int) := by decide +kernel

theorem index_any (c : UInt8) (w : World) : Calls Tryd.prog 58 #[.string { data := #[48, 49, 50, 51, 52, 53, 54, 55, 56, 57, 65, 66, 67, 68, 69, 70] }, .int .u8 (c.toNat : Int)] w fun e w' => e = .returned (.int .i64 (hexv c)) ∧ w' = w := by
  have := Tryd.strings_IndexByte { data := #[48, 49, 50, 51, 52, 53, 54, 55, 56, 57, 65, 66, 67, 68, 69, 70] } (c.toNat : Int) w
  simpa [hexv] using this

set_option maxHeartbeats 1000000 in
set_option maxRecDepth 100000 in
theorem first_any (s : ByteArray) (w : World) (h0 : 0 < s.size) : Calls Tryd.prog 39 #[.string s] w fun e w' => e = .returned (.tuple #[.int .u8 ((firstB s.data.toList).1.toNat : Int), .int .i64 ((firstB s.data.toList).2 : Int)]) ∧ ∃ n, w' = w.drewN n := by
  have hl : s.data.toList.length = s.size := (Lib.size_eq s).symm
  have z0 : (0 : Int) < (s.size : Int) := by omega
  have g0 := getD_byte s 0 h0
  unfold firstB
  rw [hl, g0]
  obtain ⟨c0, hc0⟩ : ∃ c0, s[0]'h0 = c0 := ⟨_, rfl⟩
  rw [hc0]
  have hs0 := fun W => stands_any c0 W
  have hx : ∀ W, (Instr.index 9 (.string s) (.int .i64 0)).run Tryd.prog W = .ok (.int .u8 (c0.toNat : Int)) W := fun W => by
    rw [run_index_string W 9 s .i64 0 Tryd.underlying9, dif_pos ⟨by omega, z0⟩]
    rw [← hc0]; rfl
  by_cases hst : stand c0 = true
  · rw [if_pos hst]
    rw [hst] at hs0
    go_enter Tryd.func39, Tryd.ntmps39
    go_wp2_with (go_at_call 46; refine (hs0 _).mono ?_; rintro e w' ⟨rfl, rfl⟩)
    go_ret2
    exact ⟨rfl, 0, rfl⟩
  · rw [if_neg hst]
    have hsf : stand c0 = false := by simpa using hst
    rw [hsf] at hs0
    by_cases h37 : c0.toNat = 37
    · by_cases h3 : s.size < 3
      · rw [if_pos (.inr h3)]
        have e1 : ((c0.toNat : Int) != 37) = false := by simp [h37]
        have e1' : ((c0.toNat : Int) == 37) = true := by simp [h37]
        have e2 : (s.size : Int) < 3 := by omega
        generalize (c0.toNat : Int) = k0 at e1 e1' hs0 hx
        clear hst hsf h37 hc0 g0
        go_enter Tryd.func39, Tryd.ntmps39
        go_wp2_with (go_at_call 46; refine (hs0 _).mono ?_; rintro e w' ⟨rfl, rfl⟩)
        go_ret2
        exact ⟨rfl, 0, rfl⟩
      · rw [if_neg (by omega), getD_byte s 1 (by omega), getD_byte s 2 (by omega)]
        have e1 : ((c0.toNat : Int) != 37) = false := by simp [h37]
        have e1' : ((c0.toNat : Int) == 37) = true := by simp [h37]
        have e2 : ¬ ((s.size : Int) < 3) := by omega
        obtain ⟨c1, hc1⟩ : ∃ c1, s[1]'(by omega) = c1 := ⟨_, rfl⟩
        obtain ⟨c2, hc2⟩ : ∃ c2, s[2]'(by omega) = c2 := ⟨_, rfl⟩
        rw [hc1, hc2]
        have hx1 : ∀ W, (Instr.index 9 (.string s) (.int .i64 1)).run Tryd.prog W = .ok (.int .u8 (c1.toNat : Int)) W := fun W => by
          rw [run_index_string W 9 s .i64 1 Tryd.underlying9, dif_pos ⟨by omega, by omega⟩]
          rw [← hc1]; rfl
        have hx2 : ∀ W, (Instr.index 9 (.string s) (.int .i64 2)).run Tryd.prog W = .ok (.int .u8 (c2.toNat : Int)) W := fun W => by
          rw [run_index_string W 9 s .i64 2 Tryd.underlying9, dif_pos ⟨by omega, by omega⟩]
          rw [← hc2]; rfl
        have hi1 := fun W => index_any c1 W
        have hi2 := fun W => index_any c2 W
        obtain ⟨r1, r1'⟩ := hexv_le c1
        obtain ⟨r2, r2'⟩ := hexv_le c2
        generalize hexv c1 = v1 at hi1 r1 r1' ⊢
        generalize hexv c2 = v2 at hi2 r2 r2' ⊢
        generalize (c1.toNat : Int) = k1 at hx1 hi1
        generalize (c2.toNat : Int) = k2 at hx2 hi2
        generalize (c0.toNat : Int) = k0 at e1 e1' hs0 hx
        clear hst hsf h37 hc0 g0 hc1 hc2 c1 c2
        by_cases hv1 : v1 < 0
        · rw [if_pos (.inl hv1)]
          go_enter Tryd.func39, Tryd.ntmps39
          go_wp2_with (go_at_call 46; refine (hs0 _).mono ?_; rintro e w' ⟨rfl, rfl⟩)
          go_quiet (first | (go_at_call 58; refine Calls.quiet_of_same (hi1 _)) | (go_at_call 58; refine Calls.quiet_of_same (hi2 _)))
          go_wp2
          go_ret2
          exact ⟨rfl, _, rfl⟩
        · by_cases hv2 : v2 < 0
          · rw [if_pos (.inr hv2)]
            go_enter Tryd.func39, Tryd.ntmps39
            go_wp2_with (go_at_call 46; refine (hs0 _).mono ?_; rintro e w' ⟨rfl, rfl⟩)
            go_quiet (first | (go_at_call 58; refine Calls.quiet_of_same (hi1 _)) | (go_at_call 58; refine Calls.quiet_of_same (hi2 _)))
            go_wp2
            go_ret2
            exact ⟨rfl, _, rfl⟩
          · rw [if_neg (by omega)]
            obtain ⟨x1, rfl⟩ := Int.eq_ofNat_of_zero_le (show 0 ≤ v1 by omega)
            obtain ⟨x2, rfl⟩ := Int.eq_ofNat_of_zero_le (show 0 ≤ v2 by omega)
            simp only [Int.toNat_natCast]
            have hor := or16 ⟨x1, by omega⟩ ⟨x2, by omega⟩
            simp only at hor
            have hlt : x1 * 16 + x2 < 256 := by omega
            have hcn : ((x1 * 16 + x2).toUInt8).toNat = x1 * 16 + x2 := by simp; omega
            have hs3 := fun W => stands_any (x1 * 16 + x2).toUInt8 W
            rw [hcn] at hs3
            have hwr : IntKind.u8.wrap ((x1 * 16 + x2 : Nat) : Int) = ((x1 * 16 + x2 : Nat) : Int) := by rw [IntKind.wrap_u8]; omega
            generalize hX : x1 * 16 + x2 = X at hor hlt hcn hs3 hwr ⊢
            by_cases hst3 : stand X.toUInt8 = true
            · rw [if_pos hst3]
              rw [hst3] at hs3
              go_enter Tryd.func39, Tryd.ntmps39
              go_wp2_with (go_at_call 46; refine (hs0 _).mono ?_; rintro e w' ⟨rfl, rfl⟩)
              go_quiet (first | (go_at_call 58; refine Calls.quiet_of_same (hi1 _)) | (go_at_call 58; refine Calls.quiet_of_same (hi2 _)))
              go_wp2_with (go_at_call 46; refine (hs3 _).mono ?_; rintro e w' ⟨rfl, rfl⟩)
              go_ret2
              exact ⟨rfl, _, rfl⟩
            · rw [if_neg hst3]
              have hst3' : stand X.toUInt8 = false := by simpa using hst3
              rw [hst3'] at hs3
              simp only [hcn]
              go_enter Tryd.func39, Tryd.ntmps39
              go_wp2_with (go_at_call 46; refine (hs0 _).mono ?_; rintro e w' ⟨rfl, rfl⟩)
              go_quiet (first | (go_at_call 58; refine Calls.quiet_of_same (hi1 _)) | (go_at_call 58; refine Calls.quiet_of_same (hi2 _)))
              go_wp2_with (go_at_call 46; refine (hs3 _).mono ?_; rintro e w' ⟨rfl, rfl⟩)
              go_ret2
              exact ⟨rfl, _, rfl⟩
    · rw [if_pos (.inl h37)]
      have e1 : ((c0.toNat : Int) != 37) = true := by simp; omega
      have e1' : ((c0.toNat : Int) == 37) = false := by simp; omega
      generalize (c0.toNat : Int) = k0 at e1 e1' hs0 hx
      clear hst hsf h37 hc0 g0
      go_enter Tryd.func39, Tryd.ntmps39
      go_wp2_with (go_at_call 46; refine (hs0 _).mono ?_; rintro e w' ⟨rfl, rfl⟩)
      go_ret2
      exact ⟨rfl, 0, rfl⟩
end Go.Proofs.YtcpigbojebjlaaaDoor
