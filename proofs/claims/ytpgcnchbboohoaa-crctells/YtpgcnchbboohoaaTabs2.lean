/-
  WALKS over the crc layer's tables of 32 numbers.
-/
import Derived.Test.YtpgcnchbboohoaaTabs
namespace Go.Proofs.Ytpgcnchbboohoaa
open Go.RowKit Crc

theorem shl_one {k : Nat} (h : k < 32) : ∃ p : Nat, p = 2 ^ k ∧ p < 4294967296 ∧ IntKind.u32.wrap (2 ^ k) = (p : Int) := by
  have h1 : 2 ^ k < 2 ^ 32 := Nat.pow_lt_pow_right (by omega) h
  obtain ⟨p, hp⟩ : ∃ p, p = 2 ^ k := ⟨_, rfl⟩
  refine ⟨p, hp, by omega, ?_⟩
  rw [show ((2 : Int) ^ k) = (p : Int) by rw [hp]; simp]
  rw [← hp] at h1
  clear hp
  simp only [IntKind.wrap, IntKind.bits, IntKind.signed]
  simp
  omega
set_option maxHeartbeats 400000 in
set_option maxRecDepth 100000 in
theorem zeroByte_any (w : World) :
    Calls Try.prog 22 #[] w fun e w' => e = .returned (.agg (tab 32 (fun i => hs 8 (2 ^ i)) 32).toArray) ∧ Below w.heap.size w w' := by
  obtain ⟨hz, hi⟩ := zero_of_info (P := Try.prog) Try.info42
  go_enter Try.func22, Try.ntmps22
  go_wp2
  obtain ⟨W, hW⟩ : ∃ W, W = w.alloc (Obj.cells (Array.replicate 32 (Value.int IntKind.u32 0)) 42) := ⟨_, rfl⟩
  have hWs : w.heap.size + 1 = W.heap.size := by rw [hW]; simp
  rw [hWs, ← hW]
  have HW : Hid (W = w.alloc (Obj.cells (Array.replicate 32 (Value.int IntKind.u32 0)) 42)) := hW
  have HWs : Hid (w.heap.size + 1 = W.heap.size) := hWs
  clear hW hWs
  go_loopw [3] (fun i wr => ∃ k : Nat, k ≤ 32 ∧ i = .int .i64 k ∧ wr = W.alloc (.cells (tab 32 (fun i => hs 8 (2 ^ i)) k).toArray 42)) (fun i _ => 32 - (intOf i).toNat)
  case atStart => exact ⟨0, by omega, rfl, by rw [tab_zero]; rfl⟩
  case round =>
    obtain ⟨k, hk, rfl, rfl⟩ := hrel
    by_cases h : k < 32
    · have hlen := tab_length 32 k (fun i => hs 8 (2 ^ i))
      obtain ⟨p, hp, hpl, hsl⟩ := shl_one h
      have HP : Hid (p = 2 ^ k) := hp
      clear hp
      go_wp2_with (go_at_call 21; refine (halved_any p 8 _ (by omega) (by omega)).mono ?_; rintro e w' ⟨rfl, rfl⟩)
      go_roundw
      case rel => exact ⟨k + 1, by omega, by go_num, by rw [← tab_set h, HP.out]⟩
      case measure => simp [intOf]; omega
    · obtain rfl : k = 32 := by omega
      have hw0 : W.there w.heap.size 0 32 := by
        rw [HW.out]
        exact there_new w (List.replicate 32 (.int .u32 0)) 42
      have hb : Below w.heap.size w (W.alloc (Obj.cells (tab 32 (fun i => hs 8 (2 ^ i)) 32).toArray 42)) := by
        rw [HW.out]
        exact ((Below.refl _ _).alloc (Nat.le_refl _) _).alloc (by simp) _
      go_wp2_with (first
        | refine wpList_load_tab 42 (.tmp 1) W.heap.size 32 (tab 32 (fun i => hs 8 (2 ^ i)) 32) rfl rfl rfl Try.underlying42 hi (tab_length _ _ _) (rangeAt_new _ _ _) ?_
        | refine wpList_store_tab 42 (.tmp 0) (.tmp 12) w.heap.size 32 (tab 32 (fun i => hs 8 (2 ^ i)) 32) rfl rfl rfl rfl rfl hi (tab_length _ _ _) (World.there_alloc hw0 _) (tab_one _ _ _) ?_)
      (try simp only [Exit.inBlock, Exit.then])
      refine ret_tab w.heap.size 32 (tab 32 (fun i => hs 8 (2 ^ i)) 32) rfl rfl Try.underlying42 hi (tab_length _ _ _) ?_ rfl ⟨rfl, below_setCells (Nat.le_refl _) _ _ hb⟩
      exact World.rangeAt_setCells_same _ _ _ _ (by rw [tab_length]; exact World.there_alloc hw0 _)

/-- One number out of a table by value. -/
theorem index_tab (cs : List Value) (k : Nat) (v : Value) (hk : k < 32) (hv : cs[k]? = some v) (w : World) :
    (Instr.index 42 (.agg cs.toArray) (.int .i64 k)).run Try.prog w = .ok v w := by
  simp [Instr.index, asIntOf, run_underlying Try.underlying42, part, go_sem, hk, hv]

theorem thr_lt (m : Nat → Nat) (x : Nat) (hm : ∀ j, m j < 4294967296) : ∀ i, thr m x i < 4294967296
  | 0 => by rw [thr]; decide
  | i + 1 => by
    rw [thr]
    split
    · exact xor_lt (thr_lt m x hm i) (hm i)
    · exact thr_lt m x hm i

set_option maxHeartbeats 400000 in
set_option maxRecDepth 100000 in
theorem apply_any (m : Nat → Nat) (s : Nat) (w : World) (hs0 : s < 4294967296) (hm : ∀ j, m j < 4294967296) :
    Calls Try.prog 23 #[.agg (tab 32 m 32).toArray, .int .u32 s] w fun e w' => e = .returned (.int .u32 (thr m s 32 : Nat)) ∧ Below w.heap.size w w' := by
  obtain ⟨hz, hi⟩ := zero_of_info (P := Try.prog) Try.info42
  go_enter Try.func23, Try.ntmps23
  go_wp2_with (refine wpList_load_tab 42 (.tmp 2) w.heap.size 32 (tab 32 m 32) rfl rfl rfl Try.underlying42 hi (tab_length _ _ _) (rangeAt_new _ _ _) ?_)
  go_loop [1, 5, 9] (fun x o i => ∃ k : Nat, k ≤ 32 ∧ i = .int .i64 k ∧ x = .int .u32 (s / 2 ^ k : Nat) ∧ o = .int .u32 (thr m s k : Nat)) (fun _ _ i => 32 - (intOf i).toNat)
  case atStart => exact ⟨0, by omega, rfl, by simp, rfl⟩
  case round =>
    obtain ⟨k, hk, rfl, rfl, rfl⟩ := hrel
    by_cases h : k < 32
    · have hlen := tab_length 32 32 m
      have hat : ∀ w, (Instr.index 42 (.agg (tab 32 m 32).toArray) (.int .i64 k)).run Try.prog w = .ok (.int .u32 (m k : Nat)) w := fun w => index_tab _ k _ h (by rw [tab_at h, if_pos h]) w
      have hmk := hm k
      have htl := thr_lt m s hm k
      have HT : Hid (thr m s (k + 1) = if s / 2 ^ k % 2 = 1 then thr m s k ^^^ m k else thr m s k) := rfl
      have HD : Hid (s / 2 ^ (k + 1) = s / 2 ^ k / 2) := by show s / 2 ^ (k + 1) = s / 2 ^ k / 2; rw [Nat.pow_succ, Nat.div_div_eq_div_mul]
      have hxl : s / 2 ^ k < 4294967296 := Nat.lt_of_le_of_lt (Nat.div_le_self _ _) hs0
      obtain ⟨x, hx⟩ : ∃ x, x = s / 2 ^ k := ⟨_, rfl⟩
      obtain ⟨t, ht⟩ : ∃ t, t = thr m s k := ⟨_, rfl⟩
      obtain ⟨r, hr⟩ : ∃ r, r = m k := ⟨_, rfl⟩
      rw [← hx] at HT HD hxl ⊢
      rw [← ht] at HT htl ⊢
      rw [← hr] at hat HT hmk
      clear hx ht hr
      have ha := u32_and_one x hxl
      by_cases ho : x % 2 = 1
      · have ho' : ((x : Int) % 2) = 1 := by omega
        have hp := u32_and_all r hmk
        have hq := u32_xor_nat t r htl hmk
        go_wp2
        go_round
        case rel => exact ⟨k + 1, by omega, by go_num, by rw [HD.out]; go_num, by rw [HT.out, if_pos ho]⟩
        case measure => simp [intOf]; omega
      · have ho' : ((x : Int) % 2) = 0 := by omega
        have hp := u32_and_none r hmk
        have hq := u32_xor_none t htl
        go_wp2
        go_round
        case rel => exact ⟨k + 1, by omega, by go_num, by rw [HD.out]; go_num, by rw [HT.out, if_neg ho]⟩
        case measure => simp [intOf]; omega
    · obtain rfl : k = 32 := by omega
      go_wp2
      go_ret
      exact ⟨rfl, (Below.refl _ _).alloc (Nat.le_refl _) _⟩
end Go.Proofs.Ytpgcnchbboohoaa
