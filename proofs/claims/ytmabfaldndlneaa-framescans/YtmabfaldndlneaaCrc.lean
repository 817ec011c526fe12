/-
  WALKS over the crc layer's sums: the program's (by half bytes) and the document's (bit by bit).
-/
import Derived.Test.YtmabfaldndlneaaBytes
import Derived.Test.YtmabfaldndlneaaCrcPlain
namespace Go.Proofs.Ytmabfaldndlneaa
open Go.RowKit Crc
set_option linter.unusedSimpArgs false

theorem u32_not (s : Nat) (h : s < 4294967296) : bits .xor .u32 IntKind.u32.max (s : Int) = ((s ^^^ full : Nat) : Int) := by
  have := u32_xor_nat 4294967295 s (by decide) h
  rw [Nat.xor_comm]
  exact this

theorem ret_int {k : IntKind} {a b : Int} (h : a = b) : Ending.returned (.int k a) = .returned (.int k b) := by rw [h]
theorem int_eq {k : IntKind} {a b : Int} (h : a = b) : Value.int k a = .int k b := by rw [h]
theorem hs_succ' (n s : Nat) : hs (n + 1) s = half (hs n s) := by rw [hs_add, hs_one]

set_option maxHeartbeats 400000 in
set_option maxRecDepth 100000 in
theorem step_any (s : Nat) (w : World) (hs0 : s < 4294967296) :
    Calls Try.prog 33 #[.int .u32 s] w fun e w' => e = .returned (.int .u32 (hs 8 s : Nat)) ∧ w' = w := by
  go_enter Try.func33, Try.ntmps33
  go_wp2
  go_loop [0, 3] (fun x i => ∃ k : Nat, k ≤ 8 ∧ i = .int .i64 k ∧ x = .int .u32 (hs k s : Nat)) (fun _ i => 8 - (intOf i).toNat)
  case atStart => exact ⟨0, by omega, rfl, rfl⟩
  case round =>
    obtain ⟨k, hk, rfl, rfl⟩ := hrel
    have hlt := hs_lt k hs0
    have HS : Hid (hs (k + 1) s = half (hs k s)) := hs_succ' k s
    obtain ⟨t, ht⟩ : ∃ t, t = hs k s := ⟨_, rfl⟩
    rw [← ht] at hlt HS ⊢
    have HT : Hid (t = hs k s) := ht
    clear ht
    by_cases h8 : k < 8
    · by_cases ho : t % 2 = 1
      · have hx := u32_xor_nat (t / 2) 2197175160 (by omega) (by decide)
        have ho' : ((t : Int) % 2) = 1 := by omega
        rw [show ((t / 2 : Nat) : Int) = (t : Int) / 2 by omega] at hx
        go_wp2
        go_round
        case rel => exact ⟨k + 1, by omega, by go_num, by rw [HS.out, half_odd ho]; exact int_eq hx⟩
        case measure => simp [intOf]; omega
      · have ho' : ¬ ((t : Int) % 2) = 1 := by omega
        go_wp2
        go_round
        case rel => exact ⟨k + 1, by omega, by go_num, by rw [HS.out, half_even ho]; go_num⟩
        case measure => simp [intOf]; omega
    · have : k = 8 := by omega
      subst this
      go_wp2
      go_ret
      exact ⟨ret_int (by rw [HT.out]), rfl⟩

theorem u32_and_one (t : Nat) (h : t < 4294967296) : bits .and .u32 (t : Int) 1 = (t : Int) % 2 := by
  have := u32_and_nat t 1 h (by decide)
  rw [Nat.and_one_is_mod] at this
  rw [show ((1 : Nat) : Int) = 1 from rfl] at this
  rw [this]; omega
theorem u32_and_all (t : Nat) (h : t < 4294967296) : bits .and .u32 (t : Int) 4294967295 = (t : Int) := by
  have := u32_and_nat t 4294967295 h (by decide)
  rw [show (4294967295 : Nat) = 2 ^ 32 - 1 from rfl, Nat.and_two_pow_sub_one_eq_mod, Nat.mod_eq_of_lt h] at this
  exact this
theorem u32_and_none (t : Nat) (h : t < 4294967296) : bits .and .u32 (t : Int) 0 = 0 := by
  have := u32_and_nat t 0 h (by decide)
  rw [Nat.and_zero] at this
  exact this
theorem u32_xor_none (t : Nat) (h : t < 4294967296) : bits .xor .u32 (t : Int) 0 = (t : Int) := by
  have := u32_xor_nat t 0 h (by decide)
  rw [Nat.xor_zero] at this
  exact this

set_option maxHeartbeats 400000 in
set_option maxRecDepth 100000 in
theorem halved_any (s n : Nat) (w : World) (hs0 : s < 4294967296) (hn : n < 1000) :
    Calls Try.prog 35 #[.int .u32 s, .int .i64 n] w fun e w' => e = .returned (.int .u32 (hs n s : Nat)) ∧ w' = w := by
  go_enter Try.func35, Try.ntmps35
  go_wp2
  go_loop [0, 7] (fun x i => ∃ k : Nat, k ≤ n ∧ i = .int .i64 k ∧ x = .int .u32 (hs k s : Nat)) (fun _ i => n - (intOf i).toNat)
  case atStart => exact ⟨0, by omega, rfl, rfl⟩
  case round =>
    obtain ⟨k, hk, rfl, rfl⟩ := hrel
    have hlt := hs_lt k hs0
    have HS : Hid (hs (k + 1) s = half (hs k s)) := hs_succ' k s
    obtain ⟨t, ht⟩ : ∃ t, t = hs k s := ⟨_, rfl⟩
    rw [← ht] at hlt HS ⊢
    have HT : Hid (t = hs k s) := ht
    clear ht
    by_cases h8 : k < n
    · have ha := u32_and_one t hlt
      by_cases ho : t % 2 = 1
      · have hx := u32_xor_nat (t / 2) 2197175160 (by omega) (by decide)
        have hp : bits .and .u32 2197175160 4294967295 = 2197175160 := u32_and_all 2197175160 (by decide)
        have ho' : ((t : Int) % 2) = 1 := by omega
        rw [show ((t / 2 : Nat) : Int) = (t : Int) / 2 by omega] at hx
        go_wp2
        go_round
        case rel => exact ⟨k + 1, by omega, by go_num, by rw [HS.out, half_odd ho]; exact int_eq hx⟩
        case measure => simp [intOf]; omega
      · have ho' : ((t : Int) % 2) = 0 := by omega
        have hx := u32_xor_none (t / 2) (by omega)
        have hp : bits .and .u32 2197175160 0 = 0 := u32_and_none 2197175160 (by decide)
        rw [show ((t / 2 : Nat) : Int) = (t : Int) / 2 by omega] at hx
        go_wp2
        go_round
        case rel => exact ⟨k + 1, by omega, by go_num, by rw [HS.out, half_even ho]; go_num⟩
        case measure => simp [intOf]; omega
    · have : k = n := by omega
      subst this
      go_wp2
      go_ret
      exact ⟨ret_int (by rw [HT.out]), rfl⟩
/-- A table of n numbers, of which the first k are laid. -/
def tab (n : Nat) (f : Nat → Nat) (k : Nat) : List Value := (List.range n).map fun i => .int .u32 ((if i < k then f i else 0 : Nat) : Int)
theorem tab_length (n k : Nat) (f : Nat → Nat) : (tab n f k).length = n := by simp [tab]
theorem tab_at {n i k : Nat} {f : Nat → Nat} (h : i < n) : (tab n f k)[i]? = some (.int .u32 ((if i < k then f i else 0 : Nat) : Int)) := by
  simp [tab, h]
theorem tab_set {n k : Nat} {f : Nat → Nat} (h : k < n) : (tab n f k).set k (.int .u32 (f k : Nat)) = tab n f (k + 1) := by
  apply List.ext_getElem?
  intro i
  rw [List.getElem?_set, tab_length]
  by_cases hi : k = i
  · subst hi; rw [if_pos rfl, if_pos h, tab_at h, if_pos (by omega)]
  · rw [if_neg hi]
    by_cases hn : i < n
    · rw [tab_at hn, tab_at hn]
      congr 3
      by_cases h1 : i < k
      · rw [if_pos h1, if_pos (by omega)]
      · rw [if_neg h1, if_neg (by omega)]
    · rw [List.getElem?_eq_none (by rw [tab_length]; omega), List.getElem?_eq_none (by rw [tab_length]; omega)]
theorem tab_zero (n : Nat) (f : Nat → Nat) : tab n f 0 = List.replicate n (.int .u32 0) := by
  apply List.ext_getElem?
  intro i
  by_cases h : i < n
  · rw [tab_at h, if_neg (by omega), List.getElem?_replicate, if_pos h]; rfl
  · rw [List.getElem?_eq_none (by rw [tab_length]; omega), List.getElem?_eq_none (by simp; omega)]
theorem tab_one (n k : Nat) (f : Nat → Nat) : ∀ v ∈ tab n f k, v.oneCell' = true := by
  intro v hv
  simp only [tab, List.mem_map] at hv
  obtain ⟨i, _, rfl⟩ := hv
  rfl

theorem Try.info67 : (Try.prog.info? 67).map (fun i => (i.zero, i.size)) = some (some (.agg (Array.replicate 16 (.int .u32 0))), 16) := by kernel_rfl
set_option maxHeartbeats 400000 in
set_option maxRecDepth 100000 in
theorem halves_any (w : World) :
    Calls Try.prog 34 #[] w fun e w' => e = .returned (.agg (tab 16 (hs 4) 16).toArray) ∧ Below w.heap.size w w' := by
  obtain ⟨hz, hi⟩ := zero_of_info (P := Try.prog) Try.info67
  go_enter Try.func34, Try.ntmps34
  go_wp2
  obtain ⟨W, hW⟩ : ∃ W, W = w.alloc (Obj.cells (Array.replicate 16 (Value.int IntKind.u32 0)) 67) := ⟨_, rfl⟩
  have hWs : w.heap.size + 1 = W.heap.size := by rw [hW]; simp
  rw [hWs, ← hW]
  have HW : Hid (W = w.alloc (Obj.cells (Array.replicate 16 (Value.int IntKind.u32 0)) 67)) := hW
  have HWs : Hid (w.heap.size + 1 = W.heap.size) := hWs
  clear hW hWs
  go_loopw [3] (fun i wr => ∃ k : Nat, k ≤ 16 ∧ i = .int .i64 k ∧ wr = W.alloc (.cells (tab 16 (hs 4) k).toArray 67)) (fun i _ => 16 - (intOf i).toNat)
  case atStart => exact ⟨0, by omega, rfl, by rw [tab_zero]; rfl⟩
  case round =>
    obtain ⟨k, hk, rfl, rfl⟩ := hrel
    by_cases h : k < 16
    · have hlen := tab_length 16 k (hs 4)
      go_wp2_with (go_at_call 35; refine (halved_any k 4 _ (by omega) (by omega)).mono ?_; rintro e w' ⟨rfl, rfl⟩)
      go_roundw
      case rel => exact ⟨k + 1, by omega, by go_num, by rw [tab_set h]⟩
      case measure => simp [intOf]; omega
    · obtain rfl : k = 16 := by omega
      have hw0 : W.there w.heap.size 0 16 := by
        rw [HW.out]
        exact there_new w (List.replicate 16 (.int .u32 0)) 67
      have hb : Below w.heap.size w (W.alloc (Obj.cells (tab 16 (hs 4) 16).toArray 67)) := by
        rw [HW.out]
        exact ((Below.refl _ _).alloc (Nat.le_refl _) _).alloc (by simp) _
      go_wp2_with (first
        | refine wpList_load_tab 67 (.tmp 1) W.heap.size 16 (tab 16 (hs 4) 16) rfl rfl rfl Try.underlying67 hi (tab_length _ _ _) (rangeAt_new _ _ _) ?_
        | refine wpList_store_tab 67 (.tmp 0) (.tmp 12) w.heap.size 16 (tab 16 (hs 4) 16) rfl rfl rfl rfl rfl hi (tab_length _ _ _) (World.there_alloc hw0 _) (tab_one _ _ _) ?_)
      (try simp only [Exit.inBlock, Exit.then])
      refine ret_tab w.heap.size 16 (tab 16 (hs 4) 16) rfl rfl Try.underlying67 hi (tab_length _ _ _) ?_ rfl ⟨rfl, below_setCells (Nat.le_refl _) _ _ hb⟩
      exact World.rangeAt_setCells_same _ _ _ _ (by rw [tab_length]; exact World.there_alloc hw0 _)
/-- Bytes as plain numbers. -/
def nats (l : List Int) : List Nat := l.map Int.toNat
theorem nats_length (l : List Int) : (nats l).length = l.length := by simp [nats]
theorem nats_append (l m : List Int) : nats (l ++ m) = nats l ++ nats m := by simp [nats]
theorem nats_bytes {l : List Int} (h : U8 l) : Bytes (nats l) := by
  intro b hb
  simp only [nats, List.mem_map] at hb
  obtain ⟨y, hy, rfl⟩ := hb
  have := h y hy
  omega
theorem nats_snoc {l : List Int} {k : Nat} {b : Int} (h : l[k]? = some b) : nats (l.take (k + 1)) = nats (l.take k) ++ [b.toNat] := by
  obtain ⟨hk, rfl⟩ := List.getElem?_eq_some_iff.1 h
  rw [List.take_succ_eq_append_getElem hk, nats_append]; rfl
theorem regs_snoc (s : Nat) (l : List Nat) (b : Nat) : regs s (l ++ [b]) = hs 8 (regs s l ^^^ b) := by rw [regs_append]; rfl
theorem u32_and15 (t : Nat) (h : t < 4294967296) : ∃ lo : Nat, lo = t % 16 ∧ lo < 16 ∧ bits .and .u32 (t : Int) 15 = (lo : Int) := by
  refine ⟨t % 16, rfl, by omega, ?_⟩
  have := u32_and_nat t 15 h (by decide)
  rw [show (15 : Nat) = 2 ^ 4 - 1 from rfl, Nat.and_two_pow_sub_one_eq_mod] at this
  exact this

set_option maxHeartbeats 1000000 in
set_option maxRecDepth 100000 in
theorem more_any (s : Nat) (ao : Option Addr) (cap : Nat) (l : List Int) (w : World) (hs0 : s < 4294967296) (hr : Rd w ao l) (hl : U8 l) (hlen : l.length ≤ 9223372036854775807) :
    Calls Try.prog 32 #[.int .u32 s, .slice ao l.length cap] w fun e w' => e = .returned (.int .u32 (more s (nats l) : Nat)) ∧ Below w.heap.size w w' := by
  obtain ⟨hz, hi⟩ := zero_of_info (P := Try.prog) Try.info67
  have hn := u32_not s hs0
  have hx0 : s ^^^ full < 4294967296 := xor_lt hs0 (by decide)
  have HM : Hid (more s (nats l) = regs (s ^^^ full) (nats l) ^^^ full) := rfl
  obtain ⟨s0, he⟩ : ∃ s0, s0 = s ^^^ full := ⟨_, rfl⟩
  rw [← he] at hn hx0 HM
  clear he
  have hsg : IntKind.u32.signed = false := rfl
  go_enter Try.func32, Try.ntmps32
  go_wp2_with (first
    | (go_at_call 34; refine (halves_any _).mono ?_; rintro e w1 ⟨rfl, hb1⟩)
    | refine wpList_store_new 67 (.tmp 5) (.tmp 10) _ 16 (tab 16 (hs 4) 16) rfl rfl rfl rfl rfl hi (tab_length _ _ _) (by simp) rfl (tab_one _ _ _) ?_)
  have hr1 := hr.below (hb1.alloc hb1.size (.cells (tab 16 (hs 4) 16).toArray 67))
  have hrt := rangeAt_new w1 (tab 16 (hs 4) 16) 67
  have hbb := hb1.alloc hb1.size (.cells (tab 16 (hs 4) 16).toArray 67)
  obtain ⟨W, hW⟩ : ∃ W, W = w1.alloc (.cells (tab 16 (hs 4) 16).toArray 67) := ⟨_, rfl⟩
  rw [← hW] at hr1 hrt hbb ⊢
  clear hW hb1
  go_loop [6, 15] (fun x i => ∃ k : Nat, k ≤ l.length ∧ i = .int .i64 k ∧ x = .int .u32 (regs s0 (nats (l.take k)) : Nat)) (fun _ i => l.length - (intOf i).toNat)
  case atStart => exact ⟨0, by omega, rfl, rfl⟩
  case round =>
    obtain ⟨k, hk, rfl, rfl⟩ := hrel
    have hxl := regs_lt (nats (l.take k)) hx0 (nats_bytes (hl.take k))
    by_cases h : k < l.length
    · obtain ⟨b, hb⟩ : ∃ b, l[k]? = some b := ⟨_, List.getElem?_eq_getElem h⟩
      have hb8 := hl b (List.mem_of_getElem? hb)
      have HR : Hid (regs s0 (nats (l.take (k + 1))) = hs 8 (regs s0 (nats (l.take k)) ^^^ b.toNat)) := by
        show regs s0 (nats (l.take (k + 1))) = _
        rw [nats_snoc hb, regs_snoc]
      obtain ⟨x, hx⟩ : ∃ x, x = regs s0 (nats (l.take k)) := ⟨_, rfl⟩
      rw [← hx] at HR hxl ⊢
      clear hx
      obtain ⟨c, rfl⟩ := Int.eq_ofNat_of_zero_le hb8.1
      have hcl : c < 4294967296 := by omega
      have hxc := u32_xor_nat x c hxl hcl
      have htl : x ^^^ c < 4294967296 := xor_lt hxl hcl
      rw [Int.toNat_natCast] at HR
      obtain ⟨t, ht⟩ : ∃ t, t = x ^^^ c := ⟨_, rfl⟩
      rw [← ht] at HR hxc htl
      clear ht
      obtain ⟨ab, aoff, rfl, hc⟩ := hr1.at hb
      have hb8' : (c : Int) ≤ 255 := hb8.2
      have hmax : (c : Int) % 4294967296 = c := by omega
      clear hb hb8 hr hr1
      go_wp2
      go_loop [6, 23] (fun y j => ∃ q : Nat, q ≤ 2 ∧ j = .int .i64 q ∧ y = .int .u32 (hs (4 * q) t : Nat)) (fun _ j => 2 - (intOf j).toNat)
      case atStart => exact ⟨0, by omega, rfl, rfl⟩
      case round =>
        obtain ⟨q, hq, rfl, rfl⟩ := hrel
        by_cases hq2 : q < 2
        · have hyl := hs_lt (4 * q) htl
          have HS : Hid (hs (4 * (q + 1)) t = hs (4 * q) t / 2 ^ 4 ^^^ hs 4 (hs (4 * q) t % 2 ^ 4)) := by
            show hs (4 * (q + 1)) t = _
            rw [Nat.mul_add, hs_add, hs_table 4]
          obtain ⟨y, hy⟩ : ∃ y, y = hs (4 * q) t := ⟨_, rfl⟩
          rw [← hy] at hyl HS ⊢
          clear hy
          obtain ⟨lo, hlo, hlo16, ha⟩ := u32_and15 y hyl
          have hct := rangeAt_cell (k := lo) hrt (by rw [tab_at hlo16, if_pos hlo16])
          have hhl := hs_lt 4 (show lo < 4294967296 by omega)
          have hxx := u32_xor_nat (y / 16) (hs 4 lo) (by omega) hhl
          have HX : Hid (hs (4 * (q + 1)) t = y / 16 ^^^ hs 4 lo) := by
            show hs (4 * (q + 1)) t = _
            rw [HS.out, hlo]
          obtain ⟨g, hg⟩ : ∃ g, g = hs 4 lo := ⟨_, rfl⟩
          rw [← hg] at hct hhl hxx HX
          rw [show ((y / 16 : Nat) : Int) = (y : Int) / 16 by omega] at hxx
          clear hlo hg
          go_wp2
          go_round
          case rel => exact ⟨q + 1, by omega, by go_num, by rw [HX.out]⟩
          case measure => simp [intOf]; omega
        · obtain rfl : q = 2 := by omega
          go_wp2
          go_round
          case rel => exact ⟨k + 1, by omega, by go_num, by rw [HR.out]⟩
          case measure => simp [intOf]; omega
    · obtain rfl : k = l.length := by omega
      rw [List.take_length] at hxl ⊢
      have hn2 := u32_not _ hxl
      rw [← HM.out] at hn2
      clear hr hr1
      obtain ⟨y, hy⟩ : ∃ y, y = more s (nats l) := ⟨_, rfl⟩
      rw [← hy] at hn2
      go_wp2
      go_ret
      exact ⟨ret_int rfl, hbb⟩
set_option maxHeartbeats 1000000 in
set_option maxRecDepth 100000 in
/-- The sum of pieces, one behind the other. -/
theorem sum_any (ao : Option Addr) (cap : Nat) (L : List (List Int)) (w : World) (hp : Pieces w ao L) (hu : ∀ l ∈ L, U8 l) (hlen : L.length ≤ 9223372036854775807) (hall : ∀ l ∈ L, l.length ≤ 9223372036854775807) :
    Calls Try.prog 30 #[.slice ao L.length cap] w fun e w' => e = .returned (.int .u32 (sum (nats L.flatten) : Nat)) ∧ Below w.heap.size w w' := by
  go_enter Try.func30, Try.ntmps30
  go_wp2
  go_loopw [3, 8] (fun x i wr => ∃ k : Nat, k ≤ L.length ∧ i = .int .i64 k ∧ x = .int .u32 (sum (nats (L.take k).flatten) : Nat) ∧ Below w.heap.size w wr) (fun _ i _ => L.length - (intOf i).toNat)
  case atStart => exact ⟨0, by omega, rfl, int_eq (show (0 : Int) = ((sum [] : Nat) : Int) by rw [sum_nil]; rfl), Below.refl _ _⟩
  case round =>
    obtain ⟨k, hk, rfl, rfl, hb⟩ := hrel
    by_cases h : k < L.length
    · obtain ⟨l, hl⟩ : ∃ l, L[k]? = some l := ⟨_, List.getElem?_eq_getElem h⟩
      have hlm := List.mem_of_getElem? hl
      obtain ⟨ab, off, aj, cj, rfl, hc, hr, hn⟩ := (hp.below hb).at hl
      have hxl := sum_lt (nats_bytes (U8.flat hu k))
      have HS : Hid (sum (nats (L.take (k + 1)).flatten) = more (sum (nats (L.take k).flatten)) (nats l)) := by
        show sum (nats (L.take (k + 1)).flatten) = _
        rw [flat_snoc L k l hl, nats_append, more_sum]
      obtain ⟨x, hx⟩ : ∃ x, x = sum (nats (L.take k).flatten) := ⟨_, rfl⟩
      rw [← hx] at hxl HS ⊢
      have hc9 := more_any x aj cj l wr hxl hr (hu l hlm) (hall l hlm)
      clear hx hl hp
      go_wp2_with (go_at_call 32; refine hc9.mono ?_; rintro e w1 ⟨rfl, hb1⟩)
      go_roundw
      case rel => exact ⟨k + 1, by omega, by go_num, by rw [HS.out], hb.trans (hb1.mono hb.size)⟩
      case measure => simp [intOf]; omega
    · obtain rfl : k = L.length := by omega
      rw [List.take_length]
      clear hp
      go_wp2
      go_ret
      exact ⟨rfl, hb⟩

/-- The sum of one piece. -/
theorem sum_one {w : World} {B n c1 : Nat} {a1 : Option Addr} {l : List Int} {t : TypeId} (x : Nat) (hx : sum (nats l) = x) (hB : w.heap.size = B) (hl : l.length = n) (hr : Rd w a1 l) (hn : a1 = none → c1 = 0) (hu : U8 l) (hlen : n ≤ 9223372036854775807) :
    Calls Try.prog 30 #[.slice (some ⟨B, 0, none⟩) 1 1] (w.alloc (.cells #[.slice a1 n c1] t)) fun e w' => e = .returned (.int .u32 (x : Nat)) ∧ Below w.heap.size w w' := by
  subst hB hl hx
  refine (sum_any (some ⟨w.heap.size, 0, none⟩) 1 [l] _ (Pieces.one a1 c1 l t hr hn) (by simpa using hu) (by simp) (by simpa using hlen)).mono ?_
  rintro e w' ⟨rfl, hb⟩
  exact ⟨by simp, ((Below.refl _ _).alloc (Nat.le_refl _) _).trans (hb.mono (by simp))⟩
/-- The sum of two. -/
theorem sum_two {w : World} {B n1 n2 c1 c2 : Nat} {a1 a2 : Option Addr} {l1 l2 : List Int} {t : TypeId} (x : Nat) (hx : sum (nats (l1 ++ l2)) = x) (hB : w.heap.size = B) (hl1 : l1.length = n1) (hl2 : l2.length = n2) (hr1 : Rd w a1 l1) (hn1 : a1 = none → c1 = 0) (hr2 : Rd w a2 l2) (hn2 : a2 = none → c2 = 0) (hu1 : U8 l1) (hu2 : U8 l2) (h1 : n1 ≤ 9223372036854775807) (h2 : n2 ≤ 9223372036854775807) :
    Calls Try.prog 30 #[.slice (some ⟨B, 0, none⟩) 2 2] (w.alloc (.cells #[.slice a1 n1 c1, .slice a2 n2 c2] t)) fun e w' => e = .returned (.int .u32 (x : Nat)) ∧ Below w.heap.size w w' := by
  subst hB hl1 hl2 hx
  refine (sum_any (some ⟨w.heap.size, 0, none⟩) 2 [l1, l2] _ (Pieces.two a1 a2 c1 c2 l1 l2 t hr1 hr2 hn1 hn2) (by simp; exact ⟨hu1, hu2⟩) (by simp) (by simp; exact ⟨h1, h2⟩)).mono ?_
  rintro e w' ⟨rfl, hb⟩
  exact ⟨by simp, ((Below.refl _ _).alloc (Nat.le_refl _) _).trans (hb.mono (by simp))⟩
set_option maxHeartbeats 400000 in
set_option maxRecDepth 100000 in
/-- The document's sum of bytes behind others. -/
theorem refMore_any (s : Nat) (ao : Option Addr) (cap : Nat) (l : List Int) (w : World) (hs0 : s < 4294967296) (hr : Rd w ao l) (hl : U8 l) (hlen : l.length ≤ 9223372036854775807) :
    Calls Try.prog 31 #[.int .u32 s, .slice ao l.length cap] w fun e w' => e = .returned (.int .u32 (more s (nats l) : Nat)) ∧ w' = w := by
  have hn := u32_xor_nat s 4294967295 hs0 (by decide)
  have hx0 : s ^^^ 4294967295 < 4294967296 := xor_lt hs0 (by decide)
  have HM : Hid (more s (nats l) = regs (s ^^^ 4294967295) (nats l) ^^^ 4294967295) := rfl
  obtain ⟨s0, he⟩ : ∃ s0, s0 = s ^^^ 4294967295 := ⟨_, rfl⟩
  rw [← he] at hn hx0 HM
  clear he
  go_enter Try.func31, Try.ntmps31
  go_wp2
  go_loop [5, 6] (fun x i => ∃ k : Nat, k ≤ l.length ∧ i = .int .i64 k ∧ x = .int .u32 (regs s0 (nats (l.take k)) : Nat)) (fun _ i => l.length - (intOf i).toNat)
  case atStart => exact ⟨0, by omega, rfl, int_eq hn⟩
  case round =>
    obtain ⟨k, hk, rfl, rfl⟩ := hrel
    have hxl := regs_lt (nats (l.take k)) hx0 (nats_bytes (hl.take k))
    by_cases h : k < l.length
    · obtain ⟨b, hb⟩ : ∃ b, l[k]? = some b := ⟨_, List.getElem?_eq_getElem h⟩
      have hb8 := hl b (List.mem_of_getElem? hb)
      have HR : Hid (regs s0 (nats (l.take (k + 1))) = hs 8 (regs s0 (nats (l.take k)) ^^^ b.toNat)) := by
        show regs s0 (nats (l.take (k + 1))) = _
        rw [nats_snoc hb, regs_snoc]
      obtain ⟨x, hx⟩ : ∃ x, x = regs s0 (nats (l.take k)) := ⟨_, rfl⟩
      rw [← hx] at HR hxl ⊢
      clear hx
      obtain ⟨c, rfl⟩ := Int.eq_ofNat_of_zero_le hb8.1
      have hcl : c < 4294967296 := by omega
      have hxc := u32_xor_nat x c hxl hcl
      have htl : x ^^^ c < 4294967296 := xor_lt hxl hcl
      rw [Int.toNat_natCast] at HR
      obtain ⟨t, ht⟩ : ∃ t, t = x ^^^ c := ⟨_, rfl⟩
      rw [← ht] at HR hxc htl
      clear ht
      obtain ⟨ab, aoff, rfl, hc⟩ := hr.at hb
      have hb8' : (c : Int) ≤ 255 := hb8.2
      have hmax : (c : Int) % 4294967296 = c := by omega
      clear hb hb8 hr hn
      go_wp2_with (go_at_call 33; refine (step_any t _ htl).mono ?_; rintro e w' ⟨rfl, rfl⟩)
      go_round
      case rel => exact ⟨k + 1, by omega, by go_num, by rw [HR.out]⟩
      case measure => simp [intOf]; omega
    · obtain rfl : k = l.length := by omega
      rw [List.take_length] at hxl ⊢
      have hn2 := u32_xor_nat _ 4294967295 hxl (by decide)
      rw [← HM.out] at hn2
      clear hr hn
      go_wp2
      go_ret
      exact ⟨ret_int hn2, rfl⟩

set_option maxHeartbeats 400000 in
set_option maxRecDepth 100000 in
theorem refSum_any (ao : Option Addr) (cap : Nat) (l : List Int) (w : World) (hr : Rd w ao l) (hl : U8 l) (hlen : l.length ≤ 9223372036854775807) :
    Calls Try.prog 26 #[.slice ao l.length cap] w fun e w' => e = .returned (.int .u32 (sum (nats l) : Nat)) ∧ w' = w := by
  have hc := refMore_any 0 ao cap l w (by decide) hr hl hlen
  rw [← sum_more] at hc
  obtain ⟨x, hx⟩ : ∃ x, x = sum (nats l) := ⟨_, rfl⟩
  rw [← hx] at hc ⊢
  clear hx
  go_enter Try.func26, Try.ntmps26
  go_wp2_with (go_at_call 31; refine hc.mono ?_; rintro e w1 ⟨rfl, rfl⟩)
  go_ret
  exact ⟨rfl, rfl⟩


end Go.Proofs.Ytmabfaldndlneaa
