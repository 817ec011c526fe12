/-
  WALKS over the sum of bytes behind others: the program's and the document's.
-/
import Derived.Test.YtpgcnchbboohoaaFarZ
namespace Go.Proofs.Ytpgcnchbboohoaa
open Go.RowKit Crc

/-- Bytes as plain numbers. -/
def nats (l : List Int) : List Nat := l.map Int.toNat
def U8 (l : List Int) : Prop := ∀ y ∈ l, 0 ≤ y ∧ y ≤ 255
theorem nats_length (l : List Int) : (nats l).length = l.length := by simp [nats]
theorem nats_append (l m : List Int) : nats (l ++ m) = nats l ++ nats m := by simp [nats]
theorem nats_bytes {l : List Int} (h : U8 l) : Bytes (nats l) := by
  intro b hb
  simp only [nats, List.mem_map] at hb
  obtain ⟨y, hy, rfl⟩ := hb
  have := h y hy
  omega
theorem U8.take {l : List Int} (h : U8 l) (k : Nat) : U8 (l.take k) := fun y hy => h y (List.mem_of_mem_take hy)
theorem nats_snoc {l : List Int} {k : Nat} {b : Int} (h : l[k]? = some b) : nats (l.take (k + 1)) = nats (l.take k) ++ [b.toNat] := by
  obtain ⟨hk, rfl⟩ := List.getElem?_eq_some_iff.1 h
  rw [List.take_succ_eq_append_getElem hk, nats_append]; rfl
theorem regs_snoc (s : Nat) (l : List Nat) (b : Nat) : regs s (l ++ [b]) = hs 8 (regs s l ^^^ b) := by rw [regs_append]; rfl
theorem u32_and15 (t : Nat) (h : t < 4294967296) : ∃ lo : Nat, lo = t % 16 ∧ lo < 16 ∧ bits .and .u32 (t : Int) 15 = (lo : Int) := by
  refine ⟨t % 16, rfl, by omega, ?_⟩
  have := u32_and_nat t 15 h (by decide)
  rw [show (15 : Nat) = 2 ^ 4 - 1 from rfl, Nat.and_two_pow_sub_one_eq_mod] at this
  exact this

/-- A byte of what can be read. -/
theorem Rd.at {w : World} {ao : Option Addr} {l : List Int} (h : Rd w ao l) {k : Nat} {b : Int} (hb : l[k]? = some b) : ∃ ab off, ao = some ⟨ab, off, none⟩ ∧ w.cell? ⟨ab, off + k, none⟩ = some (.int .u8 b) := by
  cases ao with
  | none => have := h.1 rfl; subst this; simp at hb
  | some a =>
    obtain ⟨ab, off, sp⟩ := a
    have hl : 0 < l.length := by have := (List.getElem?_eq_some_iff.1 hb).1; omega
    have h0 := h.2 _ rfl 0 (.int .u8 l[0]) (by rw [u8s_get, List.getElem?_eq_getElem hl]; rfl)
    simp only [Addr.add, if_true] at h0
    have hs : sp = none := World.cell?_spot h0
    subst hs
    have hk := h.2 _ rfl k (.int .u8 b) (by rw [u8s_get, hb]; rfl)
    rw [add_lit] at hk
    exact ⟨ab, off, rfl, hk⟩

set_option maxHeartbeats 1000000 in
set_option maxRecDepth 100000 in
theorem more_any (s : Nat) (ao : Option Addr) (cap : Nat) (l : List Int) (w : World) (hs0 : s < 4294967296) (hr : Rd w ao l) (hl : U8 l) (hlen : l.length ≤ 9223372036854775807) :
    Calls Try.prog 9 #[.int .u32 s, .slice ao l.length cap] w fun e w' => e = .returned (.int .u32 (more s (nats l) : Nat)) ∧ Below w.heap.size w w' := by
  obtain ⟨hz, hi⟩ := zero_of_info (P := Try.prog) Try.info38
  have hn := u32_not s hs0
  have hx0 : s ^^^ full < 4294967296 := xor_lt hs0 (by decide)
  have HM : Hid (more s (nats l) = regs (s ^^^ full) (nats l) ^^^ full) := rfl
  obtain ⟨s0, he⟩ : ∃ s0, s0 = s ^^^ full := ⟨_, rfl⟩
  rw [← he] at hn hx0 HM
  clear he
  have hsg : IntKind.u32.signed = false := rfl
  go_enter Try.func9, Try.ntmps9
  go_wp2_with (first
    | (go_at_call 17; refine (halves_any _).mono ?_; rintro e w1 ⟨rfl, hb1⟩)
    | refine wpList_store_new 38 (.tmp 5) (.tmp 10) _ 16 (tab 16 (hs 4) 16) rfl rfl rfl rfl rfl hi (tab_length _ _ _) (by simp) rfl (tab_one _ _ _) ?_)
  have hr1 := hr.below (hb1.alloc hb1.size (.cells (tab 16 (hs 4) 16).toArray 38))
  have hrt := rangeAt_new w1 (tab 16 (hs 4) 16) 38
  have hbb := hb1.alloc hb1.size (.cells (tab 16 (hs 4) 16).toArray 38)
  obtain ⟨W, hW⟩ : ∃ W, W = w1.alloc (.cells (tab 16 (hs 4) 16).toArray 38) := ⟨_, rfl⟩
  rw [← hW] at hr1 hrt hbb ⊢
  clear hW hb1
  go_loop [6, 15] (fun x i => ∃ k : Nat, k ≤ l.length ∧ i = .int .i64 k ∧ x = .int .u32 (regs s0 (nats (l.take k)) : Nat)) (fun _ i => l.length - (intOf i).toNat)
  case atStart => exact ⟨0, by omega, rfl, rfl⟩
  case round =>
    obtain ⟨k, hk, rfl, rfl⟩ := hrel
    have hxl := regs_lt (nats (l.take k)) hx0 (nats_bytes (hl.take k))
    by_cases h : k < l.length
    · obtain ⟨b, hb⟩ : ∃ b, l[k]? = some b := ⟨_, List.getElem?_eq_getElem h⟩
      have hb8 := hl b (List.mem_of_getElem? hb)
      have HR : Hid (regs s0 (nats (l.take (k + 1))) = hs 8 (regs s0 (nats (l.take k)) ^^^ b.toNat)) := by
        show regs s0 (nats (l.take (k + 1))) = _
        rw [nats_snoc hb, regs_snoc]
      obtain ⟨x, hx⟩ : ∃ x, x = regs s0 (nats (l.take k)) := ⟨_, rfl⟩
      rw [← hx] at HR hxl ⊢
      clear hx
      obtain ⟨c, rfl⟩ := Int.eq_ofNat_of_zero_le hb8.1
      have hcl : c < 4294967296 := by omega
      have hxc := u32_xor_nat x c hxl hcl
      have htl : x ^^^ c < 4294967296 := xor_lt hxl hcl
      rw [Int.toNat_natCast] at HR
      obtain ⟨t, ht⟩ : ∃ t, t = x ^^^ c := ⟨_, rfl⟩
      rw [← ht] at HR hxc htl
      clear ht
      obtain ⟨ab, aoff, rfl, hc⟩ := hr1.at hb
      have hb8' : (c : Int) ≤ 255 := hb8.2
      have hmax : (c : Int) % 4294967296 = c := by omega
      clear hb hb8 hr hr1
      go_wp2
      go_loop [6, 23] (fun y j => ∃ q : Nat, q ≤ 2 ∧ j = .int .i64 q ∧ y = .int .u32 (hs (4 * q) t : Nat)) (fun _ j => 2 - (intOf j).toNat)
      case atStart => exact ⟨0, by omega, rfl, rfl⟩
      case round =>
        obtain ⟨q, hq, rfl, rfl⟩ := hrel
        by_cases hq2 : q < 2
        · have hyl := hs_lt (4 * q) htl
          have HS : Hid (hs (4 * (q + 1)) t = hs (4 * q) t / 2 ^ 4 ^^^ hs 4 (hs (4 * q) t % 2 ^ 4)) := by
            show hs (4 * (q + 1)) t = _
            rw [Nat.mul_add, hs_add, hs_table 4]
          obtain ⟨y, hy⟩ : ∃ y, y = hs (4 * q) t := ⟨_, rfl⟩
          rw [← hy] at hyl HS ⊢
          clear hy
          obtain ⟨lo, hlo, hlo16, ha⟩ := u32_and15 y hyl
          have hct := rangeAt_cell (k := lo) hrt (by rw [tab_at hlo16, if_pos hlo16])
          have hhl := hs_lt 4 (show lo < 4294967296 by omega)
          have hxx := u32_xor_nat (y / 16) (hs 4 lo) (by omega) hhl
          have HX : Hid (hs (4 * (q + 1)) t = y / 16 ^^^ hs 4 lo) := by
            show hs (4 * (q + 1)) t = _
            rw [HS.out, hlo]
          obtain ⟨g, hg⟩ : ∃ g, g = hs 4 lo := ⟨_, rfl⟩
          rw [← hg] at hct hhl hxx HX
          rw [show ((y / 16 : Nat) : Int) = (y : Int) / 16 by omega] at hxx
          clear hlo hg
          go_wp2
          go_round
          case rel => exact ⟨q + 1, by omega, by go_num, by rw [HX.out]⟩
          case measure => simp [intOf]; omega
        · obtain rfl : q = 2 := by omega
          go_wp2
          go_round
          case rel => exact ⟨k + 1, by omega, by go_num, by rw [HR.out]⟩
          case measure => simp [intOf]; omega
    · obtain rfl : k = l.length := by omega
      rw [List.take_length] at hxl ⊢
      have hn2 := u32_not _ hxl
      rw [← HM.out] at hn2
      clear hr hr1
      obtain ⟨y, hy⟩ : ∃ y, y = more s (nats l) := ⟨_, rfl⟩
      rw [← hy] at hn2
      go_wp2
      go_ret
      exact ⟨ret_int rfl, hbb⟩
end Go.Proofs.Ytpgcnchbboohoaa
