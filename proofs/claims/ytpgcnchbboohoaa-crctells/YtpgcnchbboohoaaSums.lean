/-
  WALKS over sums of pieces, and over the document's own sums and noughts.
-/
import Derived.Test.YtpgcnchbboohoaaMore
namespace Go.Proofs.Ytpgcnchbboohoaa
open Go.RowKit Crc

/-- Behind this address lie slices of bytes, each of which can be read. -/
def Pieces (w : World) (ao : Option Addr) (L : List (List Int)) : Prop :=
  (ao = none → L = []) ∧ ∀ a, ao = some a → ∀ j l, L[j]? = some l → ∃ aj cj, w.cell? (a.add j) = some (.slice aj l.length cj) ∧ Rd w aj l ∧ (aj = none → cj = 0)

theorem Pieces.below {w w' : World} {ao : Option Addr} {L : List (List Int)} (h : Pieces w ao L) (hb : Below w.heap.size w w') : Pieces w' ao L :=
  ⟨h.1, fun a ha j l hj => by
    obtain ⟨aj, cj, hc, hr, hn⟩ := h.2 a ha j l hj
    exact ⟨aj, cj, by rw [hb.cell (World.block_lt_of_cell? w _ hc)]; exact hc, hr.below hb, hn⟩⟩
theorem Pieces.at {w : World} {ao : Option Addr} {L : List (List Int)} (h : Pieces w ao L) {k : Nat} {l : List Int} (hl : L[k]? = some l) :
    ∃ ab off aj cj, ao = some ⟨ab, off, none⟩ ∧ w.cell? ⟨ab, off + k, none⟩ = some (.slice aj l.length cj) ∧ Rd w aj l ∧ (aj = none → cj = 0) := by
  cases ao with
  | none => have := h.1 rfl; subst this; simp at hl
  | some a =>
    obtain ⟨ab, off, sp⟩ := a
    have hL : 0 < L.length := by have := (List.getElem?_eq_some_iff.1 hl).1; omega
    obtain ⟨_, _, h0, _⟩ := h.2 _ rfl 0 L[0] (List.getElem?_eq_getElem hL)
    simp only [Addr.add, if_true] at h0
    have hs : sp = none := World.cell?_spot h0
    subst hs
    obtain ⟨aj, cj, hk, hr, hn⟩ := h.2 _ rfl k l hl
    rw [add_lit] at hk
    exact ⟨ab, off, aj, cj, rfl, hk, hr, hn⟩
theorem Pieces.one {w : World} (a1 : Option Addr) (c1 : Nat) (l1 : List Int) (t : TypeId) (h1 : Rd w a1 l1) (n1 : a1 = none → c1 = 0) :
    Pieces (w.alloc (.cells #[.slice a1 l1.length c1] t)) (some ⟨w.heap.size, 0, none⟩) [l1] := by
  have hb : Below w.heap.size w (w.alloc (.cells #[.slice a1 l1.length c1] t)) := (Below.refl _ _).alloc (Nat.le_refl _) _
  refine ⟨by simp, ?_⟩
  intro a ha j l hj
  cases ha
  match j, hj with
  | 0, hj => simp at hj; subst hj; exact ⟨a1, c1, by rw [add_lit]; simp [go_sem], h1.below hb, n1⟩
theorem Pieces.two {w : World} (a1 a2 : Option Addr) (c1 c2 : Nat) (l1 l2 : List Int) (t : TypeId) (h1 : Rd w a1 l1) (h2 : Rd w a2 l2) (n1 : a1 = none → c1 = 0) (n2 : a2 = none → c2 = 0) :
    Pieces (w.alloc (.cells #[.slice a1 l1.length c1, .slice a2 l2.length c2] t)) (some ⟨w.heap.size, 0, none⟩) [l1, l2] := by
  have hb : Below w.heap.size w (w.alloc (.cells #[.slice a1 l1.length c1, .slice a2 l2.length c2] t)) := (Below.refl _ _).alloc (Nat.le_refl _) _
  refine ⟨by simp, ?_⟩
  intro a ha j l hj
  cases ha
  match j, hj with
  | 0, hj => simp at hj; subst hj; exact ⟨a1, c1, by rw [add_lit]; simp [go_sem], h1.below hb, n1⟩
  | 1, hj => simp at hj; subst hj; exact ⟨a2, c2, by rw [add_lit]; simp [go_sem], h2.below hb, n2⟩

theorem flat_snoc (L : List (List Int)) (k : Nat) (l : List Int) (h : L[k]? = some l) : (L.take (k + 1)).flatten = (L.take k).flatten ++ l := by
  obtain ⟨hk, rfl⟩ := List.getElem?_eq_some_iff.1 h
  rw [List.take_succ_eq_append_getElem hk, List.flatten_append]; simp
theorem U8.flat {L : List (List Int)} (h : ∀ l ∈ L, U8 l) (k : Nat) : U8 (L.take k).flatten := by
  intro y hy
  obtain ⟨l, hl, hyl⟩ := List.mem_flatten.1 hy
  exact h l (List.mem_of_mem_take hl) y hyl

set_option maxHeartbeats 1000000 in
set_option maxRecDepth 100000 in
/-- The sum of pieces, one behind the other. -/
theorem sum_any (ao : Option Addr) (cap : Nat) (L : List (List Int)) (w : World) (hp : Pieces w ao L) (hu : ∀ l ∈ L, U8 l) (hlen : L.length ≤ 9223372036854775807) (hall : ∀ l ∈ L, l.length ≤ 9223372036854775807) :
    Calls Try.prog 7 #[.slice ao L.length cap] w fun e w' => e = .returned (.int .u32 (sum (nats L.flatten) : Nat)) ∧ Below w.heap.size w w' := by
  go_enter Try.func7, Try.ntmps7
  go_wp2
  go_loopw [3, 8] (fun x i wr => ∃ k : Nat, k ≤ L.length ∧ i = .int .i64 k ∧ x = .int .u32 (sum (nats (L.take k).flatten) : Nat) ∧ Below w.heap.size w wr) (fun _ i _ => L.length - (intOf i).toNat)
  case atStart => exact ⟨0, by omega, rfl, int_eq (show (0 : Int) = ((sum [] : Nat) : Int) by rw [sum_nil]; rfl), Below.refl _ _⟩
  case round =>
    obtain ⟨k, hk, rfl, rfl, hb⟩ := hrel
    by_cases h : k < L.length
    · obtain ⟨l, hl⟩ : ∃ l, L[k]? = some l := ⟨_, List.getElem?_eq_getElem h⟩
      have hlm := List.mem_of_getElem? hl
      obtain ⟨ab, off, aj, cj, rfl, hc, hr, hn⟩ := (hp.below hb).at hl
      have hxl := sum_lt (nats_bytes (U8.flat hu k))
      have HS : Hid (sum (nats (L.take (k + 1)).flatten) = more (sum (nats (L.take k).flatten)) (nats l)) := by
        show sum (nats (L.take (k + 1)).flatten) = _
        rw [flat_snoc L k l hl, nats_append, more_sum]
      obtain ⟨x, hx⟩ : ∃ x, x = sum (nats (L.take k).flatten) := ⟨_, rfl⟩
      rw [← hx] at hxl HS ⊢
      have hc9 := more_any x aj cj l wr hxl hr (hu l hlm) (hall l hlm)
      clear hx hl hp
      go_wp2_with (go_at_call 9; refine hc9.mono ?_; rintro e w1 ⟨rfl, hb1⟩)
      go_roundw
      case rel => exact ⟨k + 1, by omega, by go_num, by rw [HS.out], hb.trans (hb1.mono hb.size)⟩
      case measure => simp [intOf]; omega
    · obtain rfl : k = L.length := by omega
      rw [List.take_length]
      clear hp
      go_wp2
      go_ret
      exact ⟨rfl, hb⟩

/-- The sum of one piece. -/
theorem sum_one {w : World} {B n c1 : Nat} {a1 : Option Addr} {l : List Int} {t : TypeId} (x : Nat) (hx : sum (nats l) = x) (hB : w.heap.size = B) (hl : l.length = n) (hr : Rd w a1 l) (hn : a1 = none → c1 = 0) (hu : U8 l) (hlen : n ≤ 9223372036854775807) :
    Calls Try.prog 7 #[.slice (some ⟨B, 0, none⟩) 1 1] (w.alloc (.cells #[.slice a1 n c1] t)) fun e w' => e = .returned (.int .u32 (x : Nat)) ∧ Below w.heap.size w w' := by
  subst hB hl hx
  refine (sum_any (some ⟨w.heap.size, 0, none⟩) 1 [l] _ (Pieces.one a1 c1 l t hr hn) (by simpa using hu) (by simp) (by simpa using hlen)).mono ?_
  rintro e w' ⟨rfl, hb⟩
  exact ⟨by simp, ((Below.refl _ _).alloc (Nat.le_refl _) _).trans (hb.mono (by simp))⟩
/-- The sum of two. -/
theorem sum_two {w : World} {B n1 n2 c1 c2 : Nat} {a1 a2 : Option Addr} {l1 l2 : List Int} {t : TypeId} (x : Nat) (hx : sum (nats (l1 ++ l2)) = x) (hB : w.heap.size = B) (hl1 : l1.length = n1) (hl2 : l2.length = n2) (hr1 : Rd w a1 l1) (hn1 : a1 = none → c1 = 0) (hr2 : Rd w a2 l2) (hn2 : a2 = none → c2 = 0) (hu1 : U8 l1) (hu2 : U8 l2) (h1 : n1 ≤ 9223372036854775807) (h2 : n2 ≤ 9223372036854775807) :
    Calls Try.prog 7 #[.slice (some ⟨B, 0, none⟩) 2 2] (w.alloc (.cells #[.slice a1 n1 c1, .slice a2 n2 c2] t)) fun e w' => e = .returned (.int .u32 (x : Nat)) ∧ Below w.heap.size w w' := by
  subst hB hl1 hl2 hx
  refine (sum_any (some ⟨w.heap.size, 0, none⟩) 2 [l1, l2] _ (Pieces.two a1 a2 c1 c2 l1 l2 t hr1 hr2 hn1 hn2) (by simp; exact ⟨hu1, hu2⟩) (by simp) (by simp; exact ⟨h1, h2⟩)).mono ?_
  rintro e w' ⟨rfl, hb⟩
  exact ⟨by simp, ((Below.refl _ _).alloc (Nat.le_refl _) _).trans (hb.mono (by simp))⟩
/-- A contract on bytes whose length is a letter of its own, and whose answer has a name. -/
theorem more_at {w : World} {ao : Option Addr} {n cap s : Nat} {l : List Int} (x : Nat) (hx : more s (nats l) = x) (hl : l.length = n) (hs0 : s < 4294967296) (hr : Rd w ao l) (hu : U8 l) (hlen : n ≤ 9223372036854775807) :
    Calls Try.prog 9 #[.int .u32 s, .slice ao n cap] w fun e w' => e = .returned (.int .u32 (x : Nat)) ∧ Below w.heap.size w w' := by
  subst hl hx
  exact more_any s ao cap l w hs0 hr hu hlen

set_option maxHeartbeats 400000 in
set_option maxRecDepth 100000 in
theorem holds_any {a1 : Option Addr} {n c1 : Nat} {l : List Int} {s : Nat} {w : World} (x : Nat) (hx : sum (nats l) = x) (hl : l.length = n) (hr : Rd w a1 l) (hn : a1 = none → c1 = 0) (hu : U8 l) (hlen : n ≤ 9223372036854775807) :
    Calls Try.prog 11 #[.slice a1 n c1, .int .u32 s] w fun e w' => e = .returned (.bool (decide ((x : Int) = (s : Int)))) ∧ Below w.heap.size w w' := by
  have hc := sum_one (t := 24) x hx rfl hl hr hn hu hlen
  clear hx hl
  go_enter Try.func11, Try.ntmps11
  go_wp2_with (go_at_call 7; refine hc.mono ?_; rintro e w1 ⟨rfl, hb1⟩)
  go_ret
  exact ⟨rfl, hb1⟩

set_option maxHeartbeats 400000 in
set_option maxRecDepth 100000 in
/-- The document's sum of bytes behind others. -/
theorem refMore_any (s : Nat) (ao : Option Addr) (cap : Nat) (l : List Int) (w : World) (hs0 : s < 4294967296) (hr : Rd w ao l) (hl : U8 l) (hlen : l.length ≤ 9223372036854775807) :
    Calls Try.prog 10 #[.int .u32 s, .slice ao l.length cap] w fun e w' => e = .returned (.int .u32 (more s (nats l) : Nat)) ∧ w' = w := by
  have hn := u32_xor_nat s 4294967295 hs0 (by decide)
  have hx0 : s ^^^ 4294967295 < 4294967296 := xor_lt hs0 (by decide)
  have HM : Hid (more s (nats l) = regs (s ^^^ 4294967295) (nats l) ^^^ 4294967295) := rfl
  obtain ⟨s0, he⟩ : ∃ s0, s0 = s ^^^ 4294967295 := ⟨_, rfl⟩
  rw [← he] at hn hx0 HM
  clear he
  go_enter Try.func10, Try.ntmps10
  go_wp2
  go_loop [5, 6] (fun x i => ∃ k : Nat, k ≤ l.length ∧ i = .int .i64 k ∧ x = .int .u32 (regs s0 (nats (l.take k)) : Nat)) (fun _ i => l.length - (intOf i).toNat)
  case atStart => exact ⟨0, by omega, rfl, int_eq hn⟩
  case round =>
    obtain ⟨k, hk, rfl, rfl⟩ := hrel
    have hxl := regs_lt (nats (l.take k)) hx0 (nats_bytes (hl.take k))
    by_cases h : k < l.length
    · obtain ⟨b, hb⟩ : ∃ b, l[k]? = some b := ⟨_, List.getElem?_eq_getElem h⟩
      have hb8 := hl b (List.mem_of_getElem? hb)
      have HR : Hid (regs s0 (nats (l.take (k + 1))) = hs 8 (regs s0 (nats (l.take k)) ^^^ b.toNat)) := by
        show regs s0 (nats (l.take (k + 1))) = _
        rw [nats_snoc hb, regs_snoc]
      obtain ⟨x, hx⟩ : ∃ x, x = regs s0 (nats (l.take k)) := ⟨_, rfl⟩
      rw [← hx] at HR hxl ⊢
      clear hx
      obtain ⟨c, rfl⟩ := Int.eq_ofNat_of_zero_le hb8.1
      have hcl : c < 4294967296 := by omega
      have hxc := u32_xor_nat x c hxl hcl
      have htl : x ^^^ c < 4294967296 := xor_lt hxl hcl
      rw [Int.toNat_natCast] at HR
      obtain ⟨t, ht⟩ : ∃ t, t = x ^^^ c := ⟨_, rfl⟩
      rw [← ht] at HR hxc htl
      clear ht
      obtain ⟨ab, aoff, rfl, hc⟩ := hr.at hb
      have hb8' : (c : Int) ≤ 255 := hb8.2
      have hmax : (c : Int) % 4294967296 = c := by omega
      clear hb hb8 hr hn
      go_wp2_with (go_at_call 18; refine (step_any t _ htl).mono ?_; rintro e w' ⟨rfl, rfl⟩)
      go_round
      case rel => exact ⟨k + 1, by omega, by go_num, by rw [HR.out]⟩
      case measure => simp [intOf]; omega
    · obtain rfl : k = l.length := by omega
      rw [List.take_length] at hxl ⊢
      have hn2 := u32_xor_nat _ 4294967295 hxl (by decide)
      rw [← HM.out] at hn2
      clear hr hn
      go_wp2
      go_ret
      exact ⟨ret_int hn2, rfl⟩

set_option maxHeartbeats 400000 in
set_option maxRecDepth 100000 in
theorem refSum_any (ao : Option Addr) (cap : Nat) (l : List Int) (w : World) (hr : Rd w ao l) (hl : U8 l) (hlen : l.length ≤ 9223372036854775807) :
    Calls Try.prog 8 #[.slice ao l.length cap] w fun e w' => e = .returned (.int .u32 (sum (nats l) : Nat)) ∧ w' = w := by
  have hc := refMore_any 0 ao cap l w (by decide) hr hl hlen
  rw [← sum_more] at hc
  obtain ⟨x, hx⟩ : ∃ x, x = sum (nats l) := ⟨_, rfl⟩
  rw [← hx] at hc ⊢
  clear hx
  go_enter Try.func8, Try.ntmps8
  go_wp2_with (go_at_call 10; refine hc.mono ?_; rintro e w1 ⟨rfl, rfl⟩)
  go_ret
  exact ⟨rfl, rfl⟩

set_option maxHeartbeats 400000 in
set_option maxRecDepth 100000 in
theorem refZeros_any (s : Nat) (n : Int) (w : World) (hs0 : s < 4294967296) (h0 : -9223372036854775808 ≤ n) (h1 : n ≤ 9223372036854775807) :
    Calls Try.prog 14 #[.int .u32 s, .int .i64 n] w fun e w' => e = .returned (.int .u32 (hs (8 * n.toNat) (s ^^^ full) ^^^ full : Nat)) ∧ w' = w := by
  have hn := u32_xor_nat s 4294967295 hs0 (by decide)
  have hx0 : s ^^^ full < 4294967296 := xor_lt hs0 (by decide)
  obtain ⟨s0, he⟩ : ∃ s0, s0 = s ^^^ full := ⟨_, rfl⟩
  rw [show s ^^^ 4294967295 = s0 from he.symm] at hn
  rw [← he] at hx0 ⊢
  clear he
  go_enter Try.func14, Try.ntmps14
  go_wp2
  go_loop [5, 6] (fun x i => ∃ k : Nat, k ≤ n.toNat ∧ i = .int .i64 k ∧ x = .int .u32 (hs (8 * k) s0 : Nat)) (fun _ i => n.toNat - (intOf i).toNat)
  case atStart => exact ⟨0, by omega, rfl, int_eq hn⟩
  case round =>
    obtain ⟨k, hk, rfl, rfl⟩ := hrel
    have hxl := hs_lt (8 * k) hx0
    by_cases h : k < n.toNat
    · have HR : Hid (hs (8 * (k + 1)) s0 = hs 8 (hs (8 * k) s0)) := by show hs (8 * (k + 1)) s0 = _; rw [Nat.mul_add, hs_add]
      obtain ⟨x, hx⟩ : ∃ x, x = hs (8 * k) s0 := ⟨_, rfl⟩
      rw [← hx] at HR hxl ⊢
      clear hx hn
      have hlt : (k : Int) < n := by omega
      go_wp2_with (go_at_call 18; refine (step_any x _ hxl).mono ?_; rintro e w' ⟨rfl, rfl⟩)
      go_round
      case rel => exact ⟨k + 1, by omega, by go_num, by rw [HR.out]⟩
      case measure => simp [intOf]; omega
    · obtain rfl : k = n.toNat := by omega
      have hn2 := u32_xor_nat _ 4294967295 hxl (by decide)
      have hlt : ¬ ((n.toNat : Nat) : Int) < n := by omega
      clear hn
      go_wp2
      go_ret
      exact ⟨ret_int hn2, rfl⟩
end Go.Proofs.Ytpgcnchbboohoaa
