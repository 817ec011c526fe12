/-
  WALKS over the law's helper known (the chapter's rows), and the document's Join.
-/
import Derived.Test.YtpgcnchbboohoaaRefFar
import Derived.Test.YtpgcnchbboohoaaSums
import Derived.Lib.SlBytesConst
namespace Go.Proofs.Ytpgcnchbboohoaa
open Go.RowKit Crc

set_option maxHeartbeats 400000 in
set_option maxRecDepth 100000 in
theorem refJoin_any (a b N : Nat) (w : World) (ha : a < 4294967296) (hb0 : b < 4294967296) (hN : N < 9223372036854775808) :
    Calls Try.prog 16 #[.int .u32 a, .int .u32 b, .int .i64 N] w fun e w' => e = .returned (.int .u32 (hs (8 * N) a ^^^ b : Nat)) ∧ Below w.heap.size w w' := by
  have hy := hs_lt (8 * N) ha
  obtain ⟨y, hyy⟩ : ∃ y, y = hs (8 * N) a := ⟨_, rfl⟩
  have hc := far_any a N w ha hN
  rw [← hyy] at hy hc ⊢
  have hx := u32_xor_nat y b hy hb0
  obtain ⟨z, hz⟩ : ∃ z, z = y ^^^ b := ⟨_, rfl⟩
  rw [← hz] at hx ⊢
  clear hyy hz
  go_enter Try.func16, Try.ntmps16
  go_wp2_with (go_at_call 12; refine hc.mono ?_; rintro e w' ⟨rfl, hb⟩)
  go_ret
  exact ⟨rfl, hb⟩

theorem sum_none (w : World) : Calls Try.prog 7 #[.slice none 0 0] w fun e w' => e = .returned (.int .u32 0) ∧ Below w.heap.size w w' := by
  refine (sum_any none 0 [] w ⟨fun _ => rfl, by simp⟩ (by simp) (by simp) (by simp)).mono ?_
  rintro e w' ⟨rfl, hb⟩
  exact ⟨ret_int (show ((sum [] : Nat) : Int) = 0 by rw [sum_nil]; rfl), hb⟩

theorem rd_lit (w : World) (l : List Int) (t : TypeId) (fr : Nat × Nat) : Rd (w.alloc (.cells (u8s l).toArray t fr)) (some ⟨w.heap.size, 0, none⟩) l :=
  ⟨by simp, fun a ha j u hj => by
    cases ha
    rw [add_lit, cell_of_row _ _ (0 + j) (u8s l).toArray t fr (heap_alloc_last w _), Nat.zero_add]
    simpa using hj⟩
theorem rd_at {w : World} {B : Nat} (l : List Int) (t : TypeId) (fr : Nat × Nat) (hB : w.heap.size = B) : Rd (w.alloc (.cells (u8s l).toArray t fr)) (some ⟨B, 0, none⟩) l := by
  subst hB; exact rd_lit w l t fr
theorem Rd.alloc {w : World} {ao : Option Addr} {l : List Int} (h : Rd w ao l) (o : Obj) : Rd (w.alloc o) ao l := h.below ((Below.refl _ _).alloc (Nat.le_refl _) _)
theorem U8.lit {l : List Int} (h : l.all (fun y => decide (0 ≤ y) && decide (y ≤ 255)) = true) : U8 l := fun y hy => by
  have := List.all_eq_true.1 h y hy
  simpa using this

theorem conv_const (w : World) (C : Array Value) (n c B : Nat) (hB : w.heap.size = B) :
    (convert 24 24 (.slice (some ⟨B, 0, none⟩) n c)).run Try.prog (w.alloc (.cells C 5)) = .ok (.slice (some ⟨B, 0, none⟩) n c) (w.alloc (.cells C 5 (C.size, C.size + 1))) := by
  subst hB
  exact Lib.run_convert_bytes_const w 24 5 C n c Try.underlying24 Try.underlying5

theorem zeros_at {s x : Nat} {n : Int} (w : World) (hx : hs (8 * n.toNat) (s ^^^ full) ^^^ full = x) (hs0 : s < 4294967296) (h0 : -9223372036854775808 ≤ n) (h1 : n ≤ 9223372036854775807) :
    Calls Try.prog 13 #[.int .u32 s, .int .i64 n] w fun e w' => e = .returned (.int .u32 (x : Nat)) ∧ Below w.heap.size w w' := by
  subst hx; exact zeros_any s n w hs0 h0 h1
theorem join_at {a b x : Nat} {n : Int} (w : World) (hx : hs (8 * n.toNat) a ^^^ b = x) (ha : a < 4294967296) (hb0 : b < 4294967296) (h0 : -9223372036854775808 ≤ n) (h1 : n ≤ 9223372036854775807) :
    Calls Try.prog 15 #[.int .u32 a, .int .u32 b, .int .i64 n] w fun e w' => e = .returned (.int .u32 (x : Nat)) ∧ Below w.heap.size w w' := by
  subst hx; exact join_any a b n w ha hb0 h0 h1

set_option maxHeartbeats 1000000 in
set_option maxRecDepth 100000 in
theorem known_any (w : World) : Calls Try.prog 6 #[] w fun e w' => e = .returned (.bool true) ∧ Below w.heap.size w w' := by
  have kc := conv_const
  have k1 : sum (nats ([49, 50, 51, 52] ++ [53, 54, 55, 56, 57])) = 3808858755 := known1
  have u1 : U8 [49, 50, 51, 52] := U8.lit (by decide)
  have u2 : U8 [53, 54, 55, 56, 57] := U8.lit (by decide)
  go_enter Try.func6, Try.ntmps6
  go_wp2_with fail
  refine (sum_none _).mono ?_
  rintro e w1 ⟨rfl, hb1⟩
  go_wp2_with fail
  refine (sum_two 3808858755 k1 (by simp) rfl rfl ((rd_at [49, 50, 51, 52] 5 (4, 5) rfl).alloc _) (by simp) (rd_at [53, 54, 55, 56, 57] 5 (5, 6) (by simp)) (by simp) u1 u2 (by decide) (by decide)).mono ?_
  rintro e w2 ⟨rfl, hb2⟩
  have hw2 : Below w.heap.size w w2 := ((hb1.alloc hb1.size _).alloc (by have := hb1.size; simp; omega) _).trans (hb2.mono (by have := hb1.size; simp; omega))
  clear hb1 hb2 k1
  go_wp2_with fail
  refine (sum_one (sum (nats [49, 50, 51, 52, 53])) rfl (by simp) rfl (rd_at [49, 50, 51, 52, 53] 5 (5, 6) rfl) (by simp) (U8.lit (by decide)) (by decide)).mono ?_
  rintro e w3 ⟨rfl, hb3⟩
  have hw3 : Below w.heap.size w w3 := (hw2.alloc hw2.size _).trans (hb3.mono (by have := hw2.size; simp; omega))
  clear hb3
  have k2 : more (sum (nats [49, 50, 51, 52, 53])) (nats [54, 55, 56, 57]) = 3808858755 := known2
  have l2 : sum (nats [49, 50, 51, 52, 53]) < 4294967296 := sum_lt (nats_bytes (U8.lit (by decide)))
  go_wp2_with fail
  refine (more_at 3808858755 k2 rfl l2 (rd_at [54, 55, 56, 57] 5 (4, 5) rfl) (U8.lit (by decide)) (by decide)).mono ?_
  rintro e w4 ⟨rfl, hb4⟩
  have hw4 : Below w.heap.size w w4 := (hw3.alloc hw3.size _).trans (hb4.mono (by have := hw3.size; simp; omega))
  clear hb4 k2 l2
  go_wp2_with fail
  refine (zeros_at (s := 0) (n := 4) (x := 1214729159) _ known3 (by decide) (by decide) (by decide)).mono ?_
  rintro e w5 ⟨rfl, hb5⟩
  have hw5 := hw4.trans (hb5.mono hw4.size)
  go_wp2_with fail
  refine (zeros_at (s := 7) (n := -3) (x := 7) _ (by decide) (by decide) (by decide) (by decide)).mono ?_
  rintro e w6 ⟨rfl, hb6⟩
  have hw6 := hw5.trans (hb6.mono hw5.size)
  go_wp2_with fail
  refine (join_at (a := 9) (b := 0) (n := 0) (x := 9) _ (by decide) (by decide) (by decide) (by decide) (by decide)).mono ?_
  rintro e w7 ⟨rfl, hb7⟩
  have hw7 := hw6.trans (hb7.mono hw6.size)
  go_wp2_with fail
  refine (holds_any (s := 3251651376) 3251651376 (l := [97]) known4 rfl (rd_at [97] 5 (1, 2) rfl) (by simp) (U8.lit (by decide)) (by decide)).mono ?_
  rintro e w8 ⟨rfl, hb8⟩
  have hw8 : Below w.heap.size w w8 := (hw7.alloc hw7.size _).trans (hb8.mono (by have := hw7.size; simp; omega))
  go_wp2
  go_ret
  exact ⟨rfl, hw8⟩
end Go.Proofs.Ytpgcnchbboohoaa
