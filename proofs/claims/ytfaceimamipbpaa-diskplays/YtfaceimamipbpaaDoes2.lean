/-
  WALKS over a step (does): Copy, Cut.
-/
import Derived.Test.YtfaceimamipbpaaDoes
import Derived.Test.YtfaceimamipbpaaCuts
namespace Go.Proofs.Ytfaceimamipbpaa
open Go.RowKit
set_option linter.unusedSimpArgs false

section
variable {B : Nat} {X : Nat → Prop} {w : World} {D R : Nat} {cap : Int} {beg : St} {log : List Wr}
set_option maxHeartbeats 1000000 in
set_option maxRecDepth 100000 in
theorem does_copy (h : Twin B X w D R cap beg log log) (n : Int) (so : Option Addr) (m sc : Nat) (hlog : log.length < 1000000) :
    Calls Try.prog 12 #[.pointer (some ⟨D, 0, none⟩), .pointer (some ⟨R, 0, none⟩), .agg #[.int .i64 5, .int .i64 n, .slice so m sc]] w (Did B w cap beg log) := by
  have hb0 : Below w.heap.size w (w.alloc (.cells #[.int .i64 5, .int .i64 n, .slice so m sc] 40)) := (Below.refl _ w).alloc (Nat.le_refl _) _
  have hs := h.size
  obtain ⟨Fd, Gd, Fr, Gr, p, r, a1, a2, a3, hB, hX⟩ := h.below hb0
  have H := hide (And.intro p (And.intro r (And.intro a1 (And.intro a2 (And.intro a3 (And.intro hB (And.intro hs hb0)))))))
  clear h hb0 p r a1 a2 a3 hB hX hs
  go_enter Try.func12, Try.ntmps12
  go_wp2_with (first
    | (go_at_call 30; refine (copy_any H.out.1 hlog).mono ?_; rintro e w1 ⟨C, Fc, Gc, rfl, pc, nF, gG, b1⟩; have H1 := hide (And.intro pc (And.intro nF (And.intro gG b1))); clear pc nF gG b1)
    | (go_at_call 18; refine (same_yes H1.out.1 (H.out.1.below H1.out.2.2.2) rfl).mono ?_; rintro e w2 ⟨rfl, nd, hw2⟩; have H2 := hide (hw2 ▸ below_drew w1 nd); clear hw2)
    | (go_at_call 15; refine (turn_call ((H.out.1.below H1.out.2.2.2).below H2.out) hlog).mono ?_; rintro e w3 ⟨rfl, hn3⟩))
  go_ret3
  obtain ⟨p, r, a1, a2, a3, hB, hs, hb0⟩ := H.out
  obtain ⟨pc, nF, gG, b1⟩ := H1.out
  have b2 := H2.out
  have s0 := hb0.size
  have s1 := b1.size
  have s2 := b2.size
  refine ⟨C, R, log, rfl, twin_copy (by omega) (fun k q => hB k (.inr q)) p r a1 a2 a3 pc nF gG b1 b2 hn3, Nat.le_succ _, ?_⟩
  obtain ⟨F', G', _, on, _, _⟩ := hn3
  exact (((hb0.mono hs).trans (b1.mono (by omega))).trans (b2.mono (by omega))).trans (on.belowB (fun k q => hB k (.inl q)) (by omega))

set_option maxHeartbeats 1000000 in
set_option maxRecDepth 100000 in
theorem does_cut_no (h : Twin B X w D R cap beg log log) (n : Int) (so : Option Addr) (m sc : Nat) (hn : n < 0 ∨ (log.length : Int) < n) :
    Calls Try.prog 12 #[.pointer (some ⟨D, 0, none⟩), .pointer (some ⟨R, 0, none⟩), .agg #[.int .i64 4, .int .i64 n, .slice so m sc]] w (Did B w cap beg log) := by
  have hb0 : Below w.heap.size w (w.alloc (.cells #[.int .i64 4, .int .i64 n, .slice so m sc] 40)) := (Below.refl _ w).alloc (Nat.le_refl _) _
  have hs := h.size
  have t0 := h.free.below hb0
  obtain ⟨Fd, Gd, Fr, Gr, p, r, a1, a2, a3, hB, hX⟩ := h.below hb0
  have hc : (w.alloc (.cells #[.int .i64 4, .int .i64 n, .slice so m sc] 40)).cell? ⟨w.heap.size, 1, none⟩ = some (.int .i64 n) := by rw [cell_of_row _ _ 1 _ 40 (0, 0) (heap_alloc_new w _)]; rfl
  have H := hide (And.intro p (And.intro r (And.intro t0 (And.intro hs hb0))))
  clear h hb0 p r a1 a2 a3 hB hX hs t0
  go_enter Try.func12, Try.ntmps12
  go_wp2_with (first
    | (go_at_call 17; refine (cut_no H.out.1 n hn).mono ?_; rintro e w1 ⟨rfl, b1⟩; have hc1 := (b1.cell (World.block_lt_of_cell? _ _ hc)).trans hc; have H1 := hide b1; clear b1)
    | (go_at_call 35; refine (rcut_no (H.out.2.1.below H1.out) n hn).mono ?_; rintro e w2 ⟨rfl, b2⟩))
  go_ret3
  obtain ⟨p, r, t0, hs, hb0⟩ := H.out
  have b1 := H1.out
  have s0 := hb0.size
  have s1 := b1.size
  exact ⟨D, R, log, rfl, (t0.below b1).below b2, Nat.le_succ _, ((hb0.mono hs).trans (b1.mono (by omega))).trans (b2.mono (by omega))⟩

set_option maxHeartbeats 1000000 in
set_option maxRecDepth 100000 in
theorem does_cut_yes (h : Twin B X w D R cap beg log log) (n : Nat) (so : Option Addr) (m sc : Nat) (hn : n ≤ log.length) (hlog : log.length < 1000000) :
    Calls Try.prog 12 #[.pointer (some ⟨D, 0, none⟩), .pointer (some ⟨R, 0, none⟩), .agg #[.int .i64 4, .int .i64 n, .slice so m sc]] w (Did B w cap beg log) := by
  have hb0 : Below w.heap.size w (w.alloc (.cells #[.int .i64 4, .int .i64 n, .slice so m sc] 40)) := (Below.refl _ w).alloc (Nat.le_refl _) _
  have hs := h.size
  obtain ⟨Fd, Gd, Fr, Gr, p, r, a1, a2, a3, hB, hX⟩ := h.below hb0
  have hc : (w.alloc (.cells #[.int .i64 4, .int .i64 n, .slice so m sc] 40)).cell? ⟨w.heap.size, 1, none⟩ = some (.int .i64 n) := by rw [cell_of_row _ _ 1 _ 40 (0, 0) (heap_alloc_new w _)]; rfl
  have H := hide (And.intro p (And.intro r (And.intro hB (And.intro hs hb0))))
  clear h hb0 p r a1 a2 a3 hB hX hs
  go_enter Try.func12, Try.ntmps12
  go_wp2_with (first
    | (go_at_call 17; refine (cut_yes H.out.1 n hn hlog).mono ?_; rintro e w1 ⟨C, Fc, Gc, rfl, pc, nF, gG, b1⟩; have hc1 := (b1.cell (World.block_lt_of_cell? _ _ hc)).trans hc; have H1 := hide (And.intro pc (And.intro nF (And.intro gG b1))); clear pc nF gG b1)
    | (go_at_call 35; refine (rcut_yes (H.out.2.1.below H1.out.2.2.2) n hn hlog).mono ?_; rintro e w2 ⟨Z, Fx, Gx, rfl, px, mF, mG, b2⟩; have H2 := hide (And.intro px (And.intro mF (And.intro mG b2))); clear px mF mG b2)
    | (go_at_call 13; refine (lay_call (((H.out.1.below H1.out.2.2.2).below H2.out.2.2.2).below ((Below.refl _ w2).alloc (Nat.le_refl _) (.cells #[.int .u8 1] 5))) 0 (some ⟨w2.heap.size, 0, none⟩) 1 [1] (rd_lit w2 [1] 5 (0, 0)) (by simp) (by intro b hb; simp at hb; subst hb; omega) (by simp) hlog).mono ?_; rintro e w3 ⟨rfl, hn3⟩))
  go_ret3
  obtain ⟨p, r, hB, hs, hb0⟩ := H.out
  obtain ⟨pc, nF, gG, b1⟩ := H1.out
  obtain ⟨px, mF, mG, b2⟩ := H2.out
  have s0 := hb0.size
  have s1 := b1.size
  have s2 := b2.size
  have bA : Below w2.heap.size w2 (w2.alloc (.cells #[.int .u8 1] 5)) := (Below.refl _ w2).alloc (Nat.le_refl _) _
  refine ⟨C, Z, log.take n, rfl, twin_cut (by omega) p pc nF gG b1 (px.below bA) mF mG (b2.trans (bA.mono s2)) hn3 rfl, by simp; omega, ?_⟩
  obtain ⟨F', G', _, on, _, _⟩ := hn3
  have sA := bA.size
  exact ((((hb0.mono hs).trans (b1.mono (by omega))).trans (b2.mono (by omega))).trans (bA.mono (by omega))).trans (on.belowB (fun k q => hB k (.inl q)) (by omega))
end
end Go.Proofs.Ytfaceimamipbpaa
