/-
  PARSESW: StampParses' walk.
-/
import Derived.Test.YtkjabnpniingnaaGreatDoorKnown
import Derived.Test.YtkjabnpniingnaaGreatDoorParse5
import Derived.Test.YtkjabnpniingnaaGreatDoorRefPN
import Derived.Test.YtkjabnpniingnaaGreatDoorRefPS
import Derived.Test.YtkjabnpniingnaaGreatDoorRefOK
import Derived.Test.YtkjabnpniingnaaGreatDoorEqs6
import Derived.BigCall
import Derived.BigGuard
import Derived.BigGuardPart
import Derived.BigRegion
namespace Go.Proofs.YtkjabnpniingnaaGreatDoor
open Go.RowKit Go.Shelf
set_option linter.unusedSimpArgs false

/-- Blocks that stand in a world. -/
def Blks (w wd : World) (L : List (Nat × Obj)) : Prop := (∀ p ∈ L, wd.heap[p.1]? = some p.2) ∧ Below w.heap.size w wd
theorem Blks.bel {w wd : World} {L : List (Nat × Obj)} (h : Blks w wd L) : Below w.heap.size w wd := h.2
theorem Blks.below {w wd w' : World} {L : List (Nat × Obj)} (h : Blks w wd L) (hb : Below wd.heap.size wd w') : Blks w w' L := ⟨fun p hp => (hb.block _ (Array.getElem?_eq_some_iff.1 (h.1 p hp)).1).trans (h.1 p hp), h.2.trans (hb.mono h.2.size)⟩
theorem Blks.step {w wd : World} {L : List (Nat × Obj)} (h : Blks w wd L) (o : Obj) : Blks w (wd.alloc o) ((wd.heap.size, o) :: L) := by
  refine ⟨fun p hp => ?_, h.2.alloc h.2.size o⟩
  rcases List.mem_cons.1 hp with rfl | hp
  · exact heap_alloc_new wd o
  · exact (Below.heap_alloc wd o _ (Array.getElem?_eq_some_iff.1 (h.1 p hp)).1).trans (h.1 p hp)
set_option maxHeartbeats 4000000 in
set_option maxRecDepth 100000 in
theorem parses_walk (s : ByteArray) (w : World) (hE : EnvE w) : Calls Tryz.prog 5 #[.string s] w fun e w' => e = .returned (.bool true) ∧ Below w.heap.size w w' := by
  have h9 : ∀ W, Below w.heap.size w W → Calls Tryz.prog 9 #[] W fun e w' => e = .returned (.bool true) ∧ Below W.heap.size W w' := fun W h => known_any W (hE.below h)
  have h26 := fun n W => num_any n W
  by_cases hl : 9000 < s.size
  · have hl2 : (9000 : Int) < (s.size : Int) := by omega
    go_enter Tryz.func5, Tryz.ntmps5
    go_wp2_with (go_at_call 9; refine (h9 _ (Below.refl _ _)).mono ?_; rintro e w2 ⟨rfl, b2⟩)
    go_ret
    exact ⟨rfl, b2⟩
  have hl2 : ¬ (9000 : Int) < (s.size : Int) := by omega
  have h42 : ∀ W, Below w.heap.size w W → Calls Tryz.prog 42 #[.string s] W fun e w' => e = .returned (.tuple #[bv (pbR s) (pbL s), .int .i64 (if pbV s then 0 else 4)]) ∧ Below W.heap.size W w' := fun W h => parseBranch_any s W (by omega) (hE.below h)
  have h43 : ∀ W, Below w.heap.size w W → Calls Tryz.prog 43 #[.string s] W fun e w' => e = .returned (.tuple #[bv (pbR s) (pbL s), .int .i64 (if pbV s then 0 else 4)]) ∧ Below W.heap.size W w' := fun W h => refParseBranch_any s W (by omega) (hE.below h)
  have h44 : ∀ W, Below w.heap.size w W → Calls Tryz.prog 44 #[.string s] W fun e w' => e = .returned (.tuple #[nv (pnR s) (pnL s) (pnN s), .int .i64 (if pnV s then 0 else 4)]) ∧ Below W.heap.size W w' := fun W h => parseName_any s W (by omega) (hE.below h)
  have h45 : ∀ W, Below w.heap.size w W → Calls Tryz.prog 45 #[.string s] W fun e w' => e = .returned (.tuple #[nv (pnR s) (pnL s) (pnN s), .int .i64 (if pnV s then 0 else 4)]) ∧ Below W.heap.size W w' := fun W h => refParseName_any s W (by omega) (hE.below h)
  have h46 : ∀ W, Below w.heap.size w W → Calls Tryz.prog 46 #[.string s] W fun e w' => e = .returned (.tuple #[sv (psG s) (psR s) (psL s) (psN s) (psX s), .int .i64 (if psV s then 0 else 4)]) ∧ Below W.heap.size W w' := fun W h => parse_any s W (by omega) (hE.below h)
  have h47 : ∀ W, Below w.heap.size w W → Calls Tryz.prog 47 #[.string s] W fun e w' => e = .returned (.tuple #[sv (psG s) (psR s) (psL s) (psN s) (psX s), .int .i64 (if psV s then 0 else 4)]) ∧ Below W.heap.size W w' := fun W h => refParse_any s W (by omega) (hE.below h)
  have h48 : ∀ W, Below w.heap.size w W → Calls Tryz.prog 48 #[.string s] W fun e w' => e = .returned (.tuple #[sv (kG s) (kR s) (kL s) (kN s) (kX s), .int .i64 (if okV s then 0 else 4)]) ∧ Below W.heap.size W w' := fun W _ => ofKey_any s W (by omega)
  have h49 : ∀ W, Below w.heap.size w W → Calls Tryz.prog 49 #[.string s] W fun e w' => e = .returned (.tuple #[sv (kG s) (kR s) (kL s) (kN s) (kX s), .int .i64 (if okV s then 0 else 4)]) ∧ Below W.heap.size W w' := fun W _ => refOfKey_any s W (by omega)
  generalize (if pbV s then (0 : Int) else 4) = E1 at h42 h43
  generalize pbR s = R1 at h42 h43
  generalize pbL s = L1 at h42 h43
  generalize (if pnV s then (0 : Int) else 4) = E2 at h44 h45
  generalize pnR s = R2 at h44 h45
  generalize pnL s = L2 at h44 h45
  generalize pnN s = N2 at h44 h45
  generalize (if psV s then (0 : Int) else 4) = E3 at h46 h47
  generalize psG s = G3 at h46 h47
  generalize psR s = R3 at h46 h47
  generalize psL s = L3 at h46 h47
  generalize psN s = N3 at h46 h47
  generalize psX s = X3 at h46 h47
  generalize (if okV s then (0 : Int) else 4) = E4 at h48 h49
  generalize kG s = G4 at h48 h49
  generalize kR s = R4 at h48 h49
  generalize kL s = L4 at h48 h49
  generalize kN s = N4 at h48 h49
  generalize kX s = X4 at h48 h49
  have e23 : ∀ W, (binOp .eql 23 (bv R1 L1) (bv R1 L1)).run Tryz.prog W = .ok (.bool true) W := fun W => by rw [run_eq23]; simp
  have e25 : ∀ W, (binOp .eql 25 (nv R2 L2 N2) (nv R2 L2 N2)).run Tryz.prog W = .ok (.bool true) W := fun W => by rw [run_eq25]; simp
  have e27 : ∀ W, (binOp .eql 27 (sv G3 R3 L3 N3 X3) (sv G3 R3 L3 N3 X3)).run Tryz.prog W = .ok (.bool true) W := fun W => by rw [run_eq27]; simp
  have e28 : ∀ W, (binOp .eql 27 (sv G4 R4 L4 N4 X4) (sv G4 R4 L4 N4 X4)).run Tryz.prog W = .ok (.bool true) W := fun W => by rw [run_eq27]; simp
  have HI : Hid (Blks w w []) := hide ⟨by simp, Below.refl _ _⟩
  go_enter Tryz.func5, Tryz.ntmps5
  go_wp2_with (go_at_call 42; refine (h42 _ HI.out.bel).mono ?_; rintro e w1 ⟨rfl, bb⟩; replace HI := hide (HI.out.below bb); clear bb; dsimp only)
  go_wp2_with (go_at_call 43; refine (h43 _ (HI.out.step (.cells #[.int .i64 R1, .string L1] 23)).bel).mono ?_; rintro e w2 ⟨rfl, bb⟩; replace HI := hide ((HI.out.step (.cells #[.int .i64 R1, .string L1] 23)).below bb); clear bb; dsimp only)
  go_wp2_with (go_at_call 44; refine (h44 _ (HI.out.step (.cells #[.int .i64 R1, .string L1] 23)).bel).mono ?_; rintro e w3 ⟨rfl, bb⟩; replace HI := hide ((HI.out.step (.cells #[.int .i64 R1, .string L1] 23)).below bb); clear bb; dsimp only)
  go_wp2_with (go_at_call 45; refine (h45 _ (HI.out.step (.cells #[.int .i64 R2, .string L2, .int .i64 N2] 25)).bel).mono ?_; rintro e w4 ⟨rfl, bb⟩; replace HI := hide ((HI.out.step (.cells #[.int .i64 R2, .string L2, .int .i64 N2] 25)).below bb); clear bb; dsimp only)
  go_wp2_with (go_at_call 46; refine (h46 _ (HI.out.step (.cells #[.int .i64 R2, .string L2, .int .i64 N2] 25)).bel).mono ?_; rintro e w5 ⟨rfl, bb⟩; replace HI := hide ((HI.out.step (.cells #[.int .i64 R2, .string L2, .int .i64 N2] 25)).below bb); clear bb; dsimp only)
  go_wp2_with (go_at_call 47; refine (h47 _ (HI.out.step (.cells #[.int .i64 G3, .int .i64 R3, .string L3, .int .i64 N3, .int .i64 X3] 27)).bel).mono ?_; rintro e w6 ⟨rfl, bb⟩; replace HI := hide ((HI.out.step (.cells #[.int .i64 G3, .int .i64 R3, .string L3, .int .i64 N3, .int .i64 X3] 27)).below bb); clear bb; dsimp only)
  go_wp2_with (go_at_call 48; refine (h48 _ (HI.out.step (.cells #[.int .i64 G3, .int .i64 R3, .string L3, .int .i64 N3, .int .i64 X3] 27)).bel).mono ?_; rintro e w7 ⟨rfl, bb⟩; replace HI := hide ((HI.out.step (.cells #[.int .i64 G3, .int .i64 R3, .string L3, .int .i64 N3, .int .i64 X3] 27)).below bb); clear bb; dsimp only)
  go_wp2_with (go_at_call 49; refine (h49 _ (HI.out.step (.cells #[.int .i64 G4, .int .i64 R4, .string L4, .int .i64 N4, .int .i64 X4] 27)).bel).mono ?_; rintro e w8 ⟨rfl, bb⟩; replace HI := hide ((HI.out.step (.cells #[.int .i64 G4, .int .i64 R4, .string L4, .int .i64 N4, .int .i64 X4] 27)).below bb); clear bb; replace HI := hide (HI.out.step (.cells #[.int .i64 G4, .int .i64 R4, .string L4, .int .i64 N4, .int .i64 X4] 27)); obtain ⟨c0a, c0b, c0c, c0d, c0e, _, _, _, _, _⟩ := blk5 (HI.out.1 (w8.heap.size, .cells #[.int .i64 G4, .int .i64 R4, .string L4, .int .i64 N4, .int .i64 X4] 27) (by simp)); obtain ⟨c1a, c1b, c1c, c1d, c1e, _, _, _, _, _⟩ := blk5 (HI.out.1 (w7.heap.size, .cells #[.int .i64 G4, .int .i64 R4, .string L4, .int .i64 N4, .int .i64 X4] 27) (by simp)); obtain ⟨c2a, c2b, c2c, c2d, c2e, _, _, _, _, _⟩ := blk5 (HI.out.1 (w6.heap.size, .cells #[.int .i64 G3, .int .i64 R3, .string L3, .int .i64 N3, .int .i64 X3] 27) (by simp)); obtain ⟨c3a, c3b, c3c, c3d, c3e, _, _, _, _, _⟩ := blk5 (HI.out.1 (w5.heap.size, .cells #[.int .i64 G3, .int .i64 R3, .string L3, .int .i64 N3, .int .i64 X3] 27) (by simp)); obtain ⟨c4a, c4b, c4c, _, _, _⟩ := blk3 (HI.out.1 (w4.heap.size, .cells #[.int .i64 R2, .string L2, .int .i64 N2] 25) (by simp)); obtain ⟨c5a, c5b, c5c, _, _, _⟩ := blk3 (HI.out.1 (w3.heap.size, .cells #[.int .i64 R2, .string L2, .int .i64 N2] 25) (by simp)); obtain ⟨c6a, c6b, _, _⟩ := blk2 (HI.out.1 (w2.heap.size, .cells #[.int .i64 R1, .string L1] 23) (by simp)); obtain ⟨c7a, c7b, _, _⟩ := blk2 (HI.out.1 (w1.heap.size, .cells #[.int .i64 R1, .string L1] 23) (by simp)); clear h42 h43 h44 h45 h46 h47 h48 h49; dsimp only)
  go_wp2_with (go_at_call 26; refine (h26 _ _).mono ?_; rintro e wx ⟨rfl, hwx⟩; subst hwx; dsimp only)
  go_wp2_with (go_at_call 9; refine (h9 _ HI.out.bel).mono ?_; rintro e wy ⟨rfl, bb⟩; replace HI := hide (HI.out.below bb); dsimp only)
  go_ret
  exact ⟨rfl, HI.out.bel⟩
end Go.Proofs.YtkjabnpniingnaaGreatDoor
