/-
  READS2: the program's reader, more: carried from layer 1's seat.
-/
import Derived.Test.YtkjabnpniingnaaGreatDoorReads
namespace Go.Proofs.YtkjabnpniingnaaGreatDoor
open Go.RowKit

theorem readN_lt {w : World} {R S n k : Nat} {l : List Int} (hR : Rdr 91 w R S l) (h : Plain.readN 0 0 l = some (n, k)) : n < 18446744073709551616 ∧ k ≤ l.length := by
  obtain ⟨_, _, _, _, _, _, _, _, _, h8⟩ := hR
  obtain ⟨m, _, h2, _, _, h5, _⟩ := Plain.readN_spec l 0 0 n k (by omega) (by simp) h8 h
  exact ⟨h2, by omega⟩

theorem Rdr.cells {t : TypeId} {w : World} {R S : Nat} {l : List Int} (h : Rdr t w R S l) : ∃ ao cap, w.cell? ⟨R, 0, none⟩ = some (.slice ao l.length cap) ∧ w.cell? ⟨R, 1, none⟩ = some (.bool true) ∧ w.frozen? ⟨R, 0, none⟩ = false ∧ w.frozen? ⟨R, 1, none⟩ = false ∧ R < w.heap.size ∧ l.length ≤ 9223372036854775807 := by
  obtain ⟨ao, cap, h1, _, _, h4, h5, _⟩ := h
  obtain ⟨c0, c1, f0, f1⟩ := cell_blk h1
  exact ⟨ao, cap, c0, c1, f0, f1, (Array.getElem?_eq_some_iff.1 h1).1, by omega⟩

/-- What else a reader's cell tells. -/
theorem Rdr.more {t : TypeId} {w : World} {R S cap : Nat} {ao : Option Addr} {l : List Int} (h : Rdr t w R S l) (c0 : w.cell? ⟨R, 0, none⟩ = some (.slice ao l.length cap)) : Rd w ao l ∧ (ao = none → cap = 0) ∧ l.length ≤ cap ∧ cap ≤ 9223372036854775807 := by
  obtain ⟨ao', cap', a1, a2, a3, a4, a5, _⟩ := h
  obtain ⟨d0, _⟩ := cell_blk a1
  rw [d0] at c0
  simp only [Option.some.injEq, Value.slice.injEq, true_and] at c0
  obtain ⟨rfl, rfl⟩ := c0
  exact ⟨a2, a3, a4, a5⟩

theorem grown_of_below {w w' : World} {row : Option Nat} (hb : Below w.heap.size w w') : w.grownBy w' row := ⟨hb.os, hb.tape, hb.output, hb.size, fun k hk _ => hb.block k hk⟩

theorem after {w w' : World} {R : Nat} {x y : Value} (hb : Below w.heap.size w w') (hR : R < w.heap.size) (y0 : w.cell? ⟨R, 0, none⟩ = some x) (y1 : w.cell? ⟨R, 1, none⟩ = some y) (g0 : w.frozen? ⟨R, 0, none⟩ = false) (g1 : w.frozen? ⟨R, 1, none⟩ = false) :
    w'.cell? ⟨R, 0, none⟩ = some x ∧ w'.cell? ⟨R, 1, none⟩ = some y ∧ w'.frozen? ⟨R, 0, none⟩ = false ∧ w'.frozen? ⟨R, 1, none⟩ = false :=
  ⟨(hb.cell (p := ⟨R, 0, none⟩) hR).trans y0, (hb.cell (p := ⟨R, 1, none⟩) hR).trans y1, (hb.frozen (p := ⟨R, 0, none⟩) hR).trans g0, (hb.frozen (p := ⟨R, 1, none⟩) hR).trans g1⟩

theorem clone_len (ao : Option Addr) (cap n : Nat) (l : List Int) (w : World) (h : l.length = n) (hr : Rd w ao l) (hn : ao = none → cap = 0) (hl : l.length ≤ 140737488355328) :
    Calls Tryz.prog 79 #[.slice ao n cap] w fun e w' => ∃ ao' cap', e = .returned (.slice ao' n cap') ∧ Own 5 w' w.heap.size (.slice ao' n cap') l ∧ (ao' = none → cap' = 0) ∧ Below w.heap.size w w' := by
  subst h
  exact clone_any ao cap l w hr hn hl

theorem add_add (a : Addr) (k j : Nat) : (a.add k).add j = a.add (k + j) := by
  unfold Addr.add
  by_cases hk : k = 0
  · subst hk; simp
  · by_cases hj : j = 0
    · subst hj; simp [hk]
    · simp [hk, hj]; omega

/-- The reader's slice is moved on, whatever its address. -/
theorem Rdr.move {t : TypeId} {w : World} {R S k cap cap' m : Nat} {ao ao' : Option Addr} {l : List Int} (h : Rdr t w R S l) (c0 : w.cell? ⟨R, 0, none⟩ = some (.slice ao l.length cap)) (hk : k ≤ l.length)
    (hoff : (cap = k ∧ ao' = ao ∧ cap' = 0) ∨ (ao' = ao.map (fun x => x.add k) ∧ cap' = cap - k)) (hm : m = l.length - k) :
    Rdr t (w.setCell ⟨R, 0, none⟩ (.slice ao' m cap')) R S (l.drop k) ∧ w.grownBy (w.setCell ⟨R, 0, none⟩ (.slice ao' m cap')) (some R) := by
  subst hm
  have hg := grown_set w R 0 (.slice ao' (l.length - k) cap')
  refine ⟨?_, hg⟩
  obtain ⟨ao2, cap2, a1, a2, a3, a4, a5, a6, a7, a8⟩ := h
  obtain ⟨d0, _⟩ := cell_blk a1
  rw [d0] at c0
  simp only [Option.some.injEq, Value.slice.injEq, true_and] at c0
  obtain ⟨rfl, rfl⟩ := c0
  have hrd : Rd w ao' (l.drop k) ∧ (ao' = none → cap' = 0) ∧ ∀ a, ao' = some a → a.block < S ∧ a.block ≠ R := by
    rcases hoff with ⟨h1, rfl, rfl⟩ | ⟨rfl, rfl⟩
    · rw [List.drop_eq_nil_of_le (by omega)]
      exact ⟨Rd.nil _ _, fun _ => rfl, a6⟩
    · cases ao2 with
      | none =>
        have := a2.1 rfl
        have := a3 rfl
        refine ⟨?_, fun _ => by omega, by simp⟩
        simp only [Option.map_none]
        rw [a2.1 rfl]
        simpa using Rd.nil _ _
      | some a =>
        refine ⟨⟨by simp, ?_⟩, by simp, ?_⟩
        · intro a' ha' j u hj
          simp only [Option.map_some, Option.some.injEq] at ha'
          subst ha'
          rw [add_add]
          exact a2.2 a rfl (k + j) u (by rw [u8s_get] at hj ⊢; rw [List.getElem?_drop] at hj; exact hj)
        · intro a' ha'
          simp only [Option.map_some, Option.some.injEq] at ha'
          subst ha'
          have : (a.add k).block = a.block := by unfold Addr.add; split <;> rfl
          rw [this]
          exact a6 a rfl
  obtain ⟨r1, r2, r3⟩ := hrd
  refine ⟨ao', cap', ?_, r1.grown hg (fun a ha => by have := (r3 a ha).2; simpa using this), r2, ?_, ?_, r3, a7, fun x hx => a8 x (List.mem_of_mem_drop hx)⟩
  · rw [heap_setCell_same w R 0 _ t _ a1]; simp
  · simp; omega
  · omega

set_option maxHeartbeats 400000 in
set_option maxRecDepth 100000 in
theorem left_any (R S : Nat) (l : List Int) (w : World) (hR : Rdr 91 w R S l) :
    Calls Tryz.prog 32 #[.pointer (some ⟨R, 0, none⟩)] w fun e w' => e = .returned (.int .i64 l.length) ∧ w = w' := by
  obtain ⟨ao, cap, c0, c1, f0, f1, hsz, hl⟩ := hR.cells
  go_enter Tryz.func32, Tryz.ntmps32
  go_wp2_with (go_at_call 80; refine (missing_no R _ c1).mono ?_; rintro e w1 ⟨rfl, rfl⟩)
  go_ret
  exact ⟨rfl, rfl⟩









theorem Rdr.step2 {t : TypeId} {w : World} {R S k cap off' cap' ab aoff m : Nat} {l l' : List Int} (h : w.heap[R]? = some (.cells #[.slice (some ⟨ab, aoff, none⟩) l.length cap, .bool true] t (0, 0)))
    (hr : Rd w (some ⟨ab, aoff, none⟩) l) (hlc : l.length ≤ cap) (hcm : cap ≤ 9223372036854775807) (hab : ab < S) (hne : ab ≠ R) (hR : R < S) (h8 : ∀ x ∈ l, 0 ≤ x ∧ x ≤ 255) (hk : k ≤ l.length)
    (hoff : (cap = k ∧ cap' = 0) ∨ (off' = aoff + k ∧ cap' = cap - k)) (hm : m = l.length - k) (hl : l' = l.drop k) :
    Rdr t (w.setCell ⟨R, 0, none⟩ (.slice (some ⟨ab, off', none⟩) m cap')) R S l' ∧ w.grownBy (w.setCell ⟨R, 0, none⟩ (.slice (some ⟨ab, off', none⟩) m cap')) (some R) := by
  subst hm hl
  exact Rdr.step h hr hlc hcm hab hne hR h8 hk hoff

/-- What reading a flag answers. -/
def rflag : List Int → Bool × Int × List Int
  | [] => (false, 4, [])
  | b :: r => if 1 < b then (false, 4, b :: r) else (b == 1, 0, r)

/-- The address of bytes that are there has no spot. -/
theorem Rd.plain {w : World} {ao : Option Addr} {b : Int} {l : List Int} (h : Rd w ao (b :: l)) : ∃ ab off, ao = some ⟨ab, off, none⟩ ∧ w.cell? ⟨ab, off, none⟩ = some (.int .u8 b) := by
  cases ao with
  | none => have := h.1 rfl; simp at this
  | some a =>
    obtain ⟨ab, off, sp⟩ := a
    have hc := h.2 _ rfl 0 (.int .u8 b) (by simp [u8s])
    simp only [Addr.add, if_true] at hc
    have hs : sp = none := World.cell?_spot hc
    subst hs
    exact ⟨ab, off, rfl, hc⟩

set_option maxHeartbeats 1000000 in
set_option maxRecDepth 100000 in
theorem rflag_any (R S : Nat) (l : List Int) (w : World) (hR : Rdr 91 w R S l) :
    Calls Tryz.prog 33 #[.pointer (some ⟨R, 0, none⟩)] w fun e w' =>
      e = .returned (.tuple #[.bool (rflag l).1, .int .i64 (rflag l).2.1]) ∧ Rdr 91 w' R S (rflag l).2.2 ∧ w.grownBy w' (some R) := by
  have HRd : Hid (Rdr 91 w R S l) := hR
  obtain ⟨ao, cap, hh, hr, hnil, hlc, hcm, hblk, hRS, hb8⟩ := hR
  obtain ⟨h0, h1, hf, _⟩ := cell_blk hh
  have HH : Hid (w.heap[R]? = some (.cells #[.slice ao l.length cap, .bool true] 91 (0, 0))) := hh
  clear hh
  cases l with
  | nil =>
    go_enter Tryz.func33, Tryz.ntmps33
    go_wp2_with (go_at_call 80; refine (missing_no R _ h1).mono ?_; rintro e w1 ⟨rfl, rfl⟩)
    go_ret2
    exact ⟨rfl, HRd.out, World.grownBy.refl _ _⟩
  | cons b r =>
    obtain ⟨ab, off, rfl, hc⟩ := hr.plain
    obtain ⟨hb0, hb1⟩ := hb8 b (by simp)
    have HX : Hid (ab < S ∧ ab ≠ R) := hblk _ rfl
    have H8 : Hid (∀ x ∈ b :: r, 0 ≤ x ∧ x ≤ 255) := hb8
    clear hblk hb8
    have hlen : (((b :: r).length : Nat) : Int) = (r.length : Int) + 1 := by simp
    have hne : (((r.length : Nat) : Int) + 1 == 0) = false := by simp; omega
    by_cases hb : 1 < b
    · have HF : Hid (rflag (b :: r) = (false, 4, b :: r)) := by show rflag (b :: r) = _; simp [rflag, hb]
      go_enter Tryz.func33, Tryz.ntmps33
      go_wp2_with (go_at_call 80; refine (missing_no R _ h1).mono ?_; rintro e w1 ⟨rfl, rfl⟩)
      go_ret2
      rw [HF.out]
      exact ⟨rfl, HRd.out, World.grownBy.refl _ _⟩
    · have HF : Hid (rflag (b :: r) = (b == 1, 0, r)) := by show rflag (b :: r) = _; simp [rflag, hb]
      go_enter Tryz.func33, Tryz.ntmps33
      go_wp2_with (go_at_call 80; refine (missing_no R _ h1).mono ?_; rintro e w1 ⟨rfl, rfl⟩)
      all_goals
        go_ret2
        rw [HF.out]
        refine ⟨rfl, ?_⟩
        exact Rdr.step2 (k := 1) HH.out hr hlc hcm HX.out.1 HX.out.2 hRS H8.out (by simp) (by omega) rfl rfl

/-- What reading a count answers. -/
def rcount (most : Int) (l : List Int) : Int × Int × List Int :=
  if most < 0 then (0, 2, l) else
  match Plain.readN 0 0 l with
  | none => (0, 4, l)
  | some (n, k) => if most < n then (0, 3, l) else (n, 0, l.drop k)

theorem rnumber_none (R S : Nat) (l : List Int) (w : World) (hR : Rdr 91 w R S l) (h : Plain.readN 0 0 l = none) :
    Calls Tryz.prog 34 #[.pointer (some ⟨R, 0, none⟩)] w fun e w' => e = .returned (.tuple #[.int .u64 0, .int .i64 4]) ∧ Rdr 91 w' R S l ∧ w.grownBy w' (some R) := by
  have hc := rnumber_any R S l w hR
  unfold NumPost at hc
  rw [rnum_none h] at hc
  exact hc
theorem rnumber_some (R S n k : Nat) (l : List Int) (w : World) (hR : Rdr 91 w R S l) (h : Plain.readN 0 0 l = some (n, k)) :
    Calls Tryz.prog 34 #[.pointer (some ⟨R, 0, none⟩)] w fun e w' => e = .returned (.tuple #[.int .u64 n, .int .i64 0]) ∧ Rdr 91 w' R S (l.drop k) ∧ w.grownBy w' (some R) := by
  have hc := rnumber_any R S l w hR
  unfold NumPost at hc
  rw [rnum_some h] at hc
  exact hc

/-- The copy of a reader, in a new block, is there behind a call that writes the reader alone. -/
theorem was_cells {w w1 : World} {R : Nat} {x y : Value} {t : TypeId} (hg : (w.alloc (.cells #[x, y] t)).grownBy w1 (some R)) (hR : R < w.heap.size) :
    w1.cell? ⟨w.heap.size, 0, none⟩ = some x ∧ w1.cell? ⟨w.heap.size, 1, none⟩ = some y := by
  have h : w1.heap[w.heap.size]? = some (.cells #[x, y] t (0, 0)) := by
    rw [hg.block w.heap.size (by simp) (by simp; omega)]
    exact heap_alloc_new w _
  obtain ⟨h1, h2, _⟩ := cell_blk h
  exact ⟨h1, h2⟩

/-- A reader is laid back as it was. -/
theorem Rdr.restore {t : TypeId} {w w1 : World} {R S cap : Nat} {ao : Option Addr} {l l1 : List Int} (hR : Rdr t w R S l) (c0 : w.cell? ⟨R, 0, none⟩ = some (.slice ao l.length cap)) (hg : w.grownBy w1 (some R)) (h1 : Rdr t w1 R S l1) :
    Rdr t ((w1.setCell ⟨R, 0, none⟩ (.slice ao l.length cap)).setCell ⟨R, 1, none⟩ (.bool true)) R S l ∧ w.grownBy ((w1.setCell ⟨R, 0, none⟩ (.slice ao l.length cap)).setCell ⟨R, 1, none⟩ (.bool true)) (some R) := by
  have hg2 := grown_trans (grown_trans hg (grown_set w1 R 0 (.slice ao l.length cap))) (grown_set (w1.setCell ⟨R, 0, none⟩ (.slice ao l.length cap)) R 1 (.bool true))
  refine ⟨?_, hg2⟩
  obtain ⟨ao', cap', a1, a2, a3, a4, a5, a6, a7, a8⟩ := hR
  obtain ⟨d0, _⟩ := cell_blk a1
  rw [d0] at c0
  simp only [Option.some.injEq, Value.slice.injEq, true_and] at c0
  obtain ⟨rfl, rfl⟩ := c0
  obtain ⟨ao2, cap2, b1, _⟩ := h1
  refine ⟨ao', cap', ?_, a2.grown hg2 (fun a ha => by have := (a6 a ha).2; simpa using this), a3, a4, a5, a6, a7, a8⟩
  have e1 := heap_setCell_same w1 R 0 _ t (.slice ao' l.length cap') b1
  have e2 := heap_setCell_same _ R 1 _ t (.bool true) e1
  rw [e2]
  simp

set_option maxHeartbeats 1000000 in
set_option maxRecDepth 100000 in
theorem rcount_any (R S : Nat) (most : Int) (l : List Int) (w : World) (hR : Rdr 91 w R S l) (hm : most ≤ 9223372036854775807) :
    Calls Tryz.prog 128 #[.pointer (some ⟨R, 0, none⟩), .int .i64 most] w fun e w' =>
      e = .returned (.tuple #[.int .i64 (rcount most l).1, .int .i64 (rcount most l).2.1]) ∧ Rdr 91 w' R S (rcount most l).2.2 ∧ w.grownBy w' (some R) := by
  obtain ⟨ao, cap, c0, c1, f0, f1, hsz, hl⟩ := hR.cells
  by_cases hneg : most < 0
  · have HC : Hid (rcount most l = (0, 2, l)) := by show rcount most l = _; simp [rcount, hneg]
    go_enter Tryz.func128, Tryz.ntmps128
    go_wp2
    go_ret2
    rw [HC.out]
    exact ⟨rfl, hR, World.grownBy.refl _ _⟩
  · have hal : ∀ (o : Obj), Rdr 91 (w.alloc o) R S l := fun o => hR.kept (World.grownBy_alloc w o none) (by simp)
    rcases hx : Plain.readN 0 0 l with _ | ⟨n, k⟩
    · have HC : Hid (rcount most l = (0, 4, l)) := by show rcount most l = _; simp [rcount, hneg, hx]
      have HX : Hid (Plain.readN 0 0 l = none) := hx
      clear hx
      go_enter Tryz.func128, Tryz.ntmps128
      go_wp2_with (go_at_call 34; refine (rnumber_none R S l _ (hal _) HX.out).mono ?_; rintro e w1 ⟨rfl, hR1, hg1⟩)
      go_ret2
      rw [HC.out]
      exact ⟨rfl, hR1, grown_trans (World.grownBy_alloc _ _ _) hg1⟩
    · obtain ⟨hn, hk⟩ := readN_lt hR hx
      have HX : Hid (Plain.readN 0 0 l = some (n, k)) := hx
      by_cases hlt : most < n
      · have HC : Hid (rcount most l = (0, 3, l)) := by show rcount most l = _; simp [rcount, hneg, hx, hlt]
        clear hx
        go_enter Tryz.func128, Tryz.ntmps128
        go_wp2_with (go_at_call 34; refine (rnumber_some R S n k l _ (hal _) HX.out).mono ?_; rintro e w1 ⟨rfl, hR1, hg1⟩; obtain ⟨x0, x1⟩ := was_cells hg1 hsz; obtain ⟨ao1, cap1, y0, y1, g0, g1, hsz1, _⟩ := hR1.cells)
        go_ret2
        rw [HC.out]
        exact ⟨rfl, Rdr.restore hR c0 (grown_trans (World.grownBy_alloc _ _ _) hg1) hR1⟩
      · have HC : Hid (rcount most l = ((n : Int), 0, l.drop k)) := by show rcount most l = _; simp [rcount, hneg, hx, hlt]
        clear hx
        go_enter Tryz.func128, Tryz.ntmps128
        go_wp2_with (go_at_call 34; refine (rnumber_some R S n k l _ (hal _) HX.out).mono ?_; rintro e w1 ⟨rfl, hR1, hg1⟩)
        go_ret2
        rw [HC.out]
        exact ⟨rfl, hR1, grown_trans (World.grownBy_alloc _ _ _) hg1⟩

/-- What reading bytes answers: they, the error's number, what is left. -/
def rbytes (most : Int) (l : List Int) : List Int × Int × List Int :=
  if (rcount most l).2.1 = 0 then
    if ((rcount most l).2.2.length : Int) < (rcount most l).1 then ([], 4, l)
    else ((rcount most l).2.2.take (rcount most l).1.toNat, 0, (rcount most l).2.2.drop (rcount most l).1.toNat)
  else ([], (rcount most l).2.1, l)

theorem rcount_nonneg (most : Int) (l : List Int) : 0 ≤ (rcount most l).1 := by
  unfold rcount; split
  · simp
  · split
    · simp
    · split <;> simp
theorem rcount_err {most : Int} {l : List Int} (h : (rcount most l).2.1 ≠ 0) : (rcount most l).2.2 = l := by
  revert h; unfold rcount; split
  · simp
  · split
    · simp
    · split <;> simp
theorem rcount_le {most : Int} {l : List Int} (h : 0 ≤ most) : (rcount most l).1 ≤ most := by
  unfold rcount; split
  · simp; omega
  · split
    · simpa using h
    · split
      · simpa using h
      · simp; omega

theorem rcount_left (most : Int) (l : List Int) : (rcount most l).2.2.length ≤ l.length := by
  unfold rcount; split
  · simp
  · split
    · simp
    · split <;> simp

set_option maxHeartbeats 1000000 in
set_option maxRecDepth 100000 in
theorem rbytes_any (R S : Nat) (most : Int) (l : List Int) (w : World) (hR : Rdr 91 w R S l) (hm : most ≤ 9223372036854775807) (hl47 : l.length ≤ 140737488355328) :
    Calls Tryz.prog 113 #[.pointer (some ⟨R, 0, none⟩), .int .i64 most] w fun e w' =>
      ∃ ao cap, e = .returned (.tuple #[.slice ao (rbytes most l).1.length cap, .int .i64 (rbytes most l).2.1]) ∧ Own 5 w' w.heap.size (.slice ao (rbytes most l).1.length cap) (rbytes most l).1 ∧ (ao = none → cap = 0) ∧
        Rdr 91 w' R S (rbytes most l).2.2 ∧ w.grownBy w' (some R) := by
  obtain ⟨ao, cap, c0, c1, f0, f1, hsz, hl⟩ := hR.cells
  have hal : ∀ (o : Obj), Rdr 91 (w.alloc o) R S l := fun o => hR.kept (World.grownBy_alloc w o none) (by simp)
  have hcnt : ∀ (o : Obj), _ := fun o => rcount_any R S most l (w.alloc o) (hal o) hm
  have hn0 := rcount_nonneg most l
  have hll := rcount_left most l
  have hle : 0 ≤ most → (rcount most l).1 ≤ most := rcount_le
  by_cases he : (rcount most l).2.1 = 0
  · have hpos : 0 ≤ most := by
      apply Classical.byContradiction
      intro hneg
      have : rcount most l = (0, 2, l) := by simp [rcount, show most < 0 by omega]
      rw [this] at he
      simp at he
    have hle := hle hpos
    have HB : Hid (rbytes most l = if ((rcount most l).2.2.length : Int) < (rcount most l).1 then ([], 4, l)
      else ((rcount most l).2.2.take (rcount most l).1.toNat, 0, (rcount most l).2.2.drop (rcount most l).1.toNat)) := by
      show rbytes most l = _
      rw [rbytes, if_pos he]
    generalize rcount most l = q at *
    obtain ⟨n, er, l'⟩ := q
    simp only at *
    subst he
    obtain ⟨n, rfl⟩ := Int.eq_ofNat_of_zero_le hn0
    by_cases hshort : (l'.length : Int) < n
    · have HB' : Hid (rbytes most l = ([], 4, l)) := by show rbytes most l = _; rw [HB.out, if_pos hshort]
      clear HB
      go_enter Tryz.func113, Tryz.ntmps113
      go_wp2_with (first | (go_at_call 80; refine (missing_no R _ c1).mono ?_; rintro e w1 ⟨rfl, rfl⟩) | (go_at_call 128; refine (hcnt _).mono ?_; rintro e w1 ⟨rfl, hR1, hg1⟩; obtain ⟨x0, x1⟩ := was_cells hg1 hsz; obtain ⟨ao1, cap1, y0, y1, g0, g1, hsz1, hl1⟩ := hR1.cells))
      go_ret2
      rw [HB'.out]
      obtain ⟨r1, r2⟩ := Rdr.restore hR c0 (grown_trans (World.grownBy_alloc _ _ _) hg1) hR1
      exact ⟨none, 0, rfl, Own.nil _ _ _, by simp, r1, r2⟩
    · have HB' : Hid (rbytes most l = (l'.take n, 0, l'.drop n)) := by show rbytes most l = _; rw [HB.out, if_neg hshort]; simp
      clear HB
      go_enter Tryz.func113, Tryz.ntmps113
      go_wp2_with (first | (go_at_call 80; refine (missing_no R _ c1).mono ?_; rintro e w1 ⟨rfl, rfl⟩) | (go_at_call 128; refine (hcnt _).mono ?_; rintro e w1 ⟨rfl, hR1, hg1⟩; obtain ⟨x0, x1⟩ := was_cells hg1 hsz; obtain ⟨ao1, cap1, y0, y1, g0, g1, hsz1, hl1⟩ := hR1.cells; obtain ⟨rd1, nn1, lc1, cm1⟩ := hR1.more y0) | (go_at_call 79; refine (clone_len ao1 cap1 n (l'.take n) _ (by simp; omega) (rd1.take n) nn1 (by simp; omega)).mono ?_; rintro e w2 ⟨ao2, cap2, rfl, hown2, hnil2, hb2⟩; have hR2 := hR1.kept (row := none) (grown_of_below hb2) (by simp); obtain ⟨z0, z1, i0, i1⟩ := after hb2 hsz1 y0 y1 g0 g1))
      all_goals
        go_ret2
        rw [HB'.out]
        refine ⟨ao2, cap2, ?_, ?_⟩
        · rw [show (l'.take n).length = n by simp; omega]; rfl
        · rw [show (l'.take n).length = n by simp; omega]
          have hmv := fun ao' cap' hoff => Rdr.move (k := n) (ao' := ao') (cap' := cap') (m := l'.length - n) hR2 z0 (by omega) hoff rfl
          have hg2 := grown_trans (grown_trans (World.grownBy_alloc w _ (some R)) hg1) (grown_of_below (row := some R) hb2)
          refine ⟨ownsRow_setCell_below (a := ⟨R, 0, none⟩) (hown2.lift (by have := hg1.size; simp at this; omega)) hsz _, hnil2, ?_⟩
          first
            | (obtain ⟨r1, r2⟩ := hmv ao1 0 (.inl ⟨by omega, rfl, rfl⟩); exact ⟨r1, grown_trans hg2 r2⟩)
            | (obtain ⟨r1, r2⟩ := hmv _ _ (.inr ⟨rfl, rfl⟩); exact ⟨r1, grown_trans hg2 r2⟩)
  · have HE := rcount_err he
    have HB' : Hid (rbytes most l = ([], (rcount most l).2.1, l)) := by show rbytes most l = _; rw [rbytes, if_neg he]
    generalize rcount most l = q at *
    obtain ⟨n, er, l'⟩ := q
    simp only at *
    subst HE
    have hne : (er != 0) = true := by simpa using he
    clear he
    go_enter Tryz.func113, Tryz.ntmps113
    go_wp2_with (first | (go_at_call 80; refine (missing_no R _ c1).mono ?_; rintro e w1 ⟨rfl, rfl⟩) | (go_at_call 128; refine (hcnt _).mono ?_; rintro e w1 ⟨rfl, hR1, hg1⟩))
    go_ret2
    rw [HB'.out]
    exact ⟨none, 0, rfl, Own.nil _ _ _, by simp, hR1, grown_trans (World.grownBy_alloc _ _ _) hg1⟩



set_option maxHeartbeats 400000 in
set_option maxRecDepth 100000 in
theorem open_any (ao : Option Addr) (cap n : Nat) (l : List Int) (w : World) (hn : l.length = n) (hr : Rd w ao l) (hnil : ao = none → cap = 0) (hl : l.length ≤ 140737488355328) (h8 : ∀ x ∈ l, 0 ≤ x ∧ x ≤ 255) :
    Calls Tryz.prog 31 #[.slice ao n cap] w fun e w' => ∃ R, e = .returned (.pointer (some ⟨R, 0, none⟩)) ∧ Rdr 91 w' R (R + 1) l ∧ w.heap.size ≤ R ∧ R + 1 = w'.heap.size ∧ Below w.heap.size w w' := by
  go_enter Tryz.func31, Tryz.ntmps31
  go_wp2_with (go_at_call 79; refine (clone_len ao cap n l _ hn hr hnil hl).mono ?_; rintro e w1 ⟨ao1, cap1, rfl, hown1, hnil1, hb1⟩)
  go_ret
  have hs := hb1.size
  have hal : Below w1.heap.size w1 (w1.alloc (.cells #[.slice ao1 n cap1, .bool true] 91)) := (Below.refl _ _).alloc (Nat.le_refl _) _
  refine ⟨w1.heap.size, rfl, ⟨ao1, cap1, ?_, hown1.rd.below hal, hnil1, hown1.cap.1, hown1.cap.2, ?_, by omega, h8⟩, hs, by simp, hb1.alloc hs _⟩
  · rw [hn]; exact heap_alloc_new w1 _
  · intro a ha
    have := hown1.blk a ha
    exact ⟨by omega, by omega⟩

/-! ### Readers that are not there: nil, and a zero one -/

/-- nil, or a zero reader. -/
def NoRdr (w : World) (v : Value) : Prop := v = .pointer none ∨ ∃ R, v = .pointer (some ⟨R, 0, none⟩) ∧ w.cell? ⟨R, 1, none⟩ = some (.bool false)

theorem missing_yes (v : Value) (w : World) (h : NoRdr w v) : Calls Tryz.prog 80 #[v] w fun e w' => e = .returned (.bool true) ∧ w = w' := by
  rcases h with rfl | ⟨R, rfl, h⟩
  · exact missing_nil w
  · exact missing_zeroR R w h

set_option maxHeartbeats 400000 in
set_option maxRecDepth 100000 in
theorem rnumber_no (v : Value) (w : World) (h : NoRdr w v) : Calls Tryz.prog 34 #[v] w fun e w' => e = .returned (.tuple #[.int .u64 0, .int .i64 1]) ∧ w = w' := by
  go_enter Tryz.func34, Tryz.ntmps34
  go_wp2
  go_step3
  go_wp2_with (go_at_call 80; refine (missing_yes v _ h).mono ?_; rintro e w1 ⟨rfl, rfl⟩)
  rw [Exit.noGoto_ret]
  go_ret2
  exact ⟨rfl, rfl⟩

set_option maxHeartbeats 400000 in
set_option maxRecDepth 100000 in
theorem rflag_no (v : Value) (w : World) (h : NoRdr w v) : Calls Tryz.prog 33 #[v] w fun e w' => e = .returned (.tuple #[.bool false, .int .i64 1]) ∧ w = w' := by
  go_enter Tryz.func33, Tryz.ntmps33
  go_wp2_with (go_at_call 80; refine (missing_yes v _ h).mono ?_; rintro e w1 ⟨rfl, rfl⟩)
  go_ret2
  exact ⟨rfl, rfl⟩
set_option maxHeartbeats 400000 in
set_option maxRecDepth 100000 in
theorem rbytes_no (v : Value) (most : Int) (w : World) (h : NoRdr w v) : Calls Tryz.prog 113 #[v, .int .i64 most] w fun e w' => e = .returned (.tuple #[.slice none 0 0, .int .i64 1]) ∧ w = w' := by
  go_enter Tryz.func113, Tryz.ntmps113
  go_wp2_with (go_at_call 80; refine (missing_yes v _ h).mono ?_; rintro e w1 ⟨rfl, rfl⟩)
  go_ret2
  exact ⟨rfl, rfl⟩
set_option maxHeartbeats 400000 in
set_option maxRecDepth 100000 in
theorem left_no (v : Value) (w : World) (h : NoRdr w v) : Calls Tryz.prog 32 #[v] w fun e w' => e = .returned (.int .i64 0) ∧ w = w' := by
  go_enter Tryz.func32, Tryz.ntmps32
  go_wp2_with (go_at_call 80; refine (missing_yes v _ h).mono ?_; rintro e w1 ⟨rfl, rfl⟩)
  go_ret
  exact ⟨rfl, rfl⟩

end Go.Proofs.YtkjabnpniingnaaGreatDoor
