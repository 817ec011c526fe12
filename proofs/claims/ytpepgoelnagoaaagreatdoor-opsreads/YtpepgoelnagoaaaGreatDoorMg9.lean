/-
  READS2: the program's reader, more: carried from layer 1's seat.
  DOCR: the document's reader: carried from layer 1's seat.
-/
import Derived.Test.YtpepgoelnagoaaaGreatDoorMg8
import Derived.Deep.QuietTactic
import Derived.BigQuiet
namespace Go.Proofs.YtpepgoelnagoaaaGreatDoor
open Go.RowKit
variable {K : Nat → Prop}

theorem readN_lt {w : World} {R S n k : Nat} {l : List Int} (hR : Rdr K 77 w R S l) (h : Plain.readN 0 0 l = some (n, k)) : n < 18446744073709551616 ∧ k ≤ l.length := by
  obtain ⟨_, _, _, _, _, _, _, _, _, h8⟩ := hR
  obtain ⟨m, _, h2, _, _, h5, _⟩ := Plain.readN_spec l 0 0 n k (by omega) (by simp) h8 h
  exact ⟨h2, by omega⟩

theorem Rdr.cells {t : TypeId} {w : World} {R S : Nat} {l : List Int} (h : Rdr K t w R S l) : ∃ ao cap, w.cell? ⟨R, 0, none⟩ = some (.slice ao l.length cap) ∧ w.cell? ⟨R, 1, none⟩ = some (.bool true) ∧ w.frozen? ⟨R, 0, none⟩ = false ∧ w.frozen? ⟨R, 1, none⟩ = false ∧ R < w.heap.size ∧ l.length ≤ 9223372036854775807 := by
  obtain ⟨ao, cap, h1, _, _, h4, h5, _⟩ := h
  obtain ⟨c0, c1, f0, f1⟩ := cell_blk h1
  exact ⟨ao, cap, c0, c1, f0, f1, (Array.getElem?_eq_some_iff.1 h1).1, by omega⟩

/-- What else a reader's cell tells. -/
theorem Rdr.more {t : TypeId} {w : World} {R S cap : Nat} {ao : Option Addr} {l : List Int} (h : Rdr K t w R S l) (c0 : w.cell? ⟨R, 0, none⟩ = some (.slice ao l.length cap)) : Rd w ao l ∧ (ao = none → cap = 0) ∧ l.length ≤ cap ∧ cap ≤ 9223372036854775807 := by
  obtain ⟨ao', cap', a1, a2, a3, a4, a5, _⟩ := h
  obtain ⟨d0, _⟩ := cell_blk a1
  rw [d0] at c0
  simp only [Option.some.injEq, Value.slice.injEq, true_and] at c0
  obtain ⟨rfl, rfl⟩ := c0
  exact ⟨a2, a3, a4, a5⟩

theorem grown_of_below {w w' : World} {row : Option Nat} (hb : Below w.heap.size w w') : w.grownBy w' row := ⟨hb.os, hb.tape, hb.output, hb.size, fun k hk _ => hb.block k hk⟩

theorem after {w w' : World} {R : Nat} {x y : Value} (hb : Below w.heap.size w w') (hR : R < w.heap.size) (y0 : w.cell? ⟨R, 0, none⟩ = some x) (y1 : w.cell? ⟨R, 1, none⟩ = some y) (g0 : w.frozen? ⟨R, 0, none⟩ = false) (g1 : w.frozen? ⟨R, 1, none⟩ = false) :
    w'.cell? ⟨R, 0, none⟩ = some x ∧ w'.cell? ⟨R, 1, none⟩ = some y ∧ w'.frozen? ⟨R, 0, none⟩ = false ∧ w'.frozen? ⟨R, 1, none⟩ = false :=
  ⟨(hb.cell (p := ⟨R, 0, none⟩) hR).trans y0, (hb.cell (p := ⟨R, 1, none⟩) hR).trans y1, (hb.frozen (p := ⟨R, 0, none⟩) hR).trans g0, (hb.frozen (p := ⟨R, 1, none⟩) hR).trans g1⟩

theorem clone_len (ao : Option Addr) (cap n : Nat) (l : List Int) (w : World) (h : l.length = n) (hr : Rd w ao l) (hn : ao = none → cap = 0) (hl : l.length ≤ 140737488355328) :
    Calls Tryz.prog 68 #[.slice ao n cap] w fun e w' => ∃ ao' cap', e = .returned (.slice ao' n cap') ∧ Own 5 w' w.heap.size (.slice ao' n cap') l ∧ (ao' = none → cap' = 0) ∧ Below w.heap.size w w' := by
  subst h
  exact clone68 ao cap l w hr hn hl

theorem add_add (a : Addr) (k j : Nat) : (a.add k).add j = a.add (k + j) := by
  unfold Addr.add
  by_cases hk : k = 0
  · subst hk; simp
  · by_cases hj : j = 0
    · subst hj; simp [hk]
    · simp [hk, hj]; omega

/-- The reader's slice is moved on, whatever its address. -/
theorem Rdr.move {t : TypeId} {w : World} {R S k cap cap' m : Nat} {ao ao' : Option Addr} {l : List Int} (h : Rdr K t w R S l) (c0 : w.cell? ⟨R, 0, none⟩ = some (.slice ao l.length cap)) (hk : k ≤ l.length)
    (hoff : (cap = k ∧ ao' = ao ∧ cap' = 0) ∨ (ao' = ao.map (fun x => x.add k) ∧ cap' = cap - k)) (hm : m = l.length - k) :
    Rdr K t (w.setCell ⟨R, 0, none⟩ (.slice ao' m cap')) R S (l.drop k) ∧ w.grownBy (w.setCell ⟨R, 0, none⟩ (.slice ao' m cap')) (some R) := by
  subst hm
  have hg := grown_set w R 0 (.slice ao' (l.length - k) cap')
  refine ⟨?_, hg⟩
  obtain ⟨ao2, cap2, a1, a2, a3, a4, a5, a6, a7, a8⟩ := h
  obtain ⟨d0, _⟩ := cell_blk a1
  rw [d0] at c0
  simp only [Option.some.injEq, Value.slice.injEq, true_and] at c0
  obtain ⟨rfl, rfl⟩ := c0
  have hrd : Rd w ao' (l.drop k) ∧ (ao' = none → cap' = 0) ∧ ∀ a, ao' = some a → (a.block < S ∧ K a.block) ∧ a.block ≠ R := by
    rcases hoff with ⟨h1, rfl, rfl⟩ | ⟨rfl, rfl⟩
    · rw [List.drop_eq_nil_of_le (by omega)]
      exact ⟨Rd.nil _ _, fun _ => rfl, a6⟩
    · cases ao2 with
      | none =>
        have := a2.1 rfl
        have := a3 rfl
        refine ⟨?_, fun _ => by omega, by simp⟩
        simp only [Option.map_none]
        rw [a2.1 rfl]
        simpa using Rd.nil _ _
      | some a =>
        refine ⟨⟨by simp, ?_⟩, by simp, ?_⟩
        · intro a' ha' j u hj
          simp only [Option.map_some, Option.some.injEq] at ha'
          subst ha'
          rw [add_add]
          exact a2.2 a rfl (k + j) u (by rw [u8s_get] at hj ⊢; rw [List.getElem?_drop] at hj; exact hj)
        · intro a' ha'
          simp only [Option.map_some, Option.some.injEq] at ha'
          subst ha'
          have : (a.add k).block = a.block := by unfold Addr.add; split <;> rfl
          rw [this]
          exact a6 a rfl
  obtain ⟨r1, r2, r3⟩ := hrd
  refine ⟨ao', cap', ?_, r1.grown hg (fun a ha => by have := (r3 a ha).2; simpa using this), r2, ?_, ?_, r3, a7, fun x hx => a8 x (List.mem_of_mem_drop hx)⟩
  · rw [heap_setCell_same w R 0 _ t _ a1]; simp
  · simp; omega
  · omega

set_option maxHeartbeats 400000 in
set_option maxRecDepth 100000 in
theorem left_any (R S : Nat) (l : List Int) (w : World) (hR : Rdr K 77 w R S l) :
    Calls Tryz.prog 31 #[.pointer (some ⟨R, 0, none⟩)] w fun e w' => e = .returned (.int .i64 l.length) ∧ w = w' := by
  obtain ⟨ao, cap, c0, c1, f0, f1, hsz, hl⟩ := hR.cells
  go_enter Tryz.func31, Tryz.ntmps31
  go_wp2_with (go_at_call 75; refine (missing_no R _ c1).mono ?_; rintro e w1 ⟨rfl, rfl⟩)
  go_ret
  exact ⟨rfl, rfl⟩









/-- The address of bytes that are there has no spot. -/
theorem Rd.plain {w : World} {ao : Option Addr} {b : Int} {l : List Int} (h : Rd w ao (b :: l)) : ∃ ab off, ao = some ⟨ab, off, none⟩ ∧ w.cell? ⟨ab, off, none⟩ = some (.int .u8 b) := by
  cases ao with
  | none => have := h.1 rfl; simp at this
  | some a =>
    obtain ⟨ab, off, sp⟩ := a
    have hc := h.2 _ rfl 0 (.int .u8 b) (by simp [u8s])
    simp only [Addr.add, if_true] at hc
    have hs : sp = none := World.cell?_spot hc
    subst hs
    exact ⟨ab, off, rfl, hc⟩

/-- What reading a count answers. -/
def rcount (most : Int) (l : List Int) : Int × Int × List Int :=
  if most < 0 then (0, 2, l) else
  match Plain.readN 0 0 l with
  | none => (0, 4, l)
  | some (n, k) => if most < n then (0, 3, l) else (n, 0, l.drop k)

theorem rnumber_none (R S : Nat) (l : List Int) (w : World) (hR : Rdr K 77 w R S l) (h : Plain.readN 0 0 l = none) :
    Calls Tryz.prog 177 #[.pointer (some ⟨R, 0, none⟩)] w fun e w' => e = .returned (.tuple #[.int .u64 0, .int .i64 4]) ∧ Rdr K 77 w' R S l ∧ w.grownBy w' (some R) := by
  have hc := rnumber_any R S l w hR
  unfold NumPost at hc
  rw [rnum_none h] at hc
  exact hc
theorem rnumber_some (R S n k : Nat) (l : List Int) (w : World) (hR : Rdr K 77 w R S l) (h : Plain.readN 0 0 l = some (n, k)) :
    Calls Tryz.prog 177 #[.pointer (some ⟨R, 0, none⟩)] w fun e w' => e = .returned (.tuple #[.int .u64 n, .int .i64 0]) ∧ Rdr K 77 w' R S (l.drop k) ∧ w.grownBy w' (some R) := by
  have hc := rnumber_any R S l w hR
  unfold NumPost at hc
  rw [rnum_some h] at hc
  exact hc

/-- The copy of a reader, in a new block, is there behind a call that writes the reader alone. -/
theorem was_cells {w w1 : World} {R : Nat} {x y : Value} {t : TypeId} (hg : (w.alloc (.cells #[x, y] t)).grownBy w1 (some R)) (hR : R < w.heap.size) :
    w1.cell? ⟨w.heap.size, 0, none⟩ = some x ∧ w1.cell? ⟨w.heap.size, 1, none⟩ = some y := by
  have h : w1.heap[w.heap.size]? = some (.cells #[x, y] t (0, 0)) := by
    rw [hg.block w.heap.size (by simp) (by simp; omega)]
    exact heap_alloc_new w _
  obtain ⟨h1, h2, _⟩ := cell_blk h
  exact ⟨h1, h2⟩

/-- A reader is laid back as it was. -/
theorem Rdr.restore {t : TypeId} {w w1 : World} {R S cap : Nat} {ao : Option Addr} {l l1 : List Int} (hR : Rdr K t w R S l) (c0 : w.cell? ⟨R, 0, none⟩ = some (.slice ao l.length cap)) (hg : w.grownBy w1 (some R)) (h1 : Rdr K t w1 R S l1) :
    Rdr K t ((w1.setCell ⟨R, 0, none⟩ (.slice ao l.length cap)).setCell ⟨R, 1, none⟩ (.bool true)) R S l ∧ w.grownBy ((w1.setCell ⟨R, 0, none⟩ (.slice ao l.length cap)).setCell ⟨R, 1, none⟩ (.bool true)) (some R) := by
  have hg2 := grown_trans (grown_trans hg (grown_set w1 R 0 (.slice ao l.length cap))) (grown_set (w1.setCell ⟨R, 0, none⟩ (.slice ao l.length cap)) R 1 (.bool true))
  refine ⟨?_, hg2⟩
  obtain ⟨ao', cap', a1, a2, a3, a4, a5, a6, a7, a8⟩ := hR
  obtain ⟨d0, _⟩ := cell_blk a1
  rw [d0] at c0
  simp only [Option.some.injEq, Value.slice.injEq, true_and] at c0
  obtain ⟨rfl, rfl⟩ := c0
  obtain ⟨ao2, cap2, b1, _⟩ := h1
  refine ⟨ao', cap', ?_, a2.grown hg2 (fun a ha => by have := (a6 a ha).2; simpa using this), a3, a4, a5, a6, a7, a8⟩
  have e1 := heap_setCell_same w1 R 0 _ t (.slice ao' l.length cap') b1
  have e2 := heap_setCell_same _ R 1 _ t (.bool true) e1
  rw [e2]
  simp

set_option maxHeartbeats 1000000 in
set_option maxRecDepth 100000 in
theorem rcount_any (R S : Nat) (most : Int) (l : List Int) (w : World) (hR : Rdr K 77 w R S l) (hm : most ≤ 9223372036854775807) :
    Calls Tryz.prog 147 #[.pointer (some ⟨R, 0, none⟩), .int .i64 most] w fun e w' =>
      e = .returned (.tuple #[.int .i64 (rcount most l).1, .int .i64 (rcount most l).2.1]) ∧ Rdr K 77 w' R S (rcount most l).2.2 ∧ w.grownBy w' (some R) := by
  obtain ⟨ao, cap, c0, c1, f0, f1, hsz, hl⟩ := hR.cells
  by_cases hneg : most < 0
  · have HC : Hid (rcount most l = (0, 2, l)) := by show rcount most l = _; simp [rcount, hneg]
    go_enter Tryz.func147, Tryz.ntmps147
    go_wp2
    go_ret2
    rw [HC.out]
    exact ⟨rfl, hR, World.grownBy.refl _ _⟩
  · have hal : ∀ (o : Obj), Rdr K 77 (w.alloc o) R S l := fun o => hR.kept (World.grownBy_alloc w o none) (by simp)
    rcases hx : Plain.readN 0 0 l with _ | ⟨n, k⟩
    · have HC : Hid (rcount most l = (0, 4, l)) := by show rcount most l = _; simp [rcount, hneg, hx]
      have HX : Hid (Plain.readN 0 0 l = none) := hx
      clear hx
      go_enter Tryz.func147, Tryz.ntmps147
      go_wp2_with (go_at_call 177; refine (rnumber_none R S l _ (hal _) HX.out).mono ?_; rintro e w1 ⟨rfl, hR1, hg1⟩)
      go_ret2
      rw [HC.out]
      exact ⟨rfl, hR1, grown_trans (World.grownBy_alloc _ _ _) hg1⟩
    · obtain ⟨hn, hk⟩ := readN_lt hR hx
      have HX : Hid (Plain.readN 0 0 l = some (n, k)) := hx
      by_cases hlt : most < n
      · have HC : Hid (rcount most l = (0, 3, l)) := by show rcount most l = _; simp [rcount, hneg, hx, hlt]
        clear hx
        go_enter Tryz.func147, Tryz.ntmps147
        go_wp2_with (go_at_call 177; refine (rnumber_some R S n k l _ (hal _) HX.out).mono ?_; rintro e w1 ⟨rfl, hR1, hg1⟩; obtain ⟨x0, x1⟩ := was_cells hg1 hsz; obtain ⟨ao1, cap1, y0, y1, g0, g1, hsz1, _⟩ := hR1.cells)
        go_ret2
        rw [HC.out]
        exact ⟨rfl, Rdr.restore hR c0 (grown_trans (World.grownBy_alloc _ _ _) hg1) hR1⟩
      · have HC : Hid (rcount most l = ((n : Int), 0, l.drop k)) := by show rcount most l = _; simp [rcount, hneg, hx, hlt]
        clear hx
        go_enter Tryz.func147, Tryz.ntmps147
        go_wp2_with (go_at_call 177; refine (rnumber_some R S n k l _ (hal _) HX.out).mono ?_; rintro e w1 ⟨rfl, hR1, hg1⟩)
        go_ret2
        rw [HC.out]
        exact ⟨rfl, hR1, grown_trans (World.grownBy_alloc _ _ _) hg1⟩

/-- What reading bytes answers: they, the error's number, what is left. -/
def rbytes (most : Int) (l : List Int) : List Int × Int × List Int :=
  if (rcount most l).2.1 = 0 then
    if ((rcount most l).2.2.length : Int) < (rcount most l).1 then ([], 4, l)
    else ((rcount most l).2.2.take (rcount most l).1.toNat, 0, (rcount most l).2.2.drop (rcount most l).1.toNat)
  else ([], (rcount most l).2.1, l)

theorem rcount_nonneg (most : Int) (l : List Int) : 0 ≤ (rcount most l).1 := by
  unfold rcount; split
  · simp
  · split
    · simp
    · split <;> simp
theorem rcount_err {most : Int} {l : List Int} (h : (rcount most l).2.1 ≠ 0) : (rcount most l).2.2 = l := by
  revert h; unfold rcount; split
  · simp
  · split
    · simp
    · split <;> simp
theorem rcount_le {most : Int} {l : List Int} (h : 0 ≤ most) : (rcount most l).1 ≤ most := by
  unfold rcount; split
  · simp; omega
  · split
    · simpa using h
    · split
      · simpa using h
      · simp; omega

theorem rcount_left (most : Int) (l : List Int) : (rcount most l).2.2.length ≤ l.length := by
  unfold rcount; split
  · simp
  · split
    · simp
    · split <;> simp

set_option maxHeartbeats 1000000 in
set_option maxRecDepth 100000 in
theorem rbytes_any (R S : Nat) (most : Int) (l : List Int) (w : World) (hR : Rdr K 77 w R S l) (hm : most ≤ 9223372036854775807) (hl47 : l.length ≤ 140737488355328) :
    Calls Tryz.prog 229 #[.pointer (some ⟨R, 0, none⟩), .int .i64 most] w fun e w' =>
      ∃ ao cap, e = .returned (.tuple #[.slice ao (rbytes most l).1.length cap, .int .i64 (rbytes most l).2.1]) ∧ Own 5 w' w.heap.size (.slice ao (rbytes most l).1.length cap) (rbytes most l).1 ∧ (ao = none → cap = 0) ∧
        Rdr K 77 w' R S (rbytes most l).2.2 ∧ w.grownBy w' (some R) := by
  obtain ⟨ao, cap, c0, c1, f0, f1, hsz, hl⟩ := hR.cells
  have hal : ∀ (o : Obj), Rdr K 77 (w.alloc o) R S l := fun o => hR.kept (World.grownBy_alloc w o none) (by simp)
  have hcnt : ∀ (o : Obj), _ := fun o => rcount_any R S most l (w.alloc o) (hal o) hm
  have hn0 := rcount_nonneg most l
  have hll := rcount_left most l
  have hle : 0 ≤ most → (rcount most l).1 ≤ most := rcount_le
  by_cases he : (rcount most l).2.1 = 0
  · have hpos : 0 ≤ most := by
      apply Classical.byContradiction
      intro hneg
      have : rcount most l = (0, 2, l) := by simp [rcount, show most < 0 by omega]
      rw [this] at he
      simp at he
    have hle := hle hpos
    have HB : Hid (rbytes most l = if ((rcount most l).2.2.length : Int) < (rcount most l).1 then ([], 4, l)
      else ((rcount most l).2.2.take (rcount most l).1.toNat, 0, (rcount most l).2.2.drop (rcount most l).1.toNat)) := by
      show rbytes most l = _
      rw [rbytes, if_pos he]
    generalize rcount most l = q at *
    obtain ⟨n, er, l'⟩ := q
    simp only at *
    subst he
    obtain ⟨n, rfl⟩ := Int.eq_ofNat_of_zero_le hn0
    by_cases hshort : (l'.length : Int) < n
    · have HB' : Hid (rbytes most l = ([], 4, l)) := by show rbytes most l = _; rw [HB.out, if_pos hshort]
      clear HB
      go_enter Tryz.func229, Tryz.ntmps229
      go_wp2_with (first | (go_at_call 75; refine (missing_no R _ c1).mono ?_; rintro e w1 ⟨rfl, rfl⟩) | (go_at_call 147; refine (hcnt _).mono ?_; rintro e w1 ⟨rfl, hR1, hg1⟩; obtain ⟨x0, x1⟩ := was_cells hg1 hsz; obtain ⟨ao1, cap1, y0, y1, g0, g1, hsz1, hl1⟩ := hR1.cells))
      go_ret2
      rw [HB'.out]
      obtain ⟨r1, r2⟩ := Rdr.restore hR c0 (grown_trans (World.grownBy_alloc _ _ _) hg1) hR1
      exact ⟨none, 0, rfl, Own.nil _ _ _, by simp, r1, r2⟩
    · have HB' : Hid (rbytes most l = (l'.take n, 0, l'.drop n)) := by show rbytes most l = _; rw [HB.out, if_neg hshort]; simp
      clear HB
      go_enter Tryz.func229, Tryz.ntmps229
      go_wp2_with (first | (go_at_call 75; refine (missing_no R _ c1).mono ?_; rintro e w1 ⟨rfl, rfl⟩) | (go_at_call 147; refine (hcnt _).mono ?_; rintro e w1 ⟨rfl, hR1, hg1⟩; obtain ⟨x0, x1⟩ := was_cells hg1 hsz; obtain ⟨ao1, cap1, y0, y1, g0, g1, hsz1, hl1⟩ := hR1.cells; obtain ⟨rd1, nn1, lc1, cm1⟩ := hR1.more y0) | (go_at_call 68; refine (clone_len ao1 cap1 n (l'.take n) _ (by simp; omega) (rd1.take n) nn1 (by simp; omega)).mono ?_; rintro e w2 ⟨ao2, cap2, rfl, hown2, hnil2, hb2⟩; have hR2 := hR1.kept (row := none) (grown_of_below hb2) (by simp); obtain ⟨z0, z1, i0, i1⟩ := after hb2 hsz1 y0 y1 g0 g1))
      all_goals
        go_ret2
        rw [HB'.out]
        refine ⟨ao2, cap2, ?_, ?_⟩
        · rw [show (l'.take n).length = n by simp; omega]; rfl
        · rw [show (l'.take n).length = n by simp; omega]
          have hmv := fun ao' cap' hoff => Rdr.move (k := n) (ao' := ao') (cap' := cap') (m := l'.length - n) hR2 z0 (by omega) hoff rfl
          have hg2 := grown_trans (grown_trans (World.grownBy_alloc w _ (some R)) hg1) (grown_of_below (row := some R) hb2)
          refine ⟨ownsRow_setCell_below (a := ⟨R, 0, none⟩) (hown2.lift (by have := hg1.size; simp at this; omega)) hsz _, hnil2, ?_⟩
          first
            | (obtain ⟨r1, r2⟩ := hmv ao1 0 (.inl ⟨by omega, rfl, rfl⟩); exact ⟨r1, grown_trans hg2 r2⟩)
            | (obtain ⟨r1, r2⟩ := hmv _ _ (.inr ⟨rfl, rfl⟩); exact ⟨r1, grown_trans hg2 r2⟩)
  · have HE := rcount_err he
    have HB' : Hid (rbytes most l = ([], (rcount most l).2.1, l)) := by show rbytes most l = _; rw [rbytes, if_neg he]
    generalize rcount most l = q at *
    obtain ⟨n, er, l'⟩ := q
    simp only at *
    subst HE
    have hne : (er != 0) = true := by simpa using he
    clear he
    go_enter Tryz.func229, Tryz.ntmps229
    go_wp2_with (first | (go_at_call 75; refine (missing_no R _ c1).mono ?_; rintro e w1 ⟨rfl, rfl⟩) | (go_at_call 147; refine (hcnt _).mono ?_; rintro e w1 ⟨rfl, hR1, hg1⟩))
    go_ret2
    rw [HB'.out]
    exact ⟨none, 0, rfl, Own.nil _ _ _, by simp, hR1, grown_trans (World.grownBy_alloc _ _ _) hg1⟩



set_option maxHeartbeats 400000 in
set_option maxRecDepth 100000 in
theorem open_any (ao : Option Addr) (cap n : Nat) (l : List Int) (w : World) (hn : l.length = n) (hr : Rd w ao l) (hnil : ao = none → cap = 0) (hl : l.length ≤ 140737488355328) (h8 : ∀ x ∈ l, 0 ≤ x ∧ x ≤ 255) :
    Calls Tryz.prog 25 #[.slice ao n cap] w fun e w' => ∃ R, e = .returned (.pointer (some ⟨R, 0, none⟩)) ∧ Rdr (fun _ => True) 77 w' R (R + 1) l ∧ w.heap.size ≤ R ∧ R + 1 = w'.heap.size ∧ Below w.heap.size w w' := by
  go_enter Tryz.func25, Tryz.ntmps25
  go_wp2_with (go_at_call 68; refine (clone_len ao cap n l _ hn hr hnil hl).mono ?_; rintro e w1 ⟨ao1, cap1, rfl, hown1, hnil1, hb1⟩)
  go_ret
  have hs := hb1.size
  have hal : Below w1.heap.size w1 (w1.alloc (.cells #[.slice ao1 n cap1, .bool true] 77)) := (Below.refl _ _).alloc (Nat.le_refl _) _
  refine ⟨w1.heap.size, rfl, ⟨ao1, cap1, ?_, hown1.rd.below hal, hnil1, hown1.cap.1, hown1.cap.2, ?_, by omega, h8⟩, hs, by simp, hb1.alloc hs _⟩
  · rw [hn]; exact heap_alloc_new w1 _
  · intro a ha
    have := hown1.blk a ha
    exact ⟨⟨by omega, trivial⟩, by omega⟩

/-! ### Readers that are not there: nil, and a zero one -/

end Go.Proofs.YtpepgoelnagoaaaGreatDoor
namespace Go.Proofs.YtpepgoelnagoaaaGreatDoor
open Go.RowKit

theorem ret_int {k : IntKind} {a b : Int} (h : a = b) : Ending.returned (.int k a) = .returned (.int k b) := by rw [h]


/-- At block D lies the document's reader of the bytes LB, with l before it. -/
def Doc (T : Nat) (w : World) (D : Nat) (LB l : List Int) : Prop :=
  ∃ bo cap at', w.heap[D]? = some (.cells #[.slice bo LB.length cap, .int .i64 ((at' : Nat) : Int)] 56 (0, 0)) ∧ Rd w bo LB ∧ (bo = none → cap = 0) ∧ LB.length ≤ cap ∧ cap ≤ 9223372036854775807 ∧ LB.length ≤ 1048576 ∧
    ((LB ≠ [] → ∀ a, bo = some a → a.block < T) ∧ T ≤ D) ∧ (∀ x ∈ LB, 0 ≤ x ∧ x ≤ 255) ∧ at' ≤ LB.length ∧ l = LB.drop at'

variable {T : Nat}

theorem Doc.le {w : World} {D : Nat} {LB l : List Int} (h : Doc T w D LB l) : T ≤ D := by
  obtain ⟨_, _, _, _, _, _, _, _, _, h7, _⟩ := h
  exact h7.2

theorem Rd.grownL {w w' : World} {ao : Option Addr} {l : List Int} {row : Option Nat} (h : Rd w ao l) (hg : w.grownBy w' row) (hne : l ≠ [] → ∀ a, ao = some a → some a.block ≠ row) : Rd w' ao l := by
  cases l with
  | nil => exact Rd.nil _ _
  | cons b r => exact h.grown hg (hne (by simp))

/-- The document's reader is at another place. -/
theorem Doc.set {w : World} {D at2 cap : Nat} {bo : Option Addr} {LB l2 : List Int} {y : Value} (h : w.heap[D]? = some (.cells #[.slice bo LB.length cap, y] 56 (0, 0))) (hr : Rd w bo LB) (hn : bo = none → cap = 0) (hc : LB.length ≤ cap) (hm : cap ≤ 9223372036854775807) (hz : LB.length ≤ 1048576)
    (hb : (LB ≠ [] → ∀ a, bo = some a → a.block < T) ∧ T ≤ D) (h8 : ∀ x ∈ LB, 0 ≤ x ∧ x ≤ 255) (ha : at2 ≤ LB.length) (hl : l2 = LB.drop at2) :
    Doc T (w.setCell ⟨D, 1, none⟩ (.int .i64 ((at2 : Nat) : Int))) D LB l2 ∧ w.grownBy (w.setCell ⟨D, 1, none⟩ (.int .i64 ((at2 : Nat) : Int))) (some D) := by
  have hg := grown_set w D 1 (.int .i64 ((at2 : Nat) : Int))
  refine ⟨⟨bo, cap, at2, ?_, hr.grownL hg (fun hne a ha' => by have := hb.1 hne a ha'; have := hb.2; simp; omega), hn, hc, hm, hz, hb, h8, ha, hl⟩, hg⟩
  rw [heap_setCell_same w D 1 _ 56 _ h]; simp

theorem Doc.put {w : World} {D at2 cap n : Nat} {bo : Option Addr} {LB l2 : List Int} {y : Value} {q : Int} (h : w.heap[D]? = some (.cells #[.slice bo LB.length cap, y] 56 (0, 0))) (hr : Rd w bo LB) (hn : bo = none → cap = 0) (hc : LB.length ≤ cap) (hm : cap ≤ 9223372036854775807) (hz : LB.length ≤ 1048576)
    (hb : (LB ≠ [] → ∀ a, bo = some a → a.block < T) ∧ T ≤ D) (h8 : ∀ x ∈ LB, 0 ≤ x ∧ x ≤ 255) (ha : at2 ≤ LB.length) (hl : l2 = LB.drop at2) (hq : q = (at2 : Int)) :
    Doc T ((w.drewN n).setCell ⟨D, 1, none⟩ (.int .i64 q)) D LB l2 ∧ w.grownBy ((w.drewN n).setCell ⟨D, 1, none⟩ (.int .i64 q)) (some D) := by
  subst hq
  obtain ⟨r1, r2⟩ := Doc.set (w := w.drewN n) h hr hn hc hm hz hb h8 ha hl
  exact ⟨r1, ⟨r2.os, r2.tape, r2.output, r2.size, r2.block⟩⟩

theorem Doc.kept {w w' : World} {D : Nat} {LB l : List Int} {row : Option Nat} (h : Doc T w D LB l) (hg : w.grownBy w' row) (h1 : ∀ k, row = some k → k ≠ D ∧ T ≤ k) : Doc T w' D LB l := by
  obtain ⟨bo, cap, at', e1, e2, e3, e4, e5, e6, e7, e8, e9, e10⟩ := h
  refine ⟨bo, cap, at', ?_, e2.grownL hg ?_, e3, e4, e5, e6, e7, e8, e9, e10⟩
  · rw [hg.block D (Array.getElem?_eq_some_iff.1 e1).1 (fun e => by have := h1 D e.symm; omega)]; exact e1
  · intro hne a ha e
    have := e7.1 hne a ha
    have := h1 a.block e.symm
    omega

set_option maxHeartbeats 400000 in
set_option maxRecDepth 100000 in
theorem dleft_any (D : Nat) (LB l : List Int) (w : World) (hD : Doc T w D LB l) :
    Calls Tryz.prog 32 #[.pointer (some ⟨D, 0, none⟩)] w fun e w' => e = .returned (.int .i64 l.length) ∧ ∃ n, w' = w.drewN n := by
  obtain ⟨bo, cap, at', h1, h2, h3, h4, h5, hz, h6, h7, h8, h9⟩ := hD
  obtain ⟨c0, c1, _⟩ := cell_blk h1
  have HL : Hid ((l.length : Int) = (LB.length : Int) - (at' : Int)) := by show _ = _; rw [h9]; simp; omega
  clear h9 h1
  go_enter Tryz.func32, Tryz.ntmps32
  go_wp2
  go_quiet (fail)
  go_wp2
  go_ret
  exact ⟨ret_int (by rw [HL.out]), _, rfl⟩


theorem shl_step (k : Nat) (b : Int) (hk : k < 9) : IntKind.u64.wrap (b % 128 * 2 ^ (7 * k)) = (((b % 128).toNat * 128 ^ k : Nat) : Int) := by
  have e : (128 : Nat) ^ k = 2 ^ (7 * k) := by rw [Nat.pow_mul]
  obtain ⟨x, hx⟩ := Int.eq_ofNat_of_zero_le (show 0 ≤ b % 128 by omega)
  have hx2 : x ≤ 127 := by omega
  have hp : (2 : Nat) ^ (7 * k) ≤ 2 ^ 56 := Nat.pow_le_pow_right (by omega) (by omega)
  have hm : x * 2 ^ (7 * k) ≤ 127 * 2 ^ 56 := Nat.mul_le_mul hx2 hp
  rw [e, hx]
  have : ((x : Int) * 2 ^ (7 * k)) = ((x * 2 ^ (7 * k) : Nat) : Int) := by push_cast; rfl
  rw [this]
  simp only [Int.toNat_natCast]
  generalize x * 2 ^ (7 * k) = y at *
  simp [IntKind.wrap, IntKind.bits, IntKind.signed]; omega

set_option maxHeartbeats 1000000 in
set_option maxRecDepth 100000 in
theorem dnumber_any (D : Nat) (LB l : List Int) (w : World) (hD : Doc T w D LB l) :
    Calls Tryz.prog 71 #[.pointer (some ⟨D, 0, none⟩)] w fun e w' =>
      e = .returned (.tuple #[.int .u64 (rnum l).1, .int .i64 (rnum l).2.1]) ∧ Doc T w' D LB (rnum l).2.2 ∧ w.grownBy w' (some D) := by
  have HRd : Hid (Doc T w D LB l) := hD
  obtain ⟨bo, cap, at', hh, hr, hnil, hlc, hcm, hz, hblk, hb8, hat, hl⟩ := hD
  obtain ⟨h0, h1, _, hf⟩ := cell_blk hh
  have HH : Hid (w.heap[D]? = some (.cells #[.slice bo LB.length cap, .int .i64 ((at' : Nat) : Int)] 56 (0, 0))) := hh
  have hll : l.length = LB.length - at' := by rw [hl]; simp
  have HL : Hid (l = LB.drop at') := hl
  have HLL : Hid (l.length = LB.length - at') := hll
  have h8l : ∀ x ∈ l, 0 ≤ x ∧ x ≤ 255 := fun x hx => hb8 x (by rw [hl] at hx; exact List.mem_of_mem_drop hx)
  clear hh hl
  go_enter Tryz.func71, Tryz.ntmps71
  go_wp2
  go_loopw [4, 5] (fun a i wr => ∃ (k acc nq : Nat), k ≤ l.length ∧ k ≤ 9 ∧ i = .int .i64 k ∧ a = .int .u64 acc ∧ acc < 128 ^ k ∧ Plain.readN 0 0 l = Plain.readN k acc (l.drop k) ∧ wr = w.drewN nq) (fun _ i _ => l.length - (intOf i).toNat)
  case atStart => exact ⟨0, 0, 0, by omega, by omega, rfl, rfl, by simp, by simp, rfl⟩
  case round =>
    obtain ⟨k, acc, nq, hk, hk9, rfl, rfl, hacc, hread, rfl⟩ := hrel
    have HR : Hid (Plain.readN 0 0 l = Plain.readN k acc (l.drop k)) := hread
    have HA : Hid (acc < 128 ^ k) := hacc
    have hk10 : (k : Int) < 10 := by omega
    have hacc2 : acc ≤ 9223372036854775807 := by have := Plain.pow9 hk9; omega
    clear hread hacc
    by_cases hlt : k < l.length
    · obtain ⟨b, hb⟩ : ∃ b, l[k]? = some b := ⟨_, List.getElem?_eq_getElem hlt⟩
      have hbb : 0 ≤ b ∧ b ≤ 255 := h8l b (List.mem_of_getElem? hb)
      obtain ⟨hb0, hb1⟩ := hbb
      have HD : Hid (l.drop k = b :: l.drop (k + 1)) := by
        show l.drop k = _
        obtain ⟨h, rfl⟩ := List.getElem?_eq_some_iff.1 hb
        exact List.drop_eq_getElem_cons h
      have hbL : LB[at' + k]? = some b := by rw [HL.out, List.getElem?_drop] at hb; exact hb
      have hlt2 : at' + k < LB.length := by omega
      cases bo with
      | none => have := hr.1 rfl; subst this; simp at hlt2
      | some a =>
        obtain ⟨ab, aoff, aspot⟩ := a
        have hc := hr.2 _ rfl (at' + k) (.int .u8 b) (by rw [u8s_get, hbL]; rfl)
        have hc0 := hr.2 _ rfl 0 (.int .u8 (LB[0]'(by omega))) (by rw [u8s_get, List.getElem?_eq_getElem]; rfl)
        have hspot : aspot = none := World.cell?_spot (by simpa [Addr.add] using hc0)
        subst hspot
        rw [add_lit] at hc
        have hltd : decide ((at' : Int) + (k : Int) < (LB.length : Int)) = true := by simp; omega
        have hlti : (at' : Int) + (k : Int) < (LB.length : Int) := by omega
        have hd10 : decide ((k : Int) < 10) = true := by simp; omega
        have HX := hide hblk
        have H8 := hide hb8
        have hRd := hide hr
        clear hc0 hb hbL hblk hb8 h8l hll hr
        by_cases c1 : k = 9 ∧ 1 < b
        · have HN' : Hid (rnum l = (0, 4, l)) := rnum_none (by rw [HR.out, HD.out, Plain.readN, if_pos (.inl c1)])
          obtain ⟨rfl, c1⟩ := c1
          go_wp2
          go_quiet (fail)
          go_wp2
          go_quiet (fail)
          go_wp2
          all_goals
            go_ret2
            refine ⟨?_, ?_, ⟨rfl, rfl, rfl, Nat.le_refl _, fun _ _ _ => rfl⟩⟩
            · rw [HN'.out]; rfl
            · rw [HN'.out]; exact HRd.out
        · by_cases c2 : 0 < k ∧ b = 0
          · have HN' : Hid (rnum l = (0, 4, l)) := rnum_none (by rw [HR.out, HD.out, Plain.readN, if_pos (.inr c2)])
            obtain ⟨c2, rfl⟩ := c2
            go_wp2
            go_quiet (fail)
            go_wp2
            go_quiet (fail)
            go_wp2
            all_goals
              go_ret2
              refine ⟨?_, ?_, ⟨rfl, rfl, rfl, Nat.le_refl _, fun _ _ _ => rfl⟩⟩
              · rw [HN'.out]; rfl
              · rw [HN'.out]; exact HRd.out
          · by_cases hk9' : k = 9
            · subst hk9'
              have hb1 : b = 1 := by omega
              subst hb1
              have HN' : Hid (rnum l = (acc + 128 ^ 9, 0, l.drop 10)) := rnum_some (by rw [HR.out, HD.out, Plain.readN, if_neg (by omega), if_pos (by omega)]; simp)
              go_wp2
              go_quiet (fail)
              go_wp2
              go_quiet (fail)
              go_wp2
              go_ret2
              refine ⟨?_, ?_⟩
              · rw [HN'.out]; exact ret_two (by go_num) rfl
              · rw [HN'.out]; exact Doc.put HH.out hRd.out hnil hlc hcm hz HX.out H8.out (at2 := at' + 10) (by omega) (by rw [HL.out, List.drop_drop]) (by omega)
            · have hk8 : k < 9 := by omega
              obtain ⟨x, hx⟩ : ∃ x, x = (b % 128).toNat * 128 ^ k := ⟨_, rfl⟩
              have hsh := shl_step k b hk8
              rw [← hx] at hsh
              have HQ : Hid (x = (b % 128).toNat * 128 ^ k) := hx
              have hxb : x ≤ 9223372036854775807 := by
                have h2 : (b % 128).toNat * 128 ^ k ≤ 127 * 128 ^ k := Nat.mul_le_mul_right _ (by omega)
                have h3 := Plain.pow9 (i := k + 1) (by omega)
                rw [Nat.pow_succ] at h3
                omega
              clear hx
              by_cases c3 : b < 128
              · have HN' : Hid (rnum l = (acc + x, 0, l.drop (k + 1))) := rnum_some (by rw [HQ.out, HR.out, HD.out, Plain.readN, if_neg (by omega), if_pos c3, show (b % 128).toNat = b.toNat by omega])
                by_cases hk0 : 0 < k
                · have hne : (b == 0) = false := by simp; omega
                  go_wp2
                  go_quiet (fail)
                  go_wp2
                  go_quiet (fail)
                  go_wp2
                  all_goals
                    go_ret2
                    refine ⟨?_, ?_⟩
                    · rw [HN'.out]; exact ret_two (by go_num) rfl
                    · rw [HN'.out]; exact Doc.put HH.out hRd.out hnil hlc hcm hz HX.out H8.out (at2 := at' + (k + 1)) (by omega) (by rw [HL.out, List.drop_drop]) (by omega)
                · go_wp2
                  go_quiet (fail)
                  go_wp2
                  go_quiet (fail)
                  go_wp2
                  all_goals
                    go_ret2
                    refine ⟨?_, ?_⟩
                    · rw [HN'.out]; exact ret_two (by go_num) rfl
                    · rw [HN'.out]; exact Doc.put HH.out hRd.out hnil hlc hcm hz HX.out H8.out (at2 := at' + (k + 1)) (by omega) (by rw [HL.out, List.drop_drop]) (by omega)
              · have HN' : Hid (Plain.readN 0 0 l = Plain.readN (k + 1) (acc + x) (l.drop (k + 1))) := by
                  show Plain.readN 0 0 l = _
                  rw [HQ.out, HR.out, HD.out, Plain.readN, if_neg (by omega), if_neg (by omega)]
                have HB' : Hid (acc + x < 128 ^ (k + 1)) := by
                  show acc + x < _
                  rw [HQ.out]
                  have h1 := HA.out
                  have h3 : (b % 128).toNat * 128 ^ k ≤ 127 * 128 ^ k := Nat.mul_le_mul_right _ (by omega)
                  rw [Nat.pow_succ]; omega
                by_cases hk0 : 0 < k
                · have hne : (b == 0) = false := by simp; omega
                  go_wp2
                  go_quiet (fail)
                  go_wp2
                  go_quiet (fail)
                  go_wp2
                  all_goals
                    go_roundw
                    case rel => exact ⟨k + 1, acc + x, _, by omega, by omega, by go_num, by go_num, HB'.out, HN'.out, rfl⟩
                    case measure => simp [intOf]; omega
                · go_wp2
                  go_quiet (fail)
                  go_wp2
                  go_quiet (fail)
                  go_wp2
                  all_goals
                    go_roundw
                    case rel => exact ⟨k + 1, acc + x, _, by omega, by omega, by go_num, by go_num, HB'.out, HN'.out, rfl⟩
                    case measure => simp [intOf]; omega
    · have HN' : Hid (rnum l = (0, 4, l)) := rnum_none (by rw [HR.out, List.drop_eq_nil_of_le (by omega)]; rfl)
      have hge : decide ((at' : Int) + (k : Int) < (LB.length : Int)) = false := by simp; omega
      have hd10 : decide ((k : Int) < 10) = true := by simp; omega
      clear hll
      go_wp2
      go_quiet (fail)
      go_wp2
      go_ret2
      refine ⟨?_, ?_, ⟨rfl, rfl, rfl, Nat.le_refl _, fun _ _ _ => rfl⟩⟩
      · rw [HN'.out]; rfl
      · rw [HN'.out]; exact HRd.out




end Go.Proofs.YtpepgoelnagoaaaGreatDoor
