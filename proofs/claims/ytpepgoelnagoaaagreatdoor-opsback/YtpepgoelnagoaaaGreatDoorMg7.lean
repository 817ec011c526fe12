/-
  READS2: the program's reader, more: carried from layer 1's seat.
  DOCR: the document's reader: carried from layer 1's seat.
  DOCB: the document's reader, bytes: carried from layer 1's seat.
  Picked.
  OPS: forms of the parts: textForm 99, Put[string] 132, listForm[string] 98, namedForm 100.
-/
import Derived.Test.YtpepgoelnagoaaaGreatDoorMg6
import Derived.Deep.QuietTactic
import Derived.BigQuiet
import Derived.Test.YtpepgoelnagoaaaGreatDoorMg3
import Derived.Deep.DeepCutAuto
namespace Go.Proofs.YtpepgoelnagoaaaGreatDoor
open Go.RowKit
variable {K : Nat → Prop}

theorem readN_lt {w : World} {R S n k : Nat} {l : List Int} (hR : Rdr K 77 w R S l) (h : Plain.readN 0 0 l = some (n, k)) : n < 18446744073709551616 ∧ k ≤ l.length := by
  obtain ⟨_, _, _, _, _, _, _, _, _, h8⟩ := hR
  obtain ⟨m, _, h2, _, _, h5, _⟩ := Plain.readN_spec l 0 0 n k (by omega) (by simp) h8 h
  exact ⟨h2, by omega⟩

theorem Rdr.cells {t : TypeId} {w : World} {R S : Nat} {l : List Int} (h : Rdr K t w R S l) : ∃ ao cap, w.cell? ⟨R, 0, none⟩ = some (.slice ao l.length cap) ∧ w.cell? ⟨R, 1, none⟩ = some (.bool true) ∧ w.frozen? ⟨R, 0, none⟩ = false ∧ w.frozen? ⟨R, 1, none⟩ = false ∧ R < w.heap.size ∧ l.length ≤ 9223372036854775807 := by
  obtain ⟨ao, cap, h1, _, _, h4, h5, _⟩ := h
  obtain ⟨c0, c1, f0, f1⟩ := cell_blk h1
  exact ⟨ao, cap, c0, c1, f0, f1, (Array.getElem?_eq_some_iff.1 h1).1, by omega⟩

/-- What else a reader's cell tells. -/
theorem Rdr.more {t : TypeId} {w : World} {R S cap : Nat} {ao : Option Addr} {l : List Int} (h : Rdr K t w R S l) (c0 : w.cell? ⟨R, 0, none⟩ = some (.slice ao l.length cap)) : Rd w ao l ∧ (ao = none → cap = 0) ∧ l.length ≤ cap ∧ cap ≤ 9223372036854775807 := by
  obtain ⟨ao', cap', a1, a2, a3, a4, a5, _⟩ := h
  obtain ⟨d0, _⟩ := cell_blk a1
  rw [d0] at c0
  simp only [Option.some.injEq, Value.slice.injEq, true_and] at c0
  obtain ⟨rfl, rfl⟩ := c0
  exact ⟨a2, a3, a4, a5⟩

theorem grown_of_below {w w' : World} {row : Option Nat} (hb : Below w.heap.size w w') : w.grownBy w' row := ⟨hb.os, hb.tape, hb.output, hb.size, fun k hk _ => hb.block k hk⟩

theorem after {w w' : World} {R : Nat} {x y : Value} (hb : Below w.heap.size w w') (hR : R < w.heap.size) (y0 : w.cell? ⟨R, 0, none⟩ = some x) (y1 : w.cell? ⟨R, 1, none⟩ = some y) (g0 : w.frozen? ⟨R, 0, none⟩ = false) (g1 : w.frozen? ⟨R, 1, none⟩ = false) :
    w'.cell? ⟨R, 0, none⟩ = some x ∧ w'.cell? ⟨R, 1, none⟩ = some y ∧ w'.frozen? ⟨R, 0, none⟩ = false ∧ w'.frozen? ⟨R, 1, none⟩ = false :=
  ⟨(hb.cell (p := ⟨R, 0, none⟩) hR).trans y0, (hb.cell (p := ⟨R, 1, none⟩) hR).trans y1, (hb.frozen (p := ⟨R, 0, none⟩) hR).trans g0, (hb.frozen (p := ⟨R, 1, none⟩) hR).trans g1⟩

theorem clone_len (ao : Option Addr) (cap n : Nat) (l : List Int) (w : World) (h : l.length = n) (hr : Rd w ao l) (hn : ao = none → cap = 0) (hl : l.length ≤ 140737488355328) :
    Calls Tryz.prog 68 #[.slice ao n cap] w fun e w' => ∃ ao' cap', e = .returned (.slice ao' n cap') ∧ Own 5 w' w.heap.size (.slice ao' n cap') l ∧ (ao' = none → cap' = 0) ∧ Below w.heap.size w w' := by
  subst h
  exact clone68 ao cap l w hr hn hl

theorem add_add (a : Addr) (k j : Nat) : (a.add k).add j = a.add (k + j) := by
  unfold Addr.add
  by_cases hk : k = 0
  · subst hk; simp
  · by_cases hj : j = 0
    · subst hj; simp [hk]
    · simp [hk, hj]; omega

/-- The reader's slice is moved on, whatever its address. -/
theorem Rdr.move {t : TypeId} {w : World} {R S k cap cap' m : Nat} {ao ao' : Option Addr} {l : List Int} (h : Rdr K t w R S l) (c0 : w.cell? ⟨R, 0, none⟩ = some (.slice ao l.length cap)) (hk : k ≤ l.length)
    (hoff : (cap = k ∧ ao' = ao ∧ cap' = 0) ∨ (ao' = ao.map (fun x => x.add k) ∧ cap' = cap - k)) (hm : m = l.length - k) :
    Rdr K t (w.setCell ⟨R, 0, none⟩ (.slice ao' m cap')) R S (l.drop k) ∧ w.grownBy (w.setCell ⟨R, 0, none⟩ (.slice ao' m cap')) (some R) := by
  subst hm
  have hg := grown_set w R 0 (.slice ao' (l.length - k) cap')
  refine ⟨?_, hg⟩
  obtain ⟨ao2, cap2, a1, a2, a3, a4, a5, a6, a7, a8⟩ := h
  obtain ⟨d0, _⟩ := cell_blk a1
  rw [d0] at c0
  simp only [Option.some.injEq, Value.slice.injEq, true_and] at c0
  obtain ⟨rfl, rfl⟩ := c0
  have hrd : Rd w ao' (l.drop k) ∧ (ao' = none → cap' = 0) ∧ ∀ a, ao' = some a → (a.block < S ∧ K a.block) ∧ a.block ≠ R := by
    rcases hoff with ⟨h1, rfl, rfl⟩ | ⟨rfl, rfl⟩
    · rw [List.drop_eq_nil_of_le (by omega)]
      exact ⟨Rd.nil _ _, fun _ => rfl, a6⟩
    · cases ao2 with
      | none =>
        have := a2.1 rfl
        have := a3 rfl
        refine ⟨?_, fun _ => by omega, by simp⟩
        simp only [Option.map_none]
        rw [a2.1 rfl]
        simpa using Rd.nil _ _
      | some a =>
        refine ⟨⟨by simp, ?_⟩, by simp, ?_⟩
        · intro a' ha' j u hj
          simp only [Option.map_some, Option.some.injEq] at ha'
          subst ha'
          rw [add_add]
          exact a2.2 a rfl (k + j) u (by rw [u8s_get] at hj ⊢; rw [List.getElem?_drop] at hj; exact hj)
        · intro a' ha'
          simp only [Option.map_some, Option.some.injEq] at ha'
          subst ha'
          have : (a.add k).block = a.block := by unfold Addr.add; split <;> rfl
          rw [this]
          exact a6 a rfl
  obtain ⟨r1, r2, r3⟩ := hrd
  refine ⟨ao', cap', ?_, r1.grown hg (fun a ha => by have := (r3 a ha).2; simpa using this), r2, ?_, ?_, r3, a7, fun x hx => a8 x (List.mem_of_mem_drop hx)⟩
  · rw [heap_setCell_same w R 0 _ t _ a1]; simp
  · simp; omega
  · omega

/-- The address of bytes that are there has no spot. -/
theorem Rd.plain {w : World} {ao : Option Addr} {b : Int} {l : List Int} (h : Rd w ao (b :: l)) : ∃ ab off, ao = some ⟨ab, off, none⟩ ∧ w.cell? ⟨ab, off, none⟩ = some (.int .u8 b) := by
  cases ao with
  | none => have := h.1 rfl; simp at this
  | some a =>
    obtain ⟨ab, off, sp⟩ := a
    have hc := h.2 _ rfl 0 (.int .u8 b) (by simp [u8s])
    simp only [Addr.add, if_true] at hc
    have hs : sp = none := World.cell?_spot hc
    subst hs
    exact ⟨ab, off, rfl, hc⟩

/-- What reading a count answers. -/
def rcount (most : Int) (l : List Int) : Int × Int × List Int :=
  if most < 0 then (0, 2, l) else
  match Plain.readN 0 0 l with
  | none => (0, 4, l)
  | some (n, k) => if most < n then (0, 3, l) else (n, 0, l.drop k)

theorem rnumber_none (R S : Nat) (l : List Int) (w : World) (hR : Rdr K 77 w R S l) (h : Plain.readN 0 0 l = none) :
    Calls Tryz.prog 177 #[.pointer (some ⟨R, 0, none⟩)] w fun e w' => e = .returned (.tuple #[.int .u64 0, .int .i64 4]) ∧ Rdr K 77 w' R S l ∧ w.grownBy w' (some R) := by
  have hc := rnumber_any R S l w hR
  unfold NumPost at hc
  rw [rnum_none h] at hc
  exact hc
theorem rnumber_some (R S n k : Nat) (l : List Int) (w : World) (hR : Rdr K 77 w R S l) (h : Plain.readN 0 0 l = some (n, k)) :
    Calls Tryz.prog 177 #[.pointer (some ⟨R, 0, none⟩)] w fun e w' => e = .returned (.tuple #[.int .u64 n, .int .i64 0]) ∧ Rdr K 77 w' R S (l.drop k) ∧ w.grownBy w' (some R) := by
  have hc := rnumber_any R S l w hR
  unfold NumPost at hc
  rw [rnum_some h] at hc
  exact hc

/-- The copy of a reader, in a new block, is there behind a call that writes the reader alone. -/
theorem was_cells {w w1 : World} {R : Nat} {x y : Value} {t : TypeId} (hg : (w.alloc (.cells #[x, y] t)).grownBy w1 (some R)) (hR : R < w.heap.size) :
    w1.cell? ⟨w.heap.size, 0, none⟩ = some x ∧ w1.cell? ⟨w.heap.size, 1, none⟩ = some y := by
  have h : w1.heap[w.heap.size]? = some (.cells #[x, y] t (0, 0)) := by
    rw [hg.block w.heap.size (by simp) (by simp; omega)]
    exact heap_alloc_new w _
  obtain ⟨h1, h2, _⟩ := cell_blk h
  exact ⟨h1, h2⟩

/-- A reader is laid back as it was. -/
theorem Rdr.restore {t : TypeId} {w w1 : World} {R S cap : Nat} {ao : Option Addr} {l l1 : List Int} (hR : Rdr K t w R S l) (c0 : w.cell? ⟨R, 0, none⟩ = some (.slice ao l.length cap)) (hg : w.grownBy w1 (some R)) (h1 : Rdr K t w1 R S l1) :
    Rdr K t ((w1.setCell ⟨R, 0, none⟩ (.slice ao l.length cap)).setCell ⟨R, 1, none⟩ (.bool true)) R S l ∧ w.grownBy ((w1.setCell ⟨R, 0, none⟩ (.slice ao l.length cap)).setCell ⟨R, 1, none⟩ (.bool true)) (some R) := by
  have hg2 := grown_trans (grown_trans hg (grown_set w1 R 0 (.slice ao l.length cap))) (grown_set (w1.setCell ⟨R, 0, none⟩ (.slice ao l.length cap)) R 1 (.bool true))
  refine ⟨?_, hg2⟩
  obtain ⟨ao', cap', a1, a2, a3, a4, a5, a6, a7, a8⟩ := hR
  obtain ⟨d0, _⟩ := cell_blk a1
  rw [d0] at c0
  simp only [Option.some.injEq, Value.slice.injEq, true_and] at c0
  obtain ⟨rfl, rfl⟩ := c0
  obtain ⟨ao2, cap2, b1, _⟩ := h1
  refine ⟨ao', cap', ?_, a2.grown hg2 (fun a ha => by have := (a6 a ha).2; simpa using this), a3, a4, a5, a6, a7, a8⟩
  have e1 := heap_setCell_same w1 R 0 _ t (.slice ao' l.length cap') b1
  have e2 := heap_setCell_same _ R 1 _ t (.bool true) e1
  rw [e2]
  simp

set_option maxHeartbeats 1000000 in
set_option maxRecDepth 100000 in
theorem rcount_any (R S : Nat) (most : Int) (l : List Int) (w : World) (hR : Rdr K 77 w R S l) (hm : most ≤ 9223372036854775807) :
    Calls Tryz.prog 147 #[.pointer (some ⟨R, 0, none⟩), .int .i64 most] w fun e w' =>
      e = .returned (.tuple #[.int .i64 (rcount most l).1, .int .i64 (rcount most l).2.1]) ∧ Rdr K 77 w' R S (rcount most l).2.2 ∧ w.grownBy w' (some R) := by
  obtain ⟨ao, cap, c0, c1, f0, f1, hsz, hl⟩ := hR.cells
  by_cases hneg : most < 0
  · have HC : Hid (rcount most l = (0, 2, l)) := by show rcount most l = _; simp [rcount, hneg]
    go_enter Tryz.func147, Tryz.ntmps147
    go_wp2
    go_ret2
    rw [HC.out]
    exact ⟨rfl, hR, World.grownBy.refl _ _⟩
  · have hal : ∀ (o : Obj), Rdr K 77 (w.alloc o) R S l := fun o => hR.kept (World.grownBy_alloc w o none) (by simp)
    rcases hx : Plain.readN 0 0 l with _ | ⟨n, k⟩
    · have HC : Hid (rcount most l = (0, 4, l)) := by show rcount most l = _; simp [rcount, hneg, hx]
      have HX : Hid (Plain.readN 0 0 l = none) := hx
      clear hx
      go_enter Tryz.func147, Tryz.ntmps147
      go_wp2_with (go_at_call 177; refine (rnumber_none R S l _ (hal _) HX.out).mono ?_; rintro e w1 ⟨rfl, hR1, hg1⟩)
      go_ret2
      rw [HC.out]
      exact ⟨rfl, hR1, grown_trans (World.grownBy_alloc _ _ _) hg1⟩
    · obtain ⟨hn, hk⟩ := readN_lt hR hx
      have HX : Hid (Plain.readN 0 0 l = some (n, k)) := hx
      by_cases hlt : most < n
      · have HC : Hid (rcount most l = (0, 3, l)) := by show rcount most l = _; simp [rcount, hneg, hx, hlt]
        clear hx
        go_enter Tryz.func147, Tryz.ntmps147
        go_wp2_with (go_at_call 177; refine (rnumber_some R S n k l _ (hal _) HX.out).mono ?_; rintro e w1 ⟨rfl, hR1, hg1⟩; obtain ⟨x0, x1⟩ := was_cells hg1 hsz; obtain ⟨ao1, cap1, y0, y1, g0, g1, hsz1, _⟩ := hR1.cells)
        go_ret2
        rw [HC.out]
        exact ⟨rfl, Rdr.restore hR c0 (grown_trans (World.grownBy_alloc _ _ _) hg1) hR1⟩
      · have HC : Hid (rcount most l = ((n : Int), 0, l.drop k)) := by show rcount most l = _; simp [rcount, hneg, hx, hlt]
        clear hx
        go_enter Tryz.func147, Tryz.ntmps147
        go_wp2_with (go_at_call 177; refine (rnumber_some R S n k l _ (hal _) HX.out).mono ?_; rintro e w1 ⟨rfl, hR1, hg1⟩)
        go_ret2
        rw [HC.out]
        exact ⟨rfl, hR1, grown_trans (World.grownBy_alloc _ _ _) hg1⟩

/-- What reading bytes answers: they, the error's number, what is left. -/
def rbytes (most : Int) (l : List Int) : List Int × Int × List Int :=
  if (rcount most l).2.1 = 0 then
    if ((rcount most l).2.2.length : Int) < (rcount most l).1 then ([], 4, l)
    else ((rcount most l).2.2.take (rcount most l).1.toNat, 0, (rcount most l).2.2.drop (rcount most l).1.toNat)
  else ([], (rcount most l).2.1, l)

theorem rcount_nonneg (most : Int) (l : List Int) : 0 ≤ (rcount most l).1 := by
  unfold rcount; split
  · simp
  · split
    · simp
    · split <;> simp
theorem rcount_err {most : Int} {l : List Int} (h : (rcount most l).2.1 ≠ 0) : (rcount most l).2.2 = l := by
  revert h; unfold rcount; split
  · simp
  · split
    · simp
    · split <;> simp
theorem rcount_le {most : Int} {l : List Int} (h : 0 ≤ most) : (rcount most l).1 ≤ most := by
  unfold rcount; split
  · simp; omega
  · split
    · simpa using h
    · split
      · simpa using h
      · simp; omega

theorem rcount_left (most : Int) (l : List Int) : (rcount most l).2.2.length ≤ l.length := by
  unfold rcount; split
  · simp
  · split
    · simp
    · split <;> simp

set_option maxHeartbeats 1000000 in
set_option maxRecDepth 100000 in
theorem rbytes_any (R S : Nat) (most : Int) (l : List Int) (w : World) (hR : Rdr K 77 w R S l) (hm : most ≤ 9223372036854775807) (hl47 : l.length ≤ 140737488355328) :
    Calls Tryz.prog 229 #[.pointer (some ⟨R, 0, none⟩), .int .i64 most] w fun e w' =>
      ∃ ao cap, e = .returned (.tuple #[.slice ao (rbytes most l).1.length cap, .int .i64 (rbytes most l).2.1]) ∧ Own 5 w' w.heap.size (.slice ao (rbytes most l).1.length cap) (rbytes most l).1 ∧ (ao = none → cap = 0) ∧
        Rdr K 77 w' R S (rbytes most l).2.2 ∧ w.grownBy w' (some R) := by
  obtain ⟨ao, cap, c0, c1, f0, f1, hsz, hl⟩ := hR.cells
  have hal : ∀ (o : Obj), Rdr K 77 (w.alloc o) R S l := fun o => hR.kept (World.grownBy_alloc w o none) (by simp)
  have hcnt : ∀ (o : Obj), _ := fun o => rcount_any R S most l (w.alloc o) (hal o) hm
  have hn0 := rcount_nonneg most l
  have hll := rcount_left most l
  have hle : 0 ≤ most → (rcount most l).1 ≤ most := rcount_le
  by_cases he : (rcount most l).2.1 = 0
  · have hpos : 0 ≤ most := by
      apply Classical.byContradiction
      intro hneg
      have : rcount most l = (0, 2, l) := by simp [rcount, show most < 0 by omega]
      rw [this] at he
      simp at he
    have hle := hle hpos
    have HB : Hid (rbytes most l = if ((rcount most l).2.2.length : Int) < (rcount most l).1 then ([], 4, l)
      else ((rcount most l).2.2.take (rcount most l).1.toNat, 0, (rcount most l).2.2.drop (rcount most l).1.toNat)) := by
      show rbytes most l = _
      rw [rbytes, if_pos he]
    generalize rcount most l = q at *
    obtain ⟨n, er, l'⟩ := q
    simp only at *
    subst he
    obtain ⟨n, rfl⟩ := Int.eq_ofNat_of_zero_le hn0
    by_cases hshort : (l'.length : Int) < n
    · have HB' : Hid (rbytes most l = ([], 4, l)) := by show rbytes most l = _; rw [HB.out, if_pos hshort]
      clear HB
      go_enter Tryz.func229, Tryz.ntmps229
      go_wp2_with (first | (go_at_call 75; refine (missing_no R _ c1).mono ?_; rintro e w1 ⟨rfl, rfl⟩) | (go_at_call 147; refine (hcnt _).mono ?_; rintro e w1 ⟨rfl, hR1, hg1⟩; obtain ⟨x0, x1⟩ := was_cells hg1 hsz; obtain ⟨ao1, cap1, y0, y1, g0, g1, hsz1, hl1⟩ := hR1.cells))
      go_ret2
      rw [HB'.out]
      obtain ⟨r1, r2⟩ := Rdr.restore hR c0 (grown_trans (World.grownBy_alloc _ _ _) hg1) hR1
      exact ⟨none, 0, rfl, Own.nil _ _ _, by simp, r1, r2⟩
    · have HB' : Hid (rbytes most l = (l'.take n, 0, l'.drop n)) := by show rbytes most l = _; rw [HB.out, if_neg hshort]; simp
      clear HB
      go_enter Tryz.func229, Tryz.ntmps229
      go_wp2_with (first | (go_at_call 75; refine (missing_no R _ c1).mono ?_; rintro e w1 ⟨rfl, rfl⟩) | (go_at_call 147; refine (hcnt _).mono ?_; rintro e w1 ⟨rfl, hR1, hg1⟩; obtain ⟨x0, x1⟩ := was_cells hg1 hsz; obtain ⟨ao1, cap1, y0, y1, g0, g1, hsz1, hl1⟩ := hR1.cells; obtain ⟨rd1, nn1, lc1, cm1⟩ := hR1.more y0) | (go_at_call 68; refine (clone_len ao1 cap1 n (l'.take n) _ (by simp; omega) (rd1.take n) nn1 (by simp; omega)).mono ?_; rintro e w2 ⟨ao2, cap2, rfl, hown2, hnil2, hb2⟩; have hR2 := hR1.kept (row := none) (grown_of_below hb2) (by simp); obtain ⟨z0, z1, i0, i1⟩ := after hb2 hsz1 y0 y1 g0 g1))
      all_goals
        go_ret2
        rw [HB'.out]
        refine ⟨ao2, cap2, ?_, ?_⟩
        · rw [show (l'.take n).length = n by simp; omega]; rfl
        · rw [show (l'.take n).length = n by simp; omega]
          have hmv := fun ao' cap' hoff => Rdr.move (k := n) (ao' := ao') (cap' := cap') (m := l'.length - n) hR2 z0 (by omega) hoff rfl
          have hg2 := grown_trans (grown_trans (World.grownBy_alloc w _ (some R)) hg1) (grown_of_below (row := some R) hb2)
          refine ⟨ownsRow_setCell_below (a := ⟨R, 0, none⟩) (hown2.lift (by have := hg1.size; simp at this; omega)) hsz _, hnil2, ?_⟩
          first
            | (obtain ⟨r1, r2⟩ := hmv ao1 0 (.inl ⟨by omega, rfl, rfl⟩); exact ⟨r1, grown_trans hg2 r2⟩)
            | (obtain ⟨r1, r2⟩ := hmv _ _ (.inr ⟨rfl, rfl⟩); exact ⟨r1, grown_trans hg2 r2⟩)
  · have HE := rcount_err he
    have HB' : Hid (rbytes most l = ([], (rcount most l).2.1, l)) := by show rbytes most l = _; rw [rbytes, if_neg he]
    generalize rcount most l = q at *
    obtain ⟨n, er, l'⟩ := q
    simp only at *
    subst HE
    have hne : (er != 0) = true := by simpa using he
    clear he
    go_enter Tryz.func229, Tryz.ntmps229
    go_wp2_with (first | (go_at_call 75; refine (missing_no R _ c1).mono ?_; rintro e w1 ⟨rfl, rfl⟩) | (go_at_call 147; refine (hcnt _).mono ?_; rintro e w1 ⟨rfl, hR1, hg1⟩))
    go_ret2
    rw [HB'.out]
    exact ⟨none, 0, rfl, Own.nil _ _ _, by simp, hR1, grown_trans (World.grownBy_alloc _ _ _) hg1⟩



set_option maxHeartbeats 400000 in
set_option maxRecDepth 100000 in
theorem open_any (ao : Option Addr) (cap n : Nat) (l : List Int) (w : World) (hn : l.length = n) (hr : Rd w ao l) (hnil : ao = none → cap = 0) (hl : l.length ≤ 140737488355328) (h8 : ∀ x ∈ l, 0 ≤ x ∧ x ≤ 255) :
    Calls Tryz.prog 25 #[.slice ao n cap] w fun e w' => ∃ R, e = .returned (.pointer (some ⟨R, 0, none⟩)) ∧ Rdr (fun _ => True) 77 w' R (R + 1) l ∧ w.heap.size ≤ R ∧ R + 1 = w'.heap.size ∧ Below w.heap.size w w' := by
  go_enter Tryz.func25, Tryz.ntmps25
  go_wp2_with (go_at_call 68; refine (clone_len ao cap n l _ hn hr hnil hl).mono ?_; rintro e w1 ⟨ao1, cap1, rfl, hown1, hnil1, hb1⟩)
  go_ret
  have hs := hb1.size
  have hal : Below w1.heap.size w1 (w1.alloc (.cells #[.slice ao1 n cap1, .bool true] 77)) := (Below.refl _ _).alloc (Nat.le_refl _) _
  refine ⟨w1.heap.size, rfl, ⟨ao1, cap1, ?_, hown1.rd.below hal, hnil1, hown1.cap.1, hown1.cap.2, ?_, by omega, h8⟩, hs, by simp, hb1.alloc hs _⟩
  · rw [hn]; exact heap_alloc_new w1 _
  · intro a ha
    have := hown1.blk a ha
    exact ⟨⟨by omega, trivial⟩, by omega⟩

/-! ### Readers that are not there: nil, and a zero one -/

end Go.Proofs.YtpepgoelnagoaaaGreatDoor
namespace Go.Proofs.YtpepgoelnagoaaaGreatDoor
open Go.RowKit

/-- At block D lies the document's reader of the bytes LB, with l before it. -/
def Doc (T : Nat) (w : World) (D : Nat) (LB l : List Int) : Prop :=
  ∃ bo cap at', w.heap[D]? = some (.cells #[.slice bo LB.length cap, .int .i64 ((at' : Nat) : Int)] 56 (0, 0)) ∧ Rd w bo LB ∧ (bo = none → cap = 0) ∧ LB.length ≤ cap ∧ cap ≤ 9223372036854775807 ∧ LB.length ≤ 1048576 ∧
    ((LB ≠ [] → ∀ a, bo = some a → a.block < T) ∧ T ≤ D) ∧ (∀ x ∈ LB, 0 ≤ x ∧ x ≤ 255) ∧ at' ≤ LB.length ∧ l = LB.drop at'

variable {T : Nat}

theorem Doc.le {w : World} {D : Nat} {LB l : List Int} (h : Doc T w D LB l) : T ≤ D := by
  obtain ⟨_, _, _, _, _, _, _, _, _, h7, _⟩ := h
  exact h7.2

theorem Rd.grownL {w w' : World} {ao : Option Addr} {l : List Int} {row : Option Nat} (h : Rd w ao l) (hg : w.grownBy w' row) (hne : l ≠ [] → ∀ a, ao = some a → some a.block ≠ row) : Rd w' ao l := by
  cases l with
  | nil => exact Rd.nil _ _
  | cons b r => exact h.grown hg (hne (by simp))

/-- The document's reader is at another place. -/
theorem Doc.set {w : World} {D at2 cap : Nat} {bo : Option Addr} {LB l2 : List Int} {y : Value} (h : w.heap[D]? = some (.cells #[.slice bo LB.length cap, y] 56 (0, 0))) (hr : Rd w bo LB) (hn : bo = none → cap = 0) (hc : LB.length ≤ cap) (hm : cap ≤ 9223372036854775807) (hz : LB.length ≤ 1048576)
    (hb : (LB ≠ [] → ∀ a, bo = some a → a.block < T) ∧ T ≤ D) (h8 : ∀ x ∈ LB, 0 ≤ x ∧ x ≤ 255) (ha : at2 ≤ LB.length) (hl : l2 = LB.drop at2) :
    Doc T (w.setCell ⟨D, 1, none⟩ (.int .i64 ((at2 : Nat) : Int))) D LB l2 ∧ w.grownBy (w.setCell ⟨D, 1, none⟩ (.int .i64 ((at2 : Nat) : Int))) (some D) := by
  have hg := grown_set w D 1 (.int .i64 ((at2 : Nat) : Int))
  refine ⟨⟨bo, cap, at2, ?_, hr.grownL hg (fun hne a ha' => by have := hb.1 hne a ha'; have := hb.2; simp; omega), hn, hc, hm, hz, hb, h8, ha, hl⟩, hg⟩
  rw [heap_setCell_same w D 1 _ 56 _ h]; simp

theorem Doc.put {w : World} {D at2 cap n : Nat} {bo : Option Addr} {LB l2 : List Int} {y : Value} {q : Int} (h : w.heap[D]? = some (.cells #[.slice bo LB.length cap, y] 56 (0, 0))) (hr : Rd w bo LB) (hn : bo = none → cap = 0) (hc : LB.length ≤ cap) (hm : cap ≤ 9223372036854775807) (hz : LB.length ≤ 1048576)
    (hb : (LB ≠ [] → ∀ a, bo = some a → a.block < T) ∧ T ≤ D) (h8 : ∀ x ∈ LB, 0 ≤ x ∧ x ≤ 255) (ha : at2 ≤ LB.length) (hl : l2 = LB.drop at2) (hq : q = (at2 : Int)) :
    Doc T ((w.drewN n).setCell ⟨D, 1, none⟩ (.int .i64 q)) D LB l2 ∧ w.grownBy ((w.drewN n).setCell ⟨D, 1, none⟩ (.int .i64 q)) (some D) := by
  subst hq
  obtain ⟨r1, r2⟩ := Doc.set (w := w.drewN n) h hr hn hc hm hz hb h8 ha hl
  exact ⟨r1, ⟨r2.os, r2.tape, r2.output, r2.size, r2.block⟩⟩

theorem Doc.kept {w w' : World} {D : Nat} {LB l : List Int} {row : Option Nat} (h : Doc T w D LB l) (hg : w.grownBy w' row) (h1 : ∀ k, row = some k → k ≠ D ∧ T ≤ k) : Doc T w' D LB l := by
  obtain ⟨bo, cap, at', e1, e2, e3, e4, e5, e6, e7, e8, e9, e10⟩ := h
  refine ⟨bo, cap, at', ?_, e2.grownL hg ?_, e3, e4, e5, e6, e7, e8, e9, e10⟩
  · rw [hg.block D (Array.getElem?_eq_some_iff.1 e1).1 (fun e => by have := h1 D e.symm; omega)]; exact e1
  · intro hne a ha e
    have := e7.1 hne a ha
    have := h1 a.block e.symm
    omega

end Go.Proofs.YtpepgoelnagoaaaGreatDoor
namespace Go.Proofs.YtpepgoelnagoaaaGreatDoor
open Go.RowKit

variable {T : Nat}

/-! ### Bytes -/

/-- The cells of the document's reader. -/
theorem Doc.cells {w : World} {D : Nat} {LB l : List Int} (h : Doc T w D LB l) : ∃ bo cap at', w.cell? ⟨D, 0, none⟩ = some (.slice bo LB.length cap) ∧ w.cell? ⟨D, 1, none⟩ = some (.int .i64 ((at' : Nat) : Int)) ∧ w.frozen? ⟨D, 1, none⟩ = false ∧ D < w.heap.size ∧ at' ≤ LB.length ∧ LB.length ≤ 1048576 ∧ Hid (l = LB.drop at') ∧ LB.length ≤ cap ∧ Rd w bo LB ∧ (bo = none → cap = 0) ∧ ∀ x ∈ LB, 0 ≤ x ∧ x ≤ 255 := by
  obtain ⟨bo, cap, at', h1, h2, h3, h4, h5, hz, h6, h7, h8, h9⟩ := h
  obtain ⟨c0, c1, _, f1⟩ := cell_blk h1
  exact ⟨bo, cap, at', c0, c1, f1, (Array.getElem?_eq_some_iff.1 h1).1, h8, hz, h9, h4, h2, h3, h7⟩

/-- The document's reader is laid back, or moved on. -/
theorem Doc.back {w w1 : World} {D at2 : Nat} {LB l1 l2 : List Int} {q : Int} (hg : w.grownBy w1 (some D)) (h1 : Doc T w1 D LB l1) (ha : at2 ≤ LB.length) (hl : l2 = LB.drop at2) (hq : q = (at2 : Int)) :
    Doc T (w1.setCell ⟨D, 1, none⟩ (.int .i64 q)) D LB l2 ∧ w.grownBy (w1.setCell ⟨D, 1, none⟩ (.int .i64 q)) (some D) := by
  subst hq
  obtain ⟨bo, cap, at', e1, e2, e3, e4, e5, e6, e7, e8, e9, e10⟩ := h1
  obtain ⟨r1, r2⟩ := Doc.set e1 e2 e3 e4 e5 e6 e7 e8 ha hl
  exact ⟨r1, grown_trans hg r2⟩

end Go.Proofs.YtpepgoelnagoaaaGreatDoor
namespace Go.Proofs.YtpepgoelnagoaaaGreatDoor
open Go.RowKit Go.Shelf
variable {K : Nat → Prop}
set_option linter.unusedSimpArgs false
variable {T : Nat}
attribute [local go_sem] Oper.semAt_some

theorem wrap_not (n : Int) (h0 : -9223372036854775808 ≤ n) (h1 : n < 0) : IntKind.u64.wrap (IntKind.u64.wrap (2 * IntKind.u64.wrap (-1 - n)) + 1) = 2 * (-1 - n) + 1 := by
  simp [IntKind.wrap, IntKind.bits, IntKind.signed]; omega
set_option maxHeartbeats 400000 in
set_option maxRecDepth 100000 in
theorem signed_any (n : Int) (w : World) (h0 : -9223372036854775808 ≤ n) (h1 : n ≤ 9223372036854775807) :
    Calls Tryz.prog 134 #[.int .i64 n] w fun e w' => Made 5 w w' e (Plain.numL (Plain.fold n)) := by
  by_cases hneg : n < 0
  · have hx := i64_not_any n h0 h1
    have hu := wrap_not n h0 hneg
    have HF : Hid (Plain.fold n = (2 * (-1 - n) + 1).toNat) := by show Plain.fold n = _; unfold Plain.fold; rw [if_pos hneg]; omega
    go_enter Tryz.func134, Tryz.ntmps134
    go_wp2_with (go_at_call 97; refine (number_int _ _ (by omega) (by omega)).mono ?_; rintro e w1 ⟨ao, cap, rfl, hown, hnil, hb⟩)
    go_ret
    rw [HF.out]
    exact ⟨ao, cap, rfl, hown, hnil, hb⟩
  · have HF : Hid (Plain.fold n = (2 * n).toNat) := by show Plain.fold n = _; unfold Plain.fold; rw [if_neg hneg]
    go_enter Tryz.func134, Tryz.ntmps134
    go_wp2_with (go_at_call 97; refine (number_int _ _ (by omega) (by omega)).mono ?_; rintro e w1 ⟨ao, cap, rfl, hown, hnil, hb⟩)
    go_ret
    rw [HF.out]
    exact ⟨ao, cap, rfl, hown, hnil, hb⟩

/-- Back from a number without a sign. -/
def unfoldN (n : Nat) : Int := if n % 2 = 1 then -1 - (n / 2 : Nat) else (n / 2 : Nat)

set_option maxHeartbeats 400000 in
set_option maxRecDepth 100000 in
theorem rsigned_any (R S : Nat) (l : List Int) (w : World) (hR : Rdr K 77 w R S l) (hlt : (rnum l).1 < 18446744073709551616) :
    Calls Tryz.prog 226 #[.pointer (some ⟨R, 0, none⟩)] w fun e w' =>
      e = .returned (.tuple #[.int .i64 (unfoldN (rnum l).1), .int .i64 (rnum l).2.1]) ∧ Rdr K 77 w' R S (rnum l).2.2 ∧ w.grownBy w' (some R) := by
  have hc := rnumber_any R S l w hR
  unfold NumPost at hc
  generalize rnum l = q at *
  obtain ⟨n, er, l'⟩ := q
  simp only at *
  have hx : bits .xor .i64 (-1) ((n : Int) / 2) = -1 - (n : Int) / 2 := i64_not_any _ (by omega) (by omega)
  have HC := hc
  clear hc
  by_cases h2 : n % 2 = 1
  · have hu : unfoldN n = -1 - ((n / 2 : Nat) : Int) := by unfold unfoldN; rw [if_pos h2]
    have HU : Hid (unfoldN n = -1 - ((n / 2 : Nat) : Int)) := hu
    clear hu
    have hd : (((n : Int) % 2) == 1) = true := by simp; omega
    go_enter Tryz.func226, Tryz.ntmps226
    go_wp2_with (go_at_call 177; refine HC.mono ?_; rintro e w1 ⟨rfl, hR1, hg1⟩)
    go_ret2
    exact ⟨ret_two (by rw [HU.out]; go_num) rfl, hR1, hg1⟩
  · have hu : unfoldN n = ((n / 2 : Nat) : Int) := by unfold unfoldN; rw [if_neg h2]
    have HU : Hid (unfoldN n = ((n / 2 : Nat) : Int)) := hu
    clear hu
    have hd : (((n : Int) % 2) == 1) = false := by simp; omega
    go_enter Tryz.func226, Tryz.ntmps226
    go_wp2_with (go_at_call 177; refine HC.mono ?_; rintro e w1 ⟨rfl, hR1, hg1⟩)
    go_ret2
    exact ⟨ret_two (by rw [HU.out]; go_num) rfl, hR1, hg1⟩

end Go.Proofs.YtpepgoelnagoaaaGreatDoor
namespace Go.Proofs.YtpepgoelnagoaaaGreatDoor
open Go.RowKit Go.Shelf
set_option linter.unusedSimpArgs false
attribute [local go_sem] Oper.semAt_some

theorem wpList_turn {P : Program} {ops : Array Oper} {rest : List Oper} {o : Oper} {a : Act} {w w' : World} {Q : Exit → Act → World → Prop} {OP : Op} {T : TypeId} {v : Value} (hgd : o.guard = none) (ho : o.op = OP) (ht : o.type = T)
    (hy : (execOp a.eval { dst := none, op := OP, type := T, pos := "", after := #[], guard := none }).run P w = .ok (.value v) w') (h : wpList P ops Q rest (a.put o.dst v) w') : wpList P ops Q (o :: rest) a w :=
  wpList_plain hgd fun K hK => by
    unfold Oper.wp
    rw [exec_same a.eval o ho ht, hy]
    exact hK _ _ h
theorem fn_nil137 (f : Fn) (x y : Array Value) (w : World) : (binOp .eql 137 (.func f x y) .nilFunc).run Tryz.prog w = .ok (.bool false) w := by kernel_rfl

set_option maxHeartbeats 1000000 in
set_option maxRecDepth 100000 in
theorem textForm_any (s : ByteArray) (w : World) (hs : s.size ≤ 1000000) : Calls Tryz.prog 99 #[.string s] w fun e w' => Made 5 w w' e (frB s) := by
  obtain ⟨c, W', hcv, hR, hB⟩ := conv_str s w
  have h := bytes_any (some ⟨w.heap.size, 0, none⟩) c (ints s.data.toList) W' hR (by intro e; cases e) (by rw [ints_size]; omega)
  rw [ints_size] at h
  replace h : Calls Tryz.prog 133 #[.slice (some ⟨w.heap.size, 0, none⟩) s.size c] W' fun e w' => Made 5 W' w' e (frB s) := h
  generalize frB s = L at h ⊢
  go_enter Tryz.func99, Tryz.ntmps99
  go_wp2_with (first
    | (refine wpList_turn (OP := .convert 9 26 (.tmp 3)) (T := 26) rfl rfl rfl (exec_conv rfl hcv) ?_)
    | (go_at_call 133; refine h.mono ?_; rintro e w2 hm; obtain ⟨a2, c2, rfl, ho2, hn2, hb2⟩ := hm.intro hB hB.size; clear hm))
  go_ret
  exact ⟨a2, c2, rfl, ho2, hn2, hb2⟩

/-- What a call that answers new bytes and no error leaves. -/
def MadeT (w w' : World) (x : Ending) (l : List Int) : Prop :=
  ∃ ao cap, x = .returned (.tuple #[.slice ao l.length cap, .int .i64 0]) ∧ Own 5 w' w.heap.size (.slice ao l.length cap) l ∧ (ao = none → cap = 0) ∧ Below w.heap.size w w'
theorem flatF_snoc {α : Type} (f : α → List Int) (l : List α) (k : Nat) (x : α) (h : l[k]? = some x) : (l.take (k + 1)).flatMap f = (l.take k).flatMap f ++ f x := by
  obtain ⟨hk, h2⟩ := List.getElem?_eq_some_iff.1 h
  rw [List.take_succ_eq_append_getElem hk, h2]
  simp

set_option maxHeartbeats 2000000 in
set_option maxRecDepth 100000 in
theorem putS_any (ao : Option Addr) (cap : Nat) (ps : List ByteArray) (w : World) (hr : Rs w ao ps) (hf : ∀ s ∈ ps, s.size ≤ 1000000) (hlen : ps.length ≤ 100000) :
    Calls Tryz.prog 132 #[.slice ao ps.length cap, .func (.func 99) #[] #[]] w fun e w' => MadeT w w' e (frP ps) := by
  obtain ⟨i0, hi, hz0, hz1, hz2⟩ := info_parts Tryz.info5
  have q := fn_nil137
  have h10 := Plain.numL_ten ps.length (by omega)
  go_enter Tryz.func132, Tryz.ntmps132
  go_wp2_with (go_at_call 97; refine (number_any ps.length _ (by omega)).mono ?_; rintro e w1 ⟨ao1, cap1, rfl, hown1, hnil1, hb1⟩)
  go_loopw [6, 17] (fun v i wr => ∃ (k : Nat) (p : List Int) (ao' : Option Addr) (cap' : Nat), k ≤ ps.length ∧ i = .int .i64 k ∧ p = Plain.numL ps.length ++ (ps.take k).flatMap frB ∧ v = .slice ao' p.length cap' ∧ Own 5 wr w.heap.size (.slice ao' p.length cap') p ∧ (ao' = none → cap' = 0) ∧ Below w.heap.size w wr)
    (fun _ i _ => ps.length - (intOf i).toNat)
  case atStart => exact ⟨0, _, ao1, cap1, Nat.zero_le _, rfl, rfl, by simp, by simpa using hown1, hnil1, hb1⟩
  case round =>
    obtain ⟨k, p, ao', cap', hk, rfl, hpk, rfl, hown, hnil, hb⟩ := hrel
    have hsz := hb.size
    have HP : Hid (p = Plain.numL ps.length ++ (ps.take k).flatMap frB) := hpk
    have hple : p.length ≤ 10 + 1000010 * ps.length := by
      rw [hpk, List.length_append]
      have h1 := flat_len (f := frB) (l := ps.take k) (B := 1000010) (fun x hx => by
        have h2 := hf x (List.mem_of_mem_take hx)
        have := frB_len x (by omega)
        omega)
      rw [List.length_take] at h1
      have : 1000010 * min k ps.length ≤ 1000010 * ps.length := Nat.mul_le_mul_left _ (by omega)
      omega
    clear hpk
    by_cases hlt : k < ps.length
    · obtain ⟨x, hx⟩ : ∃ q, ps[k]? = some q := ⟨_, List.getElem?_eq_getElem hlt⟩
      have hxs := hf x (List.mem_of_getElem? hx)
      obtain ⟨ab, aoff, rfl, e0⟩ := (hr.below hb).at hx
      have HX := hide hx
      clear hx
      obtain ⟨m, hm⟩ : ∃ m, m = frB x := ⟨_, rfl⟩
      have hform : ∀ w0, Calls Tryz.prog 99 #[.string x] w0 fun e w' => Made 5 w0 w' e m := fun w0 => by rw [hm]; exact textForm_any x w0 hxs
      have hml : m.length ≤ 1000010 := by have := frB_len x (by omega); rw [hm]; omega
      have HM : Hid (m = frB x) := hm
      clear hm
      go_wp2_with fail
      refine (hform _).mono ?_
      rintro e w2 ⟨ao2, cap2, rfl, hown2, hnil2, hb2⟩
      have hownA := hown.below hb2
      have hbA : Below w.heap.size w w2 := hb.trans (hb2.mono hsz)
      have hsz2 := hbA.size
      clear hown
      go_wp2_with (at_builtin; refine wpList_append_rd rfl _ _ 26 rfl w.heap.size 5 i0 Tryz.underlying26 hi hz0 hz1 hz2 _ _ rfl hownA ao2 cap2 m rfl hnil2 hown2.rd (by omega) hsz2 ?_)
      intro ao3 cap3 w3 hown3 hgrow hnil3
      have hb3 := below_own hbA hsz2 hownA hgrow
      clear hgrow hownA hown2
      go_wp2
      go_roundw
      case rel => exact ⟨k + 1, p ++ m, ao3, cap3, by omega, by go_num, by rw [flatF_snoc frB ps k x HX.out, HM.out, HP.out, List.append_assoc], by simp, by simpa using hown3, hnil3, hb3⟩
      case measure => simp [intOf]; omega
    · go_wp2
      (try rw [Exit.noGoto_ret])
      go_ret2
      have he : p = frP ps := by rw [HP.out, List.take_of_length_le (by omega)]; rfl
      subst he
      exact ⟨ao', cap', rfl, hown, hnil, hb⟩

set_option maxHeartbeats 1000000 in
set_option maxRecDepth 100000 in
theorem listS_any (ao : Option Addr) (cap : Nat) (ps : List ByteArray) (w : World) (hr : Rs w ao ps) (hf : ∀ s ∈ ps, s.size ≤ 1000000) (hlen : ps.length ≤ 100000) :
    Calls Tryz.prog 98 #[.slice ao ps.length cap, .func (.func 99) #[] #[]] w fun e w' => Made 5 w w' e (frP ps) := by
  have h := putS_any ao cap ps w hr hf hlen
  generalize frP ps = L at h ⊢
  go_enter Tryz.func98, Tryz.ntmps98
  go_wp2_with (go_at_call 132; refine h.mono ?_; rintro e w1 ⟨a1, c1, rfl, ho1, hn1, hb1⟩)
  go_ret
  exact ⟨a1, c1, rfl, ho1, hn1, hb1⟩

/-- The cells of an operation that was laid in a block of its own. -/
def Op6 (W : World) (B : Nat) (pa : Option Addr) (m pc : Nat) (o : Od) : Prop :=
  W.cell? ⟨B, 0, none⟩ = some (.slice pa m pc) ∧ W.cell? ⟨B, 1, none⟩ = some (.int .i64 o.k) ∧ W.cell? ⟨B, 2, none⟩ = some (.string o.s) ∧ W.cell? ⟨B, 3, none⟩ = some (.int .i64 o.d) ∧ W.cell? ⟨B, 4, none⟩ = some (.int .i64 o.n) ∧ W.cell? ⟨B, 5, none⟩ = some (.string o.t)
abbrev odv (pa : Option Addr) (m pc : Nat) (o : Od) : Value := Ki.opv pa m pc o.k o.s o.d o.n o.t
abbrev odC (pa : Option Addr) (m pc : Nat) (o : Od) : Array Value := #[.slice pa m pc, .int .i64 o.k, .string o.s, .int .i64 o.d, .int .i64 o.n, .string o.t]
theorem op6_of {W : World} {B : Nat} {pa : Option Addr} {m pc : Nat} {o : Od} (h : W.heap[B]? = some (.cells (odC pa m pc o) 34 (0, 0))) : Op6 W B pa m pc o :=
  ⟨(cell_of_row _ _ 0 _ 34 (0, 0) h).trans rfl, (cell_of_row _ _ 1 _ 34 (0, 0) h).trans rfl, (cell_of_row _ _ 2 _ 34 (0, 0) h).trans rfl, (cell_of_row _ _ 3 _ 34 (0, 0) h).trans rfl, (cell_of_row _ _ 4 _ 34 (0, 0) h).trans rfl, (cell_of_row _ _ 5 _ 34 (0, 0) h).trans rfl⟩
theorem op6_new (w : World) (pa : Option Addr) (m pc : Nat) (o : Od) : (w.alloc (.cells (odC pa m pc o) 34)).heap[w.heap.size]? = some (.cells (odC pa m pc o) 34 (0, 0)) := heap_alloc_new _ _

set_option maxHeartbeats 2000000 in
set_option maxRecDepth 100000 in
theorem named_any (pa : Option Addr) (m pc : Nat) (o : Od) (w : World) (ho : OkO o) (hn : I64 o.n) : Calls Tryz.prog 100 #[odv pa m pc o] w fun e w' => Made 5 w w' e (frN o) := by
  obtain ⟨p, k, s, d, n, t⟩ := o
  have ht := ho.text
  dsimp only at ht hn
  obtain ⟨w0, hw0⟩ : ∃ q, q = w.alloc (.cells (odC pa m pc ⟨p, k, s, d, n, t⟩) 34) := ⟨_, rfl⟩
  have hb0 : Below w.heap.size w w0 := by rw [hw0]; exact (Below.refl _ w).alloc (Nat.le_refl _) _
  obtain ⟨x0, x1, x2, x3, x4, x5⟩ := op6_of (op6_new w pa m pc ⟨p, k, s, d, n, t⟩)
  rw [← hw0] at x0 x1 x2 x3 x4 x5
  dsimp only at x0 x1 x2 x3 x4 x5
  have HB := hide hb0
  have HW := hide hw0
  clear hb0 hw0 ho
  have e100 : frN ⟨p, k, s, d, n, t⟩ = if d = 1 then Plain.numL (Plain.fold n) else if d = 6 then [] else frB t := rfl
  rw [e100]
  by_cases h1 : d = 1
  · subst h1
    rw [if_pos rfl]
    have h := fun W => signed_any n W hn.1 hn.2
    generalize Plain.numL (Plain.fold n) = L at h ⊢
    go_enter Tryz.func100, Tryz.ntmps100
    go_upto_region 1 with fail
    rw [← HW.out]
    go_wp2_with (go_at_call 134; refine (h _).mono ?_; rintro e w1 hm; obtain ⟨a1, c1, rfl, ho1, hn1, hb1⟩ := hm.intro HB.out HB.out.size; clear hm)
    go_ret
    exact ⟨a1, c1, rfl, ho1, hn1, hb1⟩
  have e1 : (d == 1) = false := by simpa using h1
  rw [if_neg h1]
  by_cases h6 : d = 6
  · subst h6
    rw [if_pos rfl]
    go_enter Tryz.func100, Tryz.ntmps100
    go_upto_region 1 with fail
    rw [← HW.out]
    go_wp2
    go_ret
    exact ⟨none, 0, rfl, Own.nil _ _ _, fun _ => rfl, HB.out⟩
  have e6 : (d == 6) = false := by simpa using h6
  rw [if_neg h6]
  have h := fun W => textForm_any t W (by omega)
  generalize frB t = L at h ⊢
  go_enter Tryz.func100, Tryz.ntmps100
  go_upto_region 1 with fail
  rw [← HW.out]
  go_wp2_with (go_at_call 99; refine (h _).mono ?_; rintro e w1 hm; obtain ⟨a1, c1, rfl, ho1, hn1, hb1⟩ := hm.intro HB.out HB.out.size; clear hm)
  go_ret
  exact ⟨a1, c1, rfl, ho1, hn1, hb1⟩
end Go.Proofs.YtpepgoelnagoaaaGreatDoor
