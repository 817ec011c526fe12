/-
  WALKS over the program's disk: Used, Writes, Room, Area, Write; Lay, Clear, Turn.
-/
import Derived.Test.YtfaceimamipbpaaDo2
import Derived.BigQuiet
namespace Go.Proofs.Ytfaceimamipbpaa
open Go.RowKit
set_option linter.unusedSimpArgs false

/-- The program's disk at block R: its capacity, how it began, its raw writes. -/
structure PD (F G : Nat → Prop) (w : World) (R : Nat) (cap : Int) (beg : St) (log : List Wr) : Prop where
  disk : Disk progL 60 F G w R cap beg (plays beg log) log
  fits : Fits cap beg log
  pos : 0 < cap
  most : cap ≤ 1048576

section
variable {F G : Nat → Prop} {w w' : World} {R : Nat} {cap : Int} {beg : St} {log : List Wr}
theorem PD.only (h : PD F G w R cap beg log) {D : Nat → Prop} (k : Only D w w') (hF : Apart D F) (hG : Apart D G) : PD F G w' R cap beg log := by
  obtain ⟨x0, c0, x1, c1, va, vb, vl, xs, hr⟩ := h.disk
  exact ⟨⟨x0, c0, x1, c1, va, vb, vl, xs, hr.only k hF hG⟩, h.fits, h.pos, h.most⟩
theorem PD.below (h : PD F G w R cap beg log) (k : Below w.heap.size w w') : PD F G w' R cap beg log :=
  h.only (Only.ofBelow k) (fun _ d => d.elim) (fun _ d => d.elim)
theorem below_drew (w : World) (n : Nat) : Below w.heap.size w (w.drewN n) := ⟨rfl, rfl, rfl, Nat.le_refl _, fun _ _ => rfl⟩
theorem PD.drewN (h : PD F G w R cap beg log) (n : Nat) : PD F G (w.drewN n) R cap beg log := h.below (below_drew w n)
theorem PD.uF (h : PD F G w R cap beg log) : Under F w.heap.size := by obtain ⟨x0, c0, x1, c1, va, vb, vl, xs, hr⟩ := h.disk; exact hr.uF
theorem PD.uG (h : PD F G w R cap beg log) : Under G w.heap.size := by obtain ⟨x0, c0, x1, c1, va, vb, vl, xs, hr⟩ := h.disk; exact hr.uG
theorem PD.fR (h : PD F G w R cap beg log) : F R := by obtain ⟨x0, c0, x1, c1, va, vb, vl, xs, hr⟩ := h.disk; exact hr.fR
theorem PD.apart (h : PD F G w R cap beg log) : Apart F G := by obtain ⟨x0, c0, x1, c1, va, vb, vl, xs, hr⟩ := h.disk; exact hr.apart
theorem PD.lt (h : PD F G w R cap beg log) : R < w.heap.size := h.uF R h.fR

/-- The cells that are looked at. -/
theorem PD.look (h : PD F G w R cap beg log) : ∃ va vb vl xs, w.cell? ⟨R, 0, none⟩ = some (.int .i64 cap) ∧ w.cell? ⟨R, 4, none⟩ = some va ∧ w.cell? ⟨R, 5, none⟩ = some vb ∧ w.cell? ⟨R, 6, none⟩ = some (.int .i64 (plays beg log).u) ∧ w.cell? ⟨R, 7, none⟩ = some vl ∧
    Own 5 w 0 va (plays beg log).a0 ∧ Own 5 w 0 vb (plays beg log).a1 ∧ w.ownsRow 0 50 3 vl log.length xs ∧ Items w G log xs := by
  obtain ⟨x0, c0, x1, c1, va, vb, vl, xs, hr⟩ := h.disk
  refine ⟨va, vb, vl, xs, ?_, ?_, ?_, ?_, ?_, hr.o0, hr.o1, hr.ol, hr.it⟩
  all_goals (rw [cell_of_row w R _ _ 60 (0, 0) hr.cells]; rfl)
theorem PD.cap0 (h : PD F G w R cap beg log) : w.cell? ⟨R, 0, none⟩ = some (.int .i64 cap) := by
  obtain ⟨_, _, _, _, h0, _⟩ := h.look; exact h0
theorem row_form {B e s n : Nat} {v : Value} {xs : List Value} (h : w.ownsRow B e s v n xs) : ∃ ao c, v = .slice ao n c ∧ (∀ a, ao = some a → ∃ g, a = ⟨g, 0, none⟩) ∧ (ao = none → c = 0) := by
  rcases h.2 with ⟨h1, h2⟩ | ⟨g, cp, _, h1, _⟩
  · subst h2; exact ⟨none, 0, h1, by simp, by simp⟩
  · exact ⟨_, cp, h1, by intro a ha; cases ha; exact ⟨g, rfl⟩, by simp⟩

set_option maxHeartbeats 400000 in
set_option maxRecDepth 100000 in
theorem used_any (h : PD F G w R cap beg log) : Calls Try.prog 23 #[.pointer (some ⟨R, 0, none⟩)] w fun e w' => e = .returned (.int .i64 (plays beg log).u) ∧ w = w' := by
  obtain ⟨va, vb, vl, xs, h0, h4, h5, h6, h7, _⟩ := h.look
  have hp := h.pos
  clear h
  go_enter Try.func23, Try.ntmps23
  go_wp2_with (go_at_call 36; refine (there_yes R cap _ h0 hp).mono ?_; rintro e w1 ⟨rfl, rfl⟩)
  go_ret
  exact ⟨rfl, rfl⟩
set_option maxHeartbeats 400000 in
set_option maxRecDepth 100000 in
theorem writes_any (h : PD F G w R cap beg log) : Calls Try.prog 19 #[.pointer (some ⟨R, 0, none⟩)] w fun e w' => e = .returned (.int .i64 log.length) ∧ w = w' := by
  obtain ⟨va, vb, vl, xs, h0, h4, h5, h6, h7, _, _, hl, _⟩ := h.look
  have hp := h.pos
  obtain ⟨ao, c, rfl, _, _⟩ := row_form hl
  clear h
  go_enter Try.func19, Try.ntmps19
  go_wp2_with (go_at_call 36; refine (there_yes R cap _ h0 hp).mono ?_; rintro e w1 ⟨rfl, rfl⟩)
  go_ret
  exact ⟨rfl, rfl⟩
set_option maxHeartbeats 400000 in
set_option maxRecDepth 100000 in
theorem room_yes (h : PD F G w R cap beg log) (i : Int) (hi : i = 0 ∨ i = 1) : Calls Try.prog 22 #[.pointer (some ⟨R, 0, none⟩), .int .i64 i] w fun e w' => e = .returned (.int .i64 (cap - (((plays beg log).at i).length : Nat))) ∧ ∃ n, w' = w.drewN n := by
  obtain ⟨va, vb, vl, xs, h0, h4, h5, h6, h7, o0, o1, _, _⟩ := h.look
  have hp := h.pos
  have hf := h.fits.now
  have hm := h.most
  have l0 := hf.l0
  have l1 := hf.l1
  obtain ⟨a0, c0, rfl, _⟩ := o0.form
  obtain ⟨a1, c1, rfl, _⟩ := o1.form
  clear h hf
  rcases hi with rfl | rfl
  · go_enter Try.func22, Try.ntmps22
    go_wp2_with (first | (go_at_call 36; refine (there_yes R cap _ h0 hp).mono ?_; rintro e w1 ⟨rfl, rfl⟩) | (go_at_call 25; refine (isArea_yes 0 _ (.inl rfl)).mono ?_; rintro e w1 ⟨rfl, rfl⟩))
    go_quiet (fail)
    go_wp2
    go_ret
    exact ⟨rfl, _, rfl⟩
  · go_enter Try.func22, Try.ntmps22
    go_wp2_with (first | (go_at_call 36; refine (there_yes R cap _ h0 hp).mono ?_; rintro e w1 ⟨rfl, rfl⟩) | (go_at_call 25; refine (isArea_yes 1 _ (.inr rfl)).mono ?_; rintro e w1 ⟨rfl, rfl⟩))
    go_quiet (fail)
    go_wp2
    go_ret
    exact ⟨rfl, _, rfl⟩
set_option maxHeartbeats 400000 in
set_option maxRecDepth 100000 in
theorem room_no (h : PD F G w R cap beg log) (i : Int) (hi : ¬ (i = 0 ∨ i = 1)) : Calls Try.prog 22 #[.pointer (some ⟨R, 0, none⟩), .int .i64 i] w fun e w' => e = .returned (.int .i64 0) ∧ w = w' := by
  have h0 := h.cap0
  have hp := h.pos
  clear h
  go_enter Try.func22, Try.ntmps22
  go_wp2_with (first | (go_at_call 36; refine (there_yes R cap _ h0 hp).mono ?_; rintro e w1 ⟨rfl, rfl⟩) | (go_at_call 25; refine (isArea_no i _ hi).mono ?_; rintro e w1 ⟨rfl, rfl⟩))
  go_ret
  exact ⟨rfl, rfl⟩
set_option maxHeartbeats 400000 in
set_option maxRecDepth 100000 in
theorem area_yes (h : PD F G w R cap beg log) (i : Int) (hi : i = 0 ∨ i = 1) : Calls Try.prog 24 #[.pointer (some ⟨R, 0, none⟩), .int .i64 i] w fun e w' =>
    ∃ ao c, e = .returned (.tuple #[.slice ao ((plays beg log).at i).length c, .int .i64 0]) ∧ Own 5 w' w.heap.size (.slice ao ((plays beg log).at i).length c) ((plays beg log).at i) ∧ (ao = none → c = 0) ∧ Below w.heap.size w w' := by
  obtain ⟨va, vb, vl, xs, h0, h4, h5, h6, h7, o0, o1, _, _⟩ := h.look
  have hp := h.pos
  have hf := h.fits.now
  have hm := h.most
  have l0 := hf.l0
  have l1 := hf.l1
  obtain ⟨a0, c0, rfl, n0⟩ := o0.form
  obtain ⟨a1, c1, rfl, n1⟩ := o1.form
  have r0 := o0.rd
  have r1 := o1.rd
  clear h hf o0 o1
  rcases hi with rfl | rfl
  · go_enter Try.func24, Try.ntmps24
    go_wp2_with (first | (go_at_call 36; refine (there_yes R cap _ h0 hp).mono ?_; rintro e w1 ⟨rfl, rfl⟩) | (go_at_call 25; refine (isArea_yes 0 _ (.inl rfl)).mono ?_; rintro e w1 ⟨rfl, rfl⟩) | (go_at_call 26; refine (clone_any a0 c0 _ _ r0 n0 (by omega)).mono ?_; rintro e w1 ⟨ao1, d1, rfl, ho1, hn1, hb1⟩))
    go_ret2
    exact ⟨ao1, d1, rfl, ho1, hn1, hb1⟩
  · go_enter Try.func24, Try.ntmps24
    go_wp2_with (first | (go_at_call 36; refine (there_yes R cap _ h0 hp).mono ?_; rintro e w1 ⟨rfl, rfl⟩) | (go_at_call 25; refine (isArea_yes 1 _ (.inr rfl)).mono ?_; rintro e w1 ⟨rfl, rfl⟩) | (go_at_call 26; refine (clone_any a1 c1 _ _ r1 n1 (by omega)).mono ?_; rintro e w1 ⟨ao1, d1, rfl, ho1, hn1, hb1⟩))
    go_ret2
    exact ⟨ao1, d1, rfl, ho1, hn1, hb1⟩
set_option maxHeartbeats 400000 in
set_option maxRecDepth 100000 in
theorem area_no (h : PD F G w R cap beg log) (i : Int) (hi : ¬ (i = 0 ∨ i = 1)) : Calls Try.prog 24 #[.pointer (some ⟨R, 0, none⟩), .int .i64 i] w fun e w' => e = .returned (.tuple #[.slice none 0 0, .int .i64 2]) ∧ w = w' := by
  have h0 := h.cap0
  have hp := h.pos
  clear h
  go_enter Try.func24, Try.ntmps24
  go_wp2_with (first | (go_at_call 36; refine (there_yes R cap _ h0 hp).mono ?_; rintro e w1 ⟨rfl, rfl⟩) | (go_at_call 25; refine (isArea_no i _ hi).mono ?_; rintro e w1 ⟨rfl, rfl⟩))
  go_ret2
  exact ⟨rfl, rfl⟩
end
end Go.Proofs.Ytfaceimamipbpaa
