/-
  THE WALK over the law WireBack.
-/
import Derived.Test.YtjbnhfcacocgeaaForth
import Derived.Deep.RegionHeld3
import Derived.Deep.DrawnRows
import Derived.Deep.QuietTactic
import Derived.BigQuiet
namespace Go.Proofs.Ytjbnhfcacocgeaa
open Go.RowKit
attribute [local go_sem ↓] Go.wp_at_zero Go.wp_at_succ

/-- The four cells of a boxed Things. -/
theorem box_keep {B : Nat} {x0 x1 x2 x3 : Value} {wa wb : World} (h : wa.cell? ⟨B, 0, none⟩ = some x0 ∧ wa.cell? ⟨B, 1, none⟩ = some x1 ∧ wa.cell? ⟨B, 2, none⟩ = some x2 ∧ wa.cell? ⟨B, 3, none⟩ = some x3) (hb : Below wa.heap.size wa wb) :
    wb.cell? ⟨B, 0, none⟩ = some x0 ∧ wb.cell? ⟨B, 1, none⟩ = some x1 ∧ wb.cell? ⟨B, 2, none⟩ = some x2 ∧ wb.cell? ⟨B, 3, none⟩ = some x3 := by
  have hB : B < wa.heap.size := World.block_lt_of_cell? wa _ h.1
  exact ⟨(hb.cell (p := ⟨B, 0, none⟩) hB).trans h.1, (hb.cell (p := ⟨B, 1, none⟩) hB).trans h.2.1, (hb.cell (p := ⟨B, 2, none⟩) hB).trans h.2.2.1, (hb.cell (p := ⟨B, 3, none⟩) hB).trans h.2.2.2⟩

theorem Pieces.four {w : World} (a1 a2 a3 a4 : Option Addr) (c1 c2 c3 c4 n1 n2 n3 n4 : Nat) (l1 l2 l3 l4 : List Int) (t : TypeId) (h1 : Rd w a1 l1) (h2 : Rd w a2 l2) (h3 : Rd w a3 l3) (h4 : Rd w a4 l4)
    (m1 : a1 = none → c1 = 0) (m2 : a2 = none → c2 = 0) (m3 : a3 = none → c3 = 0) (m4 : a4 = none → c4 = 0) (e1 : l1.length = n1) (e2 : l2.length = n2) (e3 : l3.length = n3) (e4 : l4.length = n4) :
    Pieces (w.alloc (.cells #[.slice a1 n1 c1, .slice a2 n2 c2, .slice a3 n3 c3, .slice a4 n4 c4] t)) (some ⟨w.heap.size, 0, none⟩) [l1, l2, l3, l4] := by
  subst e1 e2 e3 e4
  have hb : Below w.heap.size w (w.alloc (.cells #[.slice a1 l1.length c1, .slice a2 l2.length c2, .slice a3 l3.length c3, .slice a4 l4.length c4] t)) := (Below.refl _ _).alloc (Nat.le_refl _) _
  refine ⟨by simp, ?_⟩
  intro a ha j l hj
  cases ha
  match j, hj with
  | 0, hj => simp at hj; subst hj; exact ⟨a1, c1, by rw [add_lit]; simp [go_sem], h1.below hb, m1⟩
  | 1, hj => simp at hj; subst hj; exact ⟨a2, c2, by rw [add_lit]; simp [go_sem], h2.below hb, m2⟩
  | 2, hj => simp at hj; subst hj; exact ⟨a3, c3, by rw [add_lit]; simp [go_sem], h3.below hb, m3⟩
  | 3, hj => simp at hj; subst hj; exact ⟨a4, c4, by rw [add_lit]; simp [go_sem], h4.below hb, m4⟩

/-- Bytes of a whole record. -/
def allL (N : Nat) (S : Int) (lB : List Int) (F : Bool) : List Int := Plain.numL N ++ (Plain.numL (Plain.fold S) ++ (Plain.numL lB.length ++ lB ++ flagL F))

theorem join_len (ao : Option Addr) (cap n : Nat) (L : List (List Int)) (q : List Int) (w : World) (hn : L.length = n) (hq : L.flatten = q) (hp : Pieces w ao L) (hlen : n ≤ 9223372036854775807) (hsum : q.length ≤ 140737488355328) :
    Calls Try.prog 10 #[.slice ao n cap] w fun e w' => Made 5 w w' e q := by
  subst hn hq
  exact join_any ao cap L w hp hlen hsum

theorem allL_len (N : Nat) (S : Int) (lB : List Int) (F : Bool) (hN : N < 18446744073709551616) (hS0 : -9223372036854775808 ≤ S) (hS1 : S ≤ 9223372036854775807) (h : lB.length ≤ 140737488351232) : (allL N S lB F).length ≤ 140737488355328 := by
  have h1 := Plain.numL_ten N hN
  have h2 := Plain.numL_ten _ (Plain.fold_lt S hS0 hS1)
  have h3 := Plain.numL_ten lB.length (by omega)
  simp [allL, flagL]; omega

theorem allL_read (N : Nat) (S : Int) (lB : List Int) (F : Bool) (hN : N < 18446744073709551616) : Plain.readN 0 0 (allL N S lB F) = some (N, (Plain.numL N).length) := by
  have h1 := Plain.readN_form N 0 0 (Plain.numL (Plain.fold S) ++ (Plain.numL lB.length ++ lB ++ flagL F)) (by omega) (by simp) (by omega) (by simpa using hN)
  simpa [allL] using h1
theorem allL_drop (N : Nat) (S : Int) (lB : List Int) (F : Bool) : (allL N S lB F).drop (Plain.numL N).length = Plain.numL (Plain.fold S) ++ (Plain.numL lB.length ++ lB ++ flagL F) := by
  simp [allL]
theorem allL_bytes (N : Nat) (S : Int) (lB : List Int) (F : Bool) (h : ∀ x ∈ lB, 0 ≤ x ∧ x ≤ 255) : ∀ x ∈ allL N S lB F, 0 ≤ x ∧ x ≤ 255 := by
  intro x hx
  simp only [allL, List.mem_append] at hx
  rcases hx with hx | hx | (hx | hx) | hx
  · exact Plain.numL_bytes _ x hx
  · exact Plain.numL_bytes _ x hx
  · exact Plain.numL_bytes _ x hx
  · exact h x hx
  · simp [flagL] at hx; split at hx <;> omega
theorem rsigned_at (R S : Nat) (n : Int) (rest : List Int) (w : World) (hR : Rdr 73 w R S (Plain.numL (Plain.fold n) ++ rest)) (h0 : -9223372036854775808 ≤ n) (h1 : n ≤ 9223372036854775807) :
    Calls Try.prog 26 #[.pointer (some ⟨R, 0, none⟩)] w fun e w' => e = .returned (.tuple #[.int .i64 n, .int .i64 0]) ∧ Rdr 73 w' R S rest ∧ w.grownBy w' (some R) := by
  have h2 := rnum_form (Plain.fold n) rest (Plain.fold_lt n h0 h1)
  have := rsigned_any R S _ w hR (by rw [h2]; exact Plain.fold_lt n h0 h1)
  rw [h2] at this
  simp only [unfoldN_fold] at this
  exact this
theorem rflag_at (R S : Nat) (b : Bool) (w : World) (hR : Rdr 73 w R S (flagL b)) :
    Calls Try.prog 28 #[.pointer (some ⟨R, 0, none⟩)] w fun e w' => e = .returned (.tuple #[.bool b, .int .i64 0]) ∧ Rdr 73 w' R S [] ∧ w.grownBy w' (some R) := by
  have h2 := rflag_form b []
  have := rflag_any R S _ w hR
  rw [List.append_nil] at h2
  rw [h2] at this
  exact this

theorem end_done (R S : Nat) (w : World) (hR : Rdr 73 w R S []) :
    Calls Try.prog 24 #[.pointer (some ⟨R, 0, none⟩)] w fun e w' => e = .returned (.int .i64 0) ∧ w = w' := end_any R S [] w hR

theorem left_q (R S : Nat) (l : List Int) (w : World) (hR : Rdr 73 w R S l) :
    Calls Try.prog 21 #[.pointer (some ⟨R, 0, none⟩)] w fun e w' => e = .returned (.int .i64 l.length) ∧ w' = w := (left_any R S l w hR).mono fun _ _ h => ⟨h.1, h.2.symm⟩
theorem Rd.drewN {w : World} {ao : Option Addr} {l : List Int} (h : Rd w ao l) (n : Nat) : Rd (w.drewN n) ao l := h
theorem Rdr.drewN {t : TypeId} {w : World} {R S : Nat} {l : List Int} (h : Rdr t w R S l) (n : Nat) : Rdr t (w.drewN n) R S l := h

set_option maxHeartbeats 4000000 in
set_option maxRecDepth 100000 in
theorem back_walk (N : Nat) (S : Int) (F : Bool) (ao bo : Option Addr) (capB capb : Nat) (lB lb : List Int) (w : World)
    (hN : N < 18446744073709551616) (hS0 : -9223372036854775808 ≤ S) (hS1 : S ≤ 9223372036854775807)
    (rB : Rd w ao lB) (nB : ao = none → capB = 0) (zB : lB.length ≤ 140737488351232) (eB : ∀ x ∈ lB, 0 ≤ x ∧ x ≤ 255)
    (rb : Rd w bo lb) (nb : bo = none → capb = 0) (zb : lb.length ≤ 140737488351232) (eb : ∀ x ∈ lb, 0 ≤ x ∧ x ≤ 255) (cb : lb.length ≤ capb) :
    Calls Try.prog 5 #[.agg #[.int .u64 N, .int .i64 S, .bool F, .slice ao lB.length capB], .slice bo lb.length capb] w fun e w' => e = .returned (.bool true) ∧ Below w.heap.size w w' := by
  go_enter Try.func5, Try.ntmps5
  go_wp2
  have hbox : Below w.heap.size w (w.alloc (.cells #[.int .u64 N, .int .i64 S, .bool F, .slice ao lB.length capB] 25)) := (Below.refl _ _).alloc (Nat.le_refl _) _
  go_region_held3 (fun w' => w'.cell? ⟨w.heap.size, 0, none⟩ = some (.int .u64 N) ∧ w'.cell? ⟨w.heap.size, 1, none⟩ = some (.int .i64 S) ∧ w'.cell? ⟨w.heap.size, 2, none⟩ = some (.bool F) ∧ w'.cell? ⟨w.heap.size, 3, none⟩ = some (.slice ao lB.length capB))
    (first | (exact box_keep (by assumption) (by assumption)) | (exact box_keep (by assumption) ((Below.refl _ _).alloc (Nat.le_refl _) _)) | (simp [go_sem]; done))
    (first
      | (go_at_call 9; refine (number_any N _ hN).mono ?_; rintro e w1 ⟨ao1, cap1, rfl, hown1, hnil1, hb1⟩; have B1 : Below w.heap.size w w1 := hbox.drew.trans (hb1.mono (by simp)); have r1 := hown1.rd)
      | (go_at_call 13; refine (signed_any S _ hS0 hS1).mono ?_; rintro e w2 ⟨ao2, cap2, rfl, hown2, hnil2, hb2⟩; have B2 : Below w.heap.size w w2 := B1.trans (hb2.mono B1.size); have r1 := r1.below hb2; have r2 := hown2.rd)
      | (go_at_call 8; refine (bytes_any ao capB lB _ (rB.below B2) nB (by omega)).mono ?_; rintro e w3 ⟨ao3, cap3, rfl, hown3, hnil3, hb3⟩; have B3 : Below w.heap.size w w3 := B2.trans (hb3.mono B2.size); have r1 := r1.below hb3; have r2 := r2.below hb3; have r3 := hown3.rd)
      | (go_at_call 15; refine (flag_any F _).mono ?_; rintro e w4 ⟨ao4, cap4, rfl, hown4, hnil4, hb4⟩; have B4 : Below w.heap.size w w4 := B3.trans (hb4.mono B3.size); have r1 := r1.below hb4; have r2 := r2.below hb4; have r3 := r3.below hb4; have r4 := hown4.rd)
      | (go_at_call 10; refine (join_len _ _ 4 _ (allL N S lB F) _ rfl ?_ (Pieces.four ao1 ao2 ao3 ao4 cap1 cap2 cap3 cap4 _ _ _ _ _ _ _ _ 23 r1 r2 r3 r4 hnil1 hnil2 hnil3 hnil4 rfl rfl ?_ rfl) (by omega) (allL_len N S lB F hN hS0 hS1 zB)).mono ?_; (simp [allL]); (simp); rintro e w6 ⟨ao6, cap6, rfl, hown6, hnil6, hb6⟩; have B6 : Below w.heap.size w w6 := (B4.alloc B4.size _).trans (hb6.mono (by have := B4.size; simp; omega))))
  have hbx : w6.cell? ⟨w.heap.size, 0, none⟩ = some (.int .u64 N) ∧ w6.cell? ⟨w.heap.size, 1, none⟩ = some (.int .i64 S) ∧ w6.cell? ⟨w.heap.size, 2, none⟩ = some (.bool F) ∧ w6.cell? ⟨w.heap.size, 3, none⟩ = some (.slice ao lB.length capB) := by assumption
  have rd6 := hown6.rd
  have rB6 := rB.below B6
  have rb6 := rb.below B6
  have hz6 := allL_len N S lB F hN hS0 hS1 zB
  have hs6 := B6.size
  clear hb1 hb2 hb3 hb4 hb6 hown1 hown2 hown3 hown4 hown6 hnil1 hnil2 hnil3 hnil4 B1 B2 B3 B4 r1 r2 r3 r4 hbox
  go_wp2_with fail
  refine (open_any ao6 cap6 _ (allL N S lB F) w6 rfl rd6 hnil6 hz6 (allL_bytes N S lB F eB)).mono ?_
  rintro e w7 ⟨R, rfl, hR7, hlo7, hsz7, hb7⟩
  clear rd6
  go_wp2_with fail
  refine (rnumber_some R (R + 1) N (Plain.numL N).length _ _ hR7 (allL_read N S lB F hN)).mono ?_
  rintro e w8 ⟨rfl, hR8, hg8⟩
  have hb8 : Below w6.heap.size w6 w8 := below_rdr hb7 hg8 (by omega) (by omega)
  rw [allL_drop] at hR8
  have hs78 := hg8.size
  clear hR7 hg8 hb7
  go_wp2_with fail
  refine (rsigned_at R (R + 1) S _ w8 hR8 hS0 hS1).mono ?_
  rintro e w9 ⟨rfl, hR9, hg9⟩
  have hs8 := hb8.size
  have hs79 : w7.heap.size ≤ w9.heap.size := Nat.le_trans hs78 hg9.size
  have hb9 : Below w6.heap.size w6 w9 := below_rdr hb8 hg9 (by omega) (by omega)
  have hs9 := hb9.size
  clear hR8 hg9 hb8
  have hbx9 := box_keep hbx hb9
  obtain ⟨x0, x1, x2, x3⟩ := hbx9
  go_wp2_with fail
  refine (rbytes_at R (R + 1) lB.length _ lB (flagL F) 0 w9 (rbytes_form _ lB (flagL F) (by omega) (by omega)) hR9 (by omega) (by have := allL_len N S lB F hN hS0 hS1 zB; simp [allL] at this; simp; omega)).mono ?_
  rintro e w10 ⟨ao10, cap10, rfl, hown10, hnil10, hR10, hg10⟩
  have hb10 : Below w6.heap.size w6 w10 := below_rdr hb9 hg10 (by omega) (by omega)
  have hs10 := hb10.size
  have hown10' := hown10
  clear hR9 hg10 hb9 x0 x1 x2 x3
  go_wp2_with fail
  refine (rflag_at R (R + 1) F w10 hR10).mono ?_
  rintro e w11 ⟨rfl, hR11, hg11⟩
  have hb11 : Below w6.heap.size w6 w11 := below_rdr hb10 hg11 (by omega) (by omega)
  have hs11 := hb11.size
  have rd11 := hown10'.rd.grown hg11 (by intro a ha; have := (hown10'.blk a ha).1; simp; omega)
  have cx := conv_rd (n := lB.length) (cap := cap10) rd11 rfl
  have cy := conv_rd (n := lB.length) (cap := capB) (rB6.below hb11) rfl
  obtain ⟨x0, x1, x2, x3⟩ := box_keep hbx hb11
  clear hg11 hb10 hR10 hown10 hown10' rd11 hbx
  go_wp2_with (first | (go_at_call 23; refine (num_any _ _).mono ?_; rintro e w1 ⟨rfl, rfl⟩) | (go_at_call 24; refine (end_done R (R + 1) _ hR11).mono ?_; rintro e w1 ⟨rfl, rfl⟩))
  clear x0 x1 x2 x3 cx cy
  have rb11 := rb6.below hb11
  have hB11 : Below w.heap.size w w11 := B6.trans (hb11.mono hs6)
  have hs11w := hB11.size
  clear rB6 rb6 hb11 hR11 hs10 hs9 hs79 hs8 hs78 hz6 hlo7 hsz7 hnil6 hnil10
  refine (open_any bo capb _ lb w11 rfl rb11 nb (by omega) eb).mono ?_
  rintro e w12 ⟨R2, rfl, hR12, hlo12, hsz12, hb12⟩
  have hB12 : Below w.heap.size w w12 := hB11.trans (hb12.mono hs11w)
  have rb12 := rb11.below hb12
  clear rb11 hB11 hb12
  rcases hq : rbytes lb.length lb with ⟨y, er, l'⟩
  by_cases her : er = 0
  · subst her
    obtain ⟨hl, hyl⟩ := rbytes_back eb hq
    have h10 := Plain.numL_ten y.length (by omega)
    have hp1 := Plain.numL_pos y.length
    have hlen : lb.length = (Plain.numL y.length).length + y.length + l'.length := by have := congrArg List.length hl; simp at this; omega
    have htake : lb.take ((Plain.numL y.length).length + y.length) = Plain.numL y.length ++ y := by
      rw [hl, List.take_append_of_le_length (by simp)]
      rw [List.take_of_length_le (by simp)]
    have hy8 : ∀ x ∈ Plain.numL y.length ++ y, 0 ≤ x ∧ x ≤ 255 := fun x hx => eb x (by rw [hl]; simp at hx ⊢; rcases hx with h | h; exact .inl h; exact .inr (.inl h))
    have HL : Hid (lb.take ((Plain.numL y.length).length + y.length) = Plain.numL y.length ++ y) := htake
    have HQ : Hid (rbytes lb.length lb = (y, 0, l')) := hq
    have HC : Hid (rbytes lb.length ((Plain.numL y.length ++ y).take ((Plain.numL y.length).length + y.length - 1)) = ([], 4, (Plain.numL y.length ++ y).take ((Plain.numL y.length).length + y.length - 1))) := rbytes_cut _ y hyl (by omega)
    have H8 : Hid (∀ x ∈ Plain.numL y.length ++ y, 0 ≤ x ∧ x ≤ 255) := hy8
    have hln1 : lb.length ≤ capb := cb
    have hln2 : (Plain.numL y.length).length + y.length + l'.length = lb.length := hlen.symm
    clear hq hl htake hy8 hlen
    go_wp2_with fail
    refine (rbytes_at R2 (R2 + 1) lb.length lb y l' 0 w12 HQ.out hR12 (by omega) (by omega)).mono ?_
    rintro e w13 ⟨ao13, cap13, rfl, hown13, hnil13, hR13, hg13⟩
    have hB13 : Below w.heap.size w w13 := below_rdr hB12 hg13 (by omega) (by omega)
    have hs13 := hB13.size
    have hR13' := hR13
    clear hR13 rb12 hR12
    go_wp2_with (first | (go_at_call 23; refine (num_any _ _).mono ?_; rintro e w1 ⟨rfl, rfl⟩) | (go_at_call 8; refine (bytes_any ao13 cap13 y _ hown13.rd hnil13 (by omega)).mono ?_; rintro e w14 ⟨ao14, cap14, rfl, hown14, hnil14, hb14⟩))
    have hB14 : Below w.heap.size w w14 := hB13.trans (hb14.mono hs13)
    have hs14 := hB14.size
    have hR14 := hR13'.kept (row := none) (grown_of_below hb14) (by simp)
    have c1 : ∀ n, (convert 23 9 (.slice ao14 ((Plain.numL y.length).length + y.length) cap14)).run Try.prog (w14.drewN n) = .ok (.string (strOfNums (Plain.numL y.length ++ y))) (w14.drewN n) :=
      fun n => conv_rd (Rd.drewN hown14.rd n) (by simp)
    have c2 : ∀ n, (convert 23 9 (.slice bo ((Plain.numL y.length).length + y.length) capb)).run Try.prog (w14.drewN n) = .ok (.string (strOfNums (Plain.numL y.length ++ y))) (w14.drewN n) :=
      fun n => conv_rd (Rd.drewN (by have := (rb.below hB14).take ((Plain.numL y.length).length + y.length); rw [HL.out] at this; exact this) n) (by simp)
    have hd : (((Plain.numL y.length).length : Int) + (y.length : Int) != (lb.length : Int) - (l'.length : Int)) = false := by simp; omega
    have hle1 : ((Plain.numL y.length).length : Int) + (y.length : Int) ≤ (capb : Int) := by omega
    clear hown13 hg13 hb14 hR13'
    go_quiet ((go_at_call 21; exact Calls.quiet_of_same (left_q R2 (R2 + 1) l' _ (Rdr.drewN hR14 _))))
    have hcap := hown14.cap.1
    simp only [List.length_append] at hcap
    have hrd14 := Rd.drewN (hown14.rd.take ((Plain.numL y.length).length + y.length - 1)) nq
    clear c1 c2 hd hle1 hR14
    have hB14q : Below w.heap.size w (w14.drewN nq) := ⟨hB14.os, hB14.tape, hB14.output, hB14.size, hB14.block⟩
    go_wp2_with fail
    refine (open_any ao14 cap14 _ ((Plain.numL y.length ++ y).take ((Plain.numL y.length).length + y.length - 1)) _ (by simp) hrd14 hnil14 (by simp; omega) (fun x hx => H8.out x (List.mem_of_mem_take hx))).mono ?_
    rintro e w15 ⟨R3, rfl, hR15, hlo15, hsz15, hb15⟩
    have hB15 : Below w.heap.size w w15 := hB14q.trans (hb15.mono hs14)
    have hlo15' : w.heap.size ≤ R3 := Nat.le_trans hs14 hlo15
    clear hrd14 hb15 hB14q
    go_wp2_with fail
    refine (rbytes_at R3 (R3 + 1) lb.length _ [] _ 4 w15 HC.out hR15 (by omega) (by simp; omega)).mono ?_
    rintro e w16 ⟨ao16, cap16, rfl, hown16, hnil16, hR16, hg16⟩
    have hB16 : Below w.heap.size w w16 := below_rdr hB15 hg16 (by omega) (by omega)
    have hs16 := hB16.size
    clear hR15 hown16 hg16 hR16
    go_wp2_with (first | (go_at_call 23; refine (num_any _ _).mono ?_; rintro e w1 ⟨rfl, rfl⟩) | (go_at_call 18; refine (known_any _).mono ?_; rintro e w17 ⟨rfl, hb17⟩))
    go_ret
    exact ⟨rfl, hB16.trans (hb17.mono hs16)⟩
  · have hE : (er = 3 ∨ er = 4) ∧ y = [] ∧ l' = lb := by
      rcases rbytes_err (most := (lb.length : Int)) (l := lb) (by omega) (by rw [hq]; exact her) with h | h
      · rw [h] at hq; simp at hq; exact ⟨.inl hq.2.1.symm, hq.1, hq.2.2.symm⟩
      · rw [h] at hq; simp at hq; exact ⟨.inr hq.2.1.symm, hq.1, hq.2.2.symm⟩
    obtain ⟨h34, rfl, rfl⟩ := hE
    have h2 : 2 < er := by omega
    have hne : (er != 0) = true := by simp; omega
    have HQ : Hid (rbytes l'.length l' = ([], er, l')) := hq
    clear hq her
    go_wp2_with fail
    refine (rbytes_at R2 (R2 + 1) l'.length l' [] l' er w12 HQ.out hR12 (by omega) (by omega)).mono ?_
    rintro e w13 ⟨ao13, cap13, rfl, hown13, hnil13, hR13, hg13⟩
    have hB13 : Below w.heap.size w w13 := below_rdr hB12 hg13 (by omega) (by omega)
    have hs13 := hB13.size
    clear hown13 hg13 hR12
    go_wp2_with (first | (go_at_call 23; refine (num_any _ _).mono ?_; rintro e w1 ⟨rfl, rfl⟩) | (go_at_call 21; refine (left_any R2 (R2 + 1) l' _ hR13).mono ?_; rintro e w1 ⟨rfl, rfl⟩) | (go_at_call 18; refine (known_any _).mono ?_; rintro e w14 ⟨rfl, hb14⟩))
    go_ret
    exact ⟨rfl, hB13.trans (hb14.mono hs13)⟩
end Go.Proofs.Ytjbnhfcacocgeaa
