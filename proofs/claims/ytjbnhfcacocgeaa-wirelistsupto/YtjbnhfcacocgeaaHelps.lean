/-
  WALKS over the law's own helpers: num, known, nothing; and over Put and Take where they refuse.
-/
import Derived.Test.YtjbnhfcacocgeaaReads2
namespace Go.Proofs.Ytjbnhfcacocgeaa
open Go.RowKit

theorem conv_rd {w : World} {ao : Option Addr} {n cap : Nat} {l : List Int} (hr : Rd w ao l) (hn : l.length = n) : (convert 23 9 (.slice ao n cap)).run Try.prog w = .ok (.string (strOfNums l)) w := by
  cases ao with
  | none =>
    have := hr.1 rfl
    subst this
    exact run_convert_bytes_nil w 23 5 Try.underlying23 Try.underlying5 _ _ 9 Try.underlying9
  | some a =>
    cases l with
    | nil =>
      simp at hn
      subst hn
      rw [run_convert_bytes_string w 23 9 5 _ 0 cap Try.underlying23 Try.underlying5 Try.underlying9, run_bytesToString w a 0 cap [] (by simp [loadCells, loadCellsFrom])]
      rfl
    | cons b l =>
      obtain ⟨ab, off, ha, hc⟩ := hr.plain
      cases ha
      refine run_convert_bytes_arg w 23 5 Try.underlying23 Try.underlying5 ab off n cap (b :: l) hn ?_ 9 Try.underlying9
      intro i hi
      have := hr.2 _ rfl i (.int .u8 ((b :: l).getD i 0)) (by rw [u8s_get, List.getD, List.getElem?_eq_getElem (by omega)]; rfl)
      rwa [add_lit] at this

theorem Own.lit (e : TypeId) (w : World) (l : List Int) (h : l.length ≤ maxLen) : Own e (w.alloc (.cells (u8s l).toArray e)) w.heap.size (.slice (some ⟨w.heap.size, 0, none⟩) l.length l.length) l := by
  have := World.ownsRow_lit (base := w.heap.size) (e := e) (size := 1) w (u8s l).toArray l.length (Nat.le_refl _) h (by simp [u8s])
  simpa [Own] using this

set_option maxHeartbeats 400000 in
set_option maxRecDepth 100000 in
theorem num_any (n : Int) (w : World) : Calls Try.prog 23 #[.int .i64 n] w fun e w' => e = .returned (.int .i64 n) ∧ w = w' := by
  go_enter Try.func23, Try.ntmps23
  go_wp2
  go_ret
  exact ⟨rfl, rfl⟩

theorem strA : strOfNums [97, 98] = { data := #[97, 98] } := by decide
theorem strB : strOfNums [1] = { data := #[1] } := by decide
theorem strC : strOfNums [172, 2] = { data := #[172, 2] } := by decide
theorem num300 : Plain.numL 300 = [172, 2] := by rw [Plain.numL_big (by omega), Plain.numL_small (by omega)]; rfl
theorem numM1 : Plain.numL (Plain.fold (-1)) = [1] := by rw [show Plain.fold (-1) = 1 from rfl, Plain.numL_small (by omega)]; rfl

theorem rbytes_at (R S : Nat) (most : Int) (l x l' : List Int) (er : Int) (w : World) (h : rbytes most l = (x, er, l')) (hR : Rdr 73 w R S l) (hm : most ≤ 9223372036854775807) (hl47 : l.length ≤ 140737488355328) :
    Calls Try.prog 27 #[.pointer (some ⟨R, 0, none⟩), .int .i64 most] w fun e w' =>
      ∃ ao cap, e = .returned (.tuple #[.slice ao x.length cap, .int .i64 er]) ∧ Own 5 w' w.heap.size (.slice ao x.length cap) x ∧ (ao = none → cap = 0) ∧ Rdr 73 w' R S l' ∧ w.grownBy w' (some R) := by
  have := rbytes_any R S most l w hR hm hl47
  rw [h] at this
  exact this

/-- A reader's call leaves what lies below the reader. -/
theorem below_rdr {B R : Nat} {a w w' : World} (hb : Below B a w) (hg : w.grownBy w' (some R)) (hB : B ≤ w.heap.size) (hR : B ≤ R) : Below B a w' :=
  hb.grown hg hB (fun k hk => by cases hk; exact hR)

set_option maxHeartbeats 1000000 in
set_option maxRecDepth 100000 in
theorem known_any (w : World) : Calls Try.prog 18 #[] w fun e w' => e = .returned (.bool true) ∧ Below w.heap.size w w' := by
  go_enter Try.func18, Try.ntmps18
  go_wp2_with fail
  refine (open_any _ 5 5 [128, 1, 2, 97, 98] _ rfl (Own.lit 5 w [128, 1, 2, 97, 98] (by decide)).rd (by simp) (by simp) (by simp)).mono ?_
  rintro e w1 ⟨R, rfl, hR1, hlo, hsz1, hb1⟩
  have hb1' : Below w.heap.size w w1 := ((Below.refl _ _).alloc (Nat.le_refl _) _).trans (hb1.mono (by simp))
  have hlo1 : w.heap.size < R := by simp at hlo; omega
  clear hb1 hlo
  go_wp2_with fail
  refine (rnumber_some R (R + 1) 128 2 _ _ hR1 rfl).mono ?_
  rintro e w2 ⟨rfl, hR2, hg2⟩
  have hb2 : Below w.heap.size w w2 := below_rdr hb1' hg2 (by omega) (by omega)
  have hs2 := hg2.size
  clear hR1 hg2 hb1'
  go_wp2_with fail
  refine (rbytes_at R (R + 1) 2 _ [97, 98] [] 0 _ rfl hR2 (by omega) (by simp)).mono ?_
  rintro e w3 ⟨ao, cap, rfl, hown3, hnil3, hR3, hg3⟩
  have hb3 : Below w.heap.size w w3 := below_rdr hb2 hg3 (by omega) (by omega)
  have hs3 := hg3.size
  have hown3 := hown3.lift (B' := w.heap.size) (by omega)
  clear hR2 hg3 hb2
  go_wp2_with fail
  refine (open_any _ 2 2 [128, 0] _ rfl (Own.lit 5 w3 [128, 0] (by decide)).rd (by simp) (by simp) (by simp)).mono ?_
  rintro e w4 ⟨R', rfl, hR4', hlo4, hsz4, hb4⟩
  have hb4' : Below w3.heap.size w3 w4 := ((Below.refl _ _).alloc (Nat.le_refl _) _).trans (hb4.mono (by simp))
  have hlo4' : w3.heap.size < R' := by simp at hlo4; omega
  have hR4 := hR3.kept (row := none) (grown_of_below hb4') (by simp)
  have hrd4 := hown3.rd.below hb4'
  have hb4w : Below w.heap.size w w4 := hb3.trans (hb4'.mono (by omega))
  clear hb4 hlo4 hb4' hR3 hb3
  go_wp2_with fail
  refine (rnumber_none R' (R' + 1) _ _ hR4' rfl).mono ?_
  rintro e w5 ⟨rfl, hR5', hg5⟩
  have hR5 := hR4.kept hg5 (by intro k hk; cases hk; omega)
  have hrd5 := hrd4.grown hg5 (by intro a ha; have := (hown3.blk a ha).2; simp; omega)
  have hb5 : Below w.heap.size w w5 := below_rdr hb4w hg5 (by omega) (by omega)
  have hcA := conv_rd (n := 2) (cap := cap) hrd5 rfl
  rw [strA] at hcA
  clear hR4' hR4 hrd4 hR5' hg5 hb4w
  have hs5 := hb5.size
  go_wp2_with (first | (go_at_call 23; refine (num_any _ _).mono ?_; rintro e w1 ⟨rfl, rfl⟩) | (go_at_call 21; refine (left_any R (R + 1) [] _ hR5).mono ?_; rintro e w1 ⟨rfl, rfl⟩) | (go_at_call 24; refine (end_any R (R + 1) [] _ hR5).mono ?_; rintro e w1 ⟨rfl, rfl⟩) | (go_at_call 13; refine (signed_any (-1) _ (by omega) (by omega)).mono ?_; rw [numM1]; rintro e w6 ⟨ao6, cap6, rfl, hown6, hnil6, hb6⟩; have hcB := conv_rd (n := 1) (cap := cap6) hown6.rd rfl; rw [strB] at hcB; have hs6 := hb6.size) | (go_at_call 9; refine (number_any 300 _ (by omega)).mono ?_; rw [num300]; rintro e w7 ⟨ao7, cap7, rfl, hown7, hnil7, hb7⟩; have hcC := conv_rd (n := 2) (cap := cap7) hown7.rd rfl; rw [strC] at hcC))
  go_ret
  exact ⟨rfl, (hb5.trans (hb6.mono hs5)).trans (hb7.mono (by omega))⟩

set_option maxHeartbeats 1000000 in
set_option maxRecDepth 100000 in
theorem nothing_any (v : Value) (w : World) (h : NoRdr w v) : Calls Try.prog 36 #[v] w fun e w' => e = .returned (.bool true) ∧ w = w' := by
  go_enter Try.func36, Try.ntmps36
  go_wp2_with (first | (go_at_call 23; refine (num_any _ _).mono ?_; rintro e w1 ⟨rfl, rfl⟩) | (go_at_call 25; refine (rnumber_no v _ h).mono ?_; rintro e w1 ⟨rfl, rfl⟩) | (go_at_call 26; refine (rsigned_no v _ h).mono ?_; rintro e w1 ⟨rfl, rfl⟩) | (go_at_call 28; refine (rflag_no v _ h).mono ?_; rintro e w1 ⟨rfl, rfl⟩) | (go_at_call 27; refine (rbytes_no v _ _ h).mono ?_; rintro e w1 ⟨rfl, rfl⟩) | (go_at_call 24; refine (end_no v _ h).mono ?_; rintro e w1 ⟨rfl, rfl⟩) | (go_at_call 21; refine (left_no v _ h).mono ?_; rintro e w1 ⟨rfl, rfl⟩))
  go_ret
  exact ⟨rfl, rfl⟩

theorem eqNil68 : ∀ w, (binOp .eql 68 .nilFunc .nilFunc).run Try.prog w = .ok (.bool true) w := fun _ => by kernel_rfl
theorem eqFn68 : ∀ w, (binOp .eql 68 (.func (.func 34) #[] #[]) .nilFunc).run Try.prog w = .ok (.bool false) w := fun _ => by kernel_rfl
theorem eqNil93 : ∀ w, (binOp .eql 93 .nilFunc .nilFunc).run Try.prog w = .ok (.bool true) w := fun _ => by kernel_rfl

set_option maxHeartbeats 400000 in
set_option maxRecDepth 100000 in
theorem putInt_nil (w : World) : Calls Try.prog 33 #[.slice none 0 0, .nilFunc] w fun e w' => e = .returned (.tuple #[.slice none 0 0, .int .i64 1]) ∧ w = w' := by
  have q := eqNil68
  go_enter Try.func33, Try.ntmps33
  go_wp2
  go_ret2
  exact ⟨rfl, rfl⟩

theorem num0 : Plain.numL 0 = [0] := by rw [Plain.numL_small (by omega)]; rfl

set_option maxHeartbeats 400000 in
set_option maxRecDepth 100000 in
theorem putInt_none (w : World) : Calls Try.prog 33 #[.slice none 0 0, .func (.func 34) #[] #[]] w fun e w' => ∃ ao cap, e = .returned (.tuple #[.slice ao 1 cap, .int .i64 0]) ∧ Own 5 w' w.heap.size (.slice ao 1 cap) [0] ∧ Below w.heap.size w w' := by
  have q := eqFn68
  go_enter Try.func33, Try.ntmps33
  go_wp2_with (go_at_call 9; refine (number_any 0 _ (by omega)).mono ?_; rw [num0]; rintro e w1 ⟨ao1, cap1, rfl, hown1, hnil1, hb1⟩)
  refine wp_loop_rounds 1 ?_
  rw [rounds_succ]
  go_wp2
  go_ret2
  exact ⟨ao1, cap1, rfl, hown1, hb1⟩

set_option maxHeartbeats 400000 in
set_option maxRecDepth 100000 in
theorem takeInt_nil (R : Nat) (most : Int) (w : World) (h1 : w.cell? ⟨R, 1, none⟩ = some (.bool true)) : Calls Try.prog 35 #[.pointer (some ⟨R, 0, none⟩), .int .i64 most, .nilFunc] w fun e w' => e = .returned (.tuple #[.slice none 0 0, .int .i64 1]) ∧ w = w' := by
  have q := eqNil93
  go_enter Try.func35, Try.ntmps35
  go_wp2
  go_step3
  go_wp2_with (go_at_call 45; refine (missing_no R _ h1).mono ?_; rintro e w1 ⟨rfl, rfl⟩)
  try rw [Exit.noGoto_ret]
  go_ret2
  exact ⟨rfl, rfl⟩
set_option maxHeartbeats 400000 in
set_option maxRecDepth 100000 in
theorem takePair_no (v f : Value) (most : Int) (w : World) (h : NoRdr w v) : Calls Try.prog 31 #[v, .int .i64 most, f] w fun e w' => e = .returned (.tuple #[.slice none 0 0, .int .i64 1]) ∧ w = w' := by
  go_enter Try.func31, Try.ntmps31
  go_wp2
  go_step3
  go_wp2_with (go_at_call 45; refine (missing_yes v _ h).mono ?_; rintro e w1 ⟨rfl, rfl⟩)
  try rw [Exit.noGoto_ret]
  go_ret2
  exact ⟨rfl, rfl⟩
end Go.Proofs.Ytjbnhfcacocgeaa
