/-
  TEXTS: what the program's and the document's texts of branches, names, stamps are.
-/
import Derived.Test.YtkjabnpniingnaaGreatDoorForm
import Derived.Lib.AppendIntMem
import Derived.Lib.ItoaLen
namespace Go.Proofs.YtkjabnpniingnaaGreatDoor
open Go.RowKit Go.Shelf Go.Sort
set_option linter.unusedSimpArgs false

/-- The table of powers of ten, as it is laid. -/
def Env (w : World) : Prop := Lib.TabIs Tryz.prog w "internal/strconv.uint64pow10" .u64 Lib.pow10Tab
theorem Env.below {w w' : World} (h : Env w) (hb : Below w.heap.size w w') : Env w' := Lib.tabBelow_of_tabIs h w' hb
theorem below_grow (w : World) (k : Nat) (os : Array Obj) : Below w.heap.size w (grow (w.drewN k) os) := by
  refine ⟨rfl, rfl, rfl, ?_, fun j hj => ?_⟩
  · show w.heap.size ≤ (w.heap ++ os).size
    rw [Array.size_append]; omega
  · show (w.heap ++ os)[j]? = w.heap[j]?
    rw [Array.getElem?_append_left hj]
abbrev decS (n : Int) : ByteArray := ⟨(Lib.itoa n).toArray⟩
theorem itoa_any (n : Int) (w : World) (h0 : -9223372036854775808 ≤ n) (h1 : n ≤ 9223372036854775807) (hE : Env w) : Calls Tryz.prog 109 #[.int .i64 n] w fun e w' => e = .returned (.string (decS n)) ∧ Below w.heap.size w w' := by
  refine (Tryz.strconv_Itoa n h0 h1 w hE).mono ?_
  rintro e w' ⟨rfl, k, os, rfl⟩
  exact ⟨rfl, below_grow w k os⟩
theorem format_any (n : Int) (w : World) (h0 : -9223372036854775808 ≤ n) (h1 : n ≤ 9223372036854775807) (hE : Env w) : Calls Tryz.prog 112 #[.int .i64 n, .int .i64 10] w fun e w' => e = .returned (.string (decS n)) ∧ Below w.heap.size w w' := by
  refine (Tryz.strconv_FormatInt_10 n h0 h1 w hE).mono ?_
  rintro e w' ⟨rfl, k, os, rfl⟩
  exact ⟨rfl, below_grow w k os⟩
theorem decimal_any (n : Int) (w : World) (h0 : -9223372036854775808 ≤ n) (h1 : n ≤ 9223372036854775807) (hE : Env w) : Calls Tryz.prog 108 #[.int .i64 n] w fun e w' => e = .returned (.string (decS n)) ∧ Below w.heap.size w w' := by
  have h := format_any n w h0 h1 hE
  generalize decS n = D at h ⊢
  go_enter Tryz.func108, Tryz.ntmps108
  go_wp2_with (go_at_call 112; refine h.mono ?_; rintro e w1 ⟨rfl, b1⟩)
  go_ret
  exact ⟨rfl, b1⟩
theorem digits_any (n : Int) (w : World) (h0 : -9223372036854775808 ≤ n) (h1 : n ≤ 9223372036854775807) (hE : Env w) : Calls Tryz.prog 76 #[.int .i64 n] w fun e w' => e = .returned (.string (decS n)) ∧ Below w.heap.size w w' := by
  have h := format_any n w h0 h1 hE
  generalize decS n = D at h ⊢
  go_enter Tryz.func76, Tryz.ntmps76
  go_wp2_with (go_at_call 112; refine h.mono ?_; rintro e w1 ⟨rfl, b1⟩)
  go_ret
  exact ⟨rfl, b1⟩

abbrev dotS : ByteArray := ⟨#[46]⟩
def brT (r : Int) (l : ByteArray) : ByteArray := decS r ++ dotS ++ l
def nmT (r : Int) (l : ByteArray) (n : Int) : ByteArray := brT r l ++ dotS ++ decS n
def stT (g r : Int) (l : ByteArray) (n x : Int) : ByteArray := decS g ++ dotS ++ nmT r l n ++ dotS ++ decS x

theorem decS_size (n : Int) (h0 : -9223372036854775808 ≤ n) (h1 : n ≤ 9223372036854775807) : (decS n).size ≤ 21 := by
  have := Lib.itoa_length_le n h0 h1
  simpa [ByteArray.size] using this
theorem brT_size (r : Int) (l : ByteArray) (h0 : -9223372036854775808 ≤ r) (h1 : r ≤ 9223372036854775807) (hl : l.size ≤ 1000000) : (brT r l).size ≤ 1000030 := by
  have := decS_size r h0 h1
  have e : dotS.size = 1 := rfl
  unfold brT
  rw [ByteArray.size_append, ByteArray.size_append, e]
  omega
theorem nmT_size (r : Int) (l : ByteArray) (n : Int) (h0 : -9223372036854775808 ≤ r) (h1 : r ≤ 9223372036854775807) (hl : l.size ≤ 1000000) (n0 : -9223372036854775808 ≤ n) (n1 : n ≤ 9223372036854775807) : (nmT r l n).size ≤ 1000060 := by
  have := decS_size n n0 n1
  have b := brT_size r l h0 h1 hl
  have e : dotS.size = 1 := rfl
  unfold nmT
  rw [ByteArray.size_append, ByteArray.size_append, e]
  omega
set_option maxHeartbeats 2000000 in
set_option maxRecDepth 100000 in
theorem branchText_any (r : Int) (l : ByteArray) (w : World) (h0 : -9223372036854775808 ≤ r) (h1 : r ≤ 9223372036854775807) (hl : l.size ≤ 1000000) (hE : Env w) : Calls Tryz.prog 70 #[bv r l] w fun e w' => e = .returned (.string (brT r l)) ∧ Below w.heap.size w w' := by
  have hb := below_new w (.cells #[.int .i64 r, .string l] 23)
  obtain ⟨p0, p1⟩ := two_new w (.int .i64 r) (.string l) 23
  unfold brT
  have hd := fun W (h : Env W) => itoa_any r W h0 h1 h
  have hD := decS_size r h0 h1
  generalize decS r = D at hd hD ⊢
  have f1 : ¬ 9223372036854775807 < D.size + 1 := by omega
  have f2 : ¬ 9223372036854775807 < D.size + 1 + l.size := by omega
  go_enter Tryz.func70, Tryz.ntmps70
  go_wp2
  generalize (w.alloc (.cells #[.int .i64 r, .string l] 23)) = W0 at hb p0 p1 ⊢
  have hS1 : W0.drew.cell? ⟨w.heap.size, 0, none⟩ = some (.int .i64 r) ∧ W0.drew.cell? ⟨w.heap.size, 1, none⟩ = some (.string l) := ⟨p0, p1⟩
  have hBW : Below w.heap.size w W0.drew := hb.drew
  clear hb p0 p1
  refine wp_region_held_drew (S := (fun w' => w'.cell? ⟨w.heap.size, 0, none⟩ = some (.int .i64 r) ∧ w'.cell? ⟨w.heap.size, 1, none⟩ = some (.string l))) (by kernel_rfl) (by exact hS1) (fun hHeld => ?_)
  try dsimp only at hHeld
  refine take_op (i := 0) (d := 3) (OP := Op.fieldAddr 23 (Operand.tmp 1) 0) (T := 0) (v := ?vy1x) rfl rfl rfl rfl (by kernel_rfl) (by kernel_rfl) (by kernel_rfl) (fun _ _ _ h => h) (by rfl) ?hy1x hHeld ?ry1x
  case hy1x => (intro w' hSw; (try dsimp only at hSw); go_simp <;> with_reducible rfl)
  try simp only [Act.put, List.setIfInBounds_toArray, List.set_cons_zero, List.set_cons_succ]
  refine take_op (i := 1) (d := 4) (OP := Op.load 3 (Operand.tmp 3)) (T := 3) (v := ?vy2x) rfl rfl rfl rfl (by kernel_rfl) (by kernel_rfl) (by kernel_rfl) (fun _ _ _ h => h) (by rfl) ?hy2x hHeld ?ry2x
  case hy2x => (intro w' hSw; (try dsimp only at hSw); go_simp <;> with_reducible rfl)
  try simp only [Act.put, List.setIfInBounds_toArray, List.set_cons_zero, List.set_cons_succ]
  refine take_op (i := 4) (d := 7) (OP := Op.fieldAddr 23 (Operand.tmp 1) 1) (T := 0) (v := ?vy3x) rfl rfl rfl rfl (by kernel_rfl) (by kernel_rfl) (by kernel_rfl) (fun _ _ _ h => h) (by rfl) ?hy3x hHeld ?ry3x
  case hy3x => (intro w' hSw; (try dsimp only at hSw); go_simp <;> with_reducible rfl)
  try simp only [Act.put, List.setIfInBounds_toArray, List.set_cons_zero, List.set_cons_succ]
  refine take_op (i := 5) (d := 8) (OP := Op.load 9 (Operand.tmp 7)) (T := 9) (v := ?vy4x) rfl rfl rfl rfl (by kernel_rfl) (by kernel_rfl) (by kernel_rfl) (fun _ _ _ h => h) (by rfl) ?hy4x hHeld ?ry4x
  case hy4x => (intro w' hSw; (try dsimp only at hSw); go_simp <;> with_reducible rfl)
  try simp only [Act.put, List.setIfInBounds_toArray, List.set_cons_zero, List.set_cons_succ]
  refine call_op (i := 2) (d := 5) (OP := Op.call { callee := Callee.value (Operand.func 109), args := #[Operand.tmp 4], argTypes := #[3] }) (T := 9) (f := 109) (args := #[.int .i64 r]) rfl rfl rfl rfl (by kernel_rfl) (by rfl) (by go_simp) ?_
  refine (hd _ (hE.below hBW)).mono ?_
  rintro e w2 ⟨rfl, b2⟩
  have hS2 := (And.intro (kept b2 hHeld.1) (kept b2 hHeld.2))
  have hB2 := hBW.trans (b2.mono hBW.size)
  refine ⟨_, rfl, hS2, ?_⟩
  replace hHeld := hS2
  try simp only [Act.put, List.setIfInBounds_toArray, List.set_cons_zero, List.set_cons_succ]
  refine take_op (i := 3) (d := 6) (OP := Op.binOp BinOp.add 9 (Operand.tmp 5) (Operand.const (Value.string { data := #[46] })) 9) (T := 9) (v := ?vy5x) rfl rfl rfl rfl (by kernel_rfl) (by kernel_rfl) (by kernel_rfl) (fun _ _ _ h => h) (by rfl) ?hy5x hHeld ?ry5x
  case hy5x => (intro w' hSw; (try dsimp only at hSw); go_simp <;> with_reducible rfl)
  try simp only [Act.put, List.setIfInBounds_toArray, List.set_cons_zero, List.set_cons_succ]
  refine take_op (i := 6) (d := 9) (OP := Op.binOp BinOp.add 9 (Operand.tmp 6) (Operand.tmp 8) 9) (T := 9) (v := ?vy6x) rfl rfl rfl rfl (by kernel_rfl) (by kernel_rfl) (by kernel_rfl) (fun _ _ _ h => h) (by rfl) ?hy6x hHeld ?ry6x
  case hy6x => (intro w' hSw; (try dsimp only at hSw); go_simp <;> with_reducible rfl)
  try simp only [Act.put, List.setIfInBounds_toArray, List.set_cons_zero, List.set_cons_succ]
  refine take_op (i := 7) (d := 2) (OP := Op.assign (Operand.tmp 9)) (T := 9) (v := ?vy7x) rfl rfl rfl rfl (by kernel_rfl) (by kernel_rfl) (by kernel_rfl) (fun _ _ _ h => h) (by rfl) ?hy7x hHeld ?ry7x
  case hy7x => (intro w' hSw; (try dsimp only at hSw); go_simp <;> with_reducible rfl)
  try simp only [Act.put, List.setIfInBounds_toArray, List.set_cons_zero, List.set_cons_succ]
  refine wpAnyH_done (by kernel_rfl) ?_ _
  go_wp2
  go_ret
  exact ⟨rfl, hB2⟩

set_option maxHeartbeats 2000000 in
set_option maxRecDepth 100000 in
theorem refTextBranch_any (r : Int) (l : ByteArray) (w : World) (h0 : -9223372036854775808 ≤ r) (h1 : r ≤ 9223372036854775807) (hl : l.size ≤ 1000000) (hE : Env w) : Calls Tryz.prog 30 #[bv r l] w fun e w' => e = .returned (.string (brT r l)) ∧ Below w.heap.size w w' := by
  have hb := below_new w (.cells #[.int .i64 r, .string l] 23)
  obtain ⟨p0, p1⟩ := two_new w (.int .i64 r) (.string l) 23
  unfold brT
  have hd := fun W (h : Env W) => digits_any r W h0 h1 h
  have hD := decS_size r h0 h1
  generalize decS r = D at hd hD ⊢
  have f1 : ¬ 9223372036854775807 < D.size + 1 := by omega
  have f2 : ¬ 9223372036854775807 < D.size + 1 + l.size := by omega
  go_enter Tryz.func30, Tryz.ntmps30
  go_wp2
  generalize (w.alloc (.cells #[.int .i64 r, .string l] 23)) = W0 at hb p0 p1 ⊢
  have hS1 : W0.drew.cell? ⟨w.heap.size, 0, none⟩ = some (.int .i64 r) ∧ W0.drew.cell? ⟨w.heap.size, 1, none⟩ = some (.string l) := ⟨p0, p1⟩
  have hBW : Below w.heap.size w W0.drew := hb.drew
  clear hb p0 p1
  refine wp_region_held_drew (S := (fun w' => w'.cell? ⟨w.heap.size, 0, none⟩ = some (.int .i64 r) ∧ w'.cell? ⟨w.heap.size, 1, none⟩ = some (.string l))) (by kernel_rfl) (by exact hS1) (fun hHeld => ?_)
  try dsimp only at hHeld
  refine take_op (i := 0) (d := 3) (OP := Op.fieldAddr 23 (Operand.tmp 1) 0) (T := 0) (v := ?vy8x) rfl rfl rfl rfl (by kernel_rfl) (by kernel_rfl) (by kernel_rfl) (fun _ _ _ h => h) (by rfl) ?hy8x hHeld ?ry8x
  case hy8x => (intro w' hSw; (try dsimp only at hSw); go_simp <;> with_reducible rfl)
  try simp only [Act.put, List.setIfInBounds_toArray, List.set_cons_zero, List.set_cons_succ]
  refine take_op (i := 1) (d := 4) (OP := Op.load 3 (Operand.tmp 3)) (T := 3) (v := ?vy9x) rfl rfl rfl rfl (by kernel_rfl) (by kernel_rfl) (by kernel_rfl) (fun _ _ _ h => h) (by rfl) ?hy9x hHeld ?ry9x
  case hy9x => (intro w' hSw; (try dsimp only at hSw); go_simp <;> with_reducible rfl)
  try simp only [Act.put, List.setIfInBounds_toArray, List.set_cons_zero, List.set_cons_succ]
  refine take_op (i := 4) (d := 7) (OP := Op.fieldAddr 23 (Operand.tmp 1) 1) (T := 0) (v := ?vy10x) rfl rfl rfl rfl (by kernel_rfl) (by kernel_rfl) (by kernel_rfl) (fun _ _ _ h => h) (by rfl) ?hy10x hHeld ?ry10x
  case hy10x => (intro w' hSw; (try dsimp only at hSw); go_simp <;> with_reducible rfl)
  try simp only [Act.put, List.setIfInBounds_toArray, List.set_cons_zero, List.set_cons_succ]
  refine take_op (i := 5) (d := 8) (OP := Op.load 9 (Operand.tmp 7)) (T := 9) (v := ?vy11x) rfl rfl rfl rfl (by kernel_rfl) (by kernel_rfl) (by kernel_rfl) (fun _ _ _ h => h) (by rfl) ?hy11x hHeld ?ry11x
  case hy11x => (intro w' hSw; (try dsimp only at hSw); go_simp <;> with_reducible rfl)
  try simp only [Act.put, List.setIfInBounds_toArray, List.set_cons_zero, List.set_cons_succ]
  refine call_op (i := 2) (d := 5) (OP := Op.call { callee := Callee.value (Operand.func 76), args := #[Operand.tmp 4], argTypes := #[2] }) (T := 9) (f := 76) (args := #[.int .i64 r]) rfl rfl rfl rfl (by kernel_rfl) (by rfl) (by go_simp) ?_
  refine (hd _ (hE.below hBW)).mono ?_
  rintro e w2 ⟨rfl, b2⟩
  have hS2 := (And.intro (kept b2 hHeld.1) (kept b2 hHeld.2))
  have hB2 := hBW.trans (b2.mono hBW.size)
  refine ⟨_, rfl, hS2, ?_⟩
  replace hHeld := hS2
  try simp only [Act.put, List.setIfInBounds_toArray, List.set_cons_zero, List.set_cons_succ]
  refine take_op (i := 3) (d := 6) (OP := Op.binOp BinOp.add 9 (Operand.tmp 5) (Operand.const (Value.string { data := #[46] })) 9) (T := 9) (v := ?vy12x) rfl rfl rfl rfl (by kernel_rfl) (by kernel_rfl) (by kernel_rfl) (fun _ _ _ h => h) (by rfl) ?hy12x hHeld ?ry12x
  case hy12x => (intro w' hSw; (try dsimp only at hSw); go_simp <;> with_reducible rfl)
  try simp only [Act.put, List.setIfInBounds_toArray, List.set_cons_zero, List.set_cons_succ]
  refine take_op (i := 6) (d := 9) (OP := Op.binOp BinOp.add 9 (Operand.tmp 6) (Operand.tmp 8) 9) (T := 9) (v := ?vy13x) rfl rfl rfl rfl (by kernel_rfl) (by kernel_rfl) (by kernel_rfl) (fun _ _ _ h => h) (by rfl) ?hy13x hHeld ?ry13x
  case hy13x => (intro w' hSw; (try dsimp only at hSw); go_simp <;> with_reducible rfl)
  try simp only [Act.put, List.setIfInBounds_toArray, List.set_cons_zero, List.set_cons_succ]
  refine take_op (i := 7) (d := 2) (OP := Op.assign (Operand.tmp 9)) (T := 9) (v := ?vy14x) rfl rfl rfl rfl (by kernel_rfl) (by kernel_rfl) (by kernel_rfl) (fun _ _ _ h => h) (by rfl) ?hy14x hHeld ?ry14x
  case hy14x => (intro w' hSw; (try dsimp only at hSw); go_simp <;> with_reducible rfl)
  try simp only [Act.put, List.setIfInBounds_toArray, List.set_cons_zero, List.set_cons_succ]
  refine wpAnyH_done (by kernel_rfl) ?_ _
  go_wp2
  go_ret
  exact ⟨rfl, hB2⟩

set_option maxHeartbeats 2000000 in
set_option maxRecDepth 100000 in
theorem nameText_any (r : Int) (l : ByteArray) (n : Int) (w : World) (h0 : -9223372036854775808 ≤ r) (h1 : r ≤ 9223372036854775807) (hl : l.size ≤ 1000000) (n0 : -9223372036854775808 ≤ n) (n1 : n ≤ 9223372036854775807) (hE : Env w) : Calls Tryz.prog 68 #[nv r l n] w fun e w' => e = .returned (.string (nmT r l n)) ∧ Below w.heap.size w w' := by
  have hb := below_new w (.cells #[.int .i64 r, .string l, .int .i64 n] 25)
  obtain ⟨p0, p1, p2⟩ := three_new w (.int .i64 r) (.string l) (.int .i64 n) 25
  unfold nmT
  have hbr := fun W (h : Env W) => branchText_any r l W h0 h1 hl h
  have hd := fun W (h : Env W) => decimal_any n W n0 n1 h
  have hD := decS_size n n0 n1
  have hBT := brT_size r l h0 h1 hl
  generalize decS n = D at hd hD ⊢
  generalize brT r l = BT at hbr hBT ⊢
  have f1 : ¬ 9223372036854775807 < BT.size + 1 := by omega
  have f2 : ¬ 9223372036854775807 < BT.size + 1 + D.size := by omega
  go_enter Tryz.func68, Tryz.ntmps68
  go_wp2
  generalize (w.alloc (.cells #[.int .i64 r, .string l, .int .i64 n] 25)) = W0 at hb p0 p1 p2 ⊢
  have hS1 : W0.drew.cell? ⟨w.heap.size, 0, none⟩ = some (.int .i64 r) ∧ W0.drew.cell? ⟨w.heap.size, 1, none⟩ = some (.string l) ∧ W0.drew.cell? ⟨w.heap.size, 2, none⟩ = some (.int .i64 n) := ⟨p0, p1, p2⟩
  have hBW : Below w.heap.size w W0.drew := hb.drew
  clear hb p0 p1 p2
  refine wp_region_held_drew (S := (fun w' => w'.cell? ⟨w.heap.size, 0, none⟩ = some (.int .i64 r) ∧ w'.cell? ⟨w.heap.size, 1, none⟩ = some (.string l) ∧ w'.cell? ⟨w.heap.size, 2, none⟩ = some (.int .i64 n))) (by kernel_rfl) (by exact hS1) (fun hHeld => ?_)
  try dsimp only at hHeld
  refine take_op (i := 0) (d := 3) (OP := Op.fieldAddr 25 (Operand.tmp 1) 0) (T := 0) (v := ?vy15x) rfl rfl rfl rfl (by kernel_rfl) (by kernel_rfl) (by kernel_rfl) (fun _ _ _ h => h) (by rfl) ?hy15x hHeld ?ry15x
  case hy15x => (intro w' hSw; (try dsimp only at hSw); go_simp <;> with_reducible rfl)
  try simp only [Act.put, List.setIfInBounds_toArray, List.set_cons_zero, List.set_cons_succ]
  refine take_op (i := 1) (d := 4) (OP := Op.load 23 (Operand.tmp 3)) (T := 23) (v := ?vy16x) rfl rfl rfl rfl (by kernel_rfl) (by kernel_rfl) (by kernel_rfl) (fun _ _ _ h => h) (by rfl) ?hy16x hHeld ?ry16x
  case hy16x => (intro w' hSw; (try dsimp only at hSw); go_simp <;> with_reducible rfl)
  try simp only [Act.put, List.setIfInBounds_toArray, List.set_cons_zero, List.set_cons_succ]
  refine take_op (i := 4) (d := 7) (OP := Op.fieldAddr 25 (Operand.tmp 1) 1) (T := 0) (v := ?vy17x) rfl rfl rfl rfl (by kernel_rfl) (by kernel_rfl) (by kernel_rfl) (fun _ _ _ h => h) (by rfl) ?hy17x hHeld ?ry17x
  case hy17x => (intro w' hSw; (try dsimp only at hSw); go_simp <;> with_reducible rfl)
  try simp only [Act.put, List.setIfInBounds_toArray, List.set_cons_zero, List.set_cons_succ]
  refine take_op (i := 5) (d := 8) (OP := Op.load 2 (Operand.tmp 7)) (T := 2) (v := ?vy18x) rfl rfl rfl rfl (by kernel_rfl) (by kernel_rfl) (by kernel_rfl) (fun _ _ _ h => h) (by rfl) ?hy18x hHeld ?ry18x
  case hy18x => (intro w' hSw; (try dsimp only at hSw); go_simp <;> with_reducible rfl)
  try simp only [Act.put, List.setIfInBounds_toArray, List.set_cons_zero, List.set_cons_succ]
  refine call_op (i := 2) (d := 5) (OP := Op.call { callee := Callee.value (Operand.func 70), args := #[Operand.tmp 4], argTypes := #[23] }) (T := 9) (f := 70) (args := #[bv r l]) rfl rfl rfl rfl (by kernel_rfl) (by rfl) (by go_simp) ?_
  refine (hbr _ (hE.below hBW)).mono ?_
  rintro e w2 ⟨rfl, b2⟩
  have hS2 := (And.intro (kept b2 hHeld.1) (And.intro (kept b2 hHeld.2.1) (kept b2 hHeld.2.2)))
  have hB2 := hBW.trans (b2.mono hBW.size)
  refine ⟨_, rfl, hS2, ?_⟩
  replace hHeld := hS2
  try simp only [Act.put, List.setIfInBounds_toArray, List.set_cons_zero, List.set_cons_succ]
  refine take_op (i := 3) (d := 6) (OP := Op.binOp BinOp.add 9 (Operand.tmp 5) (Operand.const (Value.string { data := #[46] })) 9) (T := 9) (v := ?vy19x) rfl rfl rfl rfl (by kernel_rfl) (by kernel_rfl) (by kernel_rfl) (fun _ _ _ h => h) (by rfl) ?hy19x hHeld ?ry19x
  case hy19x => (intro w' hSw; (try dsimp only at hSw); go_simp <;> with_reducible rfl)
  try simp only [Act.put, List.setIfInBounds_toArray, List.set_cons_zero, List.set_cons_succ]
  refine call_op (i := 6) (d := 9) (OP := Op.call { callee := Callee.value (Operand.func 108), args := #[Operand.tmp 8], argTypes := #[2] }) (T := 9) (f := 108) (args := #[.int .i64 n]) rfl rfl rfl rfl (by kernel_rfl) (by rfl) (by go_simp) ?_
  refine (hd _ (hE.below hB2)).mono ?_
  rintro e w6 ⟨rfl, b6⟩
  have hS6 := (And.intro (kept b6 hHeld.1) (And.intro (kept b6 hHeld.2.1) (kept b6 hHeld.2.2)))
  have hB6 := hB2.trans (b6.mono hB2.size)
  refine ⟨_, rfl, hS6, ?_⟩
  replace hHeld := hS6
  try simp only [Act.put, List.setIfInBounds_toArray, List.set_cons_zero, List.set_cons_succ]
  refine take_op (i := 7) (d := 10) (OP := Op.binOp BinOp.add 9 (Operand.tmp 6) (Operand.tmp 9) 9) (T := 9) (v := ?vy20x) rfl rfl rfl rfl (by kernel_rfl) (by kernel_rfl) (by kernel_rfl) (fun _ _ _ h => h) (by rfl) ?hy20x hHeld ?ry20x
  case hy20x => (intro w' hSw; (try dsimp only at hSw); go_simp <;> with_reducible rfl)
  try simp only [Act.put, List.setIfInBounds_toArray, List.set_cons_zero, List.set_cons_succ]
  refine take_op (i := 8) (d := 2) (OP := Op.assign (Operand.tmp 10)) (T := 9) (v := ?vy21x) rfl rfl rfl rfl (by kernel_rfl) (by kernel_rfl) (by kernel_rfl) (fun _ _ _ h => h) (by rfl) ?hy21x hHeld ?ry21x
  case hy21x => (intro w' hSw; (try dsimp only at hSw); go_simp <;> with_reducible rfl)
  try simp only [Act.put, List.setIfInBounds_toArray, List.set_cons_zero, List.set_cons_succ]
  refine wpAnyH_done (by kernel_rfl) ?_ _
  go_wp2
  go_ret
  exact ⟨rfl, hB6⟩

set_option maxHeartbeats 2000000 in
set_option maxRecDepth 100000 in
theorem refTextName_any (r : Int) (l : ByteArray) (n : Int) (w : World) (h0 : -9223372036854775808 ≤ r) (h1 : r ≤ 9223372036854775807) (hl : l.size ≤ 1000000) (n0 : -9223372036854775808 ≤ n) (n1 : n ≤ 9223372036854775807) (hE : Env w) : Calls Tryz.prog 28 #[nv r l n] w fun e w' => e = .returned (.string (nmT r l n)) ∧ Below w.heap.size w w' := by
  have hb := below_new w (.cells #[.int .i64 r, .string l, .int .i64 n] 25)
  obtain ⟨p0, p1, p2⟩ := three_new w (.int .i64 r) (.string l) (.int .i64 n) 25
  unfold nmT
  have hbr := fun W (h : Env W) => refTextBranch_any r l W h0 h1 hl h
  have hd := fun W (h : Env W) => digits_any n W n0 n1 h
  have hD := decS_size n n0 n1
  have hBT := brT_size r l h0 h1 hl
  generalize decS n = D at hd hD ⊢
  generalize brT r l = BT at hbr hBT ⊢
  have f1 : ¬ 9223372036854775807 < BT.size + 1 := by omega
  have f2 : ¬ 9223372036854775807 < BT.size + 1 + D.size := by omega
  go_enter Tryz.func28, Tryz.ntmps28
  go_wp2
  generalize (w.alloc (.cells #[.int .i64 r, .string l, .int .i64 n] 25)) = W0 at hb p0 p1 p2 ⊢
  have hS1 : W0.drew.cell? ⟨w.heap.size, 0, none⟩ = some (.int .i64 r) ∧ W0.drew.cell? ⟨w.heap.size, 1, none⟩ = some (.string l) ∧ W0.drew.cell? ⟨w.heap.size, 2, none⟩ = some (.int .i64 n) := ⟨p0, p1, p2⟩
  have hBW : Below w.heap.size w W0.drew := hb.drew
  clear hb p0 p1 p2
  refine wp_region_held_drew (S := (fun w' => w'.cell? ⟨w.heap.size, 0, none⟩ = some (.int .i64 r) ∧ w'.cell? ⟨w.heap.size, 1, none⟩ = some (.string l) ∧ w'.cell? ⟨w.heap.size, 2, none⟩ = some (.int .i64 n))) (by kernel_rfl) (by exact hS1) (fun hHeld => ?_)
  try dsimp only at hHeld
  refine take_op (i := 0) (d := 3) (OP := Op.fieldAddr 25 (Operand.tmp 1) 0) (T := 0) (v := ?vy22x) rfl rfl rfl rfl (by kernel_rfl) (by kernel_rfl) (by kernel_rfl) (fun _ _ _ h => h) (by rfl) ?hy22x hHeld ?ry22x
  case hy22x => (intro w' hSw; (try dsimp only at hSw); go_simp <;> with_reducible rfl)
  try simp only [Act.put, List.setIfInBounds_toArray, List.set_cons_zero, List.set_cons_succ]
  refine take_op (i := 1) (d := 4) (OP := Op.load 23 (Operand.tmp 3)) (T := 23) (v := ?vy23x) rfl rfl rfl rfl (by kernel_rfl) (by kernel_rfl) (by kernel_rfl) (fun _ _ _ h => h) (by rfl) ?hy23x hHeld ?ry23x
  case hy23x => (intro w' hSw; (try dsimp only at hSw); go_simp <;> with_reducible rfl)
  try simp only [Act.put, List.setIfInBounds_toArray, List.set_cons_zero, List.set_cons_succ]
  refine take_op (i := 4) (d := 7) (OP := Op.fieldAddr 25 (Operand.tmp 1) 1) (T := 0) (v := ?vy24x) rfl rfl rfl rfl (by kernel_rfl) (by kernel_rfl) (by kernel_rfl) (fun _ _ _ h => h) (by rfl) ?hy24x hHeld ?ry24x
  case hy24x => (intro w' hSw; (try dsimp only at hSw); go_simp <;> with_reducible rfl)
  try simp only [Act.put, List.setIfInBounds_toArray, List.set_cons_zero, List.set_cons_succ]
  refine take_op (i := 5) (d := 8) (OP := Op.load 2 (Operand.tmp 7)) (T := 2) (v := ?vy25x) rfl rfl rfl rfl (by kernel_rfl) (by kernel_rfl) (by kernel_rfl) (fun _ _ _ h => h) (by rfl) ?hy25x hHeld ?ry25x
  case hy25x => (intro w' hSw; (try dsimp only at hSw); go_simp <;> with_reducible rfl)
  try simp only [Act.put, List.setIfInBounds_toArray, List.set_cons_zero, List.set_cons_succ]
  refine call_op (i := 2) (d := 5) (OP := Op.call { callee := Callee.value (Operand.func 30), args := #[Operand.tmp 4], argTypes := #[23] }) (T := 9) (f := 30) (args := #[bv r l]) rfl rfl rfl rfl (by kernel_rfl) (by rfl) (by go_simp) ?_
  refine (hbr _ (hE.below hBW)).mono ?_
  rintro e w2 ⟨rfl, b2⟩
  have hS2 := (And.intro (kept b2 hHeld.1) (And.intro (kept b2 hHeld.2.1) (kept b2 hHeld.2.2)))
  have hB2 := hBW.trans (b2.mono hBW.size)
  refine ⟨_, rfl, hS2, ?_⟩
  replace hHeld := hS2
  try simp only [Act.put, List.setIfInBounds_toArray, List.set_cons_zero, List.set_cons_succ]
  refine take_op (i := 3) (d := 6) (OP := Op.binOp BinOp.add 9 (Operand.tmp 5) (Operand.const (Value.string { data := #[46] })) 9) (T := 9) (v := ?vy26x) rfl rfl rfl rfl (by kernel_rfl) (by kernel_rfl) (by kernel_rfl) (fun _ _ _ h => h) (by rfl) ?hy26x hHeld ?ry26x
  case hy26x => (intro w' hSw; (try dsimp only at hSw); go_simp <;> with_reducible rfl)
  try simp only [Act.put, List.setIfInBounds_toArray, List.set_cons_zero, List.set_cons_succ]
  refine call_op (i := 6) (d := 9) (OP := Op.call { callee := Callee.value (Operand.func 76), args := #[Operand.tmp 8], argTypes := #[2] }) (T := 9) (f := 76) (args := #[.int .i64 n]) rfl rfl rfl rfl (by kernel_rfl) (by rfl) (by go_simp) ?_
  refine (hd _ (hE.below hB2)).mono ?_
  rintro e w6 ⟨rfl, b6⟩
  have hS6 := (And.intro (kept b6 hHeld.1) (And.intro (kept b6 hHeld.2.1) (kept b6 hHeld.2.2)))
  have hB6 := hB2.trans (b6.mono hB2.size)
  refine ⟨_, rfl, hS6, ?_⟩
  replace hHeld := hS6
  try simp only [Act.put, List.setIfInBounds_toArray, List.set_cons_zero, List.set_cons_succ]
  refine take_op (i := 7) (d := 10) (OP := Op.binOp BinOp.add 9 (Operand.tmp 6) (Operand.tmp 9) 9) (T := 9) (v := ?vy27x) rfl rfl rfl rfl (by kernel_rfl) (by kernel_rfl) (by kernel_rfl) (fun _ _ _ h => h) (by rfl) ?hy27x hHeld ?ry27x
  case hy27x => (intro w' hSw; (try dsimp only at hSw); go_simp <;> with_reducible rfl)
  try simp only [Act.put, List.setIfInBounds_toArray, List.set_cons_zero, List.set_cons_succ]
  refine take_op (i := 8) (d := 2) (OP := Op.assign (Operand.tmp 10)) (T := 9) (v := ?vy28x) rfl rfl rfl rfl (by kernel_rfl) (by kernel_rfl) (by kernel_rfl) (fun _ _ _ h => h) (by rfl) ?hy28x hHeld ?ry28x
  case hy28x => (intro w' hSw; (try dsimp only at hSw); go_simp <;> with_reducible rfl)
  try simp only [Act.put, List.setIfInBounds_toArray, List.set_cons_zero, List.set_cons_succ]
  refine wpAnyH_done (by kernel_rfl) ?_ _
  go_wp2
  go_ret
  exact ⟨rfl, hB6⟩

set_option maxHeartbeats 2000000 in
set_option maxRecDepth 100000 in
theorem stampText_any (g r : Int) (l : ByteArray) (n x : Int) (w : World) (h0 : -9223372036854775808 ≤ r) (h1 : r ≤ 9223372036854775807) (hl : l.size ≤ 1000000) (n0 : -9223372036854775808 ≤ n) (n1 : n ≤ 9223372036854775807) (g0 : -9223372036854775808 ≤ g) (g1 : g ≤ 9223372036854775807) (x0 : -9223372036854775808 ≤ x) (x1 : x ≤ 9223372036854775807) (hE : Env w) : Calls Tryz.prog 66 #[sv g r l n x] w fun e w' => e = .returned (.string (stT g r l n x)) ∧ Below w.heap.size w w' := by
  have hb := below_new w (.cells #[.int .i64 g, .int .i64 r, .string l, .int .i64 n, .int .i64 x] 27)
  obtain ⟨p0, p1, p2, p3, p4⟩ := five_new w (.int .i64 g) (.int .i64 r) (.string l) (.int .i64 n) (.int .i64 x) 27
  unfold stT
  have hg := fun W (h : Env W) => decimal_any g W g0 g1 h
  have hnm := fun W (h : Env W) => nameText_any r l n W h0 h1 hl n0 n1 h
  have hx := fun W (h : Env W) => itoa_any x W x0 x1 h
  have hDG := decS_size g g0 g1
  have hDX := decS_size x x0 x1
  have hNT := nmT_size r l n h0 h1 hl n0 n1
  generalize decS g = DG at hg hDG ⊢
  generalize decS x = DX at hx hDX ⊢
  generalize nmT r l n = NT at hnm hNT ⊢
  have f1 : ¬ 9223372036854775807 < DG.size + 1 := by omega
  have f2 : ¬ 9223372036854775807 < DG.size + 1 + NT.size := by omega
  have f3 : ¬ 9223372036854775807 < DG.size + 1 + NT.size + 1 := by omega
  have f4 : ¬ 9223372036854775807 < DG.size + 1 + NT.size + 1 + DX.size := by omega
  go_enter Tryz.func66, Tryz.ntmps66
  go_wp2
  generalize (w.alloc (.cells #[.int .i64 g, .int .i64 r, .string l, .int .i64 n, .int .i64 x] 27)) = W0 at hb p0 p1 p2 p3 p4 ⊢
  have hS1 : W0.drew.cell? ⟨w.heap.size, 0, none⟩ = some (.int .i64 g) ∧ W0.drew.cell? ⟨w.heap.size, 1, none⟩ = some (.int .i64 r) ∧ W0.drew.cell? ⟨w.heap.size, 2, none⟩ = some (.string l) ∧ W0.drew.cell? ⟨w.heap.size, 3, none⟩ = some (.int .i64 n) ∧ W0.drew.cell? ⟨w.heap.size, 4, none⟩ = some (.int .i64 x) := ⟨p0, p1, p2, p3, p4⟩
  have hBW : Below w.heap.size w W0.drew := hb.drew
  clear hb p0 p1 p2 p3 p4
  refine wp_region_held_drew (S := (fun w' => w'.cell? ⟨w.heap.size, 0, none⟩ = some (.int .i64 g) ∧ w'.cell? ⟨w.heap.size, 1, none⟩ = some (.int .i64 r) ∧ w'.cell? ⟨w.heap.size, 2, none⟩ = some (.string l) ∧ w'.cell? ⟨w.heap.size, 3, none⟩ = some (.int .i64 n) ∧ w'.cell? ⟨w.heap.size, 4, none⟩ = some (.int .i64 x))) (by kernel_rfl) (by exact hS1) (fun hHeld => ?_)
  try dsimp only at hHeld
  refine take_op (i := 0) (d := 3) (OP := Op.fieldAddr 27 (Operand.tmp 1) 0) (T := 0) (v := ?vy29x) rfl rfl rfl rfl (by kernel_rfl) (by kernel_rfl) (by kernel_rfl) (fun _ _ _ h => h) (by rfl) ?hy29x hHeld ?ry29x
  case hy29x => (intro w' hSw; (try dsimp only at hSw); go_simp <;> with_reducible rfl)
  try simp only [Act.put, List.setIfInBounds_toArray, List.set_cons_zero, List.set_cons_succ]
  refine take_op (i := 1) (d := 4) (OP := Op.load 2 (Operand.tmp 3)) (T := 2) (v := ?vy30x) rfl rfl rfl rfl (by kernel_rfl) (by kernel_rfl) (by kernel_rfl) (fun _ _ _ h => h) (by rfl) ?hy30x hHeld ?ry30x
  case hy30x => (intro w' hSw; (try dsimp only at hSw); go_simp <;> with_reducible rfl)
  try simp only [Act.put, List.setIfInBounds_toArray, List.set_cons_zero, List.set_cons_succ]
  refine take_op (i := 4) (d := 7) (OP := Op.fieldAddr 27 (Operand.tmp 1) 1) (T := 0) (v := ?vy31x) rfl rfl rfl rfl (by kernel_rfl) (by kernel_rfl) (by kernel_rfl) (fun _ _ _ h => h) (by rfl) ?hy31x hHeld ?ry31x
  case hy31x => (intro w' hSw; (try dsimp only at hSw); go_simp <;> with_reducible rfl)
  try simp only [Act.put, List.setIfInBounds_toArray, List.set_cons_zero, List.set_cons_succ]
  refine take_op (i := 5) (d := 8) (OP := Op.load 25 (Operand.tmp 7)) (T := 25) (v := ?vy32x) rfl rfl rfl rfl (by kernel_rfl) (by kernel_rfl) (by kernel_rfl) (fun _ _ _ h => h) (by rfl) ?hy32x hHeld ?ry32x
  case hy32x => (intro w' hSw; (try dsimp only at hSw); go_simp <;> with_reducible rfl)
  try simp only [Act.put, List.setIfInBounds_toArray, List.set_cons_zero, List.set_cons_succ]
  refine take_op (i := 9) (d := 12) (OP := Op.fieldAddr 27 (Operand.tmp 1) 2) (T := 0) (v := ?vy33x) rfl rfl rfl rfl (by kernel_rfl) (by kernel_rfl) (by kernel_rfl) (fun _ _ _ h => h) (by rfl) ?hy33x hHeld ?ry33x
  case hy33x => (intro w' hSw; (try dsimp only at hSw); go_simp <;> with_reducible rfl)
  try simp only [Act.put, List.setIfInBounds_toArray, List.set_cons_zero, List.set_cons_succ]
  refine take_op (i := 10) (d := 13) (OP := Op.load 3 (Operand.tmp 12)) (T := 3) (v := ?vy34x) rfl rfl rfl rfl (by kernel_rfl) (by kernel_rfl) (by kernel_rfl) (fun _ _ _ h => h) (by rfl) ?hy34x hHeld ?ry34x
  case hy34x => (intro w' hSw; (try dsimp only at hSw); go_simp <;> with_reducible rfl)
  try simp only [Act.put, List.setIfInBounds_toArray, List.set_cons_zero, List.set_cons_succ]
  refine call_op (i := 2) (d := 5) (OP := Op.call { callee := Callee.value (Operand.func 108), args := #[Operand.tmp 4], argTypes := #[2] }) (T := 9) (f := 108) (args := #[.int .i64 g]) rfl rfl rfl rfl (by kernel_rfl) (by rfl) (by go_simp) ?_
  refine (hg _ (hE.below hBW)).mono ?_
  rintro e w2 ⟨rfl, b2⟩
  have hS2 := (And.intro (kept b2 hHeld.1) (And.intro (kept b2 hHeld.2.1) (And.intro (kept b2 hHeld.2.2.1) (And.intro (kept b2 hHeld.2.2.2.1) (kept b2 hHeld.2.2.2.2)))))
  have hB2 := hBW.trans (b2.mono hBW.size)
  refine ⟨_, rfl, hS2, ?_⟩
  replace hHeld := hS2
  try simp only [Act.put, List.setIfInBounds_toArray, List.set_cons_zero, List.set_cons_succ]
  refine take_op (i := 3) (d := 6) (OP := Op.binOp BinOp.add 9 (Operand.tmp 5) (Operand.const (Value.string { data := #[46] })) 9) (T := 9) (v := ?vy35x) rfl rfl rfl rfl (by kernel_rfl) (by kernel_rfl) (by kernel_rfl) (fun _ _ _ h => h) (by rfl) ?hy35x hHeld ?ry35x
  case hy35x => (intro w' hSw; (try dsimp only at hSw); go_simp <;> with_reducible rfl)
  try simp only [Act.put, List.setIfInBounds_toArray, List.set_cons_zero, List.set_cons_succ]
  refine call_op (i := 6) (d := 9) (OP := Op.call { callee := Callee.value (Operand.func 68), args := #[Operand.tmp 8], argTypes := #[25] }) (T := 9) (f := 68) (args := #[nv r l n]) rfl rfl rfl rfl (by kernel_rfl) (by rfl) (by go_simp) ?_
  refine (hnm _ (hE.below hB2)).mono ?_
  rintro e w6 ⟨rfl, b6⟩
  have hS6 := (And.intro (kept b6 hHeld.1) (And.intro (kept b6 hHeld.2.1) (And.intro (kept b6 hHeld.2.2.1) (And.intro (kept b6 hHeld.2.2.2.1) (kept b6 hHeld.2.2.2.2)))))
  have hB6 := hB2.trans (b6.mono hB2.size)
  refine ⟨_, rfl, hS6, ?_⟩
  replace hHeld := hS6
  try simp only [Act.put, List.setIfInBounds_toArray, List.set_cons_zero, List.set_cons_succ]
  refine take_op (i := 7) (d := 10) (OP := Op.binOp BinOp.add 9 (Operand.tmp 6) (Operand.tmp 9) 9) (T := 9) (v := ?vy36x) rfl rfl rfl rfl (by kernel_rfl) (by kernel_rfl) (by kernel_rfl) (fun _ _ _ h => h) (by rfl) ?hy36x hHeld ?ry36x
  case hy36x => (intro w' hSw; (try dsimp only at hSw); go_simp <;> with_reducible rfl)
  try simp only [Act.put, List.setIfInBounds_toArray, List.set_cons_zero, List.set_cons_succ]
  refine take_op (i := 8) (d := 11) (OP := Op.binOp BinOp.add 9 (Operand.tmp 10) (Operand.const (Value.string { data := #[46] })) 9) (T := 9) (v := ?vy37x) rfl rfl rfl rfl (by kernel_rfl) (by kernel_rfl) (by kernel_rfl) (fun _ _ _ h => h) (by rfl) ?hy37x hHeld ?ry37x
  case hy37x => (intro w' hSw; (try dsimp only at hSw); go_simp <;> with_reducible rfl)
  try simp only [Act.put, List.setIfInBounds_toArray, List.set_cons_zero, List.set_cons_succ]
  refine call_op (i := 11) (d := 14) (OP := Op.call { callee := Callee.value (Operand.func 109), args := #[Operand.tmp 13], argTypes := #[3] }) (T := 9) (f := 109) (args := #[.int .i64 x]) rfl rfl rfl rfl (by kernel_rfl) (by rfl) (by go_simp) ?_
  refine (hx _ (hE.below hB6)).mono ?_
  rintro e w8 ⟨rfl, b8⟩
  have hS8 := (And.intro (kept b8 hHeld.1) (And.intro (kept b8 hHeld.2.1) (And.intro (kept b8 hHeld.2.2.1) (And.intro (kept b8 hHeld.2.2.2.1) (kept b8 hHeld.2.2.2.2)))))
  have hB8 := hB6.trans (b8.mono hB6.size)
  refine ⟨_, rfl, hS8, ?_⟩
  replace hHeld := hS8
  try simp only [Act.put, List.setIfInBounds_toArray, List.set_cons_zero, List.set_cons_succ]
  refine take_op (i := 12) (d := 15) (OP := Op.binOp BinOp.add 9 (Operand.tmp 11) (Operand.tmp 14) 9) (T := 9) (v := ?vy38x) rfl rfl rfl rfl (by kernel_rfl) (by kernel_rfl) (by kernel_rfl) (fun _ _ _ h => h) (by rfl) ?hy38x hHeld ?ry38x
  case hy38x => (intro w' hSw; (try dsimp only at hSw); go_simp <;> with_reducible rfl)
  try simp only [Act.put, List.setIfInBounds_toArray, List.set_cons_zero, List.set_cons_succ]
  refine take_op (i := 13) (d := 2) (OP := Op.assign (Operand.tmp 15)) (T := 9) (v := ?vy39x) rfl rfl rfl rfl (by kernel_rfl) (by kernel_rfl) (by kernel_rfl) (fun _ _ _ h => h) (by rfl) ?hy39x hHeld ?ry39x
  case hy39x => (intro w' hSw; (try dsimp only at hSw); go_simp <;> with_reducible rfl)
  try simp only [Act.put, List.setIfInBounds_toArray, List.set_cons_zero, List.set_cons_succ]
  refine wpAnyH_done (by kernel_rfl) ?_ _
  go_wp2
  go_ret
  exact ⟨rfl, hB8⟩

set_option maxHeartbeats 2000000 in
set_option maxRecDepth 100000 in
theorem refText_any (g r : Int) (l : ByteArray) (n x : Int) (w : World) (h0 : -9223372036854775808 ≤ r) (h1 : r ≤ 9223372036854775807) (hl : l.size ≤ 1000000) (n0 : -9223372036854775808 ≤ n) (n1 : n ≤ 9223372036854775807) (g0 : -9223372036854775808 ≤ g) (g1 : g ≤ 9223372036854775807) (x0 : -9223372036854775808 ≤ x) (x1 : x ≤ 9223372036854775807) (hE : Env w) : Calls Tryz.prog 24 #[sv g r l n x] w fun e w' => e = .returned (.string (stT g r l n x)) ∧ Below w.heap.size w w' := by
  have hb := below_new w (.cells #[.int .i64 g, .int .i64 r, .string l, .int .i64 n, .int .i64 x] 27)
  obtain ⟨p0, p1, p2, p3, p4⟩ := five_new w (.int .i64 g) (.int .i64 r) (.string l) (.int .i64 n) (.int .i64 x) 27
  unfold stT
  have hg := fun W (h : Env W) => digits_any g W g0 g1 h
  have hnm := fun W (h : Env W) => refTextName_any r l n W h0 h1 hl n0 n1 h
  have hx := fun W (h : Env W) => digits_any x W x0 x1 h
  have hDG := decS_size g g0 g1
  have hDX := decS_size x x0 x1
  have hNT := nmT_size r l n h0 h1 hl n0 n1
  generalize decS g = DG at hg hDG ⊢
  generalize decS x = DX at hx hDX ⊢
  generalize nmT r l n = NT at hnm hNT ⊢
  have f1 : ¬ 9223372036854775807 < DG.size + 1 := by omega
  have f2 : ¬ 9223372036854775807 < DG.size + 1 + NT.size := by omega
  have f3 : ¬ 9223372036854775807 < DG.size + 1 + NT.size + 1 := by omega
  have f4 : ¬ 9223372036854775807 < DG.size + 1 + NT.size + 1 + DX.size := by omega
  go_enter Tryz.func24, Tryz.ntmps24
  go_wp2
  generalize (w.alloc (.cells #[.int .i64 g, .int .i64 r, .string l, .int .i64 n, .int .i64 x] 27)) = W0 at hb p0 p1 p2 p3 p4 ⊢
  have hS1 : W0.drew.cell? ⟨w.heap.size, 0, none⟩ = some (.int .i64 g) ∧ W0.drew.cell? ⟨w.heap.size, 1, none⟩ = some (.int .i64 r) ∧ W0.drew.cell? ⟨w.heap.size, 2, none⟩ = some (.string l) ∧ W0.drew.cell? ⟨w.heap.size, 3, none⟩ = some (.int .i64 n) ∧ W0.drew.cell? ⟨w.heap.size, 4, none⟩ = some (.int .i64 x) := ⟨p0, p1, p2, p3, p4⟩
  have hBW : Below w.heap.size w W0.drew := hb.drew
  clear hb p0 p1 p2 p3 p4
  refine wp_region_held_drew (S := (fun w' => w'.cell? ⟨w.heap.size, 0, none⟩ = some (.int .i64 g) ∧ w'.cell? ⟨w.heap.size, 1, none⟩ = some (.int .i64 r) ∧ w'.cell? ⟨w.heap.size, 2, none⟩ = some (.string l) ∧ w'.cell? ⟨w.heap.size, 3, none⟩ = some (.int .i64 n) ∧ w'.cell? ⟨w.heap.size, 4, none⟩ = some (.int .i64 x))) (by kernel_rfl) (by exact hS1) (fun hHeld => ?_)
  try dsimp only at hHeld
  refine take_op (i := 0) (d := 3) (OP := Op.fieldAddr 27 (Operand.tmp 1) 0) (T := 0) (v := ?vy40x) rfl rfl rfl rfl (by kernel_rfl) (by kernel_rfl) (by kernel_rfl) (fun _ _ _ h => h) (by rfl) ?hy40x hHeld ?ry40x
  case hy40x => (intro w' hSw; (try dsimp only at hSw); go_simp <;> with_reducible rfl)
  try simp only [Act.put, List.setIfInBounds_toArray, List.set_cons_zero, List.set_cons_succ]
  refine take_op (i := 1) (d := 4) (OP := Op.load 2 (Operand.tmp 3)) (T := 2) (v := ?vy41x) rfl rfl rfl rfl (by kernel_rfl) (by kernel_rfl) (by kernel_rfl) (fun _ _ _ h => h) (by rfl) ?hy41x hHeld ?ry41x
  case hy41x => (intro w' hSw; (try dsimp only at hSw); go_simp <;> with_reducible rfl)
  try simp only [Act.put, List.setIfInBounds_toArray, List.set_cons_zero, List.set_cons_succ]
  refine take_op (i := 4) (d := 7) (OP := Op.fieldAddr 27 (Operand.tmp 1) 1) (T := 0) (v := ?vy42x) rfl rfl rfl rfl (by kernel_rfl) (by kernel_rfl) (by kernel_rfl) (fun _ _ _ h => h) (by rfl) ?hy42x hHeld ?ry42x
  case hy42x => (intro w' hSw; (try dsimp only at hSw); go_simp <;> with_reducible rfl)
  try simp only [Act.put, List.setIfInBounds_toArray, List.set_cons_zero, List.set_cons_succ]
  refine take_op (i := 5) (d := 8) (OP := Op.load 25 (Operand.tmp 7)) (T := 25) (v := ?vy43x) rfl rfl rfl rfl (by kernel_rfl) (by kernel_rfl) (by kernel_rfl) (fun _ _ _ h => h) (by rfl) ?hy43x hHeld ?ry43x
  case hy43x => (intro w' hSw; (try dsimp only at hSw); go_simp <;> with_reducible rfl)
  try simp only [Act.put, List.setIfInBounds_toArray, List.set_cons_zero, List.set_cons_succ]
  refine take_op (i := 9) (d := 12) (OP := Op.fieldAddr 27 (Operand.tmp 1) 2) (T := 0) (v := ?vy44x) rfl rfl rfl rfl (by kernel_rfl) (by kernel_rfl) (by kernel_rfl) (fun _ _ _ h => h) (by rfl) ?hy44x hHeld ?ry44x
  case hy44x => (intro w' hSw; (try dsimp only at hSw); go_simp <;> with_reducible rfl)
  try simp only [Act.put, List.setIfInBounds_toArray, List.set_cons_zero, List.set_cons_succ]
  refine take_op (i := 10) (d := 13) (OP := Op.load 3 (Operand.tmp 12)) (T := 3) (v := ?vy45x) rfl rfl rfl rfl (by kernel_rfl) (by kernel_rfl) (by kernel_rfl) (fun _ _ _ h => h) (by rfl) ?hy45x hHeld ?ry45x
  case hy45x => (intro w' hSw; (try dsimp only at hSw); go_simp <;> with_reducible rfl)
  try simp only [Act.put, List.setIfInBounds_toArray, List.set_cons_zero, List.set_cons_succ]
  refine call_op (i := 2) (d := 5) (OP := Op.call { callee := Callee.value (Operand.func 76), args := #[Operand.tmp 4], argTypes := #[2] }) (T := 9) (f := 76) (args := #[.int .i64 g]) rfl rfl rfl rfl (by kernel_rfl) (by rfl) (by go_simp) ?_
  refine (hg _ (hE.below hBW)).mono ?_
  rintro e w2 ⟨rfl, b2⟩
  have hS2 := (And.intro (kept b2 hHeld.1) (And.intro (kept b2 hHeld.2.1) (And.intro (kept b2 hHeld.2.2.1) (And.intro (kept b2 hHeld.2.2.2.1) (kept b2 hHeld.2.2.2.2)))))
  have hB2 := hBW.trans (b2.mono hBW.size)
  refine ⟨_, rfl, hS2, ?_⟩
  replace hHeld := hS2
  try simp only [Act.put, List.setIfInBounds_toArray, List.set_cons_zero, List.set_cons_succ]
  refine take_op (i := 3) (d := 6) (OP := Op.binOp BinOp.add 9 (Operand.tmp 5) (Operand.const (Value.string { data := #[46] })) 9) (T := 9) (v := ?vy46x) rfl rfl rfl rfl (by kernel_rfl) (by kernel_rfl) (by kernel_rfl) (fun _ _ _ h => h) (by rfl) ?hy46x hHeld ?ry46x
  case hy46x => (intro w' hSw; (try dsimp only at hSw); go_simp <;> with_reducible rfl)
  try simp only [Act.put, List.setIfInBounds_toArray, List.set_cons_zero, List.set_cons_succ]
  refine call_op (i := 6) (d := 9) (OP := Op.call { callee := Callee.value (Operand.func 28), args := #[Operand.tmp 8], argTypes := #[25] }) (T := 9) (f := 28) (args := #[nv r l n]) rfl rfl rfl rfl (by kernel_rfl) (by rfl) (by go_simp) ?_
  refine (hnm _ (hE.below hB2)).mono ?_
  rintro e w6 ⟨rfl, b6⟩
  have hS6 := (And.intro (kept b6 hHeld.1) (And.intro (kept b6 hHeld.2.1) (And.intro (kept b6 hHeld.2.2.1) (And.intro (kept b6 hHeld.2.2.2.1) (kept b6 hHeld.2.2.2.2)))))
  have hB6 := hB2.trans (b6.mono hB2.size)
  refine ⟨_, rfl, hS6, ?_⟩
  replace hHeld := hS6
  try simp only [Act.put, List.setIfInBounds_toArray, List.set_cons_zero, List.set_cons_succ]
  refine take_op (i := 7) (d := 10) (OP := Op.binOp BinOp.add 9 (Operand.tmp 6) (Operand.tmp 9) 9) (T := 9) (v := ?vy47x) rfl rfl rfl rfl (by kernel_rfl) (by kernel_rfl) (by kernel_rfl) (fun _ _ _ h => h) (by rfl) ?hy47x hHeld ?ry47x
  case hy47x => (intro w' hSw; (try dsimp only at hSw); go_simp <;> with_reducible rfl)
  try simp only [Act.put, List.setIfInBounds_toArray, List.set_cons_zero, List.set_cons_succ]
  refine take_op (i := 8) (d := 11) (OP := Op.binOp BinOp.add 9 (Operand.tmp 10) (Operand.const (Value.string { data := #[46] })) 9) (T := 9) (v := ?vy48x) rfl rfl rfl rfl (by kernel_rfl) (by kernel_rfl) (by kernel_rfl) (fun _ _ _ h => h) (by rfl) ?hy48x hHeld ?ry48x
  case hy48x => (intro w' hSw; (try dsimp only at hSw); go_simp <;> with_reducible rfl)
  try simp only [Act.put, List.setIfInBounds_toArray, List.set_cons_zero, List.set_cons_succ]
  refine call_op (i := 11) (d := 14) (OP := Op.call { callee := Callee.value (Operand.func 76), args := #[Operand.tmp 13], argTypes := #[2] }) (T := 9) (f := 76) (args := #[.int .i64 x]) rfl rfl rfl rfl (by kernel_rfl) (by rfl) (by go_simp) ?_
  refine (hx _ (hE.below hB6)).mono ?_
  rintro e w8 ⟨rfl, b8⟩
  have hS8 := (And.intro (kept b8 hHeld.1) (And.intro (kept b8 hHeld.2.1) (And.intro (kept b8 hHeld.2.2.1) (And.intro (kept b8 hHeld.2.2.2.1) (kept b8 hHeld.2.2.2.2)))))
  have hB8 := hB6.trans (b8.mono hB6.size)
  refine ⟨_, rfl, hS8, ?_⟩
  replace hHeld := hS8
  try simp only [Act.put, List.setIfInBounds_toArray, List.set_cons_zero, List.set_cons_succ]
  refine take_op (i := 12) (d := 15) (OP := Op.binOp BinOp.add 9 (Operand.tmp 11) (Operand.tmp 14) 9) (T := 9) (v := ?vy49x) rfl rfl rfl rfl (by kernel_rfl) (by kernel_rfl) (by kernel_rfl) (fun _ _ _ h => h) (by rfl) ?hy49x hHeld ?ry49x
  case hy49x => (intro w' hSw; (try dsimp only at hSw); go_simp <;> with_reducible rfl)
  try simp only [Act.put, List.setIfInBounds_toArray, List.set_cons_zero, List.set_cons_succ]
  refine take_op (i := 13) (d := 2) (OP := Op.assign (Operand.tmp 15)) (T := 9) (v := ?vy50x) rfl rfl rfl rfl (by kernel_rfl) (by kernel_rfl) (by kernel_rfl) (fun _ _ _ h => h) (by rfl) ?hy50x hHeld ?ry50x
  case hy50x => (intro w' hSw; (try dsimp only at hSw); go_simp <;> with_reducible rfl)
  try simp only [Act.put, List.setIfInBounds_toArray, List.set_cons_zero, List.set_cons_succ]
  refine wpAnyH_done (by kernel_rfl) ?_ _
  go_wp2
  go_ret
  exact ⟨rfl, hB8⟩

end Go.Proofs.YtkjabnpniingnaaGreatDoor
