/-
  PLACES HELD AGAINST EACH OTHER: cmp.Compare, cmp.Or, the program's CmpPlace.
-/
import Derived.Test.YtcpigbojebjlaaaDoorRefCmp
namespace Go.Proofs.YtcpigbojebjlaaaDoor
open Go.RowKit Go.Shelf
set_option linter.unusedSimpArgs false

theorem compare_any (x y : Int) (w : World) : Calls Tryd.prog 55 #[.int .i64 x, .int .i64 y] w fun e w' => e = .returned (.int .i64 (cmpI x y)) ∧ w' = w := by
  have hn : ∀ (z : Int) (W : World), Calls Tryd.prog 62 #[.int .i64 z] W fun e w' => e = .returned (.bool false) ∧ w' = W := fun z W => by
    go_enter Tryd.func62, Tryd.ntmps62
    go_wp2
    go_ret
    exact ⟨by simp, rfl⟩
  unfold cmpI
  by_cases h1 : x < y
  · rw [if_pos h1]
    go_enter Tryd.func55, Tryd.ntmps55
    go_wp2_with (go_at_call 62; refine (hn _ _).mono ?_; rintro e w' ⟨rfl, rfl⟩)
    go_ret
    exact ⟨rfl, rfl⟩
  · rw [if_neg h1]
    by_cases h2 : y < x
    · rw [if_pos h2]
      go_enter Tryd.func55, Tryd.ntmps55
      go_wp2_with (go_at_call 62; refine (hn _ _).mono ?_; rintro e w' ⟨rfl, rfl⟩)
      go_ret
      exact ⟨rfl, rfl⟩
    · rw [if_neg h2]
      go_enter Tryd.func55, Tryd.ntmps55
      go_wp2_with (go_at_call 62; refine (hn _ _).mono ?_; rintro e w' ⟨rfl, rfl⟩)
      go_ret
      exact ⟨rfl, rfl⟩

def orL : List Int → Int
  | [] => 0
  | x :: t => if x = 0 then orL t else x
theorem orL_step {l : List Int} {i : Nat} (h : i < l.length) : orL (l.drop i) = if l.getD i 0 = 0 then orL (l.drop (i + 1)) else l.getD i 0 := by
  rw [List.drop_eq_getElem_cons h, orL]
  simp [List.getD, List.getElem?_eq_getElem h]
set_option maxHeartbeats 1000000 in
set_option maxRecDepth 100000 in
theorem or_any (g off n : Nat) (l : List Int) (w : World) (hl : l.length = n) (hn : n ≤ 1000) (hc : ∀ i, i < n → w.cell? ⟨g, off + i, none⟩ = some (.int .i64 (l.getD i 0))) :
    Calls Tryd.prog 54 #[.slice (some ⟨g, off, none⟩) n n] w fun e w' => e = .returned (.int .i64 (orL l)) ∧ w' = w := by
  obtain ⟨R, hR⟩ : ∃ R, R = orL l := ⟨_, rfl⟩
  rw [← hR]
  have H := hide (And.intro hR (And.intro hl hc))
  clear hR hl hc
  go_enter Tryd.func54, Tryd.ntmps54
  go_wp2
  go_loopw [8] (fun iv wr => ∃ i : Nat, i ≤ n ∧ iv = .int .i64 i ∧ wr = w ∧ Hid (orL (l.drop i) = R)) (fun iv _ => n - (intOf iv).toNat)
  case atStart => exact ⟨0, by omega, rfl, rfl, hide (by simpa using H.out.1.symm)⟩
  case round =>
    obtain ⟨i, hi, rfl, rfl, hrest⟩ := hrel
    by_cases h1 : i < n
    · have d1 : decide (i < n) = true := by simpa using h1
      have d1' : (i : Int) < (n : Int) := by omega
      have hci := H.out.2.2 i h1
      have hst := orL_step (l := l) (i := i) (by rw [H.out.2.1]; exact h1)
      generalize l.getD i 0 = x at hci hst
      have HS := hide hst
      clear hst
      by_cases hz : x = 0
      · have hzb : (x == 0) = true := by simp [hz]
        have HZ := hide hz
        clear hz
        go_wp2
        go_roundw
        case rel => exact ⟨i + 1, by omega, by go_num, by first | rfl | trivial, hide (by have := HS.out; rw [if_pos HZ.out] at this; rw [← this]; exact hrest.out)⟩
        case measure => simp [intOf]; omega
      · have hzb : (x == 0) = false := by simpa using hz
        go_wp2
        go_ret
        refine ⟨?_, rfl⟩
        have := HS.out
        rw [if_neg hz, hrest.out] at this
        rw [this]; rfl
    · obtain rfl : i = n := by omega
      have d1 : decide (i < i) = false := by simp
      have e1 : R = 0 := by rw [← hrest.out, List.drop_eq_nil_of_le (by rw [H.out.2.1]; omega)]; rfl
      have E := hide e1
      clear e1
      go_wp2
      go_ret
      exact ⟨by rw [E.out]; rfl, rfl⟩

/-- A place as a call takes it. -/
abbrev plv (a : Option Addr) (n c : Nat) (x : Int) (s : ByteArray) : Value := .agg #[.slice a n c, .int .i64 x, .string s]
def cmpL (l m : List ByteArray) (x y : Int) (s t : ByteArray) : Int := orL [cmpP l m, cmpI x y, cmpB s t]
set_option maxHeartbeats 1000000 in
set_option maxRecDepth 100000 in
theorem cmpPlace_any {w : World} {a b : Option Addr} {c d : Nat} {l m : List ByteArray} (x y : Int) (s t : ByteArray) (hl : Rs w a l) (hm : Rs w b m) (hn : l.length ≤ 9223372036854775807) :
    Calls Tryd.prog 33 #[plv a l.length c x s, plv b m.length d y t] w fun e w' => e = .returned (.int .i64 (cmpL l m x y s t)) ∧ Below w.heap.size w w' := by
  obtain ⟨m0, m1⟩ := new2 w (.cells #[.slice a l.length c, .int .i64 x, .string s] 47) (.cells #[.slice b m.length d, .int .i64 y, .string t] 47)
  have hb : Below w.heap.size w ((w.alloc (.cells #[.slice a l.length c, .int .i64 x, .string s] 47)).alloc (.cells #[.slice b m.length d, .int .i64 y, .string t] 47)) := ((Below.refl _ w).alloc (Nat.le_refl _) _).alloc (by simp) _
  have hs : ((w.alloc (.cells #[.slice a l.length c, .int .i64 x, .string s] 47)).alloc (.cells #[.slice b m.length d, .int .i64 y, .string t] 47)).heap.size = w.heap.size + 2 := by simp
  obtain ⟨p0, p1, p2, -, -, -⟩ := blk3 m0
  obtain ⟨q0, q1, q2, -, -, -⟩ := blk3 m1
  go_enter Tryd.func33, Tryd.ntmps33
  go_wp2
  generalize ((w.alloc (.cells #[.slice a l.length c, .int .i64 x, .string s] 47)).alloc (.cells #[.slice b m.length d, .int .i64 y, .string t] 47)) = W at hb hs p0 p1 p2 q0 q1 q2 ⊢
  have hcp := cmpPath_any (c := c) (d := d) ((hl.below hb).drew) ((hm.below hb).drew) hn
  have hS1 : W.drew.cell? ⟨w.heap.size, 0, none⟩ = some (.slice a l.length c) ∧ W.drew.cell? ⟨w.heap.size, 1, none⟩ = some (.int .i64 x) ∧ W.drew.cell? ⟨w.heap.size, 2, none⟩ = some (.string s) ∧ W.drew.cell? ⟨w.heap.size + 1, 0, none⟩ = some (.slice b m.length d) ∧ W.drew.cell? ⟨w.heap.size + 1, 1, none⟩ = some (.int .i64 y) ∧ W.drew.cell? ⟨w.heap.size + 1, 2, none⟩ = some (.string t) := ⟨p0, p1, p2, q0, q1, q2⟩
  refine wp_region_held_drew (S := (fun w' => w'.cell? ⟨w.heap.size, 0, none⟩ = some (.slice a l.length c) ∧ w'.cell? ⟨w.heap.size, 1, none⟩ = some (.int .i64 x) ∧ w'.cell? ⟨w.heap.size, 2, none⟩ = some (.string s) ∧ w'.cell? ⟨w.heap.size + 1, 0, none⟩ = some (.slice b m.length d) ∧ w'.cell? ⟨w.heap.size + 1, 1, none⟩ = some (.int .i64 y) ∧ w'.cell? ⟨w.heap.size + 1, 2, none⟩ = some (.string t))) (by kernel_rfl) (by exact hS1) (fun hHeld => ?_)
  try dsimp only at hHeld
  refine take_op (i := 0) (d := 5) (OP := Op.fieldAddr 47 (Operand.tmp 2) 0) (T := 0) (v := ?vq1x) rfl rfl rfl rfl (by kernel_rfl) (by kernel_rfl) (by kernel_rfl) (fun _ _ _ h => h) (by rfl) ?hq1x hHeld ?rq1x
  case hq1x => (intro w' hSw; (try dsimp only at hSw); go_simp <;> with_reducible rfl)
  try simp only [Act.put, List.setIfInBounds_toArray, List.set_cons_zero, List.set_cons_succ]
  refine take_op (i := 1) (d := 6) (OP := Op.load 23 (Operand.tmp 5)) (T := 23) (v := ?vq2x) rfl rfl rfl rfl (by kernel_rfl) (by kernel_rfl) (by kernel_rfl) (fun _ _ _ h => h) (by rfl) ?hq2x hHeld ?rq2x
  case hq2x => (intro w' hSw; (try dsimp only at hSw); go_simp <;> with_reducible rfl)
  try simp only [Act.put, List.setIfInBounds_toArray, List.set_cons_zero, List.set_cons_succ]
  refine take_op (i := 2) (d := 7) (OP := Op.fieldAddr 47 (Operand.tmp 3) 0) (T := 0) (v := ?vq3x) rfl rfl rfl rfl (by kernel_rfl) (by kernel_rfl) (by kernel_rfl) (fun _ _ _ h => h) (by rfl) ?hq3x hHeld ?rq3x
  case hq3x => (intro w' hSw; (try dsimp only at hSw); go_simp <;> with_reducible rfl)
  try simp only [Act.put, List.setIfInBounds_toArray, List.set_cons_zero, List.set_cons_succ]
  refine take_op (i := 3) (d := 8) (OP := Op.load 23 (Operand.tmp 7)) (T := 23) (v := ?vq4x) rfl rfl rfl rfl (by kernel_rfl) (by kernel_rfl) (by kernel_rfl) (fun _ _ _ h => h) (by rfl) ?hq4x hHeld ?rq4x
  case hq4x => (intro w' hSw; (try dsimp only at hSw); go_simp <;> with_reducible rfl)
  try simp only [Act.put, List.setIfInBounds_toArray, List.set_cons_zero, List.set_cons_succ]
  refine take_op (i := 5) (d := 10) (OP := Op.fieldAddr 47 (Operand.tmp 2) 1) (T := 0) (v := ?vq5x) rfl rfl rfl rfl (by kernel_rfl) (by kernel_rfl) (by kernel_rfl) (fun _ _ _ h => h) (by rfl) ?hq5x hHeld ?rq5x
  case hq5x => (intro w' hSw; (try dsimp only at hSw); go_simp <;> with_reducible rfl)
  try simp only [Act.put, List.setIfInBounds_toArray, List.set_cons_zero, List.set_cons_succ]
  refine take_op (i := 6) (d := 11) (OP := Op.load 45 (Operand.tmp 10)) (T := 45) (v := ?vq6x) rfl rfl rfl rfl (by kernel_rfl) (by kernel_rfl) (by kernel_rfl) (fun _ _ _ h => h) (by rfl) ?hq6x hHeld ?rq6x
  case hq6x => (intro w' hSw; (try dsimp only at hSw); go_simp <;> with_reducible rfl)
  try simp only [Act.put, List.setIfInBounds_toArray, List.set_cons_zero, List.set_cons_succ]
  refine take_op (i := 7) (d := 12) (OP := Op.fieldAddr 47 (Operand.tmp 3) 1) (T := 0) (v := ?vq7x) rfl rfl rfl rfl (by kernel_rfl) (by kernel_rfl) (by kernel_rfl) (fun _ _ _ h => h) (by rfl) ?hq7x hHeld ?rq7x
  case hq7x => (intro w' hSw; (try dsimp only at hSw); go_simp <;> with_reducible rfl)
  try simp only [Act.put, List.setIfInBounds_toArray, List.set_cons_zero, List.set_cons_succ]
  refine take_op (i := 8) (d := 13) (OP := Op.load 45 (Operand.tmp 12)) (T := 45) (v := ?vq8x) rfl rfl rfl rfl (by kernel_rfl) (by kernel_rfl) (by kernel_rfl) (fun _ _ _ h => h) (by rfl) ?hq8x hHeld ?rq8x
  case hq8x => (intro w' hSw; (try dsimp only at hSw); go_simp <;> with_reducible rfl)
  try simp only [Act.put, List.setIfInBounds_toArray, List.set_cons_zero, List.set_cons_succ]
  refine take_op (i := 10) (d := 15) (OP := Op.fieldAddr 47 (Operand.tmp 2) 2) (T := 0) (v := ?vq9x) rfl rfl rfl rfl (by kernel_rfl) (by kernel_rfl) (by kernel_rfl) (fun _ _ _ h => h) (by rfl) ?hq9x hHeld ?rq9x
  case hq9x => (intro w' hSw; (try dsimp only at hSw); go_simp <;> with_reducible rfl)
  try simp only [Act.put, List.setIfInBounds_toArray, List.set_cons_zero, List.set_cons_succ]
  refine take_op (i := 11) (d := 16) (OP := Op.load 9 (Operand.tmp 15)) (T := 9) (v := ?vq10x) rfl rfl rfl rfl (by kernel_rfl) (by kernel_rfl) (by kernel_rfl) (fun _ _ _ h => h) (by rfl) ?hq10x hHeld ?rq10x
  case hq10x => (intro w' hSw; (try dsimp only at hSw); go_simp <;> with_reducible rfl)
  try simp only [Act.put, List.setIfInBounds_toArray, List.set_cons_zero, List.set_cons_succ]
  refine take_op (i := 12) (d := 17) (OP := Op.fieldAddr 47 (Operand.tmp 3) 2) (T := 0) (v := ?vq11x) rfl rfl rfl rfl (by kernel_rfl) (by kernel_rfl) (by kernel_rfl) (fun _ _ _ h => h) (by rfl) ?hq11x hHeld ?rq11x
  case hq11x => (intro w' hSw; (try dsimp only at hSw); go_simp <;> with_reducible rfl)
  try simp only [Act.put, List.setIfInBounds_toArray, List.set_cons_zero, List.set_cons_succ]
  refine take_op (i := 13) (d := 18) (OP := Op.load 9 (Operand.tmp 17)) (T := 9) (v := ?vq12x) rfl rfl rfl rfl (by kernel_rfl) (by kernel_rfl) (by kernel_rfl) (fun _ _ _ h => h) (by rfl) ?hq12x hHeld ?rq12x
  case hq12x => (intro w' hSw; (try dsimp only at hSw); go_simp <;> with_reducible rfl)
  try simp only [Act.put, List.setIfInBounds_toArray, List.set_cons_zero, List.set_cons_succ]
  refine call_op (i := 4) (d := 9) (OP := Op.call { callee := Callee.value (Operand.func 31), args := #[Operand.tmp 6, Operand.tmp 8], argTypes := #[23, 23] }) (T := 3) (f := 31) (args := #[.slice a l.length c, .slice b m.length d]) rfl rfl rfl rfl (by kernel_rfl) (by rfl) (by go_simp) ?_
  refine (hcp).mono ?_
  rintro e w' ⟨rfl, hw1⟩
  subst hw1
  refine ⟨_, rfl, hHeld, ?_⟩
  replace hHeld := hHeld
  try simp only [Act.put, List.setIfInBounds_toArray, List.set_cons_zero, List.set_cons_succ]
  refine call_op (i := 9) (d := 14) (OP := Op.call { callee := Callee.value (Operand.func 55), args := #[Operand.tmp 11, Operand.tmp 13], argTypes := #[45, 45] }) (T := 3) (f := 55) (args := #[.int .i64 x, .int .i64 y]) rfl rfl rfl rfl (by kernel_rfl) (by rfl) (by go_simp) ?_
  refine (compare_any x y _).mono ?_
  rintro e w' ⟨rfl, hw2⟩
  subst hw2
  refine ⟨_, rfl, hHeld, ?_⟩
  replace hHeld := hHeld
  try simp only [Act.put, List.setIfInBounds_toArray, List.set_cons_zero, List.set_cons_succ]
  refine call_op (i := 14) (d := 19) (OP := Op.call { callee := Callee.value (Operand.func 29), args := #[Operand.tmp 16, Operand.tmp 18], argTypes := #[9, 9] }) (T := 3) (f := 29) (args := #[.string s, .string t]) rfl rfl rfl rfl (by kernel_rfl) (by rfl) (by go_simp) ?_
  refine (cmp_any s t _).mono ?_
  rintro e w' ⟨rfl, hw3⟩
  subst hw3
  refine ⟨_, rfl, hHeld, ?_⟩
  replace hHeld := hHeld
  try simp only [Act.put, List.setIfInBounds_toArray, List.set_cons_zero, List.set_cons_succ]
  have hb2 : Below W.heap.size W (W.drew.alloc (.cells #[.int .i64 (cmpP l m), .int .i64 (cmpI x y), .int .i64 (cmpB s t)] 3)) := (Below.refl _ W).drew.alloc (Nat.le_refl _) _
  have hnw : (W.drew.alloc (.cells #[.int .i64 (cmpP l m), .int .i64 (cmpI x y), .int .i64 (cmpB s t)] 3)).heap[W.heap.size]? = some (.cells #[.int .i64 (cmpP l m), .int .i64 (cmpI x y), .int .i64 (cmpB s t)] 3) := heap_alloc_new W.drew (.cells #[.int .i64 (cmpP l m), .int .i64 (cmpI x y), .int .i64 (cmpB s t)] 3)
  have hS2 : (W.drew.alloc (.cells #[.int .i64 (cmpP l m), .int .i64 (cmpI x y), .int .i64 (cmpB s t)] 3)).cell? ⟨w.heap.size, 0, none⟩ = some (.slice a l.length c) ∧ (W.drew.alloc (.cells #[.int .i64 (cmpP l m), .int .i64 (cmpI x y), .int .i64 (cmpB s t)] 3)).cell? ⟨w.heap.size, 1, none⟩ = some (.int .i64 x) ∧ (W.drew.alloc (.cells #[.int .i64 (cmpP l m), .int .i64 (cmpI x y), .int .i64 (cmpB s t)] 3)).cell? ⟨w.heap.size, 2, none⟩ = some (.string s) ∧ (W.drew.alloc (.cells #[.int .i64 (cmpP l m), .int .i64 (cmpI x y), .int .i64 (cmpB s t)] 3)).cell? ⟨w.heap.size + 1, 0, none⟩ = some (.slice b m.length d) ∧ (W.drew.alloc (.cells #[.int .i64 (cmpP l m), .int .i64 (cmpI x y), .int .i64 (cmpB s t)] 3)).cell? ⟨w.heap.size + 1, 1, none⟩ = some (.int .i64 y) ∧ (W.drew.alloc (.cells #[.int .i64 (cmpP l m), .int .i64 (cmpI x y), .int .i64 (cmpB s t)] 3)).cell? ⟨w.heap.size + 1, 2, none⟩ = some (.string t) := ⟨(hb2.cell (World.block_lt_of_cell? _ _ p0)).trans p0, (hb2.cell (World.block_lt_of_cell? _ _ p1)).trans p1, (hb2.cell (World.block_lt_of_cell? _ _ p2)).trans p2, (hb2.cell (World.block_lt_of_cell? _ _ q0)).trans q0, (hb2.cell (World.block_lt_of_cell? _ _ q1)).trans q1, (hb2.cell (World.block_lt_of_cell? _ _ q2)).trans q2⟩
  have hor := or_any W.heap.size 0 3 [cmpP l m, cmpI x y, cmpB s t] (W.drew.alloc (.cells #[.int .i64 (cmpP l m), .int .i64 (cmpI x y), .int .i64 (cmpB s t)] 3)) rfl (by omega) (fun i hi => by
    rw [cell_of_row _ _ (0 + i) _ 3 (0, 0) hnw]
    match i, hi with
    | 0, _ => rfl
    | 1, _ => rfl
    | 2, _ => rfl)
  refine turn_op (i := 15) (d := 20) (OP := Op.buildSlice 70 3 #[(0, Operand.tmp 9), (1, Operand.tmp 14), (2, Operand.tmp 19)]) (T := 70) (v := .slice (some ⟨W.heap.size, 0, none⟩) 3 3) (w' := (W.drew.alloc (.cells #[.int .i64 (cmpP l m), .int .i64 (cmpI x y), .int .i64 (cmpB s t)] 3))) rfl rfl rfl rfl (by kernel_rfl) (by rfl) (by go_simp) hS2 ?_
  replace hHeld := hS2
  try simp only [Act.put, List.setIfInBounds_toArray, List.set_cons_zero, List.set_cons_succ]
  refine call_op (i := 16) (d := 21) (OP := Op.call { callee := Callee.value (Operand.func 54), args := #[Operand.tmp 20], argTypes := #[70] }) (T := 3) (f := 54) (args := #[.slice (some ⟨W.heap.size, 0, none⟩) 3 3]) rfl rfl rfl rfl (by kernel_rfl) (by rfl) (by go_simp) ?_
  refine (hor).mono ?_
  rintro e w' ⟨rfl, hw4⟩
  subst hw4
  refine ⟨_, rfl, hHeld, ?_⟩
  replace hHeld := hHeld
  try simp only [Act.put, List.setIfInBounds_toArray, List.set_cons_zero, List.set_cons_succ]
  refine take_op (i := 17) (d := 4) (OP := Op.assign (Operand.tmp 21)) (T := 3) (v := ?vq18x) rfl rfl rfl rfl (by kernel_rfl) (by kernel_rfl) (by kernel_rfl) (fun _ _ _ h => h) (by rfl) ?hq18x hHeld ?rq18x
  case hq18x => (intro w' hSw; (try dsimp only at hSw); go_simp <;> with_reducible rfl)
  try simp only [Act.put, List.setIfInBounds_toArray, List.set_cons_zero, List.set_cons_succ]
  refine wpAnyH_done (by kernel_rfl) ?_ _
  go_wp2
  go_ret
  exact ⟨rfl, hb.trans (hb2.mono (by omega))⟩
end Go.Proofs.YtcpigbojebjlaaaDoor
