/-
  PARSE5: Parse of the program.
-/
import Derived.Test.YtkjabnpniingnaaGreatDoorDots
import Derived.Test.YtkjabnpniingnaaGreatDoorOfKey
namespace Go.Proofs.YtkjabnpniingnaaGreatDoor
open Go.RowKit Go.Shelf
set_option linter.unusedSimpArgs false

set_option maxHeartbeats 2000000 in
set_option maxRecDepth 100000 in
theorem parse_any (s : ByteArray) (w : World) (hs : s.size ≤ 1000000) (hE : EnvE w) : Calls Tryz.prog 46 #[.string s] w fun e w' => e = .returned (.tuple #[sv (psG s) (psR s) (psL s) (psN s) (psX s), .int .i64 (if psV s then 0 else 4)]) ∧ Below w.heap.size w w' := by
  have hb := below_new w (.cells #[.int .i64 0, .int .i64 0, .string ⟨#[]⟩, .int .i64 0, .int .i64 0] 27)
  have hbk := heap_alloc_new w (.cells #[.int .i64 0, .int .i64 0, .string ⟨#[]⟩, .int .i64 0, .int .i64 0] 27)
  have hs1 : w.heap.size + 1 = (w.alloc (.cells #[.int .i64 0, .int .i64 0, .string ⟨#[]⟩, .int .i64 0, .int .i64 0] 27)).heap.size := by simp
  have hsz := cut_sizes s
  have hsz2 := last_sizes (cutB s)
  have h1 := cut_any s _ hs (hE.below hb)
  have h2 : ∀ W, Calls Tryz.prog 95 #[.string (cutB s)] W fun e w' => e = .returned (.tuple #[.string (lastA (cutB s)), .string (lastB (cutB s))]) ∧ Below W.heap.size W w' := fun W => cutLast_any _ W (by omega)
  have h3 : ∀ W, Below w.heap.size w W → Calls Tryz.prog 44 #[.string (lastA (cutB s))] W fun e w' => e = .returned (.tuple #[nv (pnR (psM s)) (pnL (psM s)) (pnN (psM s)), .int .i64 (if pnV (psM s) then 0 else 4)]) ∧ Below W.heap.size W w' := fun W h => parseName_any _ W (by omega) (hE.below h)
  have h92 : ∀ W, Below w.heap.size w W → Calls Tryz.prog 92 #[.string (cutA s)] W fun e w' => e = .returned (.int .i64 (guessI (cutA s))) ∧ Below W.heap.size W w' := fun W h => guess_any _ W (by omega) (hE.below h)
  have h92b : ∀ W, Below w.heap.size w W → Calls Tryz.prog 92 #[.string (lastB (cutB s))] W fun e w' => e = .returned (.int .i64 (guessI (lastB (cutB s)))) ∧ Below W.heap.size W w' := fun W h => guess_any _ W (by omega) (hE.below h)
  have h97 : ∀ W, Below w.heap.size w W → Calls Tryz.prog 97 #[sv (guessI (cutA s)) (pnR (psM s)) (pnL (psM s)) (pnN (psM s)) (guessI (lastB (cutB s))), .string s, .func (.func 13) #[] #[]] W fun e w' => e = .returned (.tuple #[sv (psG s) (psR s) (psL s) (psN s) (psX s), .int .i64 (if psV s then 0 else 4)]) ∧ Below W.heap.size W w' := fun W h => by
    refine (meant13_any _ _ _ _ _ s _ _ W (by split <;> simp) (fun W' h' => text_any _ _ _ _ _ W' ((hE.below h).env.below h'))).mono ?_
    rintro e w' ⟨rfl, hb⟩
    refine ⟨?_, hb⟩
    simp only [meant_iff]
    rw [show (stampV (guessI (cutA s)) (pnR (psM s)) (pnL (psM s)) (pnN (psM s)) (guessI (lastB (cutB s))) && decide (stT (guessI (cutA s)) (pnR (psM s)) (pnL (psM s)) (pnN (psM s)) (guessI (lastB (cutB s))) = s)) = psV s from rfl]
    unfold psG psR psL psN psX
    generalize psV s = V
    generalize guessI (cutA s) = q0
    generalize pnR (psM s) = q1
    generalize pnL (psM s) = q2
    generalize pnN (psM s) = q3
    generalize guessI (lastB (cutB s)) = q4
    cases V <;> rfl
  have hk : ∀ W, Below (w.heap.size + 1) (w.alloc (.cells #[.int .i64 0, .int .i64 0, .string ⟨#[]⟩, .int .i64 0, .int .i64 0] 27)) W → W.heap[w.heap.size]? = some (.cells #[.int .i64 0, .int .i64 0, .string ⟨#[]⟩, .int .i64 0, .int .i64 0] 27) := fun W h => (h.block _ (by omega)).trans hbk
  generalize (if psV s then (0 : Int) else 4) = E at h97 ⊢
  generalize (if pnV (psM s) then (0 : Int) else 4) = E2 at h3
  generalize psG s = G' at h97 ⊢
  generalize psR s = R' at h97 ⊢
  generalize psL s = L' at h97 ⊢
  generalize psN s = N' at h97 ⊢
  generalize psX s = X' at h97 ⊢
  generalize pnR (psM s) = R2 at h3 h97
  generalize pnL (psM s) = L2 at h3 h97
  generalize pnN (psM s) = N2 at h3 h97
  generalize guessI (cutA s) = GA at h92 h97
  generalize guessI (lastB (cutB s)) = GB at h92b h97
  generalize lastA (cutB s) = LA at h2 h3 hsz2
  generalize lastB (cutB s) = LB at h2 h92b hsz2
  generalize cutA s = CA at h1 h92 hsz
  generalize cutB s = CB at h1 h2 hsz hsz2
  clear hsz hsz2
  go_enter Tryz.func46, Tryz.ntmps46
  go_wp2_with (go_at_call 90; refine h1.mono ?_; rintro e w1 ⟨⟨z, rfl⟩, b1⟩; have c1 := hb.trans (b1.mono hb.size); have q1 := b1.mono (show w.heap.size + 1 ≤ _ by omega); have s1 : w.heap.size + 1 ≤ w1.heap.size := by (have := b1.size; omega))
  go_wp2_with (go_at_call 95; refine (h2 _).mono ?_; rintro e w2 ⟨rfl, b2⟩; have c2 := c1.trans (b2.mono c1.size); have q2 := q1.trans (b2.mono s1); have s2 := Nat.le_trans s1 b2.size; clear b2)
  go_wp2_with (go_at_call 44; refine (h3 _ c2).mono ?_; rintro e w3 ⟨rfl, b3⟩; have c3 := c2.trans (b3.mono c2.size); have q3 := q2.trans (b3.mono s2); have s3 := Nat.le_trans s2 b3.size; clear b3)
  have mP := heap_alloc_new w3 (.cells #[.int .i64 R2, .string L2, .int .i64 N2] 25)
  have hD : Below w.heap.size w (w3.alloc (.cells #[.int .i64 R2, .string L2, .int .i64 N2] 25)).drew := (c3.alloc c3.size _).drew
  have hQ : Below (w.heap.size + 1) (w.alloc (.cells #[.int .i64 0, .int .i64 0, .string ⟨#[]⟩, .int .i64 0, .int .i64 0] 27)) (w3.alloc (.cells #[.int .i64 R2, .string L2, .int .i64 N2] 25)).drew := (q3.alloc s3 _).drew
  have hz : w.heap.size + 1 ≤ (w3.alloc (.cells #[.int .i64 R2, .string L2, .int .i64 N2] 25)).drew.heap.size := by show _ ≤ (w3.alloc _).heap.size; simp; omega
  generalize hPB : w3.heap.size = PB at mP s3 ⊢
  clear hPB
  obtain ⟨y0, y1, y2, _, _, _⟩ := blk3 mP
  generalize (w3.alloc (.cells #[.int .i64 R2, .string L2, .int .i64 N2] 25)) = W4 at y0 y1 y2 hD hQ hz ⊢
  have hS1 : W4.drew.cell? ⟨PB, 0, none⟩ = some (.int .i64 R2) ∧ W4.drew.cell? ⟨PB, 1, none⟩ = some (.string L2) ∧ W4.drew.cell? ⟨PB, 2, none⟩ = some (.int .i64 N2) := ⟨y0, y1, y2⟩
  clear y0 y1 y2 mP h1 h2 h3 c1 c2 c3 q1 q2 q3 b1
  refine wp_region_held_drew (S := (fun w' => w'.cell? ⟨PB, 0, none⟩ = some (.int .i64 R2) ∧ w'.cell? ⟨PB, 1, none⟩ = some (.string L2) ∧ w'.cell? ⟨PB, 2, none⟩ = some (.int .i64 N2))) (by kernel_rfl) (by exact hS1) (fun hHeld => ?_)
  try dsimp only at hHeld
  refine take_op (i := 0) (d := 27) (OP := Op.move (Operand.tmp 4)) (T := 9) (v := ?vy1x) rfl rfl rfl rfl (by kernel_rfl) (by kernel_rfl) (by kernel_rfl) (fun _ _ _ h => h) (by rfl) ?hy1x hHeld ?ry1x
  case hy1x => (intro w' hSw; (try dsimp only at hSw); go_simp <;> with_reducible rfl)
  try simp only [Act.put, List.setIfInBounds_toArray, List.set_cons_zero, List.set_cons_succ]
  refine take_op (i := 2) (d := 29) (OP := Op.load 25 (Operand.tmp 9)) (T := 25) (v := ?vy2x) rfl rfl rfl rfl (by kernel_rfl) (by kernel_rfl) (by kernel_rfl) (fun _ _ _ h => h) (by rfl) ?hy2x hHeld ?ry2x
  case hy2x => (intro w' hSw; (try dsimp only at hSw); go_simp <;> with_reducible rfl)
  try simp only [Act.put, List.setIfInBounds_toArray, List.set_cons_zero, List.set_cons_succ]
  refine take_op (i := 3) (d := 30) (OP := Op.move (Operand.tmp 8)) (T := 9) (v := ?vy3x) rfl rfl rfl rfl (by kernel_rfl) (by kernel_rfl) (by kernel_rfl) (fun _ _ _ h => h) (by rfl) ?hy3x hHeld ?ry3x
  case hy3x => (intro w' hSw; (try dsimp only at hSw); go_simp <;> with_reducible rfl)
  try simp only [Act.put, List.setIfInBounds_toArray, List.set_cons_zero, List.set_cons_succ]
  refine take_op (i := 6) (d := 33) (OP := Op.move (Operand.tmp 0)) (T := 9) (v := ?vy4x) rfl rfl rfl rfl (by kernel_rfl) (by kernel_rfl) (by kernel_rfl) (fun _ _ _ h => h) (by rfl) ?hy4x hHeld ?ry4x
  case hy4x => (intro w' hSw; (try dsimp only at hSw); go_simp <;> with_reducible rfl)
  try simp only [Act.put, List.setIfInBounds_toArray, List.set_cons_zero, List.set_cons_succ]
  refine call_op (i := 1) (d := 28) (OP := Op.call { callee := Callee.value (Operand.func 92), args := #[Operand.tmp 27], argTypes := #[9] }) (T := 2) (f := 92) (args := #[.string CA]) rfl rfl rfl rfl (by kernel_rfl) (by rfl) (by go_simp) ?_
  refine (h92 _ hD).mono ?_
  rintro e w5 ⟨rfl, bb⟩
  have hS2 : w5.cell? ⟨PB, 0, none⟩ = some (.int .i64 R2) ∧ w5.cell? ⟨PB, 1, none⟩ = some (.string L2) ∧ w5.cell? ⟨PB, 2, none⟩ = some (.int .i64 N2) := ⟨kept bb hHeld.1, kept bb hHeld.2.1, kept bb hHeld.2.2⟩
  replace hD := hD.trans (bb.mono hD.size)
  replace hQ := hQ.trans (bb.mono hz)
  replace hz := Nat.le_trans hz bb.size
  clear bb
  refine ⟨_, rfl, hS2, ?_⟩
  replace hHeld := hS2
  try simp only [Act.put, List.setIfInBounds_toArray, List.set_cons_zero, List.set_cons_succ]
  clear hS2
  refine call_op (i := 4) (d := 31) (OP := Op.call { callee := Callee.value (Operand.func 92), args := #[Operand.tmp 30], argTypes := #[9] }) (T := 2) (f := 92) (args := #[.string LB]) rfl rfl rfl rfl (by kernel_rfl) (by rfl) (by go_simp) ?_
  refine (h92b _ hD).mono ?_
  rintro e w6 ⟨rfl, bb⟩
  have hS2 : w6.cell? ⟨PB, 0, none⟩ = some (.int .i64 R2) ∧ w6.cell? ⟨PB, 1, none⟩ = some (.string L2) ∧ w6.cell? ⟨PB, 2, none⟩ = some (.int .i64 N2) := ⟨kept bb hHeld.1, kept bb hHeld.2.1, kept bb hHeld.2.2⟩
  replace hD := hD.trans (bb.mono hD.size)
  replace hQ := hQ.trans (bb.mono hz)
  replace hz := Nat.le_trans hz bb.size
  clear bb
  refine ⟨_, rfl, hS2, ?_⟩
  replace hHeld := hS2
  try simp only [Act.put, List.setIfInBounds_toArray, List.set_cons_zero, List.set_cons_succ]
  clear hS2
  refine take_op (i := 5) (d := 32) (OP := Op.build 27 #[(0, Operand.tmp 28), (1, Operand.tmp 29), (2, Operand.tmp 31)]) (T := 27) (v := ?vy5x) rfl rfl rfl rfl (by kernel_rfl) (by kernel_rfl) (by kernel_rfl) (fun _ _ _ h => h) (by rfl) ?hy5x hHeld ?ry5x
  case hy5x => (intro w' hSw; (try dsimp only at hSw); go_simp <;> with_reducible rfl)
  try simp only [Act.put, List.setIfInBounds_toArray, List.set_cons_zero, List.set_cons_succ]
  refine call_op (i := 7) (d := 34) (OP := Op.call { callee := Callee.value (Operand.func 97), args := #[Operand.tmp 32, Operand.tmp 33, Operand.func 13], argTypes := #[27, 9, 36] }) (T := 68) (f := 97) (args := #[sv GA R2 L2 N2 GB, .string s, .func (.func 13) #[] #[]]) rfl rfl rfl rfl (by kernel_rfl) (by rfl) (by go_simp) ?_
  refine (h97 _ hD).mono ?_
  rintro e w7 ⟨rfl, bb⟩
  have hS2 : w7.cell? ⟨PB, 0, none⟩ = some (.int .i64 R2) ∧ w7.cell? ⟨PB, 1, none⟩ = some (.string L2) ∧ w7.cell? ⟨PB, 2, none⟩ = some (.int .i64 N2) := ⟨kept bb hHeld.1, kept bb hHeld.2.1, kept bb hHeld.2.2⟩
  replace hD := hD.trans (bb.mono hD.size)
  replace hQ := hQ.trans (bb.mono hz)
  replace hz := Nat.le_trans hz bb.size
  clear bb
  refine ⟨_, rfl, hS2, ?_⟩
  replace hHeld := hS2
  try simp only [Act.put, List.setIfInBounds_toArray, List.set_cons_zero, List.set_cons_succ]
  clear hS2
  refine take_op (i := 8) (d := 35) (OP := Op.extract (Operand.tmp 34) 0) (T := 27) (v := ?vy6x) rfl rfl rfl rfl (by kernel_rfl) (by kernel_rfl) (by kernel_rfl) (fun _ _ _ h => h) (by rfl) ?hy6x hHeld ?ry6x
  case hy6x => (intro w' hSw; (try dsimp only at hSw); go_simp <;> with_reducible rfl)
  try simp only [Act.put, List.setIfInBounds_toArray, List.set_cons_zero, List.set_cons_succ]
  refine take_op (i := 9) (d := 36) (OP := Op.extract (Operand.tmp 34) 1) (T := 30) (v := ?vy7x) rfl rfl rfl rfl (by kernel_rfl) (by kernel_rfl) (by kernel_rfl) (fun _ _ _ h => h) (by rfl) ?hy7x hHeld ?ry7x
  case hy7x => (intro w' hSw; (try dsimp only at hSw); go_simp <;> with_reducible rfl)
  try simp only [Act.put, List.setIfInBounds_toArray, List.set_cons_zero, List.set_cons_succ]
  have HR := hk _ hQ
  obtain ⟨z0, z1, z2, z3, z4, zf0, zf1, zf2, zf3, zf4⟩ := blk5 HR
  have hx8 : (((((w7.setCell ⟨w.heap.size, 0, none⟩ (.int .i64 G')).setCell ⟨w.heap.size, 1, none⟩ (.int .i64 R')).setCell ⟨w.heap.size, 2, none⟩ (.string L')).setCell ⟨w.heap.size, 3, none⟩ (.int .i64 N')).setCell ⟨w.heap.size, 4, none⟩ (.int .i64 X')).cell? ⟨PB, 0, none⟩ = some (.int .i64 R2) ∧ (((((w7.setCell ⟨w.heap.size, 0, none⟩ (.int .i64 G')).setCell ⟨w.heap.size, 1, none⟩ (.int .i64 R')).setCell ⟨w.heap.size, 2, none⟩ (.string L')).setCell ⟨w.heap.size, 3, none⟩ (.int .i64 N')).setCell ⟨w.heap.size, 4, none⟩ (.int .i64 X')).cell? ⟨PB, 1, none⟩ = some (.string L2) ∧ (((((w7.setCell ⟨w.heap.size, 0, none⟩ (.int .i64 G')).setCell ⟨w.heap.size, 1, none⟩ (.int .i64 R')).setCell ⟨w.heap.size, 2, none⟩ (.string L')).setCell ⟨w.heap.size, 3, none⟩ (.int .i64 N')).setCell ⟨w.heap.size, 4, none⟩ (.int .i64 X')).cell? ⟨PB, 2, none⟩ = some (.int .i64 N2) := by
    have hne : w.heap.size ≠ PB := by omega
    exact ⟨by rw [set5_other hne]; exact hHeld.1, by rw [set5_other hne]; exact hHeld.2.1, by rw [set5_other hne]; exact hHeld.2.2⟩
  refine skip_op (i := 10) (OP := Op.store 27 (Operand.tmp 2) (Operand.tmp 35)) (T := 0) (w' := (((((w7.setCell ⟨w.heap.size, 0, none⟩ (.int .i64 G')).setCell ⟨w.heap.size, 1, none⟩ (.int .i64 R')).setCell ⟨w.heap.size, 2, none⟩ (.string L')).setCell ⟨w.heap.size, 3, none⟩ (.int .i64 N')).setCell ⟨w.heap.size, 4, none⟩ (.int .i64 X'))) rfl rfl rfl rfl (by kernel_rfl) (by rfl) (by go_simp) ⟨hx8, ?_⟩
  replace hHeld := hx8
  refine take_op (i := 11) (d := 3) (OP := Op.assign (Operand.tmp 36)) (T := 30) (v := ?vy8x) rfl rfl rfl rfl (by kernel_rfl) (by kernel_rfl) (by kernel_rfl) (fun _ _ _ h => h) (by rfl) ?hy8x hHeld ?ry8x
  case hy8x => (intro w' hSw; (try dsimp only at hSw); go_simp <;> with_reducible rfl)
  try simp only [Act.put, List.setIfInBounds_toArray, List.set_cons_zero, List.set_cons_succ]
  refine wpAnyH_done (by kernel_rfl) ?_ _
  go_wp2
  refine ret_row_tmp w.heap.size [.int .i64 G', .int .i64 R', .string L', .int .i64 N', .int .i64 X'] rfl rfl rfl Tryz.underlying27 rfl (by kernel_rfl) (t := 27) (fr := (0, 0)) (set5 HR) rfl ?_
  exact ⟨rfl, bel5 (Nat.le_refl _) hD⟩
end Go.Proofs.YtkjabnpniingnaaGreatDoor
