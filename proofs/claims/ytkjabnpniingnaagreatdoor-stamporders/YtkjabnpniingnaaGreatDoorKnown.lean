/-
  KNOWN: the chapter's rows.
-/
import Derived.Test.YtkjabnpniingnaaGreatDoorOfKey
import Derived.Deep.DeepCutAuto
import Derived.Deep.CutBlock
namespace Go.Proofs.YtkjabnpniingnaaGreatDoor
open Go.RowKit Go.Shelf
set_option linter.unusedSimpArgs false

theorem num_any (n : Int) (w : World) : Calls Tryz.prog 26 #[.int .i64 n] w fun e w' => e = .returned (.int .i64 n) ∧ w' = w := by
  go_enter Tryz.func26, Tryz.ntmps26
  go_wp2
  go_ret
  exact ⟨rfl, rfl⟩
abbrev mainS : ByteArray := ⟨#[109, 97, 105, 110]⟩
abbrev oneKey : ByteArray := ⟨#[0, 0, 0, 0, 0, 0, 0, 5, 1, 109, 97, 105, 110, 0, 0, 0, 0, 0, 0, 0, 0, 3, 0]⟩
set_option maxHeartbeats 400000 in
theorem one_call (w : World) : Calls Tryz.prog 56 #[] w fun e w' => e = .returned (sv 5 1 mainS 3 0) ∧ Below w.heap.size w w' := by
  go_enter Tryz.func56, Tryz.ntmps56
  go_wp2
  refine ret_row w.heap.size [.int .i64 5, .int .i64 1, .string mainS, .int .i64 3, .int .i64 0] rfl rfl Tryz.underlying27 rfl (by kernel_rfl) (t := 27) (fr := (0, 0)) ?_ rfl ?_
  · exact heap_alloc_new w _
  · exact ⟨rfl, below_new w _⟩
theorem k1 : stampV 5 1 mainS 3 0 = true := by decide +kernel
theorem k2 : stT 5 1 mainS 3 0 = ⟨#[53, 46, 49, 46, 109, 97, 105, 110, 46, 51, 46, 48]⟩ := by decide +kernel
theorem k3 : stL 5 1 mainS 3 0 = [5, 1, 4, 109, 97, 105, 110, 3, 0] := by decide +kernel
theorem k4 : pnV ⟨#[49, 46, 109, 97, 105, 110, 46, 48, 51]⟩ = false := by decide +kernel
theorem k5 : branchV 8 ⟨#[97]⟩ = false := by decide +kernel
theorem k6 : keyS 5 1 mainS 3 0 = oneKey := by decide +kernel
theorem k7 : okV oneKey = true := by decide +kernel
theorem k8 : okG oneKey = 5 ∧ okR oneKey = 1 ∧ okL oneKey = mainS ∧ okN oneKey = 3 ∧ okX oneKey = 0 := by decide +kernel
theorem k9 : strOfNums [5, 1, 4, 109, 97, 105, 110, 3, 0] = ⟨#[5, 1, 4, 109, 97, 105, 110, 3, 0]⟩ := by decide +kernel
theorem exec_eq27 {ev : Operand → Value} {x y : Operand} {T : TypeId} {w : World} (hx : ev x = sv 5 1 mainS 3 0) (hy : ev y = sv 5 1 mainS 3 0) :
    (execOp ev { dst := none, op := .binOp .eql 27 x y 27, type := T, pos := "", after := #[], guard := none }).run Tryz.prog w = .ok (.value (.bool true)) w := by
  unfold execOp
  simp only [hx, hy]
  kernel_rfl
theorem exec_conv2 {ev : Operand → Value} {x : Operand} {T : TypeId} {v u : Value} {w : World} (hx : ev x = v) (hr : (convert 29 9 v).run Tryz.prog w = .ok u w) :
    (execOp ev { dst := none, op := .convert 29 9 x, type := T, pos := "", after := #[], guard := none }).run Tryz.prog w = .ok (.value u) w := by
  simp [execOp, hx, hr, Result.andThen]
set_option maxHeartbeats 4000000 in
set_option maxRecDepth 100000 in
theorem known_any (w : World) (hE : EnvE w) : Calls Tryz.prog 9 #[] w fun e w' => e = .returned (.bool true) ∧ Below w.heap.size w w' := by
  have h1 := fun W => one_call W
  have h13 : ∀ W, Below w.heap.size w W → Calls Tryz.prog 13 #[sv 5 1 mainS 3 0] W fun e w' => e = .returned (.tuple #[.string ⟨#[53, 46, 49, 46, 109, 97, 105, 110, 46, 51, 46, 48]⟩, .int .i64 0]) ∧ Below W.heap.size W w' := fun W h => by
    have := text_any 5 1 mainS 3 0 W (hE.below h).env
    rw [k1, k2] at this
    exact this
  have h10 : ∀ W, Calls Tryz.prog 10 #[sv 5 1 mainS 3 0] W fun e w' => (∃ a c, e = .returned (.tuple #[.slice a 9 c, .int .i64 0]) ∧ Hid (Rd w' a [5, 1, 4, 109, 97, 105, 110, 3, 0])) ∧ Below W.heap.size W w' := fun W => by
    refine (put_any 5 1 mainS 3 0 W).mono ?_
    rintro e w' ⟨a, c, rfl, hR, hn, hb⟩
    rw [k1, if_pos rfl, k3] at hR
    rw [k1, if_pos rfl, if_pos rfl, k3]
    exact ⟨⟨a, c, rfl, hide hR⟩, hb⟩
  have h44 : ∀ W, Below w.heap.size w W → Calls Tryz.prog 44 #[.string ⟨#[49, 46, 109, 97, 105, 110, 46, 48, 51]⟩] W fun e w' => e = .returned (.tuple #[nv 0 ⟨#[]⟩ 0, .int .i64 4]) ∧ Below W.heap.size W w' := fun W h => by
    have := parseName_any ⟨#[49, 46, 109, 97, 105, 110, 46, 48, 51]⟩ W (by decide) (hE.below h)
    unfold pnR pnL pnN at this
    rw [k4] at this
    exact this
  have h12 : ∀ W, Calls Tryz.prog 12 #[bv 8 ⟨#[97]⟩] W fun e w' => (∃ a c, e = .returned (.tuple #[.slice a 0 c, .int .i64 2])) ∧ Below W.heap.size W w' := fun W => by
    refine (putBranch_any 8 ⟨#[97]⟩ W).mono ?_
    rintro e w' ⟨a, c, rfl, hR, hn, hb⟩
    rw [k5, if_neg (by decide), if_neg (by decide)]
    exact ⟨⟨a, c, rfl⟩, hb⟩
  have h16 : ∀ W, Calls Tryz.prog 16 #[sv 5 1 mainS 3 0] W fun e w' => e = .returned (.tuple #[.string oneKey, .int .i64 0]) ∧ Below W.heap.size W w' := fun W => by
    have := key_any 5 1 mainS 3 0 W
    rw [k1, k6] at this
    exact this
  have h48 : ∀ W, Calls Tryz.prog 48 #[.string oneKey] W fun e w' => e = .returned (.tuple #[sv 5 1 mainS 3 0, .int .i64 0]) ∧ Below W.heap.size W w' := fun W => by
    have := ofKey_any oneKey W (by decide)
    unfold kG kR kL kN kX at this
    rw [k7, k8.1, k8.2.1, k8.2.2.1, k8.2.2.2.1, k8.2.2.2.2] at this
    exact this
  have h26 := fun n W => num_any n W
  go_enter Tryz.func9, Tryz.ntmps9
  go_wp2_with (go_at_call 56; refine (h1 _).mono ?_; rintro e w1 ⟨rfl, b1⟩)
  go_wp2_with (go_at_call 13; refine (h13 _ b1).mono ?_; rintro e w2 ⟨rfl, b2⟩; replace b2 := b1.trans (b2.mono b1.size); clear b1)
  go_wp2_with (go_at_call 56; refine (h1 _).mono ?_; rintro e w3 ⟨rfl, b3⟩; replace b3 := b2.trans (b3.mono b2.size); clear b2)
  go_wp2_with (go_at_call 10; refine (h10 _).mono ?_; rintro e w4 ⟨⟨a4, c4, rfl, HR⟩, b4⟩; replace b4 := b3.trans (b4.mono b3.size); clear b3)
  go_wp2_with (go_at_call 44; refine (h44 _ b4).mono ?_; rintro e w5 ⟨rfl, b5⟩; replace HR := hide (HR.out.below b5); replace b5 := b4.trans (b5.mono b4.size); clear b4)
  go_wp2_with (go_at_call 12; refine (h12 _).mono ?_; rintro e w6 ⟨⟨a6, c6, rfl⟩, b6⟩; replace HR := hide ((HR.out.alloc _).below b6); replace b6 := (b5.alloc b5.size _).trans (b6.mono (b5.alloc b5.size _).size); clear b5)
  go_wp2_with (go_at_call 56; refine (h1 _).mono ?_; rintro e w7 ⟨rfl, b7⟩; replace HR := hide (HR.out.below b7); replace b7 := b6.trans (b7.mono b6.size); clear b6)
  go_wp2_with (go_at_call 16; refine (h16 _).mono ?_; rintro e w8 ⟨rfl, b8⟩; replace HR := hide (HR.out.below b8); replace b8 := b7.trans (b8.mono b7.size); clear b7)
  go_wp2_with (go_at_call 48; refine (h48 _).mono ?_; rintro e w9 ⟨rfl, b9⟩; replace HR := hide (HR.out.below b9); replace b9 := b8.trans (b9.mono b8.size); clear b8)
  have hn := heap_alloc_new w9 (.cells #[.int .i64 5, .int .i64 1, .string mainS, .int .i64 3, .int .i64 0] 27)
  have hBW := (b9.alloc b9.size (.cells #[.int .i64 5, .int .i64 1, .string mainS, .int .i64 3, .int .i64 0] 27)).drew
  have hRW : Rd (w9.alloc (.cells #[.int .i64 5, .int .i64 1, .string mainS, .int .i64 3, .int .i64 0] 27)).drew a4 [5, 1, 4, 109, 97, 105, 110, 3, 0] := (HR.out.alloc _).drewN 1
  obtain ⟨y0, y1, y2, y3, y4, _, _, _, _, _⟩ := blk5 hn
  generalize (w9.alloc (.cells #[.int .i64 5, .int .i64 1, .string mainS, .int .i64 3, .int .i64 0] 27)) = W at hBW hRW y0 y1 y2 y3 y4 ⊢
  have hS1 : W.drew.cell? ⟨w9.heap.size, 0, none⟩ = some (.int .i64 5) ∧ W.drew.cell? ⟨w9.heap.size, 1, none⟩ = some (.int .i64 1) ∧ W.drew.cell? ⟨w9.heap.size, 2, none⟩ = some (.string mainS) ∧ W.drew.cell? ⟨w9.heap.size, 3, none⟩ = some (.int .i64 3) ∧ W.drew.cell? ⟨w9.heap.size, 4, none⟩ = some (.int .i64 0) ∧ Rd W.drew a4 [5, 1, 4, 109, 97, 105, 110, 3, 0] := ⟨y0, y1, y2, y3, y4, hRW⟩
  clear hRW y0 y1 y2 y3 y4 hn b9 HR h1 h13 h10 h44 h12 h16 h48
  have h56 := fun W => one_call W
  refine wp_region_held_drew (S := (fun w' => w'.cell? ⟨w9.heap.size, 0, none⟩ = some (.int .i64 5) ∧ w'.cell? ⟨w9.heap.size, 1, none⟩ = some (.int .i64 1) ∧ w'.cell? ⟨w9.heap.size, 2, none⟩ = some (.string mainS) ∧ w'.cell? ⟨w9.heap.size, 3, none⟩ = some (.int .i64 3) ∧ w'.cell? ⟨w9.heap.size, 4, none⟩ = some (.int .i64 0) ∧ Rd w' a4 [5, 1, 4, 109, 97, 105, 110, 3, 0])) (by kernel_rfl) (by exact hS1) (fun hHeld => ?_)
  try dsimp only at hHeld
  refine take_op (i := 0) (d := 42) (OP := Op.move (Operand.tmp 1)) (T := 9) (v := ?vy1x) rfl rfl rfl rfl (by kernel_rfl) (by kernel_rfl) (by kernel_rfl) (fun _ _ _ h => h) (by rfl) ?hy1x hHeld ?ry1x
  case hy1x => (intro w' hSw; (try dsimp only at hSw); go_simp <;> with_reducible rfl)
  try simp only [Act.put, List.setIfInBounds_toArray, List.set_cons_zero, List.set_cons_succ]
  refine take_op (i := 1) (d := 43) (OP := Op.binOp BinOp.eql 9 (Operand.tmp 42) (Operand.const (Value.string { data := #[53, 46, 49, 46, 109, 97, 105, 110, 46, 51, 46, 48] })) 9) (T := 4) (v := ?vy2x) rfl rfl rfl rfl (by kernel_rfl) (by kernel_rfl) (by kernel_rfl) (fun _ _ _ h => h) (by rfl) ?hy2x hHeld ?ry2x
  case hy2x => (intro w' hSw; (try dsimp only at hSw); go_simp <;> with_reducible rfl)
  try simp only [Act.put, List.setIfInBounds_toArray, List.set_cons_zero, List.set_cons_succ]
  refine take_op (i := 2) (d := 44) (OP := Op.move (Operand.tmp 43)) (T := 4) (v := ?vy3x) rfl rfl rfl rfl (by kernel_rfl) (by kernel_rfl) (by kernel_rfl) (fun _ _ _ h => h) (by rfl) ?hy3x hHeld ?ry3x
  case hy3x => (intro w' hSw; (try dsimp only at hSw); go_simp <;> with_reducible rfl)
  try simp only [Act.put, List.setIfInBounds_toArray, List.set_cons_zero, List.set_cons_succ]
  refine take_op (i := 3) (d := 45) (OP := Op.move (Operand.tmp 2)) (T := 30) (v := ?vy4x) rfl rfl rfl rfl (by kernel_rfl) (by kernel_rfl) (by kernel_rfl) (fun _ _ _ h => h) (by rfl) ?hy4x hHeld ?ry4x
  case hy4x => (intro w' hSw; (try dsimp only at hSw); go_simp <;> with_reducible rfl)
  try simp only [Act.put, List.setIfInBounds_toArray, List.set_cons_zero, List.set_cons_succ]
  refine call_op (i := 4) (d := 46) (OP := Op.call { callee := Callee.value (Operand.func 26), args := #[Operand.tmp 45], argTypes := #[30] }) (T := 3) (f := 26) (args := #[.int .i64 0]) rfl rfl rfl rfl (by kernel_rfl) (by rfl) (by go_simp) ?_
  refine (h26 0 _).mono ?_
  rintro e wx ⟨rfl, rfl⟩
  refine ⟨_, rfl, hHeld, ?_⟩
  replace hHeld := hHeld
  try simp only [Act.put, List.setIfInBounds_toArray, List.set_cons_zero, List.set_cons_succ]
  refine take_op (i := 5) (d := 47) (OP := Op.binOp BinOp.eql 3 (Operand.tmp 46) (Operand.const (Value.int IntKind.i64 0)) 3) (T := 4) (v := ?vy5x) rfl rfl rfl rfl (by kernel_rfl) (by kernel_rfl) (by kernel_rfl) (fun _ _ _ h => h) (by rfl) ?hy5x hHeld ?ry5x
  case hy5x => (intro w' hSw; (try dsimp only at hSw); go_simp <;> with_reducible rfl)
  try simp only [Act.put, List.setIfInBounds_toArray, List.set_cons_zero, List.set_cons_succ]
  refine take_op (i := 6) (d := 48) (OP := Op.pick (Operand.tmp 44) (Operand.tmp 47) (Operand.const (Value.bool false))) (T := 4) (v := ?vy6x) rfl rfl rfl rfl (by kernel_rfl) (by kernel_rfl) (by kernel_rfl) (fun _ _ _ h => h) (by rfl) ?hy6x hHeld ?ry6x
  case hy6x => (intro w' hSw; (try dsimp only at hSw); go_simp <;> with_reducible rfl)
  try simp only [Act.put, List.setIfInBounds_toArray, List.set_cons_zero, List.set_cons_succ]
  refine take_op (i := 7) (d := 49) (OP := Op.move (Operand.tmp 48)) (T := 4) (v := ?vy7x) rfl rfl rfl rfl (by kernel_rfl) (by kernel_rfl) (by kernel_rfl) (fun _ _ _ h => h) (by rfl) ?hy7x hHeld ?ry7x
  case hy7x => (intro w' hSw; (try dsimp only at hSw); go_simp <;> with_reducible rfl)
  try simp only [Act.put, List.setIfInBounds_toArray, List.set_cons_zero, List.set_cons_succ]
  refine take_op (i := 8) (d := 50) (OP := Op.move (Operand.tmp 3)) (T := 29) (v := ?vy8x) rfl rfl rfl rfl (by kernel_rfl) (by kernel_rfl) (by kernel_rfl) (fun _ _ _ h => h) (by rfl) ?hy8x hHeld ?ry8x
  case hy8x => (intro w' hSw; (try dsimp only at hSw); go_simp <;> with_reducible rfl)
  try simp only [Act.put, List.setIfInBounds_toArray, List.set_cons_zero, List.set_cons_succ]
  refine take_op (i := 9) (d := 51) (OP := Op.convert 29 9 (Operand.tmp 50)) (T := 9) (v := .string ⟨#[5, 1, 4, 109, 97, 105, 110, 3, 0]⟩) rfl rfl rfl rfl (by kernel_rfl) (by kernel_rfl) (by kernel_rfl) (fun _ _ _ h => h) (by rfl) (fun w' hSw => exec_conv2 (v := .slice a4 9 c4) rfl (by rw [conv_rd (n := 9) (cap := c4) hSw.2.2.2.2.2 rfl, k9])) hHeld ?_
  try simp only [Act.put, List.setIfInBounds_toArray, List.set_cons_zero, List.set_cons_succ]
  refine take_op (i := 10) (d := 52) (OP := Op.binOp BinOp.eql 9 (Operand.tmp 51) (Operand.const (Value.string { data := #[5, 1, 4, 109, 97, 105, 110, 3, 0] })) 9) (T := 4) (v := ?vy9x) rfl rfl rfl rfl (by kernel_rfl) (by kernel_rfl) (by kernel_rfl) (fun _ _ _ h => h) (by rfl) ?hy9x hHeld ?ry9x
  case hy9x => (intro w' hSw; (try dsimp only at hSw); go_simp <;> with_reducible rfl)
  try simp only [Act.put, List.setIfInBounds_toArray, List.set_cons_zero, List.set_cons_succ]
  refine take_op (i := 11) (d := 53) (OP := Op.pick (Operand.tmp 49) (Operand.tmp 52) (Operand.const (Value.bool false))) (T := 4) (v := ?vy10x) rfl rfl rfl rfl (by kernel_rfl) (by kernel_rfl) (by kernel_rfl) (fun _ _ _ h => h) (by rfl) ?hy10x hHeld ?ry10x
  case hy10x => (intro w' hSw; (try dsimp only at hSw); go_simp <;> with_reducible rfl)
  try simp only [Act.put, List.setIfInBounds_toArray, List.set_cons_zero, List.set_cons_succ]
  refine take_op (i := 12) (d := 54) (OP := Op.move (Operand.tmp 53)) (T := 4) (v := ?vy11x) rfl rfl rfl rfl (by kernel_rfl) (by kernel_rfl) (by kernel_rfl) (fun _ _ _ h => h) (by rfl) ?hy11x hHeld ?ry11x
  case hy11x => (intro w' hSw; (try dsimp only at hSw); go_simp <;> with_reducible rfl)
  try simp only [Act.put, List.setIfInBounds_toArray, List.set_cons_zero, List.set_cons_succ]
  refine take_op (i := 13) (d := 55) (OP := Op.move (Operand.tmp 4)) (T := 30) (v := ?vy12x) rfl rfl rfl rfl (by kernel_rfl) (by kernel_rfl) (by kernel_rfl) (fun _ _ _ h => h) (by rfl) ?hy12x hHeld ?ry12x
  case hy12x => (intro w' hSw; (try dsimp only at hSw); go_simp <;> with_reducible rfl)
  try simp only [Act.put, List.setIfInBounds_toArray, List.set_cons_zero, List.set_cons_succ]
  refine call_op (i := 14) (d := 56) (OP := Op.call { callee := Callee.value (Operand.func 26), args := #[Operand.tmp 55], argTypes := #[30] }) (T := 3) (f := 26) (args := #[.int .i64 0]) rfl rfl rfl rfl (by kernel_rfl) (by rfl) (by go_simp) ?_
  refine (h26 0 _).mono ?_
  rintro e wx ⟨rfl, rfl⟩
  refine ⟨_, rfl, hHeld, ?_⟩
  replace hHeld := hHeld
  try simp only [Act.put, List.setIfInBounds_toArray, List.set_cons_zero, List.set_cons_succ]
  refine take_op (i := 15) (d := 57) (OP := Op.binOp BinOp.eql 3 (Operand.tmp 56) (Operand.const (Value.int IntKind.i64 0)) 3) (T := 4) (v := ?vy13x) rfl rfl rfl rfl (by kernel_rfl) (by kernel_rfl) (by kernel_rfl) (fun _ _ _ h => h) (by rfl) ?hy13x hHeld ?ry13x
  case hy13x => (intro w' hSw; (try dsimp only at hSw); go_simp <;> with_reducible rfl)
  try simp only [Act.put, List.setIfInBounds_toArray, List.set_cons_zero, List.set_cons_succ]
  refine take_op (i := 16) (d := 58) (OP := Op.pick (Operand.tmp 54) (Operand.tmp 57) (Operand.const (Value.bool false))) (T := 4) (v := ?vy14x) rfl rfl rfl rfl (by kernel_rfl) (by kernel_rfl) (by kernel_rfl) (fun _ _ _ h => h) (by rfl) ?hy14x hHeld ?ry14x
  case hy14x => (intro w' hSw; (try dsimp only at hSw); go_simp <;> with_reducible rfl)
  try simp only [Act.put, List.setIfInBounds_toArray, List.set_cons_zero, List.set_cons_succ]
  refine take_op (i := 17) (d := 59) (OP := Op.move (Operand.tmp 58)) (T := 4) (v := ?vy15x) rfl rfl rfl rfl (by kernel_rfl) (by kernel_rfl) (by kernel_rfl) (fun _ _ _ h => h) (by rfl) ?hy15x hHeld ?ry15x
  case hy15x => (intro w' hSw; (try dsimp only at hSw); go_simp <;> with_reducible rfl)
  try simp only [Act.put, List.setIfInBounds_toArray, List.set_cons_zero, List.set_cons_succ]
  refine take_op (i := 18) (d := 60) (OP := Op.move (Operand.tmp 6)) (T := 30) (v := ?vy16x) rfl rfl rfl rfl (by kernel_rfl) (by kernel_rfl) (by kernel_rfl) (fun _ _ _ h => h) (by rfl) ?hy16x hHeld ?ry16x
  case hy16x => (intro w' hSw; (try dsimp only at hSw); go_simp <;> with_reducible rfl)
  try simp only [Act.put, List.setIfInBounds_toArray, List.set_cons_zero, List.set_cons_succ]
  refine call_op (i := 19) (d := 61) (OP := Op.call { callee := Callee.value (Operand.func 26), args := #[Operand.tmp 60], argTypes := #[30] }) (T := 3) (f := 26) (args := #[.int .i64 4]) rfl rfl rfl rfl (by kernel_rfl) (by rfl) (by go_simp) ?_
  refine (h26 4 _).mono ?_
  rintro e wx ⟨rfl, rfl⟩
  refine ⟨_, rfl, hHeld, ?_⟩
  replace hHeld := hHeld
  try simp only [Act.put, List.setIfInBounds_toArray, List.set_cons_zero, List.set_cons_succ]
  refine take_op (i := 20) (d := 62) (OP := Op.binOp BinOp.eql 3 (Operand.tmp 61) (Operand.const (Value.int IntKind.i64 4)) 3) (T := 4) (v := ?vy17x) rfl rfl rfl rfl (by kernel_rfl) (by kernel_rfl) (by kernel_rfl) (fun _ _ _ h => h) (by rfl) ?hy17x hHeld ?ry17x
  case hy17x => (intro w' hSw; (try dsimp only at hSw); go_simp <;> with_reducible rfl)
  try simp only [Act.put, List.setIfInBounds_toArray, List.set_cons_zero, List.set_cons_succ]
  refine take_op (i := 21) (d := 63) (OP := Op.pick (Operand.tmp 59) (Operand.tmp 62) (Operand.const (Value.bool false))) (T := 4) (v := ?vy18x) rfl rfl rfl rfl (by kernel_rfl) (by kernel_rfl) (by kernel_rfl) (fun _ _ _ h => h) (by rfl) ?hy18x hHeld ?ry18x
  case hy18x => (intro w' hSw; (try dsimp only at hSw); go_simp <;> with_reducible rfl)
  try simp only [Act.put, List.setIfInBounds_toArray, List.set_cons_zero, List.set_cons_succ]
  refine take_op (i := 22) (d := 64) (OP := Op.move (Operand.tmp 63)) (T := 4) (v := ?vy19x) rfl rfl rfl rfl (by kernel_rfl) (by kernel_rfl) (by kernel_rfl) (fun _ _ _ h => h) (by rfl) ?hy19x hHeld ?ry19x
  case hy19x => (intro w' hSw; (try dsimp only at hSw); go_simp <;> with_reducible rfl)
  try simp only [Act.put, List.setIfInBounds_toArray, List.set_cons_zero, List.set_cons_succ]
  refine take_op (i := 23) (d := 65) (OP := Op.move (Operand.tmp 8)) (T := 30) (v := ?vy20x) rfl rfl rfl rfl (by kernel_rfl) (by kernel_rfl) (by kernel_rfl) (fun _ _ _ h => h) (by rfl) ?hy20x hHeld ?ry20x
  case hy20x => (intro w' hSw; (try dsimp only at hSw); go_simp <;> with_reducible rfl)
  try simp only [Act.put, List.setIfInBounds_toArray, List.set_cons_zero, List.set_cons_succ]
  refine call_op (i := 24) (d := 66) (OP := Op.call { callee := Callee.value (Operand.func 26), args := #[Operand.tmp 65], argTypes := #[30] }) (T := 3) (f := 26) (args := #[.int .i64 2]) rfl rfl rfl rfl (by kernel_rfl) (by rfl) (by go_simp) ?_
  refine (h26 2 _).mono ?_
  rintro e wx ⟨rfl, rfl⟩
  refine ⟨_, rfl, hHeld, ?_⟩
  replace hHeld := hHeld
  try simp only [Act.put, List.setIfInBounds_toArray, List.set_cons_zero, List.set_cons_succ]
  refine take_op (i := 25) (d := 67) (OP := Op.binOp BinOp.eql 3 (Operand.tmp 66) (Operand.const (Value.int IntKind.i64 2)) 3) (T := 4) (v := ?vy21x) rfl rfl rfl rfl (by kernel_rfl) (by kernel_rfl) (by kernel_rfl) (fun _ _ _ h => h) (by rfl) ?hy21x hHeld ?ry21x
  case hy21x => (intro w' hSw; (try dsimp only at hSw); go_simp <;> with_reducible rfl)
  try simp only [Act.put, List.setIfInBounds_toArray, List.set_cons_zero, List.set_cons_succ]
  refine take_op (i := 26) (d := 68) (OP := Op.pick (Operand.tmp 64) (Operand.tmp 67) (Operand.const (Value.bool false))) (T := 4) (v := ?vy22x) rfl rfl rfl rfl (by kernel_rfl) (by kernel_rfl) (by kernel_rfl) (fun _ _ _ h => h) (by rfl) ?hy22x hHeld ?ry22x
  case hy22x => (intro w' hSw; (try dsimp only at hSw); go_simp <;> with_reducible rfl)
  try simp only [Act.put, List.setIfInBounds_toArray, List.set_cons_zero, List.set_cons_succ]
  refine take_op (i := 27) (d := 69) (OP := Op.move (Operand.tmp 68)) (T := 4) (v := ?vy23x) rfl rfl rfl rfl (by kernel_rfl) (by kernel_rfl) (by kernel_rfl) (fun _ _ _ h => h) (by rfl) ?hy23x hHeld ?ry23x
  case hy23x => (intro w' hSw; (try dsimp only at hSw); go_simp <;> with_reducible rfl)
  try simp only [Act.put, List.setIfInBounds_toArray, List.set_cons_zero, List.set_cons_succ]
  refine take_op (i := 28) (d := 70) (OP := Op.move (Operand.tmp 9)) (T := 9) (v := ?vy24x) rfl rfl rfl rfl (by kernel_rfl) (by kernel_rfl) (by kernel_rfl) (fun _ _ _ h => h) (by rfl) ?hy24x hHeld ?ry24x
  case hy24x => (intro w' hSw; (try dsimp only at hSw); go_simp <;> with_reducible rfl)
  try simp only [Act.put, List.setIfInBounds_toArray, List.set_cons_zero, List.set_cons_succ]
  refine take_op (i := 29) (d := 71) (OP := Op.binOp BinOp.eql 9 (Operand.tmp 70) (Operand.const (Value.string { data := #[0, 0, 0, 0, 0, 0, 0, 5, 1, 109, 97, 105, 110, 0, 0, 0, 0, 0, 0, 0, 0, 3, 0] })) 9) (T := 4) (v := ?vy25x) rfl rfl rfl rfl (by kernel_rfl) (by kernel_rfl) (by kernel_rfl) (fun _ _ _ h => h) (by rfl) ?hy25x hHeld ?ry25x
  case hy25x => (intro w' hSw; (try dsimp only at hSw); go_simp <;> with_reducible rfl)
  try simp only [Act.put, List.setIfInBounds_toArray, List.set_cons_zero, List.set_cons_succ]
  refine take_op (i := 30) (d := 72) (OP := Op.pick (Operand.tmp 69) (Operand.tmp 71) (Operand.const (Value.bool false))) (T := 4) (v := ?vy26x) rfl rfl rfl rfl (by kernel_rfl) (by kernel_rfl) (by kernel_rfl) (fun _ _ _ h => h) (by rfl) ?hy26x hHeld ?ry26x
  case hy26x => (intro w' hSw; (try dsimp only at hSw); go_simp <;> with_reducible rfl)
  try simp only [Act.put, List.setIfInBounds_toArray, List.set_cons_zero, List.set_cons_succ]
  refine take_op (i := 31) (d := 73) (OP := Op.move (Operand.tmp 72)) (T := 4) (v := ?vy27x) rfl rfl rfl rfl (by kernel_rfl) (by kernel_rfl) (by kernel_rfl) (fun _ _ _ h => h) (by rfl) ?hy27x hHeld ?ry27x
  case hy27x => (intro w' hSw; (try dsimp only at hSw); go_simp <;> with_reducible rfl)
  try simp only [Act.put, List.setIfInBounds_toArray, List.set_cons_zero, List.set_cons_succ]
  refine take_op (i := 32) (d := 74) (OP := Op.move (Operand.tmp 10)) (T := 30) (v := ?vy28x) rfl rfl rfl rfl (by kernel_rfl) (by kernel_rfl) (by kernel_rfl) (fun _ _ _ h => h) (by rfl) ?hy28x hHeld ?ry28x
  case hy28x => (intro w' hSw; (try dsimp only at hSw); go_simp <;> with_reducible rfl)
  try simp only [Act.put, List.setIfInBounds_toArray, List.set_cons_zero, List.set_cons_succ]
  refine call_op (i := 33) (d := 75) (OP := Op.call { callee := Callee.value (Operand.func 26), args := #[Operand.tmp 74], argTypes := #[30] }) (T := 3) (f := 26) (args := #[.int .i64 0]) rfl rfl rfl rfl (by kernel_rfl) (by rfl) (by go_simp) ?_
  refine (h26 0 _).mono ?_
  rintro e wx ⟨rfl, rfl⟩
  refine ⟨_, rfl, hHeld, ?_⟩
  replace hHeld := hHeld
  try simp only [Act.put, List.setIfInBounds_toArray, List.set_cons_zero, List.set_cons_succ]
  refine take_op (i := 34) (d := 76) (OP := Op.binOp BinOp.eql 3 (Operand.tmp 75) (Operand.const (Value.int IntKind.i64 0)) 3) (T := 4) (v := ?vy29x) rfl rfl rfl rfl (by kernel_rfl) (by kernel_rfl) (by kernel_rfl) (fun _ _ _ h => h) (by rfl) ?hy29x hHeld ?ry29x
  case hy29x => (intro w' hSw; (try dsimp only at hSw); go_simp <;> with_reducible rfl)
  try simp only [Act.put, List.setIfInBounds_toArray, List.set_cons_zero, List.set_cons_succ]
  refine take_op (i := 35) (d := 77) (OP := Op.pick (Operand.tmp 73) (Operand.tmp 76) (Operand.const (Value.bool false))) (T := 4) (v := ?vy30x) rfl rfl rfl rfl (by kernel_rfl) (by kernel_rfl) (by kernel_rfl) (fun _ _ _ h => h) (by rfl) ?hy30x hHeld ?ry30x
  case hy30x => (intro w' hSw; (try dsimp only at hSw); go_simp <;> with_reducible rfl)
  try simp only [Act.put, List.setIfInBounds_toArray, List.set_cons_zero, List.set_cons_succ]
  refine take_op (i := 36) (d := 78) (OP := Op.move (Operand.tmp 77)) (T := 4) (v := ?vy31x) rfl rfl rfl rfl (by kernel_rfl) (by kernel_rfl) (by kernel_rfl) (fun _ _ _ h => h) (by rfl) ?hy31x hHeld ?ry31x
  case hy31x => (intro w' hSw; (try dsimp only at hSw); go_simp <;> with_reducible rfl)
  try simp only [Act.put, List.setIfInBounds_toArray, List.set_cons_zero, List.set_cons_succ]
  refine take_op (i := 37) (d := 79) (OP := Op.load 27 (Operand.tmp 11)) (T := 27) (v := ?vy32x) rfl rfl rfl rfl (by kernel_rfl) (by kernel_rfl) (by kernel_rfl) (fun _ _ _ h => h) (by rfl) ?hy32x hHeld ?ry32x
  case hy32x => (intro w' hSw; (try dsimp only at hSw); go_simp <;> with_reducible rfl)
  try simp only [Act.put, List.setIfInBounds_toArray, List.set_cons_zero, List.set_cons_succ]
  refine call_op (i := 38) (d := 80) (OP := Op.call { callee := Callee.value (Operand.func 56), args := #[], argTypes := #[] }) (T := 27) (f := 56) (args := #[]) rfl rfl rfl rfl (by kernel_rfl) (by rfl) (by go_simp) ?_
  refine (h56 _).mono ?_
  rintro e w11 ⟨rfl, b11⟩
  have hS11 : w11.cell? ⟨w9.heap.size, 0, none⟩ = some (.int .i64 5) ∧ w11.cell? ⟨w9.heap.size, 1, none⟩ = some (.int .i64 1) ∧ w11.cell? ⟨w9.heap.size, 2, none⟩ = some (.string mainS) ∧ w11.cell? ⟨w9.heap.size, 3, none⟩ = some (.int .i64 3) ∧ w11.cell? ⟨w9.heap.size, 4, none⟩ = some (.int .i64 0) ∧ Rd w11 a4 [5, 1, 4, 109, 97, 105, 110, 3, 0] := ⟨kept b11 hHeld.1, kept b11 hHeld.2.1, kept b11 hHeld.2.2.1, kept b11 hHeld.2.2.2.1, kept b11 hHeld.2.2.2.2.1, hHeld.2.2.2.2.2.below b11⟩
  have hB11 := hBW.trans (b11.mono hBW.size)
  refine ⟨_, rfl, hS11, ?_⟩
  replace hHeld := hS11
  try simp only [Act.put, List.setIfInBounds_toArray, List.set_cons_zero, List.set_cons_succ]
  refine take_op (i := 39) (d := 81) (OP := Op.binOp BinOp.eql 27 (Operand.tmp 79) (Operand.tmp 80) 27) (T := 4) (v := .bool true) rfl rfl rfl rfl (by kernel_rfl) (by kernel_rfl) (by kernel_rfl) (fun _ _ _ h => h) (by rfl) (fun w' hSw => exec_eq27 rfl rfl) hHeld ?_
  try simp only [Act.put, List.setIfInBounds_toArray, List.set_cons_zero, List.set_cons_succ]
  refine take_op (i := 40) (d := 82) (OP := Op.pick (Operand.tmp 78) (Operand.tmp 81) (Operand.const (Value.bool false))) (T := 4) (v := ?vy33x) rfl rfl rfl rfl (by kernel_rfl) (by kernel_rfl) (by kernel_rfl) (fun _ _ _ h => h) (by rfl) ?hy33x hHeld ?ry33x
  case hy33x => (intro w' hSw; (try dsimp only at hSw); go_simp <;> with_reducible rfl)
  try simp only [Act.put, List.setIfInBounds_toArray, List.set_cons_zero, List.set_cons_succ]
  refine take_op (i := 41) (d := 83) (OP := Op.move (Operand.tmp 82)) (T := 4) (v := ?vy34x) rfl rfl rfl rfl (by kernel_rfl) (by kernel_rfl) (by kernel_rfl) (fun _ _ _ h => h) (by rfl) ?hy34x hHeld ?ry34x
  case hy34x => (intro w' hSw; (try dsimp only at hSw); go_simp <;> with_reducible rfl)
  try simp only [Act.put, List.setIfInBounds_toArray, List.set_cons_zero, List.set_cons_succ]
  refine take_op (i := 42) (d := 84) (OP := Op.move (Operand.tmp 12)) (T := 30) (v := ?vy35x) rfl rfl rfl rfl (by kernel_rfl) (by kernel_rfl) (by kernel_rfl) (fun _ _ _ h => h) (by rfl) ?hy35x hHeld ?ry35x
  case hy35x => (intro w' hSw; (try dsimp only at hSw); go_simp <;> with_reducible rfl)
  try simp only [Act.put, List.setIfInBounds_toArray, List.set_cons_zero, List.set_cons_succ]
  refine call_op (i := 43) (d := 85) (OP := Op.call { callee := Callee.value (Operand.func 26), args := #[Operand.tmp 84], argTypes := #[30] }) (T := 3) (f := 26) (args := #[.int .i64 0]) rfl rfl rfl rfl (by kernel_rfl) (by rfl) (by go_simp) ?_
  refine (h26 0 _).mono ?_
  rintro e wx ⟨rfl, rfl⟩
  refine ⟨_, rfl, hHeld, ?_⟩
  replace hHeld := hHeld
  try simp only [Act.put, List.setIfInBounds_toArray, List.set_cons_zero, List.set_cons_succ]
  refine take_op (i := 44) (d := 86) (OP := Op.binOp BinOp.eql 3 (Operand.tmp 85) (Operand.const (Value.int IntKind.i64 0)) 3) (T := 4) (v := ?vy36x) rfl rfl rfl rfl (by kernel_rfl) (by kernel_rfl) (by kernel_rfl) (fun _ _ _ h => h) (by rfl) ?hy36x hHeld ?ry36x
  case hy36x => (intro w' hSw; (try dsimp only at hSw); go_simp <;> with_reducible rfl)
  try simp only [Act.put, List.setIfInBounds_toArray, List.set_cons_zero, List.set_cons_succ]
  refine take_op (i := 45) (d := 87) (OP := Op.pick (Operand.tmp 83) (Operand.tmp 86) (Operand.const (Value.bool false))) (T := 4) (v := ?vy37x) rfl rfl rfl rfl (by kernel_rfl) (by kernel_rfl) (by kernel_rfl) (fun _ _ _ h => h) (by rfl) ?hy37x hHeld ?ry37x
  case hy37x => (intro w' hSw; (try dsimp only at hSw); go_simp <;> with_reducible rfl)
  try simp only [Act.put, List.setIfInBounds_toArray, List.set_cons_zero, List.set_cons_succ]
  refine take_op (i := 46) (d := 0) (OP := Op.assign (Operand.tmp 87)) (T := 4) (v := ?vy38x) rfl rfl rfl rfl (by kernel_rfl) (by kernel_rfl) (by kernel_rfl) (fun _ _ _ h => h) (by rfl) ?hy38x hHeld ?ry38x
  case hy38x => (intro w' hSw; (try dsimp only at hSw); go_simp <;> with_reducible rfl)
  try simp only [Act.put, List.setIfInBounds_toArray, List.set_cons_zero, List.set_cons_succ]
  refine wpAnyH_done (by kernel_rfl) ?_ _
  go_wp2
  go_ret
  exact ⟨rfl, hB11⟩
end Go.Proofs.YtkjabnpniingnaaGreatDoor
