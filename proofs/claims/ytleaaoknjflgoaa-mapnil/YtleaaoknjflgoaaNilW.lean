/-
  THE EMPTY MAP, THE NODE THAT IS NONE: THE WALK OF MapNil.
-/
import Derived.Test.YtleaaoknjflgoaaKnownW
import Derived.Test.YtleaaoknjflgoaaTells
namespace Go.Proofs.Ytleaaoknjflgoaa
open Go.RowKit Go.Shelf
set_option linter.unusedSimpArgs false

theorem same_below {f : FuncId} {args : Array Value} {W : World} {v : Ending} (h : Calls Try.prog f args W fun e w' => e = v ∧ w' = W) : Calls Try.prog f args W fun e w' => e = v ∧ Below W.heap.size W w' := h.mono (fun _ _ ⟨a, b⟩ => ⟨a, by rw [b]; exact Below.refl _ _⟩)
theorem n_key (E : ByteArray) (hE : E = ⟨#[]⟩) (W : World) : Calls Try.prog 26 #[.pointer none] W fun e w' => e = .returned (.string E) ∧ Below W.heap.size W w' := by
  rw [hE]
  exact same_below (key_any .nil W trivial)
theorem n_val (W : World) : Calls Try.prog 27 #[.pointer none] W fun e w' => e = .returned (.int .i64 0) ∧ Below W.heap.size W w' := same_below (value_any .nil W trivial)
theorem n_left (W : World) : Calls Try.prog 24 #[.pointer none] W fun e w' => e = .returned (.pointer none) ∧ Below W.heap.size W w' := same_below (left_any .nil W trivial)
theorem n_right (W : World) : Calls Try.prog 25 #[.pointer none] W fun e w' => e = .returned (.pointer none) ∧ Below W.heap.size W w' := same_below (right_any .nil W trivial)
theorem n_h (W : World) : Calls Try.prog 28 #[.pointer none] W fun e w' => e = .returned (.int .i64 0) ∧ Below W.heap.size W w' := same_below (height_any .nil W trivial)
theorem n_len (W : World) : Calls Try.prog 29 #[.pointer none] W fun e w' => e = .returned (.int .i64 0) ∧ Below W.heap.size W w' := same_below (len_any .nil W trivial)
theorem n_map (W : World) : Calls Try.prog 30 #[.pointer none] W fun e w' => e = .returned (.agg #[.pointer none]) ∧ Below W.heap.size W w' := nMap_any .nil W trivial
theorem n_same (W : World) : Calls Try.prog 15 #[.agg #[.pointer none], .agg #[.pointer none]] W fun e w' => e = .returned (.bool true) ∧ Below W.heap.size W w' := mSame_any .nil .nil W trivial trivial
theorem n_root (W : World) : Calls Try.prog 23 #[.agg #[.pointer none]] W fun e w' => e = .returned (.pointer none) ∧ Below W.heap.size W w' := mRoot_any .nil W
theorem n_mlen (W : World) : Calls Try.prog 19 #[.agg #[.pointer none]] W fun e w' => e = .returned (.int .i64 0) ∧ Below W.heap.size W w' := mLen_any .nil W trivial
theorem n_sh (W : World) : Calls Try.prog 20 #[.agg #[.pointer none], .agg #[.pointer none]] W fun e w' => e = .returned (.int .i64 0) ∧ Below W.heap.size W w' := shared_any .nil .nil W trivial trivial (by simp [T.n])
theorem n_tells (W : World) : Calls Try.prog 17 #[.agg #[.pointer none], .slice none 0 0, .int .i64 0, .string ⟨#[]⟩] W fun e w' => e = .returned (.bool true) ∧ Below W.heap.size W w' := tells_any .nil _ 0 ⟨#[]⟩ W ⟨trivial, trivial, List.Pairwise.nil, by simp [T.n]⟩ (Es.nil W)
theorem n_take (W : World) : Calls Try.prog 13 #[.agg #[.pointer none], .string ⟨#[120]⟩] W fun e w' => e = .returned (.agg #[.pointer none]) ∧ Below W.heap.size W w' := by
  refine Calls.mono (mTake_any .nil kX W trivial (by simp [T.n])) ?_
  rintro e w' ⟨t', rfl, _, ht, hb⟩
  cases ht
  exact ⟨rfl, hb⟩
theorem n_split (W : World) : Calls Try.prog 16 #[.agg #[.pointer none], .string ⟨#[120]⟩] W fun e w' => e = .returned (.tuple #[.agg #[.pointer none], .int .i64 0, .bool false, .agg #[.pointer none]]) ∧ Below W.heap.size W w' := by
  refine Calls.mono (mSplit_any .nil kX W trivial (by simp [T.n])) ?_
  rintro e w' ⟨a, f, b, rfl, hs, _, _, hb⟩
  cases hs
  exact ⟨rfl, hb⟩

set_option maxHeartbeats 8000000 in
set_option maxRecDepth 100000 in
theorem nil_walk (w : World) : Calls Try.prog 6 #[] w fun e w' => e = .returned (.bool true) ∧ Below w.heap.size w w' := by
  obtain ⟨wb, hwb⟩ : ∃ wb, wb = w.alloc (.cells #[.pointer none] 26) := ⟨_, rfl⟩
  have hb : Below w.heap.size w wb := by rw [hwb]; exact (Below.refl _ w).alloc (Nat.le_refl _) _
  have c0 : wb.cell? ⟨w.heap.size, 0, none⟩ = some (.pointer none) := by rw [hwb]; exact cell_new w _ 26
  have HB := hide hb
  have HW := hide hwb
  have HC := hide c0
  clear hb hwb c0
  obtain ⟨E, hE⟩ : ∃ E : ByteArray, E = ⟨#[]⟩ := ⟨_, rfl⟩
  have hE1 : E.toList.isEmpty = true := by rw [hE, ByteArray.toList_eq]; rfl
  have HEE := hide hE
  clear hE
  have hpe : ∀ W, (binOp .eql 24 (.pointer none) (.pointer none)).run Try.prog W = .ok (.bool true) W := fun W => eql_same .nil W
  go_enter Try.func6, Try.ntmps6
  go_upto_region 4 with (go_at_call 16; rw [← HW.out]; refine (n_split _).mono ?_; rintro e w1 ⟨rfl, b1⟩; have c1 := cell_stays HC.out b1; dsimp only)
  obtain ⟨wc, hwc⟩ : ∃ wc, wc = (w1.alloc (.cells #[.pointer none] 26)).alloc (.cells #[.pointer none] 26) := ⟨_, rfl⟩
  obtain ⟨m0, m1⟩ := new2 w1 (.cells #[.pointer none] 26) (.cells #[.pointer none] 26)
  rw [← hwc] at m0 m1
  have bc : Below w1.heap.size w1 wc := by rw [hwc]; exact ((Below.refl _ w1).alloc (Nat.le_refl _) _).alloc (by simp) _
  have b2 : Below w.heap.size w wc := (HB.out.trans (b1.mono HB.out.size)).trans (bc.mono (HB.out.trans (b1.mono HB.out.size)).size)
  obtain ⟨B3, hB3⟩ : ∃ B3, B3 = w1.heap.size := ⟨_, rfl⟩
  rw [← hB3] at m0 m1
  have q0 : wc.cell? ⟨w.heap.size, 0, none⟩ = some (.pointer none) ∧ wc.cell? ⟨B3, 0, none⟩ = some (.pointer none) ∧ wc.cell? ⟨B3 + 1, 0, none⟩ = some (.pointer none) ∧ Hid (Below w.heap.size w wc) := ⟨cell_stays c1 bc, by rw [cell_of_row _ _ 0 _ 26 (0, 0) m0]; rfl, by rw [cell_of_row _ _ 0 _ 26 (0, 0) m1]; rfl, hide b2⟩
  rw [← hwc, ← hB3]
  clear hwc m0 m1 bc b2 hB3 b1 c1
  dsimp only [List.append]
  have qd : wc.drew.cell? ⟨w.heap.size, 0, none⟩ = some (.pointer none) ∧ wc.drew.cell? ⟨B3, 0, none⟩ = some (.pointer none) ∧ wc.drew.cell? ⟨B3 + 1, 0, none⟩ = some (.pointer none) ∧ Hid (Below w.heap.size w wc.drew) := ⟨q0.1, q0.2.1, q0.2.2.1, hide (q0.2.2.2.out.trans ((drew_below wc).mono q0.2.2.2.out.size))⟩
  refine wp_region_held_drew (S := (fun w' => w'.cell? ⟨w.heap.size, 0, none⟩ = some (.pointer none) ∧ w'.cell? ⟨B3, 0, none⟩ = some (.pointer none) ∧ w'.cell? ⟨B3 + 1, 0, none⟩ = some (.pointer none) ∧ Hid (Below w.heap.size w w'))) (by kernel_rfl) qd (fun hHeld => ?_)
  try dsimp only at hHeld
  refine take_op (i := 0) (d := 14) (OP := Op.move (Operand.tmp 1)) (T := 24) (v := ?vzz1) rfl rfl rfl rfl (by kernel_rfl) (by kernel_rfl) (by kernel_rfl) (fun _ _ _ h => h) (by rfl) ?hzz1 hHeld ?rzz1
  case hzz1 => (intro w' hSw; (try dsimp only at hSw); go_simp <;> with_reducible rfl)
  try simp only [Act.put, List.setIfInBounds_toArray, List.set_cons_zero, List.set_cons_succ]
  refine call_op (i := 1) (d := 15) (OP := Op.call { callee := Callee.value (Operand.func 26), args := #[Operand.tmp 14], argTypes := #[24] }) (T := 9) (f := 26) (args := #[.pointer none]) rfl rfl rfl rfl (by kernel_rfl) (by rfl) (by go_simp) ?_
  refine (n_key E HEE.out _).mono ?_
  rintro e v1 ⟨rfl, bv1⟩
  have qv1 : v1.cell? ⟨w.heap.size, 0, none⟩ = some (.pointer none) ∧ v1.cell? ⟨B3, 0, none⟩ = some (.pointer none) ∧ v1.cell? ⟨B3 + 1, 0, none⟩ = some (.pointer none) ∧ Hid (Below w.heap.size w v1) := ⟨cell_stays qd.1 bv1, cell_stays qd.2.1 bv1, cell_stays qd.2.2.1 bv1, hide (qd.2.2.2.out.trans (bv1.mono qd.2.2.2.out.size))⟩
  refine ⟨_, rfl, qv1, ?_⟩
  replace hHeld := qv1
  try simp only [Act.put, List.setIfInBounds_toArray, List.set_cons_zero, List.set_cons_succ]
  refine take_op (i := 2) (d := 16) (OP := Op.binOp BinOp.eql 9 (Operand.tmp 15) (Operand.const (Value.string { data := #[] })) 9) (T := 4) (v := ?vzz2) rfl rfl rfl rfl (by kernel_rfl) (by kernel_rfl) (by kernel_rfl) (fun _ _ _ h => h) (by rfl) ?hzz2 hHeld ?rzz2
  case hzz2 => (intro w' hSw; (try dsimp only at hSw); go_simp <;> with_reducible rfl)
  try simp only [Act.put, List.setIfInBounds_toArray, List.set_cons_zero, List.set_cons_succ]
  refine take_op (i := 3) (d := 17) (OP := Op.move (Operand.tmp 16)) (T := 4) (v := ?vzz3) rfl rfl rfl rfl (by kernel_rfl) (by kernel_rfl) (by kernel_rfl) (fun _ _ _ h => h) (by rfl) ?hzz3 hHeld ?rzz3
  case hzz3 => (intro w' hSw; (try dsimp only at hSw); go_simp <;> with_reducible rfl)
  try simp only [Act.put, List.setIfInBounds_toArray, List.set_cons_zero, List.set_cons_succ]
  refine take_op (i := 4) (d := 18) (OP := Op.move (Operand.tmp 1)) (T := 24) (v := ?vzz4) rfl rfl rfl rfl (by kernel_rfl) (by kernel_rfl) (by kernel_rfl) (fun _ _ _ h => h) (by rfl) ?hzz4 hHeld ?rzz4
  case hzz4 => (intro w' hSw; (try dsimp only at hSw); go_simp <;> with_reducible rfl)
  try simp only [Act.put, List.setIfInBounds_toArray, List.set_cons_zero, List.set_cons_succ]
  refine call_op (i := 5) (d := 19) (OP := Op.call { callee := Callee.value (Operand.func 27), args := #[Operand.tmp 18], argTypes := #[24] }) (T := 3) (f := 27) (args := #[.pointer none]) rfl rfl rfl rfl (by kernel_rfl) (by rfl) (by go_simp) ?_
  refine (n_val _).mono ?_
  rintro e v2 ⟨rfl, bv2⟩
  have qv2 : v2.cell? ⟨w.heap.size, 0, none⟩ = some (.pointer none) ∧ v2.cell? ⟨B3, 0, none⟩ = some (.pointer none) ∧ v2.cell? ⟨B3 + 1, 0, none⟩ = some (.pointer none) ∧ Hid (Below w.heap.size w v2) := ⟨cell_stays qv1.1 bv2, cell_stays qv1.2.1 bv2, cell_stays qv1.2.2.1 bv2, hide (qv1.2.2.2.out.trans (bv2.mono qv1.2.2.2.out.size))⟩
  refine ⟨_, rfl, qv2, ?_⟩
  replace hHeld := qv2
  try simp only [Act.put, List.setIfInBounds_toArray, List.set_cons_zero, List.set_cons_succ]
  refine take_op (i := 6) (d := 20) (OP := Op.binOp BinOp.eql 3 (Operand.tmp 19) (Operand.const (Value.int IntKind.i64 0)) 3) (T := 4) (v := ?vzz5) rfl rfl rfl rfl (by kernel_rfl) (by kernel_rfl) (by kernel_rfl) (fun _ _ _ h => h) (by rfl) ?hzz5 hHeld ?rzz5
  case hzz5 => (intro w' hSw; (try dsimp only at hSw); go_simp <;> with_reducible rfl)
  try simp only [Act.put, List.setIfInBounds_toArray, List.set_cons_zero, List.set_cons_succ]
  refine take_op (i := 7) (d := 21) (OP := Op.pick (Operand.tmp 17) (Operand.tmp 20) (Operand.const (Value.bool false))) (T := 4) (v := ?vzz6) rfl rfl rfl rfl (by kernel_rfl) (by kernel_rfl) (by kernel_rfl) (fun _ _ _ h => h) (by rfl) ?hzz6 hHeld ?rzz6
  case hzz6 => (intro w' hSw; (try dsimp only at hSw); go_simp <;> with_reducible rfl)
  try simp only [Act.put, List.setIfInBounds_toArray, List.set_cons_zero, List.set_cons_succ]
  refine take_op (i := 8) (d := 22) (OP := Op.move (Operand.tmp 21)) (T := 4) (v := ?vzz7) rfl rfl rfl rfl (by kernel_rfl) (by kernel_rfl) (by kernel_rfl) (fun _ _ _ h => h) (by rfl) ?hzz7 hHeld ?rzz7
  case hzz7 => (intro w' hSw; (try dsimp only at hSw); go_simp <;> with_reducible rfl)
  try simp only [Act.put, List.setIfInBounds_toArray, List.set_cons_zero, List.set_cons_succ]
  refine take_op (i := 9) (d := 23) (OP := Op.move (Operand.tmp 1)) (T := 24) (v := ?vzz8) rfl rfl rfl rfl (by kernel_rfl) (by kernel_rfl) (by kernel_rfl) (fun _ _ _ h => h) (by rfl) ?hzz8 hHeld ?rzz8
  case hzz8 => (intro w' hSw; (try dsimp only at hSw); go_simp <;> with_reducible rfl)
  try simp only [Act.put, List.setIfInBounds_toArray, List.set_cons_zero, List.set_cons_succ]
  refine call_op (i := 10) (d := 24) (OP := Op.call { callee := Callee.value (Operand.func 24), args := #[Operand.tmp 23], argTypes := #[24] }) (T := 24) (f := 24) (args := #[.pointer none]) rfl rfl rfl rfl (by kernel_rfl) (by rfl) (by go_simp) ?_
  refine (n_left _).mono ?_
  rintro e v3 ⟨rfl, bv3⟩
  have qv3 : v3.cell? ⟨w.heap.size, 0, none⟩ = some (.pointer none) ∧ v3.cell? ⟨B3, 0, none⟩ = some (.pointer none) ∧ v3.cell? ⟨B3 + 1, 0, none⟩ = some (.pointer none) ∧ Hid (Below w.heap.size w v3) := ⟨cell_stays qv2.1 bv3, cell_stays qv2.2.1 bv3, cell_stays qv2.2.2.1 bv3, hide (qv2.2.2.2.out.trans (bv3.mono qv2.2.2.2.out.size))⟩
  refine ⟨_, rfl, qv3, ?_⟩
  replace hHeld := qv3
  try simp only [Act.put, List.setIfInBounds_toArray, List.set_cons_zero, List.set_cons_succ]
  refine take_op (i := 11) (d := 25) (OP := Op.binOp BinOp.eql 24 (Operand.tmp 24) (Operand.const (Value.pointer none)) 24) (T := 4) (v := ?vzz9) rfl rfl rfl rfl (by kernel_rfl) (by kernel_rfl) (by kernel_rfl) (fun _ _ _ h => h) (by rfl) ?hzz9 hHeld ?rzz9
  case hzz9 => (intro w' hSw; (try dsimp only at hSw); go_simp <;> with_reducible rfl)
  try simp only [Act.put, List.setIfInBounds_toArray, List.set_cons_zero, List.set_cons_succ]
  refine take_op (i := 12) (d := 26) (OP := Op.pick (Operand.tmp 22) (Operand.tmp 25) (Operand.const (Value.bool false))) (T := 4) (v := ?vzz10) rfl rfl rfl rfl (by kernel_rfl) (by kernel_rfl) (by kernel_rfl) (fun _ _ _ h => h) (by rfl) ?hzz10 hHeld ?rzz10
  case hzz10 => (intro w' hSw; (try dsimp only at hSw); go_simp <;> with_reducible rfl)
  try simp only [Act.put, List.setIfInBounds_toArray, List.set_cons_zero, List.set_cons_succ]
  refine take_op (i := 13) (d := 27) (OP := Op.move (Operand.tmp 26)) (T := 4) (v := ?vzz11) rfl rfl rfl rfl (by kernel_rfl) (by kernel_rfl) (by kernel_rfl) (fun _ _ _ h => h) (by rfl) ?hzz11 hHeld ?rzz11
  case hzz11 => (intro w' hSw; (try dsimp only at hSw); go_simp <;> with_reducible rfl)
  try simp only [Act.put, List.setIfInBounds_toArray, List.set_cons_zero, List.set_cons_succ]
  refine take_op (i := 14) (d := 28) (OP := Op.move (Operand.tmp 1)) (T := 24) (v := ?vzz12) rfl rfl rfl rfl (by kernel_rfl) (by kernel_rfl) (by kernel_rfl) (fun _ _ _ h => h) (by rfl) ?hzz12 hHeld ?rzz12
  case hzz12 => (intro w' hSw; (try dsimp only at hSw); go_simp <;> with_reducible rfl)
  try simp only [Act.put, List.setIfInBounds_toArray, List.set_cons_zero, List.set_cons_succ]
  refine call_op (i := 15) (d := 29) (OP := Op.call { callee := Callee.value (Operand.func 25), args := #[Operand.tmp 28], argTypes := #[24] }) (T := 24) (f := 25) (args := #[.pointer none]) rfl rfl rfl rfl (by kernel_rfl) (by rfl) (by go_simp) ?_
  refine (n_right _).mono ?_
  rintro e v4 ⟨rfl, bv4⟩
  have qv4 : v4.cell? ⟨w.heap.size, 0, none⟩ = some (.pointer none) ∧ v4.cell? ⟨B3, 0, none⟩ = some (.pointer none) ∧ v4.cell? ⟨B3 + 1, 0, none⟩ = some (.pointer none) ∧ Hid (Below w.heap.size w v4) := ⟨cell_stays qv3.1 bv4, cell_stays qv3.2.1 bv4, cell_stays qv3.2.2.1 bv4, hide (qv3.2.2.2.out.trans (bv4.mono qv3.2.2.2.out.size))⟩
  refine ⟨_, rfl, qv4, ?_⟩
  replace hHeld := qv4
  try simp only [Act.put, List.setIfInBounds_toArray, List.set_cons_zero, List.set_cons_succ]
  refine take_op (i := 16) (d := 30) (OP := Op.binOp BinOp.eql 24 (Operand.tmp 29) (Operand.const (Value.pointer none)) 24) (T := 4) (v := ?vzz13) rfl rfl rfl rfl (by kernel_rfl) (by kernel_rfl) (by kernel_rfl) (fun _ _ _ h => h) (by rfl) ?hzz13 hHeld ?rzz13
  case hzz13 => (intro w' hSw; (try dsimp only at hSw); go_simp <;> with_reducible rfl)
  try simp only [Act.put, List.setIfInBounds_toArray, List.set_cons_zero, List.set_cons_succ]
  refine take_op (i := 17) (d := 31) (OP := Op.pick (Operand.tmp 27) (Operand.tmp 30) (Operand.const (Value.bool false))) (T := 4) (v := ?vzz14) rfl rfl rfl rfl (by kernel_rfl) (by kernel_rfl) (by kernel_rfl) (fun _ _ _ h => h) (by rfl) ?hzz14 hHeld ?rzz14
  case hzz14 => (intro w' hSw; (try dsimp only at hSw); go_simp <;> with_reducible rfl)
  try simp only [Act.put, List.setIfInBounds_toArray, List.set_cons_zero, List.set_cons_succ]
  refine take_op (i := 18) (d := 32) (OP := Op.move (Operand.tmp 31)) (T := 4) (v := ?vzz15) rfl rfl rfl rfl (by kernel_rfl) (by kernel_rfl) (by kernel_rfl) (fun _ _ _ h => h) (by rfl) ?hzz15 hHeld ?rzz15
  case hzz15 => (intro w' hSw; (try dsimp only at hSw); go_simp <;> with_reducible rfl)
  try simp only [Act.put, List.setIfInBounds_toArray, List.set_cons_zero, List.set_cons_succ]
  refine take_op (i := 19) (d := 33) (OP := Op.move (Operand.tmp 1)) (T := 24) (v := ?vzz16) rfl rfl rfl rfl (by kernel_rfl) (by kernel_rfl) (by kernel_rfl) (fun _ _ _ h => h) (by rfl) ?hzz16 hHeld ?rzz16
  case hzz16 => (intro w' hSw; (try dsimp only at hSw); go_simp <;> with_reducible rfl)
  try simp only [Act.put, List.setIfInBounds_toArray, List.set_cons_zero, List.set_cons_succ]
  refine call_op (i := 20) (d := 34) (OP := Op.call { callee := Callee.value (Operand.func 28), args := #[Operand.tmp 33], argTypes := #[24] }) (T := 3) (f := 28) (args := #[.pointer none]) rfl rfl rfl rfl (by kernel_rfl) (by rfl) (by go_simp) ?_
  refine (n_h _).mono ?_
  rintro e v5 ⟨rfl, bv5⟩
  have qv5 : v5.cell? ⟨w.heap.size, 0, none⟩ = some (.pointer none) ∧ v5.cell? ⟨B3, 0, none⟩ = some (.pointer none) ∧ v5.cell? ⟨B3 + 1, 0, none⟩ = some (.pointer none) ∧ Hid (Below w.heap.size w v5) := ⟨cell_stays qv4.1 bv5, cell_stays qv4.2.1 bv5, cell_stays qv4.2.2.1 bv5, hide (qv4.2.2.2.out.trans (bv5.mono qv4.2.2.2.out.size))⟩
  refine ⟨_, rfl, qv5, ?_⟩
  replace hHeld := qv5
  try simp only [Act.put, List.setIfInBounds_toArray, List.set_cons_zero, List.set_cons_succ]
  refine take_op (i := 21) (d := 35) (OP := Op.binOp BinOp.eql 3 (Operand.tmp 34) (Operand.const (Value.int IntKind.i64 0)) 3) (T := 4) (v := ?vzz17) rfl rfl rfl rfl (by kernel_rfl) (by kernel_rfl) (by kernel_rfl) (fun _ _ _ h => h) (by rfl) ?hzz17 hHeld ?rzz17
  case hzz17 => (intro w' hSw; (try dsimp only at hSw); go_simp <;> with_reducible rfl)
  try simp only [Act.put, List.setIfInBounds_toArray, List.set_cons_zero, List.set_cons_succ]
  refine take_op (i := 22) (d := 36) (OP := Op.pick (Operand.tmp 32) (Operand.tmp 35) (Operand.const (Value.bool false))) (T := 4) (v := ?vzz18) rfl rfl rfl rfl (by kernel_rfl) (by kernel_rfl) (by kernel_rfl) (fun _ _ _ h => h) (by rfl) ?hzz18 hHeld ?rzz18
  case hzz18 => (intro w' hSw; (try dsimp only at hSw); go_simp <;> with_reducible rfl)
  try simp only [Act.put, List.setIfInBounds_toArray, List.set_cons_zero, List.set_cons_succ]
  refine take_op (i := 23) (d := 37) (OP := Op.move (Operand.tmp 36)) (T := 4) (v := ?vzz19) rfl rfl rfl rfl (by kernel_rfl) (by kernel_rfl) (by kernel_rfl) (fun _ _ _ h => h) (by rfl) ?hzz19 hHeld ?rzz19
  case hzz19 => (intro w' hSw; (try dsimp only at hSw); go_simp <;> with_reducible rfl)
  try simp only [Act.put, List.setIfInBounds_toArray, List.set_cons_zero, List.set_cons_succ]
  refine take_op (i := 24) (d := 38) (OP := Op.move (Operand.tmp 1)) (T := 24) (v := ?vzz20) rfl rfl rfl rfl (by kernel_rfl) (by kernel_rfl) (by kernel_rfl) (fun _ _ _ h => h) (by rfl) ?hzz20 hHeld ?rzz20
  case hzz20 => (intro w' hSw; (try dsimp only at hSw); go_simp <;> with_reducible rfl)
  try simp only [Act.put, List.setIfInBounds_toArray, List.set_cons_zero, List.set_cons_succ]
  refine call_op (i := 25) (d := 39) (OP := Op.call { callee := Callee.value (Operand.func 29), args := #[Operand.tmp 38], argTypes := #[24] }) (T := 3) (f := 29) (args := #[.pointer none]) rfl rfl rfl rfl (by kernel_rfl) (by rfl) (by go_simp) ?_
  refine (n_len _).mono ?_
  rintro e v6 ⟨rfl, bv6⟩
  have qv6 : v6.cell? ⟨w.heap.size, 0, none⟩ = some (.pointer none) ∧ v6.cell? ⟨B3, 0, none⟩ = some (.pointer none) ∧ v6.cell? ⟨B3 + 1, 0, none⟩ = some (.pointer none) ∧ Hid (Below w.heap.size w v6) := ⟨cell_stays qv5.1 bv6, cell_stays qv5.2.1 bv6, cell_stays qv5.2.2.1 bv6, hide (qv5.2.2.2.out.trans (bv6.mono qv5.2.2.2.out.size))⟩
  refine ⟨_, rfl, qv6, ?_⟩
  replace hHeld := qv6
  try simp only [Act.put, List.setIfInBounds_toArray, List.set_cons_zero, List.set_cons_succ]
  refine take_op (i := 26) (d := 40) (OP := Op.binOp BinOp.eql 3 (Operand.tmp 39) (Operand.const (Value.int IntKind.i64 0)) 3) (T := 4) (v := ?vzz21) rfl rfl rfl rfl (by kernel_rfl) (by kernel_rfl) (by kernel_rfl) (fun _ _ _ h => h) (by rfl) ?hzz21 hHeld ?rzz21
  case hzz21 => (intro w' hSw; (try dsimp only at hSw); go_simp <;> with_reducible rfl)
  try simp only [Act.put, List.setIfInBounds_toArray, List.set_cons_zero, List.set_cons_succ]
  refine take_op (i := 27) (d := 41) (OP := Op.pick (Operand.tmp 37) (Operand.tmp 40) (Operand.const (Value.bool false))) (T := 4) (v := ?vzz22) rfl rfl rfl rfl (by kernel_rfl) (by kernel_rfl) (by kernel_rfl) (fun _ _ _ h => h) (by rfl) ?hzz22 hHeld ?rzz22
  case hzz22 => (intro w' hSw; (try dsimp only at hSw); go_simp <;> with_reducible rfl)
  try simp only [Act.put, List.setIfInBounds_toArray, List.set_cons_zero, List.set_cons_succ]
  refine take_op (i := 28) (d := 42) (OP := Op.move (Operand.tmp 41)) (T := 4) (v := ?vzz23) rfl rfl rfl rfl (by kernel_rfl) (by kernel_rfl) (by kernel_rfl) (fun _ _ _ h => h) (by rfl) ?hzz23 hHeld ?rzz23
  case hzz23 => (intro w' hSw; (try dsimp only at hSw); go_simp <;> with_reducible rfl)
  try simp only [Act.put, List.setIfInBounds_toArray, List.set_cons_zero, List.set_cons_succ]
  refine take_op (i := 29) (d := 43) (OP := Op.move (Operand.tmp 1)) (T := 24) (v := ?vzz24) rfl rfl rfl rfl (by kernel_rfl) (by kernel_rfl) (by kernel_rfl) (fun _ _ _ h => h) (by rfl) ?hzz24 hHeld ?rzz24
  case hzz24 => (intro w' hSw; (try dsimp only at hSw); go_simp <;> with_reducible rfl)
  try simp only [Act.put, List.setIfInBounds_toArray, List.set_cons_zero, List.set_cons_succ]
  refine take_op (i := 31) (d := 45) (OP := Op.load 26 (Operand.tmp 2)) (T := 26) (v := ?vzz25) rfl rfl rfl rfl (by kernel_rfl) (by kernel_rfl) (by kernel_rfl) (fun _ _ _ h => h) (by rfl) ?hzz25 hHeld ?rzz25
  case hzz25 => (intro w' hSw; (try dsimp only at hSw); go_simp <;> with_reducible rfl)
  try simp only [Act.put, List.setIfInBounds_toArray, List.set_cons_zero, List.set_cons_succ]
  refine call_op (i := 30) (d := 44) (OP := Op.call { callee := Callee.value (Operand.func 30), args := #[Operand.tmp 43], argTypes := #[24] }) (T := 26) (f := 30) (args := #[.pointer none]) rfl rfl rfl rfl (by kernel_rfl) (by rfl) (by go_simp) ?_
  refine (n_map _).mono ?_
  rintro e v7 ⟨rfl, bv7⟩
  have qv7 : v7.cell? ⟨w.heap.size, 0, none⟩ = some (.pointer none) ∧ v7.cell? ⟨B3, 0, none⟩ = some (.pointer none) ∧ v7.cell? ⟨B3 + 1, 0, none⟩ = some (.pointer none) ∧ Hid (Below w.heap.size w v7) := ⟨cell_stays qv6.1 bv7, cell_stays qv6.2.1 bv7, cell_stays qv6.2.2.1 bv7, hide (qv6.2.2.2.out.trans (bv7.mono qv6.2.2.2.out.size))⟩
  refine ⟨_, rfl, qv7, ?_⟩
  replace hHeld := qv7
  try simp only [Act.put, List.setIfInBounds_toArray, List.set_cons_zero, List.set_cons_succ]
  refine call_op (i := 32) (d := 46) (OP := Op.call { callee := Callee.value (Operand.func 15), args := #[Operand.tmp 44, Operand.tmp 45], argTypes := #[26, 26] }) (T := 4) (f := 15) (args := #[.agg #[.pointer none], .agg #[.pointer none]]) rfl rfl rfl rfl (by kernel_rfl) (by rfl) (by go_simp) ?_
  refine (n_same _).mono ?_
  rintro e v8 ⟨rfl, bv8⟩
  have qv8 : v8.cell? ⟨w.heap.size, 0, none⟩ = some (.pointer none) ∧ v8.cell? ⟨B3, 0, none⟩ = some (.pointer none) ∧ v8.cell? ⟨B3 + 1, 0, none⟩ = some (.pointer none) ∧ Hid (Below w.heap.size w v8) := ⟨cell_stays qv7.1 bv8, cell_stays qv7.2.1 bv8, cell_stays qv7.2.2.1 bv8, hide (qv7.2.2.2.out.trans (bv8.mono qv7.2.2.2.out.size))⟩
  refine ⟨_, rfl, qv8, ?_⟩
  replace hHeld := qv8
  try simp only [Act.put, List.setIfInBounds_toArray, List.set_cons_zero, List.set_cons_succ]
  refine take_op (i := 33) (d := 47) (OP := Op.pick (Operand.tmp 42) (Operand.tmp 46) (Operand.const (Value.bool false))) (T := 4) (v := ?vzz26) rfl rfl rfl rfl (by kernel_rfl) (by kernel_rfl) (by kernel_rfl) (fun _ _ _ h => h) (by rfl) ?hzz26 hHeld ?rzz26
  case hzz26 => (intro w' hSw; (try dsimp only at hSw); go_simp <;> with_reducible rfl)
  try simp only [Act.put, List.setIfInBounds_toArray, List.set_cons_zero, List.set_cons_succ]
  refine take_op (i := 34) (d := 48) (OP := Op.move (Operand.tmp 47)) (T := 4) (v := ?vzz27) rfl rfl rfl rfl (by kernel_rfl) (by kernel_rfl) (by kernel_rfl) (fun _ _ _ h => h) (by rfl) ?hzz27 hHeld ?rzz27
  case hzz27 => (intro w' hSw; (try dsimp only at hSw); go_simp <;> with_reducible rfl)
  try simp only [Act.put, List.setIfInBounds_toArray, List.set_cons_zero, List.set_cons_succ]
  refine take_op (i := 35) (d := 49) (OP := Op.load 26 (Operand.tmp 2)) (T := 26) (v := ?vzz28) rfl rfl rfl rfl (by kernel_rfl) (by kernel_rfl) (by kernel_rfl) (fun _ _ _ h => h) (by rfl) ?hzz28 hHeld ?rzz28
  case hzz28 => (intro w' hSw; (try dsimp only at hSw); go_simp <;> with_reducible rfl)
  try simp only [Act.put, List.setIfInBounds_toArray, List.set_cons_zero, List.set_cons_succ]
  refine call_op (i := 36) (d := 50) (OP := Op.call { callee := Callee.value (Operand.func 23), args := #[Operand.tmp 49], argTypes := #[26] }) (T := 24) (f := 23) (args := #[.agg #[.pointer none]]) rfl rfl rfl rfl (by kernel_rfl) (by rfl) (by go_simp) ?_
  refine (n_root _).mono ?_
  rintro e v9 ⟨rfl, bv9⟩
  have qv9 : v9.cell? ⟨w.heap.size, 0, none⟩ = some (.pointer none) ∧ v9.cell? ⟨B3, 0, none⟩ = some (.pointer none) ∧ v9.cell? ⟨B3 + 1, 0, none⟩ = some (.pointer none) ∧ Hid (Below w.heap.size w v9) := ⟨cell_stays qv8.1 bv9, cell_stays qv8.2.1 bv9, cell_stays qv8.2.2.1 bv9, hide (qv8.2.2.2.out.trans (bv9.mono qv8.2.2.2.out.size))⟩
  refine ⟨_, rfl, qv9, ?_⟩
  replace hHeld := qv9
  try simp only [Act.put, List.setIfInBounds_toArray, List.set_cons_zero, List.set_cons_succ]
  refine take_op (i := 37) (d := 51) (OP := Op.binOp BinOp.eql 24 (Operand.tmp 50) (Operand.const (Value.pointer none)) 24) (T := 4) (v := ?vzz29) rfl rfl rfl rfl (by kernel_rfl) (by kernel_rfl) (by kernel_rfl) (fun _ _ _ h => h) (by rfl) ?hzz29 hHeld ?rzz29
  case hzz29 => (intro w' hSw; (try dsimp only at hSw); go_simp <;> with_reducible rfl)
  try simp only [Act.put, List.setIfInBounds_toArray, List.set_cons_zero, List.set_cons_succ]
  refine take_op (i := 38) (d := 52) (OP := Op.pick (Operand.tmp 48) (Operand.tmp 51) (Operand.const (Value.bool false))) (T := 4) (v := ?vzz30) rfl rfl rfl rfl (by kernel_rfl) (by kernel_rfl) (by kernel_rfl) (fun _ _ _ h => h) (by rfl) ?hzz30 hHeld ?rzz30
  case hzz30 => (intro w' hSw; (try dsimp only at hSw); go_simp <;> with_reducible rfl)
  try simp only [Act.put, List.setIfInBounds_toArray, List.set_cons_zero, List.set_cons_succ]
  refine take_op (i := 39) (d := 53) (OP := Op.move (Operand.tmp 52)) (T := 4) (v := ?vzz31) rfl rfl rfl rfl (by kernel_rfl) (by kernel_rfl) (by kernel_rfl) (fun _ _ _ h => h) (by rfl) ?hzz31 hHeld ?rzz31
  case hzz31 => (intro w' hSw; (try dsimp only at hSw); go_simp <;> with_reducible rfl)
  try simp only [Act.put, List.setIfInBounds_toArray, List.set_cons_zero, List.set_cons_succ]
  refine take_op (i := 40) (d := 54) (OP := Op.load 26 (Operand.tmp 2)) (T := 26) (v := ?vzz32) rfl rfl rfl rfl (by kernel_rfl) (by kernel_rfl) (by kernel_rfl) (fun _ _ _ h => h) (by rfl) ?hzz32 hHeld ?rzz32
  case hzz32 => (intro w' hSw; (try dsimp only at hSw); go_simp <;> with_reducible rfl)
  try simp only [Act.put, List.setIfInBounds_toArray, List.set_cons_zero, List.set_cons_succ]
  refine take_op (i := 42) (d := 56) (OP := Op.load 26 (Operand.tmp 2)) (T := 26) (v := ?vzz33) rfl rfl rfl rfl (by kernel_rfl) (by kernel_rfl) (by kernel_rfl) (fun _ _ _ h => h) (by rfl) ?hzz33 hHeld ?rzz33
  case hzz33 => (intro w' hSw; (try dsimp only at hSw); go_simp <;> with_reducible rfl)
  try simp only [Act.put, List.setIfInBounds_toArray, List.set_cons_zero, List.set_cons_succ]
  refine call_op (i := 41) (d := 55) (OP := Op.call { callee := Callee.value (Operand.func 13), args := #[Operand.tmp 54, Operand.const (Value.string { data := #[120] })], argTypes := #[26, 9] }) (T := 26) (f := 13) (args := #[.agg #[.pointer none], .string ⟨#[120]⟩]) rfl rfl rfl rfl (by kernel_rfl) (by rfl) (by go_simp) ?_
  refine (n_take _).mono ?_
  rintro e v10 ⟨rfl, bv10⟩
  have qv10 : v10.cell? ⟨w.heap.size, 0, none⟩ = some (.pointer none) ∧ v10.cell? ⟨B3, 0, none⟩ = some (.pointer none) ∧ v10.cell? ⟨B3 + 1, 0, none⟩ = some (.pointer none) ∧ Hid (Below w.heap.size w v10) := ⟨cell_stays qv9.1 bv10, cell_stays qv9.2.1 bv10, cell_stays qv9.2.2.1 bv10, hide (qv9.2.2.2.out.trans (bv10.mono qv9.2.2.2.out.size))⟩
  refine ⟨_, rfl, qv10, ?_⟩
  replace hHeld := qv10
  try simp only [Act.put, List.setIfInBounds_toArray, List.set_cons_zero, List.set_cons_succ]
  refine call_op (i := 43) (d := 57) (OP := Op.call { callee := Callee.value (Operand.func 15), args := #[Operand.tmp 55, Operand.tmp 56], argTypes := #[26, 26] }) (T := 4) (f := 15) (args := #[.agg #[.pointer none], .agg #[.pointer none]]) rfl rfl rfl rfl (by kernel_rfl) (by rfl) (by go_simp) ?_
  refine (n_same _).mono ?_
  rintro e v11 ⟨rfl, bv11⟩
  have qv11 : v11.cell? ⟨w.heap.size, 0, none⟩ = some (.pointer none) ∧ v11.cell? ⟨B3, 0, none⟩ = some (.pointer none) ∧ v11.cell? ⟨B3 + 1, 0, none⟩ = some (.pointer none) ∧ Hid (Below w.heap.size w v11) := ⟨cell_stays qv10.1 bv11, cell_stays qv10.2.1 bv11, cell_stays qv10.2.2.1 bv11, hide (qv10.2.2.2.out.trans (bv11.mono qv10.2.2.2.out.size))⟩
  refine ⟨_, rfl, qv11, ?_⟩
  replace hHeld := qv11
  try simp only [Act.put, List.setIfInBounds_toArray, List.set_cons_zero, List.set_cons_succ]
  refine take_op (i := 44) (d := 58) (OP := Op.pick (Operand.tmp 53) (Operand.tmp 57) (Operand.const (Value.bool false))) (T := 4) (v := ?vzz34) rfl rfl rfl rfl (by kernel_rfl) (by kernel_rfl) (by kernel_rfl) (fun _ _ _ h => h) (by rfl) ?hzz34 hHeld ?rzz34
  case hzz34 => (intro w' hSw; (try dsimp only at hSw); go_simp <;> with_reducible rfl)
  try simp only [Act.put, List.setIfInBounds_toArray, List.set_cons_zero, List.set_cons_succ]
  refine take_op (i := 45) (d := 59) (OP := Op.move (Operand.tmp 58)) (T := 4) (v := ?vzz35) rfl rfl rfl rfl (by kernel_rfl) (by kernel_rfl) (by kernel_rfl) (fun _ _ _ h => h) (by rfl) ?hzz35 hHeld ?rzz35
  case hzz35 => (intro w' hSw; (try dsimp only at hSw); go_simp <;> with_reducible rfl)
  try simp only [Act.put, List.setIfInBounds_toArray, List.set_cons_zero, List.set_cons_succ]
  refine take_op (i := 46) (d := 60) (OP := Op.load 26 (Operand.tmp 3)) (T := 26) (v := ?vzz36) rfl rfl rfl rfl (by kernel_rfl) (by kernel_rfl) (by kernel_rfl) (fun _ _ _ h => h) (by rfl) ?hzz36 hHeld ?rzz36
  case hzz36 => (intro w' hSw; (try dsimp only at hSw); go_simp <;> with_reducible rfl)
  try simp only [Act.put, List.setIfInBounds_toArray, List.set_cons_zero, List.set_cons_succ]
  refine call_op (i := 47) (d := 61) (OP := Op.call { callee := Callee.value (Operand.func 19), args := #[Operand.tmp 60], argTypes := #[26] }) (T := 3) (f := 19) (args := #[.agg #[.pointer none]]) rfl rfl rfl rfl (by kernel_rfl) (by rfl) (by go_simp) ?_
  refine (n_mlen _).mono ?_
  rintro e v12 ⟨rfl, bv12⟩
  have qv12 : v12.cell? ⟨w.heap.size, 0, none⟩ = some (.pointer none) ∧ v12.cell? ⟨B3, 0, none⟩ = some (.pointer none) ∧ v12.cell? ⟨B3 + 1, 0, none⟩ = some (.pointer none) ∧ Hid (Below w.heap.size w v12) := ⟨cell_stays qv11.1 bv12, cell_stays qv11.2.1 bv12, cell_stays qv11.2.2.1 bv12, hide (qv11.2.2.2.out.trans (bv12.mono qv11.2.2.2.out.size))⟩
  refine ⟨_, rfl, qv12, ?_⟩
  replace hHeld := qv12
  try simp only [Act.put, List.setIfInBounds_toArray, List.set_cons_zero, List.set_cons_succ]
  refine take_op (i := 48) (d := 62) (OP := Op.binOp BinOp.eql 3 (Operand.tmp 61) (Operand.const (Value.int IntKind.i64 0)) 3) (T := 4) (v := ?vzz37) rfl rfl rfl rfl (by kernel_rfl) (by kernel_rfl) (by kernel_rfl) (fun _ _ _ h => h) (by rfl) ?hzz37 hHeld ?rzz37
  case hzz37 => (intro w' hSw; (try dsimp only at hSw); go_simp <;> with_reducible rfl)
  try simp only [Act.put, List.setIfInBounds_toArray, List.set_cons_zero, List.set_cons_succ]
  refine take_op (i := 49) (d := 63) (OP := Op.pick (Operand.tmp 59) (Operand.tmp 62) (Operand.const (Value.bool false))) (T := 4) (v := ?vzz38) rfl rfl rfl rfl (by kernel_rfl) (by kernel_rfl) (by kernel_rfl) (fun _ _ _ h => h) (by rfl) ?hzz38 hHeld ?rzz38
  case hzz38 => (intro w' hSw; (try dsimp only at hSw); go_simp <;> with_reducible rfl)
  try simp only [Act.put, List.setIfInBounds_toArray, List.set_cons_zero, List.set_cons_succ]
  refine take_op (i := 50) (d := 64) (OP := Op.move (Operand.tmp 63)) (T := 4) (v := ?vzz39) rfl rfl rfl rfl (by kernel_rfl) (by kernel_rfl) (by kernel_rfl) (fun _ _ _ h => h) (by rfl) ?hzz39 hHeld ?rzz39
  case hzz39 => (intro w' hSw; (try dsimp only at hSw); go_simp <;> with_reducible rfl)
  try simp only [Act.put, List.setIfInBounds_toArray, List.set_cons_zero, List.set_cons_succ]
  refine take_op (i := 51) (d := 65) (OP := Op.load 26 (Operand.tmp 6)) (T := 26) (v := ?vzz40) rfl rfl rfl rfl (by kernel_rfl) (by kernel_rfl) (by kernel_rfl) (fun _ _ _ h => h) (by rfl) ?hzz40 hHeld ?rzz40
  case hzz40 => (intro w' hSw; (try dsimp only at hSw); go_simp <;> with_reducible rfl)
  try simp only [Act.put, List.setIfInBounds_toArray, List.set_cons_zero, List.set_cons_succ]
  refine call_op (i := 52) (d := 66) (OP := Op.call { callee := Callee.value (Operand.func 19), args := #[Operand.tmp 65], argTypes := #[26] }) (T := 3) (f := 19) (args := #[.agg #[.pointer none]]) rfl rfl rfl rfl (by kernel_rfl) (by rfl) (by go_simp) ?_
  refine (n_mlen _).mono ?_
  rintro e v13 ⟨rfl, bv13⟩
  have qv13 : v13.cell? ⟨w.heap.size, 0, none⟩ = some (.pointer none) ∧ v13.cell? ⟨B3, 0, none⟩ = some (.pointer none) ∧ v13.cell? ⟨B3 + 1, 0, none⟩ = some (.pointer none) ∧ Hid (Below w.heap.size w v13) := ⟨cell_stays qv12.1 bv13, cell_stays qv12.2.1 bv13, cell_stays qv12.2.2.1 bv13, hide (qv12.2.2.2.out.trans (bv13.mono qv12.2.2.2.out.size))⟩
  refine ⟨_, rfl, qv13, ?_⟩
  replace hHeld := qv13
  try simp only [Act.put, List.setIfInBounds_toArray, List.set_cons_zero, List.set_cons_succ]
  refine take_op (i := 53) (d := 67) (OP := Op.binOp BinOp.eql 3 (Operand.tmp 66) (Operand.const (Value.int IntKind.i64 0)) 3) (T := 4) (v := ?vzz41) rfl rfl rfl rfl (by kernel_rfl) (by kernel_rfl) (by kernel_rfl) (fun _ _ _ h => h) (by rfl) ?hzz41 hHeld ?rzz41
  case hzz41 => (intro w' hSw; (try dsimp only at hSw); go_simp <;> with_reducible rfl)
  try simp only [Act.put, List.setIfInBounds_toArray, List.set_cons_zero, List.set_cons_succ]
  refine take_op (i := 54) (d := 68) (OP := Op.pick (Operand.tmp 64) (Operand.tmp 67) (Operand.const (Value.bool false))) (T := 4) (v := ?vzz42) rfl rfl rfl rfl (by kernel_rfl) (by kernel_rfl) (by kernel_rfl) (fun _ _ _ h => h) (by rfl) ?hzz42 hHeld ?rzz42
  case hzz42 => (intro w' hSw; (try dsimp only at hSw); go_simp <;> with_reducible rfl)
  try simp only [Act.put, List.setIfInBounds_toArray, List.set_cons_zero, List.set_cons_succ]
  refine take_op (i := 55) (d := 69) (OP := Op.move (Operand.tmp 68)) (T := 4) (v := ?vzz43) rfl rfl rfl rfl (by kernel_rfl) (by kernel_rfl) (by kernel_rfl) (fun _ _ _ h => h) (by rfl) ?hzz43 hHeld ?rzz43
  case hzz43 => (intro w' hSw; (try dsimp only at hSw); go_simp <;> with_reducible rfl)
  try simp only [Act.put, List.setIfInBounds_toArray, List.set_cons_zero, List.set_cons_succ]
  refine take_op (i := 56) (d := 70) (OP := Op.move (Operand.tmp 4)) (T := 3) (v := ?vzz44) rfl rfl rfl rfl (by kernel_rfl) (by kernel_rfl) (by kernel_rfl) (fun _ _ _ h => h) (by rfl) ?hzz44 hHeld ?rzz44
  case hzz44 => (intro w' hSw; (try dsimp only at hSw); go_simp <;> with_reducible rfl)
  try simp only [Act.put, List.setIfInBounds_toArray, List.set_cons_zero, List.set_cons_succ]
  refine take_op (i := 57) (d := 71) (OP := Op.binOp BinOp.eql 3 (Operand.tmp 70) (Operand.const (Value.int IntKind.i64 0)) 3) (T := 4) (v := ?vzz45) rfl rfl rfl rfl (by kernel_rfl) (by kernel_rfl) (by kernel_rfl) (fun _ _ _ h => h) (by rfl) ?hzz45 hHeld ?rzz45
  case hzz45 => (intro w' hSw; (try dsimp only at hSw); go_simp <;> with_reducible rfl)
  try simp only [Act.put, List.setIfInBounds_toArray, List.set_cons_zero, List.set_cons_succ]
  refine take_op (i := 58) (d := 72) (OP := Op.pick (Operand.tmp 69) (Operand.tmp 71) (Operand.const (Value.bool false))) (T := 4) (v := ?vzz46) rfl rfl rfl rfl (by kernel_rfl) (by kernel_rfl) (by kernel_rfl) (fun _ _ _ h => h) (by rfl) ?hzz46 hHeld ?rzz46
  case hzz46 => (intro w' hSw; (try dsimp only at hSw); go_simp <;> with_reducible rfl)
  try simp only [Act.put, List.setIfInBounds_toArray, List.set_cons_zero, List.set_cons_succ]
  refine take_op (i := 59) (d := 73) (OP := Op.move (Operand.tmp 72)) (T := 4) (v := ?vzz47) rfl rfl rfl rfl (by kernel_rfl) (by kernel_rfl) (by kernel_rfl) (fun _ _ _ h => h) (by rfl) ?hzz47 hHeld ?rzz47
  case hzz47 => (intro w' hSw; (try dsimp only at hSw); go_simp <;> with_reducible rfl)
  try simp only [Act.put, List.setIfInBounds_toArray, List.set_cons_zero, List.set_cons_succ]
  refine take_op (i := 60) (d := 74) (OP := Op.move (Operand.tmp 5)) (T := 4) (v := ?vzz48) rfl rfl rfl rfl (by kernel_rfl) (by kernel_rfl) (by kernel_rfl) (fun _ _ _ h => h) (by rfl) ?hzz48 hHeld ?rzz48
  case hzz48 => (intro w' hSw; (try dsimp only at hSw); go_simp <;> with_reducible rfl)
  try simp only [Act.put, List.setIfInBounds_toArray, List.set_cons_zero, List.set_cons_succ]
  refine take_op (i := 61) (d := 75) (OP := Op.unOp UnOp.not 4 (Operand.tmp 74)) (T := 4) (v := ?vzz49) rfl rfl rfl rfl (by kernel_rfl) (by kernel_rfl) (by kernel_rfl) (fun _ _ _ h => h) (by rfl) ?hzz49 hHeld ?rzz49
  case hzz49 => (intro w' hSw; (try dsimp only at hSw); go_simp <;> with_reducible rfl)
  try simp only [Act.put, List.setIfInBounds_toArray, List.set_cons_zero, List.set_cons_succ]
  refine take_op (i := 62) (d := 76) (OP := Op.pick (Operand.tmp 73) (Operand.tmp 75) (Operand.const (Value.bool false))) (T := 4) (v := ?vzz50) rfl rfl rfl rfl (by kernel_rfl) (by kernel_rfl) (by kernel_rfl) (fun _ _ _ h => h) (by rfl) ?hzz50 hHeld ?rzz50
  case hzz50 => (intro w' hSw; (try dsimp only at hSw); go_simp <;> with_reducible rfl)
  try simp only [Act.put, List.setIfInBounds_toArray, List.set_cons_zero, List.set_cons_succ]
  refine take_op (i := 63) (d := 77) (OP := Op.move (Operand.tmp 76)) (T := 4) (v := ?vzz51) rfl rfl rfl rfl (by kernel_rfl) (by kernel_rfl) (by kernel_rfl) (fun _ _ _ h => h) (by rfl) ?hzz51 hHeld ?rzz51
  case hzz51 => (intro w' hSw; (try dsimp only at hSw); go_simp <;> with_reducible rfl)
  try simp only [Act.put, List.setIfInBounds_toArray, List.set_cons_zero, List.set_cons_succ]
  refine take_op (i := 64) (d := 78) (OP := Op.load 26 (Operand.tmp 2)) (T := 26) (v := ?vzz52) rfl rfl rfl rfl (by kernel_rfl) (by kernel_rfl) (by kernel_rfl) (fun _ _ _ h => h) (by rfl) ?hzz52 hHeld ?rzz52
  case hzz52 => (intro w' hSw; (try dsimp only at hSw); go_simp <;> with_reducible rfl)
  try simp only [Act.put, List.setIfInBounds_toArray, List.set_cons_zero, List.set_cons_succ]
  refine take_op (i := 65) (d := 79) (OP := Op.load 26 (Operand.tmp 2)) (T := 26) (v := ?vzz53) rfl rfl rfl rfl (by kernel_rfl) (by kernel_rfl) (by kernel_rfl) (fun _ _ _ h => h) (by rfl) ?hzz53 hHeld ?rzz53
  case hzz53 => (intro w' hSw; (try dsimp only at hSw); go_simp <;> with_reducible rfl)
  try simp only [Act.put, List.setIfInBounds_toArray, List.set_cons_zero, List.set_cons_succ]
  refine call_op (i := 66) (d := 80) (OP := Op.call { callee := Callee.value (Operand.func 20), args := #[Operand.tmp 78, Operand.tmp 79], argTypes := #[26, 26] }) (T := 3) (f := 20) (args := #[.agg #[.pointer none], .agg #[.pointer none]]) rfl rfl rfl rfl (by kernel_rfl) (by rfl) (by go_simp) ?_
  refine (n_sh _).mono ?_
  rintro e v14 ⟨rfl, bv14⟩
  have qv14 : v14.cell? ⟨w.heap.size, 0, none⟩ = some (.pointer none) ∧ v14.cell? ⟨B3, 0, none⟩ = some (.pointer none) ∧ v14.cell? ⟨B3 + 1, 0, none⟩ = some (.pointer none) ∧ Hid (Below w.heap.size w v14) := ⟨cell_stays qv13.1 bv14, cell_stays qv13.2.1 bv14, cell_stays qv13.2.2.1 bv14, hide (qv13.2.2.2.out.trans (bv14.mono qv13.2.2.2.out.size))⟩
  refine ⟨_, rfl, qv14, ?_⟩
  replace hHeld := qv14
  try simp only [Act.put, List.setIfInBounds_toArray, List.set_cons_zero, List.set_cons_succ]
  refine take_op (i := 67) (d := 81) (OP := Op.binOp BinOp.eql 3 (Operand.tmp 80) (Operand.const (Value.int IntKind.i64 0)) 3) (T := 4) (v := ?vzz54) rfl rfl rfl rfl (by kernel_rfl) (by kernel_rfl) (by kernel_rfl) (fun _ _ _ h => h) (by rfl) ?hzz54 hHeld ?rzz54
  case hzz54 => (intro w' hSw; (try dsimp only at hSw); go_simp <;> with_reducible rfl)
  try simp only [Act.put, List.setIfInBounds_toArray, List.set_cons_zero, List.set_cons_succ]
  refine take_op (i := 68) (d := 82) (OP := Op.pick (Operand.tmp 77) (Operand.tmp 81) (Operand.const (Value.bool false))) (T := 4) (v := ?vzz55) rfl rfl rfl rfl (by kernel_rfl) (by kernel_rfl) (by kernel_rfl) (fun _ _ _ h => h) (by rfl) ?hzz55 hHeld ?rzz55
  case hzz55 => (intro w' hSw; (try dsimp only at hSw); go_simp <;> with_reducible rfl)
  try simp only [Act.put, List.setIfInBounds_toArray, List.set_cons_zero, List.set_cons_succ]
  refine take_op (i := 69) (d := 83) (OP := Op.move (Operand.tmp 82)) (T := 4) (v := ?vzz56) rfl rfl rfl rfl (by kernel_rfl) (by kernel_rfl) (by kernel_rfl) (fun _ _ _ h => h) (by rfl) ?hzz56 hHeld ?rzz56
  case hzz56 => (intro w' hSw; (try dsimp only at hSw); go_simp <;> with_reducible rfl)
  try simp only [Act.put, List.setIfInBounds_toArray, List.set_cons_zero, List.set_cons_succ]
  refine take_op (i := 70) (d := 84) (OP := Op.load 26 (Operand.tmp 2)) (T := 26) (v := ?vzz57) rfl rfl rfl rfl (by kernel_rfl) (by kernel_rfl) (by kernel_rfl) (fun _ _ _ h => h) (by rfl) ?hzz57 hHeld ?rzz57
  case hzz57 => (intro w' hSw; (try dsimp only at hSw); go_simp <;> with_reducible rfl)
  try simp only [Act.put, List.setIfInBounds_toArray, List.set_cons_zero, List.set_cons_succ]
  refine call_op (i := 71) (d := 85) (OP := Op.call { callee := Callee.value (Operand.func 17), args := #[Operand.tmp 84, Operand.const (Value.slice none 0 0), Operand.const (Value.int IntKind.i64 0), Operand.const (Value.string { data := #[] })], argTypes := #[26, 27, 3, 9] }) (T := 4) (f := 17) (args := #[.agg #[.pointer none], .slice none 0 0, .int .i64 0, .string ⟨#[]⟩]) rfl rfl rfl rfl (by kernel_rfl) (by rfl) (by go_simp) ?_
  refine (n_tells _).mono ?_
  rintro e v15 ⟨rfl, bv15⟩
  have qv15 : v15.cell? ⟨w.heap.size, 0, none⟩ = some (.pointer none) ∧ v15.cell? ⟨B3, 0, none⟩ = some (.pointer none) ∧ v15.cell? ⟨B3 + 1, 0, none⟩ = some (.pointer none) ∧ Hid (Below w.heap.size w v15) := ⟨cell_stays qv14.1 bv15, cell_stays qv14.2.1 bv15, cell_stays qv14.2.2.1 bv15, hide (qv14.2.2.2.out.trans (bv15.mono qv14.2.2.2.out.size))⟩
  refine ⟨_, rfl, qv15, ?_⟩
  replace hHeld := qv15
  try simp only [Act.put, List.setIfInBounds_toArray, List.set_cons_zero, List.set_cons_succ]
  refine take_op (i := 72) (d := 86) (OP := Op.pick (Operand.tmp 83) (Operand.tmp 85) (Operand.const (Value.bool false))) (T := 4) (v := ?vzz58) rfl rfl rfl rfl (by kernel_rfl) (by kernel_rfl) (by kernel_rfl) (fun _ _ _ h => h) (by rfl) ?hzz58 hHeld ?rzz58
  case hzz58 => (intro w' hSw; (try dsimp only at hSw); go_simp <;> with_reducible rfl)
  try simp only [Act.put, List.setIfInBounds_toArray, List.set_cons_zero, List.set_cons_succ]
  refine take_op (i := 73) (d := 87) (OP := Op.move (Operand.tmp 86)) (T := 4) (v := ?vzz59) rfl rfl rfl rfl (by kernel_rfl) (by kernel_rfl) (by kernel_rfl) (fun _ _ _ h => h) (by rfl) ?hzz59 hHeld ?rzz59
  case hzz59 => (intro w' hSw; (try dsimp only at hSw); go_simp <;> with_reducible rfl)
  try simp only [Act.put, List.setIfInBounds_toArray, List.set_cons_zero, List.set_cons_succ]
  refine call_op (i := 74) (d := 88) (OP := Op.call { callee := Callee.value (Operand.func 7), args := #[], argTypes := #[] }) (T := 4) (f := 7) (args := #[]) rfl rfl rfl rfl (by kernel_rfl) (by rfl) (by go_simp) ?_
  refine (known_any _).mono ?_
  rintro e v16 ⟨rfl, bv16⟩
  have qv16 : v16.cell? ⟨w.heap.size, 0, none⟩ = some (.pointer none) ∧ v16.cell? ⟨B3, 0, none⟩ = some (.pointer none) ∧ v16.cell? ⟨B3 + 1, 0, none⟩ = some (.pointer none) ∧ Hid (Below w.heap.size w v16) := ⟨cell_stays qv15.1 bv16, cell_stays qv15.2.1 bv16, cell_stays qv15.2.2.1 bv16, hide (qv15.2.2.2.out.trans (bv16.mono qv15.2.2.2.out.size))⟩
  refine ⟨_, rfl, qv16, ?_⟩
  replace hHeld := qv16
  try simp only [Act.put, List.setIfInBounds_toArray, List.set_cons_zero, List.set_cons_succ]
  refine take_op (i := 75) (d := 89) (OP := Op.pick (Operand.tmp 87) (Operand.tmp 88) (Operand.const (Value.bool false))) (T := 4) (v := ?vzz60) rfl rfl rfl rfl (by kernel_rfl) (by kernel_rfl) (by kernel_rfl) (fun _ _ _ h => h) (by rfl) ?hzz60 hHeld ?rzz60
  case hzz60 => (intro w' hSw; (try dsimp only at hSw); go_simp <;> with_reducible rfl)
  try simp only [Act.put, List.setIfInBounds_toArray, List.set_cons_zero, List.set_cons_succ]
  refine take_op (i := 76) (d := 0) (OP := Op.assign (Operand.tmp 89)) (T := 4) (v := ?vzz61) rfl rfl rfl rfl (by kernel_rfl) (by kernel_rfl) (by kernel_rfl) (fun _ _ _ h => h) (by rfl) ?hzz61 hHeld ?rzz61
  case hzz61 => (intro w' hSw; (try dsimp only at hSw); go_simp <;> with_reducible rfl)
  try simp only [Act.put, List.setIfInBounds_toArray, List.set_cons_zero, List.set_cons_succ]
  refine wpAnyH_done (by kernel_rfl) ?_ _
  go_wp2
  go_ret
  exact ⟨by simp, qv16.2.2.2.out⟩
end Go.Proofs.Ytleaaoknjflgoaa
