/-
  NIL: what nil and zero readers and no names at all give.
-/
import Derived.Test.YtkjabnpniingnaaGreatDoorKnown
import Derived.Deep.DeepCutAuto
import Derived.Deep.CutBlock
namespace Go.Proofs.YtkjabnpniingnaaGreatDoor
open Go.RowKit Go.Shelf
set_option linter.unusedSimpArgs false

theorem missing_zero (b : Nat) (w : World) (h : w.cell? ⟨b, 1, none⟩ = some (.bool false)) : Calls Tryz.prog 80 #[.pointer (some ⟨b, 0, none⟩)] w fun e w' => e = .returned (.bool true) ∧ w' = w := by
  go_enter Tryz.func80, Tryz.ntmps80
  go_wp2
  go_ret
  exact ⟨rfl, rfl⟩
theorem number_zero (b : Nat) (w : World) (h : w.cell? ⟨b, 1, none⟩ = some (.bool false)) : Calls Tryz.prog 34 #[.pointer (some ⟨b, 0, none⟩)] w fun e w' => e = .returned (.tuple #[.int .u64 0, .int .i64 1]) ∧ w' = w := by
  have h80 := missing_zero b w h
  go_enter Tryz.func34, Tryz.ntmps34
  go_wp2
  go_step3
  go_wp2_with (go_at_call 80; refine h80.mono ?_; rintro e w1 ⟨rfl, rfl⟩)
  rw [Exit.noGoto_ret]
  go_ret2
  exact ⟨rfl, rfl⟩
/-- The fields of a zero reader that stands at b: at f. -/
def Flds (w : World) (f b : Nat) (e : Int) : Prop := w.heap[f]? = some (.cells #[.func (.func 34) #[.pointer (some ⟨b, 0, none⟩)] #[], .func (.func 113) #[.pointer (some ⟨b, 0, none⟩)] #[], .int .i64 e] 137 (0, 0))
theorem upTo_first {f b : Nat} {w : World} (m : Int) (hF : Flds w f b 0) (h : w.cell? ⟨b, 1, none⟩ = some (.bool false)) (h0 : 0 ≤ m) : Calls Tryz.prog 114 #[.pointer (some ⟨f, 0, none⟩), .int .u64 m] w fun e w' => e = .returned (.int .u64 0) ∧ w' = w.setCell ⟨f, 2, none⟩ (.int .i64 1) := by
  have h34 := number_zero b w h
  obtain ⟨y0, y1, y2, f0, f1, f2⟩ := blk3 hF
  have z : ¬ m < 0 := by omega
  go_enter Tryz.func114, Tryz.ntmps114
  go_wp2_with (go_at_call 34; refine h34.mono ?_; rintro e w1 ⟨rfl, rfl⟩)
  go_ret
  exact ⟨rfl, rfl⟩
theorem upTo_err {f : Nat} {w : World} (m : Int) (hF : w.cell? ⟨f, 2, none⟩ = some (.int .i64 1)) : Calls Tryz.prog 114 #[.pointer (some ⟨f, 0, none⟩), .int .u64 m] w fun e w' => e = .returned (.int .u64 0) ∧ w' = w := by
  go_enter Tryz.func114, Tryz.ntmps114
  go_wp2
  go_ret
  exact ⟨rfl, rfl⟩
theorem label_err {f : Nat} {w : World} (hF : w.cell? ⟨f, 2, none⟩ = some (.int .i64 1)) : Calls Tryz.prog 115 #[.pointer (some ⟨f, 0, none⟩)] w fun e w' => e = .returned (.string ⟨#[]⟩) ∧ w' = w := by
  go_enter Tryz.func115, Tryz.ntmps115
  go_wp2
  go_ret
  exact ⟨rfl, rfl⟩
set_option maxHeartbeats 1000000 in
theorem branch_err {f : Nat} {w : World} (hF : w.cell? ⟨f, 2, none⟩ = some (.int .i64 1)) : Calls Tryz.prog 82 #[.pointer (some ⟨f, 0, none⟩)] w fun e w' => e = .returned (bv 0 ⟨#[]⟩) ∧ Below w.heap.size w w' := by
  have hb := below_new w (.cells #[.int .i64 0, .string ⟨#[]⟩] 23)
  have hn := heap_alloc_new w (.cells #[.int .i64 0, .string ⟨#[]⟩] 23)
  have hF1 := kept hb hF
  have h1 := upTo_err 7 hF1
  have h2 := label_err hF1
  go_enter Tryz.func82, Tryz.ntmps82
  go_wp2_with (go_at_call 114; refine h1.mono ?_; rintro e w1 ⟨rfl, rfl⟩)
  go_wp2_with (go_at_call 115; refine h2.mono ?_; rintro e w1 ⟨rfl, rfl⟩)
  refine ret_row w.heap.size [.int .i64 0, .string ⟨#[]⟩] rfl rfl Tryz.underlying23 rfl (by kernel_rfl) (t := 23) (fr := (0, 0)) ?_ rfl ?_
  · first | exact hn | exact set2 hn
  · first | exact ⟨rfl, hb⟩ | exact ⟨rfl, bel2 (Nat.le_refl _) hb⟩
set_option maxHeartbeats 1000000 in
set_option maxRecDepth 100000 in
theorem takeBranch_nil (w : World) : Calls Tryz.prog 35 #[.pointer none] w fun e w' => e = .returned (.tuple #[bv 0 ⟨#[]⟩, .int .i64 1]) ∧ Below w.heap.size w w' := by
  have h81 : ∀ W : World, Calls Tryz.prog 81 #[.pointer none, .func (.func 82) #[] #[], .func (.func 21) #[] #[]] W fun e w' => e = .returned (.tuple #[bv 0 ⟨#[]⟩, .int .i64 1]) ∧ Below W.heap.size W w' := fun W => by
    have hb : Below W.heap.size W ((W.alloc (.cells #[.int .i64 0, .string ⟨#[]⟩] 23)).alloc (.cells #[.int .i64 0, .string ⟨#[]⟩] 23)) := ((Below.refl _ W).alloc (Nat.le_refl _) _).alloc (by simp) _
    obtain ⟨m0, m1⟩ := new2 W (.cells #[.int .i64 0, .string ⟨#[]⟩] 23) (.cells #[.int .i64 0, .string ⟨#[]⟩] 23)
    obtain ⟨y0, y1, f0, f1⟩ := blk2 m0
    go_enter Tryz.func81, Tryz.ntmps81
    go_wp2
    refine ret_row_tmp W.heap.size [.int .i64 0, .string ⟨#[]⟩] rfl rfl rfl Tryz.underlying23 rfl (by kernel_rfl) (t := 23) (fr := (0, 0)) ?_ rfl ?_
    · first | exact m0 | exact set2 m0
    · first | exact ⟨rfl, hb⟩ | exact ⟨rfl, bel2 (Nat.le_refl _) hb⟩
  have hb := below_new w (.cells #[.int .i64 0, .string ⟨#[]⟩] 23)
  have hn := heap_alloc_new w (.cells #[.int .i64 0, .string ⟨#[]⟩] 23)
  go_enter Tryz.func35, Tryz.ntmps35
  go_wp2_with (go_at_call 81; refine (h81 _).mono ?_; rintro e w1 ⟨rfl, b1⟩; have HN := hide ((b1.block w.heap.size (by simp)).trans hn); have hB := hb.trans (b1.mono hb.size); obtain ⟨y0, y1, f0, f1⟩ := blk2 HN.out; clear b1)
  refine ret_row_tmp w.heap.size [.int .i64 0, .string ⟨#[]⟩] rfl rfl rfl Tryz.underlying23 rfl (by kernel_rfl) (t := 23) (fr := (0, 0)) (set2 HN.out) rfl ?_
  exact ⟨rfl, bel2 (Nat.le_refl _) hB⟩
set_option maxHeartbeats 1000000 in
set_option maxRecDepth 100000 in
theorem takeName_nil (w : World) : Calls Tryz.prog 37 #[.pointer none] w fun e w' => e = .returned (.tuple #[nv 0 ⟨#[]⟩ 0, .int .i64 1]) ∧ Below w.heap.size w w' := by
  have h84 : ∀ W : World, Calls Tryz.prog 84 #[.pointer none, .func (.func 85) #[] #[], .func (.func 19) #[] #[]] W fun e w' => e = .returned (.tuple #[nv 0 ⟨#[]⟩ 0, .int .i64 1]) ∧ Below W.heap.size W w' := fun W => by
    have hb : Below W.heap.size W ((W.alloc (.cells #[.int .i64 0, .string ⟨#[]⟩, .int .i64 0] 25)).alloc (.cells #[.int .i64 0, .string ⟨#[]⟩, .int .i64 0] 25)) := ((Below.refl _ W).alloc (Nat.le_refl _) _).alloc (by simp) _
    obtain ⟨m0, m1⟩ := new2 W (.cells #[.int .i64 0, .string ⟨#[]⟩, .int .i64 0] 25) (.cells #[.int .i64 0, .string ⟨#[]⟩, .int .i64 0] 25)
    obtain ⟨y0, y1, y2, f0, f1, f2⟩ := blk3 m0
    go_enter Tryz.func84, Tryz.ntmps84
    go_wp2
    refine ret_row_tmp W.heap.size [.int .i64 0, .string ⟨#[]⟩, .int .i64 0] rfl rfl rfl Tryz.underlying25 rfl (by kernel_rfl) (t := 25) (fr := (0, 0)) ?_ rfl ?_
    · first | exact m0 | exact set3 m0
    · first | exact ⟨rfl, hb⟩ | exact ⟨rfl, bel3 (Nat.le_refl _) hb⟩
  have hb := below_new w (.cells #[.int .i64 0, .string ⟨#[]⟩, .int .i64 0] 25)
  have hn := heap_alloc_new w (.cells #[.int .i64 0, .string ⟨#[]⟩, .int .i64 0] 25)
  go_enter Tryz.func37, Tryz.ntmps37
  go_wp2_with (go_at_call 84; refine (h84 _).mono ?_; rintro e w1 ⟨rfl, b1⟩; have HN := hide ((b1.block w.heap.size (by simp)).trans hn); have hB := hb.trans (b1.mono hb.size); obtain ⟨y0, y1, y2, f0, f1, f2⟩ := blk3 HN.out; clear b1)
  refine ret_row_tmp w.heap.size [.int .i64 0, .string ⟨#[]⟩, .int .i64 0] rfl rfl rfl Tryz.underlying25 rfl (by kernel_rfl) (t := 25) (fr := (0, 0)) (set3 HN.out) rfl ?_
  exact ⟨rfl, bel3 (Nat.le_refl _) hB⟩
set_option maxHeartbeats 1000000 in
set_option maxRecDepth 100000 in
theorem sorted_nil (w : World) : Calls Tryz.prog 57 #[.slice none 0 0] w fun e w' => e = .returned (.slice none 0 0) ∧ Below w.heap.size w w' := by
  have hq : ∀ W : World, (binOp .eql 81 (.slice none 0 0) (.slice none 0 0)).run Tryz.prog W = .ok (.bool true) W := fun W => by kernel_rfl
  have h103 : ∀ W : World, Calls Tryz.prog 103 #[.slice none 0 0] W fun e w' => e = .returned (.slice none 0 0) ∧ w' = W := fun W => by
    go_enter Tryz.func103, Tryz.ntmps103
    go_wp2
    go_ret
    exact ⟨rfl, rfl⟩
  have h136 : ∀ W : World, Calls Tryz.prog 136 #[.slice none 0 0, .int .i64 0, .int .i64 0, .func (.func 52) #[] #[]] W fun e w' => e = .returned (.tuple #[]) ∧ w' = W := fun W => by
    go_enter Tryz.func136, Tryz.ntmps136
    go_wp2
    go_loopw [8] (fun v8 wr => v8 = .int .i64 1 ∧ wr = W) (fun _ _ => 0)
    case atStart => exact ⟨rfl, rfl⟩
    case round =>
      obtain ⟨rfl, rfl⟩ := hrel
      go_wp2
      go_end0
      exact ⟨rfl, rfl⟩
  have h124 : ∀ W : World, Calls Tryz.prog 124 #[.slice none 0 0, .int .i64 0, .int .i64 0, .int .i64 0, .func (.func 52) #[] #[]] W fun e w' => e = .returned (.tuple #[]) ∧ w' = W := fun W => by
    have h := h136 W
    go_enter Tryz.func124, Tryz.ntmps124
    go_wp2
    go_loopw [1, 2, 3, 10] (fun v1 v2 v3 v10 wr => v1 = .int .i64 0 ∧ v2 = .int .i64 0 ∧ v3 = .int .i64 0 ∧ v10 = .bool true ∧ wr = W) (fun _ _ _ _ _ => 0)
    case atStart => exact ⟨rfl, rfl, rfl, rfl, rfl⟩
    case round =>
      obtain ⟨rfl, rfl, rfl, rfl, rfl⟩ := hrel
      go_wp2_with (go_at_call 136; refine h.mono ?_; rintro e w1 ⟨rfl, rfl⟩)
      (try simp only [Exit.inBlock, Exit.then])
      refine bodyPost_ret (results_none rfl _ _ _) rfl ?_
      exact ⟨rfl, rfl⟩
  have h125 : ∀ W : World, Calls Tryz.prog 125 #[.int .u64 0] W fun e w' => e = .returned (.int .i64 0) ∧ w' = W := fun W => Tryz.bits_Len 0 W (by omega) (by omega)
  have h104 : ∀ W : World, Calls Tryz.prog 104 #[.slice none 0 0, .func (.func 52) #[] #[]] W fun e w' => e = .returned (.tuple #[]) ∧ w' = W := fun W => by
    have h := h124 W
    have h2 := h125 W
    go_enter Tryz.func104, Tryz.ntmps104
    go_wp2_with (go_at_call 125; refine h2.mono ?_; rintro e w1 ⟨rfl, rfl⟩)
    go_wp2_with (go_at_call 124; refine h.mono ?_; rintro e w1 ⟨rfl, rfl⟩)
    go_end0
    exact ⟨rfl, rfl⟩
  go_enter Tryz.func57, Tryz.ntmps57
  go_wp2_with (go_at_call 103; refine (h103 _).mono ?_; rintro e w1 ⟨rfl, rfl⟩)
  go_wp2_with (go_at_call 104; refine (h104 _).mono ?_; rintro e w1 ⟨rfl, rfl⟩)
  go_loopw [4, 13] (fun v4 v13 wr => v4 = .slice none 0 0 ∧ v13 = .int .i64 0 ∧ wr = w1) (fun _ _ _ => 0)
  case atStart => exact ⟨rfl, rfl, rfl⟩
  case round =>
    obtain ⟨rfl, rfl, rfl⟩ := hrel
    go_wp2
    go_ret
    exact ⟨rfl, Below.refl _ _⟩

set_option maxHeartbeats 1000000 in
set_option maxRecDepth 100000 in
theorem name_err {f : Nat} {w : World} (hF : w.cell? ⟨f, 2, none⟩ = some (.int .i64 1)) : Calls Tryz.prog 85 #[.pointer (some ⟨f, 0, none⟩)] w fun e w' => e = .returned (nv 0 ⟨#[]⟩ 0) ∧ Below w.heap.size w w' := by
  have hb := below_new w (.cells #[.int .i64 0, .string ⟨#[]⟩, .int .i64 0] 25)
  have hn := heap_alloc_new w (.cells #[.int .i64 0, .string ⟨#[]⟩, .int .i64 0] 25)
  have hF1 := kept hb hF
  have h82 := branch_err hF1
  go_enter Tryz.func85, Tryz.ntmps85
  go_wp2_with (go_at_call 82; refine h82.mono ?_; rintro e w1 ⟨rfl, b1⟩; have hF2 := kept b1 hF1; have hN2 := (b1.block w.heap.size (by simp)).trans hn; have hB2 := hb.trans (b1.mono hb.size); have q1 := b1.size)
  have sz : w.heap.size + 1 ≤ w1.heap.size := by simp at q1; omega
  have hn3 := heap_alloc_new w1 (.cells #[.int .i64 0, .string ⟨#[]⟩] 23)
  have hB3 := (hB2.alloc hB2.size (.cells #[.int .i64 0, .string ⟨#[]⟩] 23)).drew
  have hF3 : (w1.alloc (.cells #[.int .i64 0, .string ⟨#[]⟩] 23)).drew.cell? ⟨f, 2, none⟩ = some (.int .i64 1) := kept (below_new w1 (.cells #[.int .i64 0, .string ⟨#[]⟩] 23)).drew hF2
  have hN3 : (w1.alloc (.cells #[.int .i64 0, .string ⟨#[]⟩] 23)).drew.heap[w.heap.size]? = some (.cells #[.int .i64 0, .string ⟨#[]⟩, .int .i64 0] 25 (0, 0)) := ((below_new w1 (.cells #[.int .i64 0, .string ⟨#[]⟩] 23)).block _ (by omega)).trans hN2
  obtain ⟨y0, y1, _, _⟩ := blk2 hn3
  generalize (w1.alloc (.cells #[.int .i64 0, .string ⟨#[]⟩] 23)) = W at hB3 hF3 hN3 y0 y1 ⊢
  have hS1 : W.drew.cell? ⟨w1.heap.size, 0, none⟩ = some (.int .i64 0) ∧ W.drew.cell? ⟨w1.heap.size, 1, none⟩ = some (.string ⟨#[]⟩) := ⟨y0, y1⟩
  have h114 := upTo_err 4611686018427387904 hF3
  obtain ⟨z0, z1, z2, g0, g1, g2⟩ := blk3 (show W.heap[w.heap.size]? = _ from hN3)
  have w0 : IntKind.i64.wrap 0 = 0 := by decide
  refine wp_region_held_drew (S := (fun w' => w'.cell? ⟨w1.heap.size, 0, none⟩ = some (.int .i64 0) ∧ w'.cell? ⟨w1.heap.size, 1, none⟩ = some (.string ⟨#[]⟩))) (by kernel_rfl) (by exact hS1) (fun hHeld => ?_)
  try dsimp only at hHeld
  refine take_op (i := 0) (d := 6) (OP := Op.load 23 (Operand.tmp 3)) (T := 23) (v := ?vy1x) rfl rfl rfl rfl (by kernel_rfl) (by kernel_rfl) (by kernel_rfl) (fun _ _ _ h => h) (by rfl) ?hy1x hHeld ?ry1x
  case hy1x => (intro w' hSw; (try dsimp only at hSw); go_simp <;> with_reducible rfl)
  try simp only [Act.put, List.setIfInBounds_toArray, List.set_cons_zero, List.set_cons_succ]
  refine take_op (i := 1) (d := 7) (OP := Op.move (Operand.tmp 0)) (T := 107) (v := ?vy2x) rfl rfl rfl rfl (by kernel_rfl) (by kernel_rfl) (by kernel_rfl) (fun _ _ _ h => h) (by rfl) ?hy2x hHeld ?ry2x
  case hy2x => (intro w' hSw; (try dsimp only at hSw); go_simp <;> with_reducible rfl)
  try simp only [Act.put, List.setIfInBounds_toArray, List.set_cons_zero, List.set_cons_succ]
  refine call_op (i := 2) (d := 8) (OP := Op.call { callee := Callee.value (Operand.func 114), args := #[Operand.tmp 7, Operand.const (Value.int IntKind.u64 4611686018427387904)], argTypes := #[107, 54] }) (T := 54) (f := 114) (args := #[.pointer (some ⟨f, 0, none⟩), .int .u64 4611686018427387904]) rfl rfl rfl rfl (by kernel_rfl) (by rfl) (by go_simp) ?_
  refine (h114).mono ?_
  rintro e wx ⟨rfl, hwx⟩
  subst hwx
  refine ⟨_, rfl, hHeld, ?_⟩
  replace hHeld := hHeld
  try simp only [Act.put, List.setIfInBounds_toArray, List.set_cons_zero, List.set_cons_succ]
  refine take_op (i := 3) (d := 9) (OP := Op.convert 54 2 (Operand.tmp 8)) (T := 2) (v := ?vy3x) rfl rfl rfl rfl (by kernel_rfl) (by kernel_rfl) (by kernel_rfl) (fun _ _ _ h => h) (by rfl) ?hy3x hHeld ?ry3x
  case hy3x => (intro w' hSw; (try dsimp only at hSw); go_simp <;> with_reducible rfl)
  try simp only [Act.put, List.setIfInBounds_toArray, List.set_cons_zero, List.set_cons_succ]
  refine take_op (i := 4) (d := 10) (OP := Op.build 25 #[(0, Operand.tmp 6), (1, Operand.tmp 9)]) (T := 25) (v := ?vy4x) rfl rfl rfl rfl (by kernel_rfl) (by kernel_rfl) (by kernel_rfl) (fun _ _ _ h => h) (by rfl) ?hy4x hHeld ?ry4x
  case hy4x => (intro w' hSw; (try dsimp only at hSw); go_simp <;> with_reducible rfl)
  try simp only [Act.put, List.setIfInBounds_toArray, List.set_cons_zero, List.set_cons_succ]
  have hx8 : (((W.drew.setCell ⟨w.heap.size, 0, none⟩ (.int .i64 0)).setCell ⟨w.heap.size, 1, none⟩ (.string ⟨#[]⟩)).setCell ⟨w.heap.size, 2, none⟩ (.int .i64 0)).cell? ⟨w1.heap.size, 0, none⟩ = some (.int .i64 0) ∧ (((W.drew.setCell ⟨w.heap.size, 0, none⟩ (.int .i64 0)).setCell ⟨w.heap.size, 1, none⟩ (.string ⟨#[]⟩)).setCell ⟨w.heap.size, 2, none⟩ (.int .i64 0)).cell? ⟨w1.heap.size, 1, none⟩ = some (.string ⟨#[]⟩) := by
    have hne : w.heap.size ≠ w1.heap.size := by omega
    exact ⟨by rw [set3_other hne]; exact hHeld.1, by rw [set3_other hne]; exact hHeld.2⟩
  refine skip_op (i := 5) (OP := Op.store 25 (Operand.tmp 2) (Operand.tmp 10)) (T := 0) (w' := (((W.drew.setCell ⟨w.heap.size, 0, none⟩ (.int .i64 0)).setCell ⟨w.heap.size, 1, none⟩ (.string ⟨#[]⟩)).setCell ⟨w.heap.size, 2, none⟩ (.int .i64 0))) rfl rfl rfl rfl (by kernel_rfl) (by rfl) (by go_simp) ⟨hx8, ?_⟩
  refine wpAnyH_done (by kernel_rfl) ?_ _
  go_wp2
  refine ret_row w.heap.size [.int .i64 0, .string ⟨#[]⟩, .int .i64 0] rfl rfl Tryz.underlying25 rfl (by kernel_rfl) (t := 25) (fr := (0, 0)) (set3 hN3) rfl ?_
  exact ⟨rfl, bel3 (Nat.le_refl _) hB3⟩
set_option maxHeartbeats 2000000 in
set_option maxRecDepth 100000 in
theorem stamp_zero {f b : Nat} {w : World} (hF : Flds w f b 0) (h : w.cell? ⟨b, 1, none⟩ = some (.bool false)) (hf : f < w.heap.size) : Calls Tryz.prog 88 #[.pointer (some ⟨f, 0, none⟩)] w fun e w' => e = .returned (sv 0 0 ⟨#[]⟩ 0 0) ∧ Below f w w' ∧ w'.cell? ⟨f, 2, none⟩ = some (.int .i64 1) := by
  have hb := below_new w (.cells #[.int .i64 0, .int .i64 0, .string ⟨#[]⟩, .int .i64 0, .int .i64 0] 27)
  have hn := heap_alloc_new w (.cells #[.int .i64 0, .int .i64 0, .string ⟨#[]⟩, .int .i64 0, .int .i64 0] 27)
  have hF1 : Flds (w.alloc (.cells #[.int .i64 0, .int .i64 0, .string ⟨#[]⟩, .int .i64 0, .int .i64 0] 27)) f b 0 := (hb.block _ hf).trans hF
  have h1 := upTo_first 4611686018427387904 hF1 (kept hb h) (by omega)
  obtain ⟨W1, hW1⟩ : ∃ W1, W1 = (w.alloc (.cells #[.int .i64 0, .int .i64 0, .string ⟨#[]⟩, .int .i64 0, .int .i64 0] 27)).setCell ⟨f, 2, none⟩ (.int .i64 1) := ⟨_, rfl⟩
  rw [← hW1] at h1
  have hF2 : W1.cell? ⟨f, 2, none⟩ = some (.int .i64 1) := by
    have := heap_setCell_same _ _ 2 _ 137 (.int .i64 1) hF1
    rw [hW1, cell_of_row _ _ 2 _ 137 (0, 0) this]
    rfl
  have hn2 : W1.heap[w.heap.size]? = some (.cells #[.int .i64 0, .int .i64 0, .string ⟨#[]⟩, .int .i64 0, .int .i64 0] 27 (0, 0)) := by rw [hW1, Below.heap_setCell _ _ _ _ (by show w.heap.size ≠ f; omega)]; exact hn
  have hB1 : Below f w W1 := by rw [hW1]; exact (hb.mono (by omega)).setCell (by show f ≤ f; omega) _
  have hs1 : w.heap.size + 1 ≤ W1.heap.size := by rw [hW1]; simp [World.setCell]
  clear hW1
  have h85 := name_err hF2
  go_enter Tryz.func88, Tryz.ntmps88
  go_wp2_with (go_at_call 114; refine h1.mono ?_; rintro e w1 ⟨rfl, rfl⟩)
  go_wp2_with (go_at_call 85; refine h85.mono ?_; rintro e w2 ⟨rfl, b2⟩; have hF3 := kept b2 hF2; have hN3 := (b2.block w.heap.size (by omega)).trans hn2; have hB2 := hB1.trans (b2.mono (by omega)); have q2 := b2.size)
  have hn3 := heap_alloc_new w2 (.cells #[.int .i64 0, .string ⟨#[]⟩, .int .i64 0] 25)
  have hB3 := (hB2.alloc (by omega) (.cells #[.int .i64 0, .string ⟨#[]⟩, .int .i64 0] 25)).drew
  have hF4 : (w2.alloc (.cells #[.int .i64 0, .string ⟨#[]⟩, .int .i64 0] 25)).drew.cell? ⟨f, 2, none⟩ = some (.int .i64 1) := kept (below_new w2 (.cells #[.int .i64 0, .string ⟨#[]⟩, .int .i64 0] 25)).drew hF3
  have hN4 : (w2.alloc (.cells #[.int .i64 0, .string ⟨#[]⟩, .int .i64 0] 25)).drew.heap[w.heap.size]? = some (.cells #[.int .i64 0, .int .i64 0, .string ⟨#[]⟩, .int .i64 0, .int .i64 0] 27 (0, 0)) := ((below_new w2 (.cells #[.int .i64 0, .string ⟨#[]⟩, .int .i64 0] 25)).block _ (by omega)).trans hN3
  obtain ⟨y0, y1, y2, _, _, _⟩ := blk3 hn3
  generalize (w2.alloc (.cells #[.int .i64 0, .string ⟨#[]⟩, .int .i64 0] 25)) = W at hB3 hF4 hN4 y0 y1 y2 ⊢
  have hS1 : W.drew.cell? ⟨w2.heap.size, 0, none⟩ = some (.int .i64 0) ∧ W.drew.cell? ⟨w2.heap.size, 1, none⟩ = some (.string ⟨#[]⟩) ∧ W.drew.cell? ⟨w2.heap.size, 2, none⟩ = some (.int .i64 0) := ⟨y0, y1, y2⟩
  have h114 := upTo_err 63 hF4
  obtain ⟨z0, z1, z2, z3, z4, g0, g1, g2, g3, g4⟩ := blk5 (show W.heap[w.heap.size]? = _ from hN4)
  have w0 : IntKind.i64.wrap 0 = 0 := by decide
  refine wp_region_held_drew (S := (fun w' => w'.cell? ⟨w2.heap.size, 0, none⟩ = some (.int .i64 0) ∧ w'.cell? ⟨w2.heap.size, 1, none⟩ = some (.string ⟨#[]⟩) ∧ w'.cell? ⟨w2.heap.size, 2, none⟩ = some (.int .i64 0))) (by kernel_rfl) (by exact hS1) (fun hHeld => ?_)
  try dsimp only at hHeld
  refine take_op (i := 0) (d := 9) (OP := Op.move (Operand.tmp 3)) (T := 54) (v := ?vy5x) rfl rfl rfl rfl (by kernel_rfl) (by kernel_rfl) (by kernel_rfl) (fun _ _ _ h => h) (by rfl) ?hy5x hHeld ?ry5x
  case hy5x => (intro w' hSw; (try dsimp only at hSw); go_simp <;> with_reducible rfl)
  try simp only [Act.put, List.setIfInBounds_toArray, List.set_cons_zero, List.set_cons_succ]
  refine take_op (i := 1) (d := 10) (OP := Op.convert 54 2 (Operand.tmp 9)) (T := 2) (v := ?vy6x) rfl rfl rfl rfl (by kernel_rfl) (by kernel_rfl) (by kernel_rfl) (fun _ _ _ h => h) (by rfl) ?hy6x hHeld ?ry6x
  case hy6x => (intro w' hSw; (try dsimp only at hSw); go_simp <;> with_reducible rfl)
  try simp only [Act.put, List.setIfInBounds_toArray, List.set_cons_zero, List.set_cons_succ]
  refine take_op (i := 2) (d := 11) (OP := Op.load 25 (Operand.tmp 4)) (T := 25) (v := ?vy7x) rfl rfl rfl rfl (by kernel_rfl) (by kernel_rfl) (by kernel_rfl) (fun _ _ _ h => h) (by rfl) ?hy7x hHeld ?ry7x
  case hy7x => (intro w' hSw; (try dsimp only at hSw); go_simp <;> with_reducible rfl)
  try simp only [Act.put, List.setIfInBounds_toArray, List.set_cons_zero, List.set_cons_succ]
  refine take_op (i := 3) (d := 12) (OP := Op.move (Operand.tmp 0)) (T := 107) (v := ?vy8x) rfl rfl rfl rfl (by kernel_rfl) (by kernel_rfl) (by kernel_rfl) (fun _ _ _ h => h) (by rfl) ?hy8x hHeld ?ry8x
  case hy8x => (intro w' hSw; (try dsimp only at hSw); go_simp <;> with_reducible rfl)
  try simp only [Act.put, List.setIfInBounds_toArray, List.set_cons_zero, List.set_cons_succ]
  refine call_op (i := 4) (d := 13) (OP := Op.call { callee := Callee.value (Operand.func 114), args := #[Operand.tmp 12, Operand.const (Value.int IntKind.u64 63)], argTypes := #[107, 54] }) (T := 54) (f := 114) (args := #[.pointer (some ⟨f, 0, none⟩), .int .u64 63]) rfl rfl rfl rfl (by kernel_rfl) (by rfl) (by go_simp) ?_
  refine (h114).mono ?_
  rintro e wx ⟨rfl, hwx⟩
  subst hwx
  refine ⟨_, rfl, hHeld, ?_⟩
  replace hHeld := hHeld
  try simp only [Act.put, List.setIfInBounds_toArray, List.set_cons_zero, List.set_cons_succ]
  refine take_op (i := 5) (d := 14) (OP := Op.convert 54 3 (Operand.tmp 13)) (T := 3) (v := ?vy9x) rfl rfl rfl rfl (by kernel_rfl) (by kernel_rfl) (by kernel_rfl) (fun _ _ _ h => h) (by rfl) ?hy9x hHeld ?ry9x
  case hy9x => (intro w' hSw; (try dsimp only at hSw); go_simp <;> with_reducible rfl)
  try simp only [Act.put, List.setIfInBounds_toArray, List.set_cons_zero, List.set_cons_succ]
  refine take_op (i := 6) (d := 15) (OP := Op.build 27 #[(0, Operand.tmp 10), (1, Operand.tmp 11), (2, Operand.tmp 14)]) (T := 27) (v := ?vy10x) rfl rfl rfl rfl (by kernel_rfl) (by kernel_rfl) (by kernel_rfl) (fun _ _ _ h => h) (by rfl) ?hy10x hHeld ?ry10x
  case hy10x => (intro w' hSw; (try dsimp only at hSw); go_simp <;> with_reducible rfl)
  try simp only [Act.put, List.setIfInBounds_toArray, List.set_cons_zero, List.set_cons_succ]
  have hx8 : (((((W.drew.setCell ⟨w.heap.size, 0, none⟩ (.int .i64 0)).setCell ⟨w.heap.size, 1, none⟩ (.int .i64 0)).setCell ⟨w.heap.size, 2, none⟩ (.string ⟨#[]⟩)).setCell ⟨w.heap.size, 3, none⟩ (.int .i64 0)).setCell ⟨w.heap.size, 4, none⟩ (.int .i64 0)).cell? ⟨w2.heap.size, 0, none⟩ = some (.int .i64 0) ∧ (((((W.drew.setCell ⟨w.heap.size, 0, none⟩ (.int .i64 0)).setCell ⟨w.heap.size, 1, none⟩ (.int .i64 0)).setCell ⟨w.heap.size, 2, none⟩ (.string ⟨#[]⟩)).setCell ⟨w.heap.size, 3, none⟩ (.int .i64 0)).setCell ⟨w.heap.size, 4, none⟩ (.int .i64 0)).cell? ⟨w2.heap.size, 1, none⟩ = some (.string ⟨#[]⟩) ∧ (((((W.drew.setCell ⟨w.heap.size, 0, none⟩ (.int .i64 0)).setCell ⟨w.heap.size, 1, none⟩ (.int .i64 0)).setCell ⟨w.heap.size, 2, none⟩ (.string ⟨#[]⟩)).setCell ⟨w.heap.size, 3, none⟩ (.int .i64 0)).setCell ⟨w.heap.size, 4, none⟩ (.int .i64 0)).cell? ⟨w2.heap.size, 2, none⟩ = some (.int .i64 0) := by
    have hne : w.heap.size ≠ w2.heap.size := by omega
    exact ⟨by rw [set5_other hne]; exact hHeld.1, by rw [set5_other hne]; exact hHeld.2.1, by rw [set5_other hne]; exact hHeld.2.2⟩
  refine skip_op (i := 7) (OP := Op.store 27 (Operand.tmp 2) (Operand.tmp 15)) (T := 0) (w' := (((((W.drew.setCell ⟨w.heap.size, 0, none⟩ (.int .i64 0)).setCell ⟨w.heap.size, 1, none⟩ (.int .i64 0)).setCell ⟨w.heap.size, 2, none⟩ (.string ⟨#[]⟩)).setCell ⟨w.heap.size, 3, none⟩ (.int .i64 0)).setCell ⟨w.heap.size, 4, none⟩ (.int .i64 0))) rfl rfl rfl rfl (by kernel_rfl) (by rfl) (by go_simp) ⟨hx8, ?_⟩
  refine wpAnyH_done (by kernel_rfl) ?_ _
  go_wp2
  refine ret_row w.heap.size [.int .i64 0, .int .i64 0, .string ⟨#[]⟩, .int .i64 0, .int .i64 0] rfl rfl Tryz.underlying27 rfl (by kernel_rfl) (t := 27) (fr := (0, 0)) (set5 hN4) rfl ?_
  exact ⟨rfl, bel5 (by omega) hB3, by rw [set5_other (by omega)]; exact hF4⟩

theorem new4 (w : World) (o0 o1 o2 o3 : Obj) : ((((w.alloc o0).alloc o1).alloc o2).alloc o3).heap[w.heap.size]? = some o0 ∧ ((((w.alloc o0).alloc o1).alloc o2).alloc o3).heap[w.heap.size + 1]? = some o1 ∧ ((((w.alloc o0).alloc o1).alloc o2).alloc o3).heap[w.heap.size + 2]? = some o2 ∧ ((((w.alloc o0).alloc o1).alloc o2).alloc o3).heap[w.heap.size + 3]? = some o3 ∧ Below w.heap.size w ((((w.alloc o0).alloc o1).alloc o2).alloc o3) ∧ w.heap.size + 4 ≤ ((((w.alloc o0).alloc o1).alloc o2).alloc o3).heap.size := by
  obtain ⟨a0, a1⟩ := new2 w o0 o1
  obtain ⟨a2, a3⟩ := new2 ((w.alloc o0).alloc o1) o2 o3
  have hs : ((w.alloc o0).alloc o1).heap.size = w.heap.size + 2 := by simp
  rw [hs] at a2 a3
  have hb : Below ((w.alloc o0).alloc o1).heap.size ((w.alloc o0).alloc o1) ((((w.alloc o0).alloc o1).alloc o2).alloc o3) := ((Below.refl _ _).alloc (Nat.le_refl _) _).alloc (by simp) _
  refine ⟨(hb.block _ (by omega)).trans a0, (hb.block _ (by omega)).trans a1, a2, a3, ?_, by simp⟩
  exact ((((Below.refl _ w).alloc (Nat.le_refl _) _).alloc (by simp) _).alloc (by simp; omega) _).alloc (by simp; omega) _
set_option maxHeartbeats 2000000 in
set_option maxRecDepth 100000 in
theorem taken_zero (R : Nat) (w : World) (hR : w.heap[R]? = some (.cells #[.slice none 0 0, .bool false] 91 (0, 0))) : Calls Tryz.prog 87 #[.pointer (some ⟨R, 0, none⟩), .func (.func 88) #[] #[], .func (.func 17) #[] #[]] w fun e w' => e = .returned (.tuple #[sv 0 0 ⟨#[]⟩ 0 0, .int .i64 1]) ∧ Below w.heap.size w w' := by
  have hRl : R < w.heap.size := by
    rcases Nat.lt_or_ge R w.heap.size with h | h
    · exact h
    · rw [Array.getElem?_eq_none h] at hR; cases hR
  have hR2 : ((w.alloc (.cells #[.int .i64 0, .int .i64 0, .string ⟨#[]⟩, .int .i64 0, .int .i64 0] 27)).alloc (.cells #[.int .i64 0, .int .i64 0, .string ⟨#[]⟩, .int .i64 0, .int .i64 0] 27)).heap[R]? = some (.cells #[.slice none 0 0, .bool false] 91 (0, 0)) := by
    have hb : Below w.heap.size w ((w.alloc (.cells #[.int .i64 0, .int .i64 0, .string ⟨#[]⟩, .int .i64 0, .int .i64 0] 27)).alloc (.cells #[.int .i64 0, .int .i64 0, .string ⟨#[]⟩, .int .i64 0, .int .i64 0] 27)) := ((Below.refl _ w).alloc (Nat.le_refl _) _).alloc (by simp) _
    exact (hb.block _ hRl).trans hR
  obtain ⟨r0, r1, _, _⟩ := blk2 hR2
  obtain ⟨m0, m1, m2, m3, hB, hs⟩ := new4 w (.cells #[.int .i64 0, .int .i64 0, .string ⟨#[]⟩, .int .i64 0, .int .i64 0] 27) (.cells #[.int .i64 0, .int .i64 0, .string ⟨#[]⟩, .int .i64 0, .int .i64 0] 27) (.cells #[.slice none 0 0, .bool false] 91) (.cells #[.func (.func 34) #[.pointer (some ⟨w.heap.size + 1 + 1, 0, none⟩)] #[], .func (.func 113) #[.pointer (some ⟨w.heap.size + 1 + 1, 0, none⟩)] #[], .int .i64 0] 137)
  have h88 := stamp_zero (f := w.heap.size + 1 + 1 + 1) (b := w.heap.size + 1 + 1) m3 (by rw [cell_of_row _ _ 1 _ 91 (0, 0) m2]; rfl) (by omega)
  go_enter Tryz.func87, Tryz.ntmps87
  go_wp2_with (refine wpList_store_new 137 (.tmp 10) (.tmp 20) (w.heap.size + 1 + 1 + 1) 3 [.func (.func 34) #[.pointer (some ⟨w.heap.size + 1 + 1, 0, none⟩)] #[], .func (.func 113) #[.pointer (some ⟨w.heap.size + 1 + 1, 0, none⟩)] #[], .int .i64 0] rfl rfl rfl rfl rfl (by kernel_rfl) rfl rfl (by simp) (by simp [Value.oneCell']) ?_)
  go_wp2_with (go_at_call 88; refine h88.mono ?_; rintro e w5 ⟨rfl, b5, c5⟩; have HB := hide (hB.trans (b5.mono (by omega))); have HM0 := hide ((below_new w5 (.cells #[.int .i64 0, .int .i64 0, .string ⟨#[]⟩, .int .i64 0, .int .i64 0] 27)).block w.heap.size (by have := b5.size; omega) |>.trans ((b5.block w.heap.size (by omega)).trans m0)); have HM1 := hide ((below_new w5 (.cells #[.int .i64 0, .int .i64 0, .string ⟨#[]⟩, .int .i64 0, .int .i64 0] 27)).block (w.heap.size + 1) (by have := b5.size; omega) |>.trans ((b5.block (w.heap.size + 1) (by omega)).trans m1)); have c6 := kept (below_new w5 (.cells #[.int .i64 0, .int .i64 0, .string ⟨#[]⟩, .int .i64 0, .int .i64 0] 27)) c5; obtain ⟨y0, y1, y2, y3, y4, f0, f1, f2, f3, f4⟩ := blk5 HM0.out; obtain ⟨x0, x1, x2, x3, x4, _, _, _, _, _⟩ := blk5 HM1.out; clear b5)
  refine ret_row_tmp w.heap.size [.int .i64 0, .int .i64 0, .string ⟨#[]⟩, .int .i64 0, .int .i64 0] rfl rfl rfl Tryz.underlying27 rfl (by kernel_rfl) (t := 27) (fr := (0, 0)) (set5 HM0.out) rfl ?_
  exact ⟨rfl, bel5 (Nat.le_refl _) (HB.out.alloc HB.out.size _)⟩
set_option maxHeartbeats 1000000 in
set_option maxRecDepth 100000 in
theorem take_zero (R : Nat) (w : World) (hR : w.heap[R]? = some (.cells #[.slice none 0 0, .bool false] 91 (0, 0))) : Calls Tryz.prog 39 #[.pointer (some ⟨R, 0, none⟩)] w fun e w' => e = .returned (.tuple #[sv 0 0 ⟨#[]⟩ 0 0, .int .i64 1]) ∧ Below w.heap.size w w' := by
  have hRl : R < w.heap.size := by
    rcases Nat.lt_or_ge R w.heap.size with h | h
    · exact h
    · rw [Array.getElem?_eq_none h] at hR; cases hR
  have hb := below_new w (.cells #[.int .i64 0, .int .i64 0, .string ⟨#[]⟩, .int .i64 0, .int .i64 0] 27)
  have hn := heap_alloc_new w (.cells #[.int .i64 0, .int .i64 0, .string ⟨#[]⟩, .int .i64 0, .int .i64 0] 27)
  have h87 := taken_zero R (w.alloc (.cells #[.int .i64 0, .int .i64 0, .string ⟨#[]⟩, .int .i64 0, .int .i64 0] 27)) ((hb.block _ hRl).trans hR)
  go_enter Tryz.func39, Tryz.ntmps39
  go_wp2_with (go_at_call 87; refine h87.mono ?_; rintro e w1 ⟨rfl, b1⟩; have HN := hide ((b1.block w.heap.size (by simp)).trans hn); have hB := hb.trans (b1.mono hb.size); obtain ⟨y0, y1, y2, y3, y4, f0, f1, f2, f3, f4⟩ := blk5 HN.out; clear b1)
  refine ret_row_tmp w.heap.size [.int .i64 0, .int .i64 0, .string ⟨#[]⟩, .int .i64 0, .int .i64 0] rfl rfl rfl Tryz.underlying27 rfl (by kernel_rfl) (t := 27) (fr := (0, 0)) (set5 HN.out) rfl ?_
  exact ⟨rfl, bel5 (Nat.le_refl _) hB⟩
end Go.Proofs.YtkjabnpniingnaaGreatDoor
