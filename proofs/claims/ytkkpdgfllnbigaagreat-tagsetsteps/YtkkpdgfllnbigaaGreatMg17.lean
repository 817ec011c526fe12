/-
  The sort's library functions, laid over elements, in plain words.
  tagset: elements sorted by stamps, then texts: cmp.Or (126), the comparison (125), slices.SortFunc (124), May (28), Elements (29).
  tagset: tags gone over text by text, plainly; what stands from a text's front on.
  tagset: what a map's list tells: texts and their stamps.
  tagset: May (28), Elements (29).
-/
import Derived.Shelf.SlSortCmp.NoneTotal
import Derived.Ground.SlsfProg
import Derived.Test.YtkkpdgfllnbigaaGreatProg
import Derived.Test.YtkkpdgfllnbigaaGreatMg16
import Derived.Test.YtkkpdgfllnbigaaGreatMg1
import Derived.Test.YtkkpdgfllnbigaaGreatCmp7
import Derived.Test.YtkkpdgfllnbigaaGreatMg15
namespace Go.Proofs
open Go.Shelf
def Tryz.sortElems_ren : Go.Shelf.Ren := ⟨fun | 6 => 124 | 15 => 179 | 14 => 178 | 28 => 220 | 29 => 221 | 20 => 212 | 21 => 213 | 22 => 214 | 23 => 215 | 24 => 216 | 25 => 217 | 26 => 218 | 27 => 219 | 46 => 240 | 47 => 241 | 48 => 242 | 49 => 243 | 50 => 244 | 57 => 264 | n => n, fun | 22 => 22 | 24 => 53 | 25 => 130 | 3 => 3 | 39 => 174 | 0 => 0 | 53 => 205 | 55 => 207 | 4 => 4 | 46 => 198 | 45 => 197 | 50 => 202 | 5 => 5 | 9 => 9 | 66 => 223 | 70 => 227 | 76 => 240 | 77 => 241 | n => n, fun | n => n⟩
theorem Tryz.sortElems : Go.Proofs.SlLaysF0.n6 Tryz.prog Tryz.sortElems_ren := {
  mixed := by kernel_rfl
  f6 := ⟨Tryz.f124.name, by decide, Tryz.func124.trans (congrArg some (by kernel_rfl))⟩
  f14 := ⟨Tryz.f178.name, by decide, Tryz.func178.trans (congrArg some (by kernel_rfl))⟩
  f15 := Tryz.func179.trans (congrArg some (by kernel_rfl))
  f20 := ⟨Tryz.f212.name, by decide, Tryz.func212.trans (congrArg some (by kernel_rfl))⟩
  f21 := ⟨Tryz.f213.name, by decide, Tryz.func213.trans (congrArg some (by kernel_rfl))⟩
  f22 := ⟨Tryz.f214.name, by decide, Tryz.func214.trans (congrArg some (by kernel_rfl))⟩
  f23 := ⟨Tryz.f215.name, by decide, Tryz.func215.trans (congrArg some (by kernel_rfl))⟩
  f24 := ⟨Tryz.f216.name, by decide, Tryz.func216.trans (congrArg some (by kernel_rfl))⟩
  f25 := ⟨Tryz.f217.name, by decide, Tryz.func217.trans (congrArg some (by kernel_rfl))⟩
  f26 := ⟨Tryz.f218.name, by decide, Tryz.func218.trans (congrArg some (by kernel_rfl))⟩
  f27 := ⟨Tryz.f219.name, by decide, Tryz.func219.trans (congrArg some (by kernel_rfl))⟩
  f28 := Tryz.func220.trans (congrArg some (by kernel_rfl))
  f29 := Tryz.func221.trans (congrArg some (by kernel_rfl))
  f46 := ⟨Tryz.f240.name, by decide, Tryz.func240.trans (congrArg some (by kernel_rfl))⟩
  f47 := Tryz.func241.trans (congrArg some (by kernel_rfl))
  f48 := Tryz.func242.trans (congrArg some (by kernel_rfl))
  f49 := ⟨Tryz.f243.name, by decide, Tryz.func243.trans (congrArg some (by kernel_rfl))⟩
  f50 := ⟨Tryz.f244.name, by decide, Tryz.func244.trans (congrArg some (by kernel_rfl))⟩
  f57 := ⟨Tryz.f264.name, by decide, Tryz.func264.trans (congrArg some (by kernel_rfl))⟩
  t0 := Tryz.underlying0
  a0 := Tryz.isAgg0
  z0 := Tryz.sizeOf0
  v0 := Tryz.zeroValue0
  t3 := Tryz.underlying3
  a3 := Tryz.isAgg3
  z3 := Tryz.sizeOf3
  v3 := Tryz.zeroValue3
  t4 := Tryz.underlying4
  a4 := Tryz.isAgg4
  z4 := Tryz.sizeOf4
  v4 := Tryz.zeroValue4
  t5 := Tryz.underlying5
  a5 := Tryz.isAgg5
  z5 := Tryz.sizeOf5
  v5 := Tryz.zeroValue5
  t9 := Tryz.underlying9
  a9 := Tryz.isAgg9
  z9 := Tryz.sizeOf9
  v9 := Tryz.zeroValue9
  t22 := Tryz.underlying22
  a22 := Tryz.isAgg22
  z22 := Tryz.sizeOf22
  v22 := Tryz.zeroValue22
  t25 := Tryz.underlying130
  a25 := Tryz.isAgg130
  z25 := Tryz.sizeOf130
  v25 := Tryz.zeroValue130
  t39 := Tryz.underlying174
  a39 := Tryz.isAgg174
  z39 := Tryz.sizeOf174
  v39 := Tryz.zeroValue174
  t45 := Tryz.underlying197
  a45 := Tryz.isAgg197
  z45 := Tryz.sizeOf197
  v45 := Tryz.zeroValue197
  t46 := Tryz.underlying198
  a46 := Tryz.isAgg198
  z46 := Tryz.sizeOf198
  v46 := Tryz.zeroValue198
  t50 := Tryz.underlying202
  a50 := Tryz.isAgg202
  z50 := Tryz.sizeOf202
  v50 := Tryz.zeroValue202
  t53 := Tryz.underlying205
  a53 := Tryz.isAgg205
  z53 := Tryz.sizeOf205
  v53 := Tryz.zeroValue205
  t55 := Tryz.underlying207
  a55 := Tryz.isAgg207
  z55 := Tryz.sizeOf207
  v55 := Tryz.zeroValue207
  t66 := Tryz.underlying223
  a66 := Tryz.isAgg223
  z66 := Tryz.sizeOf223
  v66 := Tryz.zeroValue223
  t70 := Tryz.underlying227
  a70 := Tryz.isAgg227
  z70 := Tryz.sizeOf227
  v70 := Tryz.zeroValue227
  t76 := Tryz.underlying240
  a76 := Tryz.isAgg240
  z76 := Tryz.sizeOf240
  v76 := Tryz.zeroValue240
  t77 := Tryz.underlying241
  a77 := Tryz.isAgg241
  z77 := Tryz.sizeOf241
  v77 := Tryz.zeroValue241 }
end Go.Proofs
namespace Go.Proofs.YtkkpdgfllnbigaaGreat.Tg
open Go.RowKit Go.Shelf Go.Sort
set_option linter.unusedSimpArgs false
attribute [local go_sem] Oper.semAt_some

set_option maxHeartbeats 2000000 in
theorem or126 {W : World} {R : Nat} (a b : Int) (h : W.heap[R]? = some (.cells #[.int .i64 a, .int .i64 b] 3 (0, 0))) : Calls Tryz.prog 126 #[.slice (some ⟨R, 0, none⟩) 2 2] W fun e w' => e = .returned (.int .i64 (if a = 0 then b else a)) ∧ w' = W := by
  have c0 : W.cell? ⟨R, 0, none⟩ = some (.int .i64 a) := (cell_of_row _ _ 0 _ 3 (0, 0) h).trans rfl
  have c1 : W.cell? ⟨R, 1, none⟩ = some (.int .i64 b) := (cell_of_row _ _ 1 _ 3 (0, 0) h).trans rfl
  obtain ⟨V, hV⟩ : ∃ V : Int, V = (if a = 0 then b else a) := ⟨_, rfl⟩
  rw [← hV]
  have HV := hide hV
  clear hV h
  go_enter Tryz.func126, Tryz.ntmps126
  go_wp2
  go_loopw [8] (fun v8 wr => ∃ k : Nat, k ≤ 2 ∧ v8 = .int .i64 (k : Nat) ∧ wr = W ∧ Hid ((0 < k → a = 0) ∧ (1 < k → b = 0))) (fun v8 _ => 2 - (intOf v8).toNat)
  case atStart => exact ⟨0, by omega, rfl, rfl, hide ⟨fun h => by omega, fun h => by omega⟩⟩
  case round =>
    obtain ⟨k, hk, rfl, rfl, HK⟩ := hrel
    rcases (by omega : k = 0 ∨ k = 1 ∨ k = 2) with rfl | rfl | rfl
    · by_cases ha : a = 0
      · have hb : (a != 0) = false := by simp [ha]
        have HA := hide ha
        clear ha
        go_wp2
        go_roundw
        case rel => exact ⟨1, by omega, rfl, trivial, hide ⟨fun _ => HA.out, fun h => by omega⟩⟩
        case measure => simp [intOf]
      · have hb : (a != 0) = true := by simp [ha]
        have HA := hide ha
        clear ha
        go_wp2
        go_ret
        exact ⟨by rw [HV.out, if_neg HA.out]; rfl, rfl⟩
    · by_cases ha : b = 0
      · have hb : (b != 0) = false := by simp [ha]
        have HA := hide ha
        clear ha
        go_wp2
        go_roundw
        case rel => exact ⟨2, by omega, rfl, trivial, hide ⟨fun _ => HK.out.1 (by omega), fun _ => HA.out⟩⟩
        case measure => simp [intOf]
      · have hb : (b != 0) = true := by simp [ha]
        have HA := hide ha
        clear ha
        go_wp2
        go_ret
        exact ⟨by rw [HV.out, if_pos (HK.out.1 (by omega))]; rfl, rfl⟩
    · go_wp2
      go_ret
      exact ⟨by rw [HV.out, if_pos (HK.out.1 (by omega)), HK.out.2 (by omega)]; rfl, rfl⟩
theorem exec_bs33 {ev' : Operand → Value} {x y : Operand} {T : TypeId} {w : World} {a b : Int} (hx : ev' x = .int .i64 a) (hy : ev' y = .int .i64 b) : (execOp ev' { dst := none, op := .buildSlice 156 2 #[(0, x), (1, y)], type := T, pos := "", after := #[], guard := none }).run Tryz.prog w = .ok (.value (.slice (some ⟨w.heap.size, 0, none⟩) 2 2)) (w.alloc (.cells #[.int .i64 a, .int .i64 b] 3)) := by
  unfold execOp
  simp only [hx, hy]
  go_simp
set_option maxHeartbeats 4000000 in
set_option maxRecDepth 100000 in
theorem cmpQ125 (x y : El) (w : World) : Calls Tryz.prog 125 #[ev x, ev y] w fun e w' => e = .returned (.int .i64 (cmpQ x y)) ∧ BelowG w.heap.size w w' := by
  obtain ⟨⟨g, r, lb, n, ix⟩, X⟩ := x
  obtain ⟨⟨g', r', lb', n', ix'⟩, X'⟩ := y
  obtain ⟨w0, hw0⟩ : ∃ q, q = (w.alloc (.cells #[.int .i64 g, .int .i64 r, .string lb, .int .i64 n, .int .i64 ix, .string X] 53)).alloc (.cells #[.int .i64 g', .int .i64 r', .string lb', .int .i64 n', .int .i64 ix', .string X'] 53) := ⟨_, rfl⟩
  obtain ⟨m0, m1⟩ := new2 w (.cells #[.int .i64 g, .int .i64 r, .string lb, .int .i64 n, .int .i64 ix, .string X] 53) (.cells #[.int .i64 g', .int .i64 r', .string lb', .int .i64 n', .int .i64 ix', .string X'] 53)
  have b0 : BelowG w.heap.size w w0 := by rw [hw0]; exact ((BelowG.refl _ w).alloc (Nat.le_refl _) _).alloc (by simp) _
  rw [← hw0] at m0 m1
  obtain ⟨Xb, hXb⟩ : ∃ q, q = w.heap.size := ⟨_, rfl⟩
  obtain ⟨Yb, hYb⟩ : ∃ q, q = w.heap.size + 1 := ⟨_, rfl⟩
  rw [← hXb] at m0
  rw [← hYb] at m1
  have hS : w0.cell? ⟨Xb, 0, none⟩ = some (.int .i64 g) ∧ w0.cell? ⟨Xb, 1, none⟩ = some (.int .i64 r) ∧ w0.cell? ⟨Xb, 2, none⟩ = some (.string lb) ∧ w0.cell? ⟨Xb, 3, none⟩ = some (.int .i64 n) ∧ w0.cell? ⟨Xb, 4, none⟩ = some (.int .i64 ix) ∧ w0.cell? ⟨Xb, 5, none⟩ = some (.string X) ∧ w0.cell? ⟨Yb, 0, none⟩ = some (.int .i64 g') ∧ w0.cell? ⟨Yb, 1, none⟩ = some (.int .i64 r') ∧ w0.cell? ⟨Yb, 2, none⟩ = some (.string lb') ∧ w0.cell? ⟨Yb, 3, none⟩ = some (.int .i64 n') ∧ w0.cell? ⟨Yb, 4, none⟩ = some (.int .i64 ix') ∧ w0.cell? ⟨Yb, 5, none⟩ = some (.string X') ∧ BelowG w.heap.size w w0 := ⟨(cell_of_row _ _ 0 _ 53 (0, 0) m0).trans rfl, (cell_of_row _ _ 1 _ 53 (0, 0) m0).trans rfl, (cell_of_row _ _ 2 _ 53 (0, 0) m0).trans rfl, (cell_of_row _ _ 3 _ 53 (0, 0) m0).trans rfl, (cell_of_row _ _ 4 _ 53 (0, 0) m0).trans rfl, (cell_of_row _ _ 5 _ 53 (0, 0) m0).trans rfl, (cell_of_row _ _ 0 _ 53 (0, 0) m1).trans rfl, (cell_of_row _ _ 1 _ 53 (0, 0) m1).trans rfl, (cell_of_row _ _ 2 _ 53 (0, 0) m1).trans rfl, (cell_of_row _ _ 3 _ 53 (0, 0) m1).trans rfl, (cell_of_row _ _ 4 _ 53 (0, 0) m1).trans rfl, (cell_of_row _ _ 5 _ 53 (0, 0) m1).trans rfl, b0⟩
  have hc := fun W : World => cmpS_grow g r lb n ix g' r' lb' n' ix' W
  have hs := fun W : World => Tryz.strings_Compare X X' W
  have hq : cmpQ ((g, r, lb, n, ix), X) ((g', r', lb', n', ix'), X') = if cmpS g r lb n ix g' r' lb' n' ix' = 0 then Lib.compareBytes X.data.toList X'.data.toList else cmpS g r lb n ix g' r' lb' n' ix' := by
    unfold cmpQ
    rw [cmpS_eq]
    rfl
  rw [hq]
  dsimp only [sv] at hc
  generalize cmpS g r lb n ix g' r' lb' n' ix' = A at *
  generalize Lib.compareBytes X.data.toList X'.data.toList = B at *
  obtain ⟨V, hV⟩ : ∃ V : Int, V = (if A = 0 then B else A) := ⟨_, rfl⟩
  rw [← hV]
  have HV := hide hV
  clear hV
  have HW := hide (And.intro hw0 (And.intro hXb hYb))
  have HS := hide hS
  clear hw0 hXb hYb m0 m1 b0 hS hq
  dsimp only [ev]
  go_enter Tryz.func125, Tryz.ntmps125
  go_upto_region 1 with fail
  rw [← HW.out.1, ← HW.out.2.2, ← HW.out.2.1]
  refine wp_region_held_drew (S := fun w' => w'.cell? ⟨Xb, 0, none⟩ = some (.int .i64 g) ∧ w'.cell? ⟨Xb, 1, none⟩ = some (.int .i64 r) ∧ w'.cell? ⟨Xb, 2, none⟩ = some (.string lb) ∧ w'.cell? ⟨Xb, 3, none⟩ = some (.int .i64 n) ∧ w'.cell? ⟨Xb, 4, none⟩ = some (.int .i64 ix) ∧ w'.cell? ⟨Xb, 5, none⟩ = some (.string X) ∧ w'.cell? ⟨Yb, 0, none⟩ = some (.int .i64 g') ∧ w'.cell? ⟨Yb, 1, none⟩ = some (.int .i64 r') ∧ w'.cell? ⟨Yb, 2, none⟩ = some (.string lb') ∧ w'.cell? ⟨Yb, 3, none⟩ = some (.int .i64 n') ∧ w'.cell? ⟨Yb, 4, none⟩ = some (.int .i64 ix') ∧ w'.cell? ⟨Yb, 5, none⟩ = some (.string X') ∧ BelowG w.heap.size w w') (by kernel_rfl) (by exact ⟨HS.out.1, HS.out.2.1, HS.out.2.2.1, HS.out.2.2.2.1, HS.out.2.2.2.2.1, HS.out.2.2.2.2.2.1, HS.out.2.2.2.2.2.2.1, HS.out.2.2.2.2.2.2.2.1, HS.out.2.2.2.2.2.2.2.2.1, HS.out.2.2.2.2.2.2.2.2.2.1, HS.out.2.2.2.2.2.2.2.2.2.2.1, HS.out.2.2.2.2.2.2.2.2.2.2.2.1, HS.out.2.2.2.2.2.2.2.2.2.2.2.2.drew⟩) (fun hHeld => ?_)
  try dsimp only at hHeld
  generalize w0.drew = Wd at hHeld ⊢
  refine take_op (i := 0) (d := 5) (OP := Op.fieldAddr 53 (Operand.tmp 2) 0) (T := 0) (v := ?vzs1) rfl rfl rfl rfl (by kernel_rfl) (by kernel_rfl) (by kernel_rfl) (fun _ _ _ h => h) (by rfl) ?hzs1 hHeld ?rzs1
  case hzs1 => (intro w' hSw; (try dsimp only at hSw); go_simp <;> with_reducible rfl)
  try simp only [Act.put, sI, sZ, sS]
  refine take_op (i := 1) (d := 6) (OP := Op.load 43 (Operand.tmp 5)) (T := 43) (v := ?vzs2) rfl rfl rfl rfl (by kernel_rfl) (by kernel_rfl) (by kernel_rfl) (fun _ _ _ h => h) (by rfl) ?hzs2 hHeld ?rzs2
  case hzs2 => (intro w' hSw; (try dsimp only at hSw); go_simp <;> with_reducible rfl)
  try simp only [Act.put, sI, sZ, sS]
  refine take_op (i := 2) (d := 7) (OP := Op.fieldAddr 53 (Operand.tmp 3) 0) (T := 0) (v := ?vzs3) rfl rfl rfl rfl (by kernel_rfl) (by kernel_rfl) (by kernel_rfl) (fun _ _ _ h => h) (by rfl) ?hzs3 hHeld ?rzs3
  case hzs3 => (intro w' hSw; (try dsimp only at hSw); go_simp <;> with_reducible rfl)
  try simp only [Act.put, sI, sZ, sS]
  refine take_op (i := 3) (d := 8) (OP := Op.load 43 (Operand.tmp 7)) (T := 43) (v := ?vzs4) rfl rfl rfl rfl (by kernel_rfl) (by kernel_rfl) (by kernel_rfl) (fun _ _ _ h => h) (by rfl) ?hzs4 hHeld ?rzs4
  case hzs4 => (intro w' hSw; (try dsimp only at hSw); go_simp <;> with_reducible rfl)
  try simp only [Act.put, sI, sZ, sS]
  refine take_op (i := 5) (d := 10) (OP := Op.fieldAddr 53 (Operand.tmp 2) 1) (T := 0) (v := ?vzs5) rfl rfl rfl rfl (by kernel_rfl) (by kernel_rfl) (by kernel_rfl) (fun _ _ _ h => h) (by rfl) ?hzs5 hHeld ?rzs5
  case hzs5 => (intro w' hSw; (try dsimp only at hSw); go_simp <;> with_reducible rfl)
  try simp only [Act.put, sI, sZ, sS]
  refine take_op (i := 6) (d := 11) (OP := Op.load 9 (Operand.tmp 10)) (T := 9) (v := ?vzs6) rfl rfl rfl rfl (by kernel_rfl) (by kernel_rfl) (by kernel_rfl) (fun _ _ _ h => h) (by rfl) ?hzs6 hHeld ?rzs6
  case hzs6 => (intro w' hSw; (try dsimp only at hSw); go_simp <;> with_reducible rfl)
  try simp only [Act.put, sI, sZ, sS]
  refine take_op (i := 7) (d := 12) (OP := Op.fieldAddr 53 (Operand.tmp 3) 1) (T := 0) (v := ?vzs7) rfl rfl rfl rfl (by kernel_rfl) (by kernel_rfl) (by kernel_rfl) (fun _ _ _ h => h) (by rfl) ?hzs7 hHeld ?rzs7
  case hzs7 => (intro w' hSw; (try dsimp only at hSw); go_simp <;> with_reducible rfl)
  try simp only [Act.put, sI, sZ, sS]
  refine take_op (i := 8) (d := 13) (OP := Op.load 9 (Operand.tmp 12)) (T := 9) (v := ?vzs8) rfl rfl rfl rfl (by kernel_rfl) (by kernel_rfl) (by kernel_rfl) (fun _ _ _ h => h) (by rfl) ?hzs8 hHeld ?rzs8
  case hzs8 => (intro w' hSw; (try dsimp only at hSw); go_simp <;> with_reducible rfl)
  try simp only [Act.put, sI, sZ, sS]
  refine call_op (i := 4) (d := 9) (OP := Op.call { callee := Callee.value (Operand.func 127), args := #[Operand.tmp 6, Operand.tmp 8], argTypes := #[43, 43] }) (T := 3) (f := 127) (args := #[.agg #[.int .i64 g, .int .i64 r, .string lb, .int .i64 n, .int .i64 ix], .agg #[.int .i64 g', .int .i64 r', .string lb', .int .i64 n', .int .i64 ix']]) rfl rfl rfl rfl (by kernel_rfl) (by rfl) (by go_simp) ?_
  refine (hc _).mono ?_
  rintro e z1 ⟨rfl, bz⟩
  have qz : z1.cell? ⟨Xb, 0, none⟩ = some (.int .i64 g) ∧ z1.cell? ⟨Xb, 1, none⟩ = some (.int .i64 r) ∧ z1.cell? ⟨Xb, 2, none⟩ = some (.string lb) ∧ z1.cell? ⟨Xb, 3, none⟩ = some (.int .i64 n) ∧ z1.cell? ⟨Xb, 4, none⟩ = some (.int .i64 ix) ∧ z1.cell? ⟨Xb, 5, none⟩ = some (.string X) ∧ z1.cell? ⟨Yb, 0, none⟩ = some (.int .i64 g') ∧ z1.cell? ⟨Yb, 1, none⟩ = some (.int .i64 r') ∧ z1.cell? ⟨Yb, 2, none⟩ = some (.string lb') ∧ z1.cell? ⟨Yb, 3, none⟩ = some (.int .i64 n') ∧ z1.cell? ⟨Yb, 4, none⟩ = some (.int .i64 ix') ∧ z1.cell? ⟨Yb, 5, none⟩ = some (.string X') ∧ BelowG w.heap.size w z1 := ⟨cell_stays hHeld.1 bz.low, cell_stays hHeld.2.1 bz.low, cell_stays hHeld.2.2.1 bz.low, cell_stays hHeld.2.2.2.1 bz.low, cell_stays hHeld.2.2.2.2.1 bz.low, cell_stays hHeld.2.2.2.2.2.1 bz.low, cell_stays hHeld.2.2.2.2.2.2.1 bz.low, cell_stays hHeld.2.2.2.2.2.2.2.1 bz.low, cell_stays hHeld.2.2.2.2.2.2.2.2.1 bz.low, cell_stays hHeld.2.2.2.2.2.2.2.2.2.1 bz.low, cell_stays hHeld.2.2.2.2.2.2.2.2.2.2.1 bz.low, cell_stays hHeld.2.2.2.2.2.2.2.2.2.2.2.1 bz.low, hHeld.2.2.2.2.2.2.2.2.2.2.2.2.trans (bz.mono hHeld.2.2.2.2.2.2.2.2.2.2.2.2.size)⟩
  refine ⟨_, rfl, qz, ?_⟩
  clear bz
  replace hHeld := qz
  clear qz
  try simp only [Act.put, sI, sZ, sS]
  refine call_op (i := 9) (d := 14) (OP := Op.call { callee := Callee.value (Operand.func 128), args := #[Operand.tmp 11, Operand.tmp 13], argTypes := #[9, 9] }) (T := 3) (f := 128) (args := #[.string X, .string X']) rfl rfl rfl rfl (by kernel_rfl) (by rfl) (by go_simp) ?_
  refine (hs _).mono ?_
  rintro e z2 ⟨rfl, hz2⟩
  replace hz2 := hz2.symm
  subst hz2
  refine ⟨_, rfl, hHeld, ?_⟩
  try simp only [Act.put, sI, sZ, sS]
  obtain ⟨z3, hz3⟩ : ∃ q, q = z1.alloc (.cells #[.int .i64 A, .int .i64 B] 3) := ⟨_, rfl⟩
  have m3 := heap_alloc_new z1 (.cells #[.int .i64 A, .int .i64 B] 3)
  rw [← hz3] at m3
  have b3 : BelowG z1.heap.size z1 z3 := by rw [hz3]; exact (BelowG.refl _ z1).alloc (Nat.le_refl _) _
  have q3 : z3.cell? ⟨Xb, 0, none⟩ = some (.int .i64 g) ∧ z3.cell? ⟨Xb, 1, none⟩ = some (.int .i64 r) ∧ z3.cell? ⟨Xb, 2, none⟩ = some (.string lb) ∧ z3.cell? ⟨Xb, 3, none⟩ = some (.int .i64 n) ∧ z3.cell? ⟨Xb, 4, none⟩ = some (.int .i64 ix) ∧ z3.cell? ⟨Xb, 5, none⟩ = some (.string X) ∧ z3.cell? ⟨Yb, 0, none⟩ = some (.int .i64 g') ∧ z3.cell? ⟨Yb, 1, none⟩ = some (.int .i64 r') ∧ z3.cell? ⟨Yb, 2, none⟩ = some (.string lb') ∧ z3.cell? ⟨Yb, 3, none⟩ = some (.int .i64 n') ∧ z3.cell? ⟨Yb, 4, none⟩ = some (.int .i64 ix') ∧ z3.cell? ⟨Yb, 5, none⟩ = some (.string X') ∧ BelowG w.heap.size w z3 := ⟨cell_stays hHeld.1 b3.low, cell_stays hHeld.2.1 b3.low, cell_stays hHeld.2.2.1 b3.low, cell_stays hHeld.2.2.2.1 b3.low, cell_stays hHeld.2.2.2.2.1 b3.low, cell_stays hHeld.2.2.2.2.2.1 b3.low, cell_stays hHeld.2.2.2.2.2.2.1 b3.low, cell_stays hHeld.2.2.2.2.2.2.2.1 b3.low, cell_stays hHeld.2.2.2.2.2.2.2.2.1 b3.low, cell_stays hHeld.2.2.2.2.2.2.2.2.2.1 b3.low, cell_stays hHeld.2.2.2.2.2.2.2.2.2.2.1 b3.low, cell_stays hHeld.2.2.2.2.2.2.2.2.2.2.2.1 b3.low, hHeld.2.2.2.2.2.2.2.2.2.2.2.2.trans (b3.mono hHeld.2.2.2.2.2.2.2.2.2.2.2.2.size)⟩
  refine turn_op (i := 10) (d := 15) (OP := Op.buildSlice 156 2 #[(0, Operand.tmp 9), (1, Operand.tmp 14)]) (T := 156) (v := .slice (some ⟨z1.heap.size, 0, none⟩) 2 2) (w' := z3) rfl rfl rfl rfl (by kernel_rfl) (by rfl) (by rw [hz3]; exact exec_bs33 rfl rfl) q3 ?_
  try simp only [Act.put, sI, sZ, sS]
  refine call_op (i := 11) (d := 16) (OP := Op.call { callee := Callee.value (Operand.func 126), args := #[Operand.tmp 15], argTypes := #[156] }) (T := 3) (f := 126) (args := #[.slice (some ⟨z1.heap.size, 0, none⟩) 2 2]) rfl rfl rfl rfl (by kernel_rfl) (by rfl) (by go_simp) ?_
  have hor := or126 A B m3
  rw [← HV.out] at hor
  refine hor.mono ?_
  rintro e z4 ⟨rfl, hz4⟩
  replace hz4 := hz4.symm
  subst hz4
  refine ⟨_, rfl, q3, ?_⟩
  try simp only [Act.put, sI, sZ, sS]
  refine take_op (i := 12) (d := 4) (OP := Op.assign (Operand.tmp 16)) (T := 3) (v := ?vzs9) rfl rfl rfl rfl (by kernel_rfl) (by kernel_rfl) (by kernel_rfl) (fun _ _ _ h => h) (by rfl) ?hzs9 q3 ?rzs9
  case hzs9 => (intro w' hSw; (try dsimp only at hSw); go_simp <;> with_reducible rfl)
  try simp only [Act.put, sI, sZ, sS]
  refine wpAnyH_done (by kernel_rfl) ?_ _
  have HE := hide q3.2.2.2.2.2.2.2.2.2.2.2.2
  clear q3 hHeld m3 b3 hz3 HS HW hc hs hor
  go_wp2
  go_ret
  exact ⟨rfl, HE.out⟩

theorem ltQ_iff (a b : El) : ltOf cmpQ a b = true ↔ cmpQ a b = -1 := by
  have := ordS_Q.range a b
  unfold ltOf
  simp
  omega
theorem ltQ_no (a b : El) : ltOf cmpQ a b = false ↔ cmpQ a b ≠ -1 := by
  rw [Ne, ← ltQ_iff]; simp
theorem swo_Q : SWO (ltOf cmpQ) where
  irrefl x := by rw [ltQ_no, ordS_Q.refl]; decide
  trans x y z h1 h2 := by rw [ltQ_iff] at *; exact ordS_Q.trans _ _ _ h1 h2
  ntrans x y z h1 h2 := by
    rw [ltQ_no] at *
    intro h3
    rcases ordS_Q.range x y with h | h | h
    · exact h1 h
    · rw [ordS_Q.eq _ _ h] at h3; exact h2 h3
    · have : cmpQ y x = -1 := by rw [ordS_Q.anti, h]
      exact h2 (ordS_Q.trans _ _ _ this h3)
/-- A sorted list with the members of L. -/
def SortsQ (L L' : List El) : Prop := L'.length = L.length ∧ L'.Perm L ∧ L'.Pairwise (fun x y => cmpQ y x ≠ -1)
theorem SortsQ.up {L L' : List El} (h : SortsQ L L') (hd : L.Nodup) : Rise.Up cmpQ id L' ∧ ∀ z, z ∈ L' ↔ z ∈ L := by
  refine ⟨?_, fun z => h.2.1.mem_iff⟩
  have hd' : L'.Nodup := h.2.1.nodup_iff.2 hd
  refine (h.2.2.and hd').imp (fun {x y} ⟨h1, h2⟩ => ?_)
  rw [ordS_Q.anti] at h1
  rcases ordS_Q.range x y with e | e | e
  · exact e
  · exact absurd (ordS_Q.eq _ _ e) h2
  · omega
theorem sort124 {W : World} {B g cap : Nat} {L : List El} (h : Oe W B (.slice (some ⟨g, 0, none⟩) L.length cap) L) (hl : L.length ≤ 100000) : Calls Tryz.prog 124 #[.slice (some ⟨g, 0, none⟩) L.length cap, .func (.func 125) #[] #[]] W fun e w' => e = .returned (.tuple #[]) ∧ ∃ L', SortsQ L L' ∧ Oe w' B (.slice (some ⟨g, 0, none⟩) L.length cap) L' ∧ Below B W w' := by
  have hlt := (World.ownsRow.lt h g rfl).2
  have eg : ∀ args w, (callFunc 125 args).run Tryz.prog w = .ok (.enter 125 args) w := enters_of Tryz.func125 (by kernel_rfl) rfl
  have hc : CmpLays Tryz.prog 125 #[] encE 6 cmpQ g 0 L.toArray.size W := fun _ _ _ _ x y => (cmpQ125 x y _).mono fun _ _ ⟨he, hw⟩ => ⟨he, hw.grows⟩
  have hH : HoldsK encE 6 W g 0 L.toArray := by
    intro j hj
    have hv : (flatE L)[j]? = some ((flatK encE 6 L.toArray)[j]!) := by
      rw [← flatK_E, Array.getElem?_toList, Array.getElem?_eq_getElem hj, getElem!_pos _ j hj]
    refine ⟨h.re0 j _ hv, ?_⟩
    rcases h.2 with ⟨h1, _⟩ | ⟨g', cap', cur, e, hb, hg, _⟩
    · cases h1
    · injection e with e1 e2 e3
      injection e1 with e1
      injection e1 with e1 _ _
      subst e1
      exact frozen_of_row W g _ _ _ hg
  have hs := AnyQ.slices_SortFunc Tryz.sortElems 6 Tryz.isAgg53 Tryz.sizeOf53 encE (fun _ => rfl) (fun x v hv => flatE_one [x] v (by simpa [flatE] using hv)) cmpQ swo_Q 125 #[] g 0 cap L.toArray W eg hc hH hlt (by simp; omega)
  simp only [List.size_toArray] at hs
  change Calls Tryz.prog 124 _ _ _ at hs
  refine hs.mono ?_
  rintro e w' ⟨he, d', n, os, hp, hso, rfl⟩
  have hds : d'.size = L.length := by have := hp.1; simpa using this
  have hS : SortsQ L d'.toList := by
    refine ⟨by simpa using hds, ?_, ?_⟩
    · have := hp.2.2
      rw [Array.extract_eq_self_of_le (by omega), Array.extract_eq_self_of_le (by simp)] at this
      simpa using this
    · rw [List.pairwise_iff_getElem]
      intro i j hi hj hij
      have h2 : j < L.length := by simpa [hds] using hj
      have := hso i j (Nat.zero_le _) hij h2
      rw [getElem!_pos d' i (by omega), getElem!_pos d' j (by omega), ltQ_no] at this
      simpa using this
  have := h.sorted (L' := d'.toList) (by simpa using hds) n os
  rw [Array.toArray_toList] at this
  exact ⟨he, d'.toList, hS, this⟩
theorem sort124_nil (w : World) (p : Option Addr) (cap : Nat) : Calls Tryz.prog 124 #[.slice p 0 cap, .func (.func 125) #[] #[]] w fun e w' => e = .returned (.tuple #[]) ∧ w' = w := by
  have := AnyF.slices_SortFunc_none Tryz.sortElems p cap (.func (.func 125) #[] #[]) w
  change Calls Tryz.prog 124 _ _ _ at this
  exact this
end Go.Proofs.YtkkpdgfllnbigaaGreat.Tg
namespace Go.Proofs.YtkkpdgfllnbigaaGreat.Tg
set_option linter.unusedSimpArgs false
open Rise
variable {σ τ : Type} [DecidableEq τ] {f : τ → τ → Int}

/-- The groups that a going over tells, some stamps being gathered already. -/
def gA (acc : List σ) : List (σ × τ) → List (τ × List σ)
  | [] => []
  | [x] => [(x.2, acc ++ [x.1])]
  | x :: y :: l => if y.2 = x.2 then gA (acc ++ [x.1]) (y :: l) else (x.2, acc ++ [x.1]) :: gA [] (y :: l)
/-- The stamps of a text's tags. -/
def stL (X : τ) (l : List (σ × τ)) : List σ := (l.filter fun x => decide (x.2 = X)).map Prod.fst
theorem stL_cons (X : τ) (x : σ × τ) (l : List (σ × τ)) : stL X (x :: l) = (if x.2 = X then [x.1] else []) ++ stL X l := by
  unfold stL
  by_cases h : x.2 = X <;> simp [List.filter_cons, h]
theorem stL_none {X : τ} {l : List (σ × τ)} (h : ∀ x ∈ l, x.2 ≠ X) : stL X l = [] := by
  unfold stL
  rw [List.map_eq_nil_iff, List.filter_eq_nil_iff]
  intro x hx
  simpa using h x hx
theorem gA_is (o : OrdS f) : ∀ (l : List (σ × τ)) (x : σ × τ) (acc : List σ), (x :: l).Pairwise (fun a b => f a.2 b.2 ≤ 0) →
    gA acc (x :: l) = (compact ((x :: l).map Prod.snd)).map fun X => (X, (if X = x.2 then acc else []) ++ stL X (x :: l))
  | [], x, acc, _ => by
    simp [gA, compact, stL]
  | y :: l, x, acc, h => by
    have h' := List.pairwise_cons.1 h
    rw [gA]
    by_cases e : y.2 = x.2
    · rw [if_pos e, gA_is o l y (acc ++ [x.1]) h'.2]
      have hc : compact ((x :: y :: l).map Prod.snd) = compact ((y :: l).map Prod.snd) := by
        simp only [List.map_cons, compact, e, if_true]
      rw [hc]
      apply List.map_congr_left
      intro X _
      rw [stL_cons X x]
      by_cases hX : X = x.2
      · subst hX
        simp [e]
      · have h2 : ¬ X = y.2 := fun h => hX (h.trans e)
        have h3 : ¬ x.2 = X := fun h => hX h.symm
        simp [hX, h2, h3]
    · rw [if_neg e, gA_is o l y [] h'.2]
      have e' : ¬ x.2 = y.2 := fun h => e h.symm
      have hc : compact ((x :: y :: l).map Prod.snd) = x.2 :: compact ((y :: l).map Prod.snd) := by
        simp only [List.map_cons, compact, e', if_false]
      rw [hc, List.map_cons]
      have hxy : f x.2 y.2 = -1 := by
        have h1 := h'.1 y (List.mem_cons_self ..)
        rcases o.range x.2 y.2 with h | h | h
        · exact h
        · exact absurd (o.eq _ _ h) e'
        · omega
      have hno : ∀ z ∈ y :: l, z.2 ≠ x.2 := fun z hz hzx => by
        rcases List.mem_cons.1 hz with rfl | hz
        · exact e hzx
        · have h1 := (List.pairwise_cons.1 h'.2).1 z hz
          rw [hzx] at h1
          have h2 := o.anti x.2 y.2
          omega
      congr 1
      · dsimp only
        rw [stL_cons, stL_none hno]
        simp
      · apply List.map_congr_left
        intro X hX
        have hs : (List.map Prod.snd (y :: l)).Pairwise (fun a b => f a b ≤ 0) := by
          rw [List.pairwise_map]
          exact h'.2
        obtain ⟨z, hz, rfl⟩ := List.mem_map.1 (((compact_says o hs).2 X).1 hX)
        have h1 := hno z hz
        rw [stL_cons z.2 x]
        have h2 : ¬ x.2 = z.2 := fun h => h1 h.symm
        simp [h1, h2]
theorem gA_all (o : OrdS f) {l : List (σ × τ)} (h : l.Pairwise (fun a b => f a.2 b.2 ≤ 0)) : gA [] l = (compact (l.map Prod.snd)).map fun X => (X, stL X l) := by
  cases l with
  | nil => simp [gA, compact]
  | cons x l =>
    rw [gA_is o l x [] h]
    apply List.map_congr_left
    intro X _
    simp
/-- Of what is kept, the first ones that are as one asks: where none such stands behind one that isn't. -/
theorem take_filter {α : Type} {p q : α → Bool} : ∀ {l : List α}, l.Pairwise (fun a b => q a = true → p a = false → p b = false) → (∀ x ∈ l, p x = true → q x = true) → (l.filter q).takeWhile p = l.filter p
  | [], _, _ => rfl
  | a :: l, h, k => by
    have h' := List.pairwise_cons.1 h
    have ih := take_filter (p := p) (q := q) h'.2 (fun x hx => k x (List.mem_cons_of_mem _ hx))
    cases hq : q a with
    | true =>
      rw [List.filter_cons_of_pos hq]
      cases hp : p a with
      | true => rw [List.takeWhile_cons_of_pos hp, List.filter_cons_of_pos hp, ih]
      | false =>
        rw [List.takeWhile_cons_of_neg (by simp [hp]), List.filter_cons_of_neg (by simp [hp])]
        symm
        rw [List.filter_eq_nil_iff]
        intro b hb
        simp [h'.1 b hb hq hp]
    | false =>
      have hp : p a = false := by
        rw [Bool.eq_false_iff]
        intro hp
        rw [k a (List.mem_cons_self ..) hp] at hq
        cases hq
      rw [List.filter_cons_of_neg (by simp [hq]), List.filter_cons_of_neg (by simp [hp]), ih]
end Go.Proofs.YtkkpdgfllnbigaaGreat.Tg
namespace Go.Proofs.YtkkpdgfllnbigaaGreat.Tg
open Go.RowKit Go.Shelf
set_option linter.unusedSimpArgs false

theorem ordS_B : Rise.OrdS Pm.cmpB := ⟨Pm.ord_B.range, Pm.ord_B.anti, Pm.ord_B.eq, Pm.ord_B.trans⟩
theorem drop_posT {K : ByteArray} : ∀ {l : List Kv}, Pm.Srt l → l.drop (Pm.pos K l) = l.filter fun x => !decide (Pm.cmpB x.1 K = -1)
  | [], _ => rfl
  | x :: l, h => by
    have h' := List.pairwise_cons.1 h
    rw [Pm.pos]
    by_cases c : Pm.cmpB x.1 K = -1
    · rw [if_pos c, List.filter_cons_of_neg (by simp [c])]
      rw [List.drop_succ_cons]
      exact drop_posT h'.2
    · rw [if_neg c, List.drop_zero, List.filter_cons_of_pos (by simp [c])]
      congr 1
      symm
      rw [List.filter_eq_self]
      intro y hy
      have h1 := h'.1 y hy
      simp only [Bool.not_eq_true', decide_eq_false_iff_not]
      intro h2
      exact c (Pm.ord_B.trans _ _ _ h1 h2)
/-- A key is the tag's of one text alone. -/
theorem tgV_text {k X Y : ByteArray} (h : tgV k X = true) : tgV k Y = true ↔ Y = X := by
  constructor
  · intro h2
    obtain ⟨e1, v1, -⟩ := tgV_of h
    obtain ⟨e2, v2, -⟩ := tgV_of h2
    have h3 := key_lex X Y v1 v2
    rw [← e1, ← e2, Pm.ord_B.refl] at h3
    by_cases c : Pm.cmpB X Y = 0
    · exact (Pm.ord_B.eq _ _ c).symm
    · rw [if_neg c] at h3
      exact absurd h3.symm c
  · rintro rfl; exact h
/-- What is gone over from a text's front on, as long as the keys are that text's. -/
def foundL (X : ByteArray) (l : List Kv) : List Kv := (l.drop (Pm.pos (frB X) l)).takeWhile fun x => tgV x.1 X
theorem found_is {l : List Kv} (hm : mayT l = true) (hs : Pm.Srt l) (X : ByteArray) : foundL X l = l.filter fun x => decide (x.2 = X) := by
  unfold foundL
  rw [drop_posT hs]
  have hp : ∀ x ∈ l, tgV x.1 X = decide (x.2 = X) := fun x hx => by
    rw [Bool.eq_iff_iff, tgV_text (mayT_mem hm hx), decide_eq_true_eq]
    exact eq_comm
  have hq : ∀ x ∈ l, (!decide (Pm.cmpB x.1 (frB X) = -1)) = !decide (Pm.cmpB x.2 X = -1) := fun x hx => by
    have h1 := tgV_of (mayT_mem hm hx)
    have h2 := key_front x.2 X (tgS x.1 x.2)
    rw [← h1.1] at h2
    congr 1
    rw [Bool.eq_iff_iff, decide_eq_true_eq, decide_eq_true_eq]
    exact h2
  rw [List.filter_congr hq]
  have e1 : ((l.filter fun x => !decide (Pm.cmpB x.2 X = -1)).takeWhile fun x => tgV x.1 X) = (l.filter fun x => !decide (Pm.cmpB x.2 X = -1)).takeWhile fun x => decide (x.2 = X) := by
    have : ∀ (m : List Kv), (∀ x ∈ m, x ∈ l) → (m.takeWhile fun x => tgV x.1 X) = m.takeWhile fun x => decide (x.2 = X) := by
      intro m
      induction m with
      | nil => intro _; rfl
      | cons a m ih =>
        intro h
        simp only [List.takeWhile_cons, hp a (h a (List.mem_cons_self ..)), ih (fun x hx => h x (List.mem_cons_of_mem _ hx))]
    exact this _ (fun x hx => (List.mem_filter.1 hx).1)
  rw [e1]
  refine take_filter ?_ (fun x _ h => ?_)
  · refine List.Pairwise.imp_of_mem ?_ hs
    intro a b ha hb hab h1 h2
    simp only [Bool.not_eq_true', decide_eq_false_iff_not] at h1 h2
    have ka := tgV_of (mayT_mem hm ha)
    have kb := tgV_of (mayT_mem hm hb)
    have h3 := key_lex a.2 b.2 ka.2.1 kb.2.1
    rw [← ka.1, ← kb.1, hab] at h3
    simp only [decide_eq_false_iff_not]
    intro e
    rw [e] at h3
    by_cases c : Pm.cmpB a.2 X = 0
    · exact h2 (Pm.ord_B.eq _ _ c)
    · rw [if_neg c] at h3
      exact h1 h3.symm
  · simp only [decide_eq_true_eq] at h
    simp [h, Pm.ord_B.refl]
end Go.Proofs.YtkkpdgfllnbigaaGreat.Tg
namespace Go.Proofs.YtkkpdgfllnbigaaGreat.Tg
open Go.RowKit Go.Shelf
set_option linter.unusedSimpArgs false
attribute [local go_sem] Oper.semAt_some

/-- Sorted by stamps, of one stamp by texts: one by one. -/
def posQ (x : El) : List El → Nat
  | [] => 0
  | y :: l => if cmpQ y x = -1 then posQ x l + 1 else 0
theorem posQ_le (x : El) : ∀ l, posQ x l ≤ l.length
  | [] => Nat.le_refl _
  | y :: l => by
    rw [posQ]
    split
    · have := posQ_le x l; simp; omega
    · omega
theorem posQ_lt (x : El) : ∀ (l : List El) (n : Nat) (y : El), l[n]? = some y → n < posQ x l → cmpQ y x = -1
  | [], n, y, h, _ => by simp at h
  | z :: l, n, y, h, hn => by
    rw [posQ] at hn
    split at hn
    · rename_i hz
      cases n with
      | zero => simp at h; subst h; exact hz
      | succ n => exact posQ_lt x l n y (by simpa using h) (by omega)
    · omega
theorem posQ_at (x : El) : ∀ (l : List El) (y : El), l[posQ x l]? = some y → ¬ cmpQ y x = -1
  | [], y, h => by simp at h
  | z :: l, y, h => by
    rw [posQ] at h
    split at h
    · exact posQ_at x l y (by simpa using h)
    · rename_i hz
      simp at h; subst h; exact hz
def insQ (x : El) (l : List El) : List El := l.take (posQ x l) ++ [x] ++ l.drop (posQ x l)
def inlQ (o l : List El) : List El := l.foldl (fun o x => insQ x o) o
def srtQ (l : List El) : List El := inlQ [] l
theorem insQ_perm (x : El) (l : List El) : (insQ x l).Perm (x :: l) := by
  unfold insQ
  have h : (l.take (posQ x l) ++ [x] ++ l.drop (posQ x l)).Perm ([x] ++ l.take (posQ x l) ++ l.drop (posQ x l)) := List.Perm.append_right _ List.perm_append_comm
  refine h.trans ?_
  rw [List.append_assoc, List.take_append_drop]
  exact List.Perm.refl _
theorem inlQ_perm : ∀ (l o : List El), (inlQ o l).Perm (o ++ l)
  | [], o => by simp [inlQ]
  | x :: l, o => by
    show (inlQ (insQ x o) l).Perm _
    refine (inlQ_perm l (insQ x o)).trans ?_
    refine ((insQ_perm x o).append_right l).trans ?_
    exact (List.perm_middle (a := x) (l₁ := o) (l₂ := l)).symm
theorem srtQ_perm (l : List El) : (srtQ l).Perm l := by have := inlQ_perm l []; rw [List.nil_append] at this; exact this
theorem inlQ_snoc (o l : List El) (x : El) : inlQ o (l ++ [x]) = insQ x (inlQ o l) := by simp [inlQ]
theorem srtQ_len (l : List El) : (srtQ l).length = l.length := (srtQ_perm l).length_eq
abbrev UpQ (l : List El) : Prop := Rise.Up cmpQ id l
theorem gtQ_of {a b : El} (h : ¬ cmpQ a b = -1) (hne : a ≠ b) : cmpQ b a = -1 := by
  rw [ordS_Q.anti]
  rcases ordS_Q.range a b with h1 | h1 | h1
  · exact absurd h1 h
  · exact absurd (ordS_Q.eq _ _ h1) hne
  · omega
theorem insQ_up (x : El) : ∀ (l : List El), UpQ l → (∀ y ∈ l, y ≠ x) → UpQ (insQ x l)
  | [], _, _ => by simp [insQ, Rise.Up]
  | y :: l, h, hne => by
    have h' := List.pairwise_cons.1 h
    have hy := hne y (List.mem_cons_self ..)
    unfold insQ
    rw [posQ]
    by_cases c : cmpQ y x = -1
    · rw [if_pos c]
      show UpQ (y :: (l.take (posQ x l)) ++ [x] ++ l.drop (posQ x l))
      have ih := insQ_up x l h'.2 (fun z hz => hne z (List.mem_cons_of_mem _ hz))
      have : y :: (l.take (posQ x l)) ++ [x] ++ l.drop (posQ x l) = y :: insQ x l := rfl
      rw [this]
      refine List.pairwise_cons.2 ⟨fun z hz => ?_, ih⟩
      rcases List.mem_cons.1 ((insQ_perm x l).mem_iff.1 hz) with rfl | hz
      · exact c
      · exact h'.1 z hz
    · rw [if_neg c]
      show UpQ (x :: y :: l)
      have hxy := gtQ_of c hy
      refine List.pairwise_cons.2 ⟨fun z hz => ?_, h⟩
      rcases List.mem_cons.1 hz with rfl | hz
      · exact hxy
      · exact ordS_Q.trans _ _ _ hxy (h'.1 z hz)
theorem inlQ_up : ∀ (l o : List El), UpQ o → (o ++ l).Nodup → UpQ (inlQ o l)
  | [], o, h, _ => h
  | x :: l, o, h, hd => by
    show UpQ (inlQ (insQ x o) l)
    have hp : (o ++ x :: l).Perm (insQ x o ++ l) := ((List.perm_middle (a := x) (l₁ := o) (l₂ := l))).trans (((insQ_perm x o).append_right l).symm)
    refine inlQ_up l (insQ x o) (insQ_up x o h (fun y hy e => ?_)) (hp.nodup_iff.1 hd)
    subst e
    have := List.nodup_append.1 hd
    exact this.2.2 y hy y (List.mem_cons_self ..) rfl
theorem srtQ_up {l : List El} (h : l.Nodup) : UpQ (srtQ l) := inlQ_up l [] List.Pairwise.nil (by simpa using h)
/-- A sorted list is told by its members. -/
theorem upQ_eq {l m : List El} (hl : UpQ l) (hm : UpQ m) (h : ∀ z, z ∈ l ↔ z ∈ m) : l = m := Rise.Up.same (st := id) ordS_Q hl hm h
theorem sorts_is {L L' : List El} (h : SortsQ L L') (hd : L.Nodup) : L' = srtQ L := by
  obtain ⟨h1, h2⟩ := h.up hd
  exact upQ_eq h1 (srtQ_up hd) (fun z => by rw [h2, (srtQ_perm L).mem_iff])
theorem upX_nodup {l : List El} (h : Rise.Up cmpX id l) : l.Nodup := h.imp (fun {a b} hab e => by
  have : cmpX a b = -1 := hab
  rw [e, ordS_X.refl] at this
  omega)
theorem tagsL_nodup {l : List Kv} (hs : Pm.Srt l) : (tagsL l).Nodup := by
  unfold tagsL
  split
  · rename_i hm
    exact upX_nodup (tags_upX hm hs)
  · exact List.nodup_nil
/-- A set's elements. -/
def elsT (l : List Kv) : List El := srtQ (tagsL l)
theorem elsT_len (l : List Kv) : (elsT l).length = (tagsL l).length := srtQ_len _
theorem tagsL_len {l : List Kv} : (tagsL l).length ≤ l.length := by
  unfold tagsL
  split <;> simp
theorem may28 {w : World} {t : Pm.T} {pm : Option Addr} (h : Mg w t) (hp : t.ptr = .pointer pm) : Calls Tryz.prog 28 #[.agg #[.pointer pm]] w fun e w' => e = .returned (.bool (mayT t.list)) ∧ Below w.heap.size w w' := by
  obtain ⟨w0, hw0⟩ : ∃ q, q = w.alloc (.cells #[.pointer pm] 27) := ⟨_, rfl⟩
  have m0 := heap_alloc_new w (.cells #[.pointer pm] 27)
  have b0 : Below w.heap.size w w0 := by rw [hw0]; exact (Below.refl _ w).alloc (Nat.le_refl _) _
  rw [← hw0] at m0
  have ht := tags123 t w0 (Pm.In.below b0 h.inn) h.srt h.key (by have := h.few; omega)
  unfold Pm.mv at ht
  rw [hp] at ht
  have c0 := (cell_of_row w0 w.heap.size 0 _ 27 (0, 0) m0).trans rfl
  have HW := hide hw0
  have HB := hide b0
  generalize mayT t.list = M at *
  clear h hp m0 hw0 b0
  go_enter Tryz.func28, Tryz.ntmps28
  go_upto_region 1 with fail
  rw [← HW.out]
  go_wp2_with (go_at_call 123; refine ht.mono ?_; rintro e w1 ⟨ao, c, rfl, -, b1⟩; have H1 := hide (HB.out.trans (b1.mono HB.out.size)); clear b1; dsimp only)
  go_ret
  exact ⟨rfl, H1.out⟩
set_option maxHeartbeats 2000000 in
theorem elements29 {w : World} {t : Pm.T} {pm : Option Addr} (h : Mg w t) (hp : t.ptr = .pointer pm) : Calls Tryz.prog 29 #[.agg #[.pointer pm]] w fun e w' => ∃ ao c, e = .returned (.tuple #[.slice ao (elsT t.list).length c, .int .i64 (if mayT t.list = true then 0 else 2)]) ∧ Oe w' w.heap.size (.slice ao (elsT t.list).length c) (elsT t.list) ∧ Below w.heap.size w w' := by
  obtain ⟨w0, hw0⟩ : ∃ q, q = w.alloc (.cells #[.pointer pm] 27) := ⟨_, rfl⟩
  have m0 := heap_alloc_new w (.cells #[.pointer pm] 27)
  have b0 : Below w.heap.size w w0 := by rw [hw0]; exact (Below.refl _ w).alloc (Nat.le_refl _) _
  rw [← hw0] at m0
  have hz0 : w.heap.size ≤ w0.heap.size := b0.size
  have ht := tags123 t w0 (Pm.In.below b0 h.inn) h.srt h.key (by have := h.few; omega)
  unfold Pm.mv at ht
  rw [hp] at ht
  have c0 := (cell_of_row w0 w.heap.size 0 _ 27 (0, 0) m0).trans rfl
  have hnd := tagsL_nodup h.srt
  have hlen : (tagsL t.list).length ≤ 400 := by have h1 := @tagsL_len t.list; have h2 := h.few; rw [Pm.T.n_eq] at h1; omega
  have hnil : mayT t.list = false → tagsL t.list = [] := fun hm => by unfold tagsL; rw [hm]; rfl
  rw [elsT_len]
  have hE : elsT t.list = srtQ (tagsL t.list) := rfl
  rw [hE]
  obtain ⟨N, hN⟩ : ∃ N, N = (tagsL t.list).length := ⟨_, rfl⟩
  rw [← hN] at ht hlen ⊢
  generalize tagsL t.list = L at *
  have HW := hide hw0
  have HB := hide (And.intro b0 (And.intro hnd (And.intro hN (And.intro hlen hz0))))
  cases hm : mayT t.list with
  | false =>
    have hL := hnil hm
    subst hL
    obtain rfl : N = 0 := hN
    rw [hm] at ht
    clear h hp m0 hw0 b0 hnd hE hlen hnil hm hz0
    go_enter Tryz.func29, Tryz.ntmps29
    go_upto_region 1 with fail
    rw [← HW.out]
    go_wp2_with (go_at_call 123; refine ht.mono ?_; rintro e w1 ⟨ao, c, rfl, -, b1⟩; have H1 := hide (HB.out.1.trans (b1.mono HB.out.1.size)); clear b1; dsimp only)
    go_ret2
    exact ⟨none, 0, rfl, Oe.nil _ _, H1.out⟩
  | true =>
    rw [hm] at ht
    clear h hp m0 hw0 b0 hnd hN hE hlen hnil hm hz0
    go_enter Tryz.func29, Tryz.ntmps29
    go_upto_region 1 with fail
    rw [← HW.out]
    go_upto_region 4 with (go_at_call 123; refine ht.mono ?_; rintro e w1 ⟨ao, c, rfl, ho, b1⟩; have H1 := hide (And.intro ho b1); clear ho b1; dsimp only)
    have hso : ∃ ao' c', (Value.slice ao N c = .slice ao' N c') ∧ Calls Tryz.prog 124 #[.slice ao' N c', .func (.func 125) #[] #[]] w1 fun e w' => e = .returned (.tuple #[]) ∧ Oe w' w0.heap.size (.slice ao' N c') (srtQ L) ∧ Below w0.heap.size w1 w' := by
      refine ⟨ao, c, rfl, ?_⟩
      have ho := H1.out.1
      rw [HB.out.2.2.1] at ho
      rcases ho.shape with ⟨e1, e2⟩ | ⟨g, cap, e1, e2, e3, e4⟩
      · injection e1 with q1 q2 q3
        have hL : L = [] := e2
        have hN0 : N = 0 := by rw [HB.out.2.2.1, hL]; rfl
        subst q1 q3 hN0
        rw [hL] at ho ⊢
        exact (sort124_nil w1 none 0).mono (fun e w' ⟨he, hw⟩ => ⟨he, by rw [hw]; exact ho, by rw [hw]; exact Below.refl _ _⟩)
      · injection e1 with q1 q2 q3
        subst q1 q3
        have hs := sort124 ho (by have := HB.out.2.2.2.1; rw [HB.out.2.2.1] at this; omega)
        rw [← HB.out.2.2.1] at hs
        refine hs.mono ?_
        rintro e w' ⟨he, L', hS, hO, hb⟩
        rw [sorts_is hS HB.out.2.1] at hO
        exact ⟨he, hO, hb⟩
    obtain ⟨ao', c', hv, hso⟩ := hso
    rw [hv]
    clear hv
    go_wp2_with (go_at_call 124; refine hso.mono ?_; rintro e w2 ⟨rfl, ho2, b2⟩; have H2 := hide (And.intro ho2 b2); clear ho2 b2; dsimp only)
    go_ret2
    exact ⟨ao', c', rfl, H2.out.1.lift HB.out.2.2.2.2, HB.out.1.trans ((H1.out.2.trans H2.out.2).mono HB.out.2.2.2.2)⟩
end Go.Proofs.YtkkpdgfllnbigaaGreat.Tg
