/-
  OPS: the document's FormAll 21, Text 16, TextAll 22.
  OPS: the document's Copy 10.
-/
import Derived.Test.YtpepgoelnagoaaaGreatDoorMg19
import Derived.Test.YtpepgoelnagoaaaGreatDoorMg16
namespace Go.Proofs.YtpepgoelnagoaaaGreatDoor
open Go.RowKit Go.Shelf
set_option linter.unusedSimpArgs false
set_option linter.unusedVariables false
attribute [local go_sem] Oper.semAt_some

theorem dw_cell {w : World} {B D : Nat} (h : w.heap[B]? = some (.cells ((⟨#[]⟩ :: Ki.doWs).map Value.string).toArray 9 (0, 0))) (h1 : 1 ≤ D) (h7 : D ≤ 7) : w.cell? ⟨B, D, none⟩ = some (.string (Ki.wordB Ki.doWs (D : Int))) := by
  rw [cell_of_row _ _ D _ 9 (0, 0) h]
  rcases (by omega : D = 1 ∨ D = 2 ∨ D = 3 ∨ D = 4 ∨ D = 5 ∨ D = 6 ∨ D = 7) with rfl | rfl | rfl | rfl | rfl | rfl | rfl <;> kernel_rfl
theorem ba_nil (a : ByteArray) : a ++ (⟨#[]⟩ : ByteArray) = a := by
  apply Ki.ba_eq
  simp [ByteArray.data_append]
theorem txO_cat (o : Od) : (⟨(txO o).toArray⟩ : ByteArray) = (Ki.wordB Ki.doWs o.d ++ ⟨#[32]⟩ ++ ⟨(wordB (joinB o.p)).toArray⟩ ++ ⟨#[32]⟩ ++ ⟨(wordB o.s.data.toList).toArray⟩) ++ (if o.d = 1 then (⟨#[32]⟩ : ByteArray) ++ ⟨(decL o.n).toArray⟩ else if o.d = 6 then ⟨#[]⟩ else ⟨#[32]⟩ ++ ⟨(wordB o.t.data.toList).toArray⟩) := by
  apply Ki.ba_eq
  unfold txO txW doW
  split
  · simp [Lib.join, List.intercalate, ByteArray.data_append]
  · split
    · simp [Lib.join, List.intercalate, ByteArray.data_append]
    · simp [Lib.join, List.intercalate, ByteArray.data_append]

set_option maxHeartbeats 8000000 in
set_option maxRecDepth 100000 in
theorem refText16_any {w : World} {pa : Option Addr} {pc : Nat} (o : Od) (h : Ki.Rp w pa pc o.p) (ho : OkO o) (hn : I64 o.n) (hE : EnvO w) : Calls Tryz.prog 16 #[odv pa o.p.length pc o] w fun e w' => e = .returned (.string ⟨(txO o).toArray⟩) ∧ Below w.heap.size w w' := by
  rw [txO_cat]
  have hwl := wdS_len ho hn
  obtain ⟨p, k, s, d, n, t⟩ := o
  have hss := ho.ssz
  have htt := ho.text
  have hjl := joinB_len ho.path
  have hpath := ho.path
  have hd1 := ho.d1
  have hd7 := ho.d7
  dsimp only at hss htt hjl hpath h hn hd1 hd7 ⊢
  obtain ⟨D, rfl⟩ := Int.eq_ofNat_of_zero_le (show 0 ≤ d by omega)
  have h1d : 1 ≤ D := by omega
  have h7d : D ≤ 7 := by omega
  have h8 : ((D : Nat) : Int) < 8 := by omega
  obtain ⟨w0, hw0⟩ : ∃ q, q = w.alloc (.cells (odC pa p.length pc ⟨p, k, s, (D : Nat), n, t⟩) 34) := ⟨_, rfl⟩
  have d0 : Below w.heap.size w w0 := by rw [hw0]; exact (Below.refl _ w).alloc (Nat.le_refl _) _
  obtain ⟨Sb, hSb⟩ : ∃ q, q = w.heap.size := ⟨_, rfl⟩
  have m0 := op6_new w pa p.length pc ⟨p, k, s, (D : Nat), n, t⟩
  rw [← hw0, ← hSb] at m0
  have HS : Hid (∀ W, Below w0.heap.size w0 W → (W.cell? ⟨Sb, 0, none⟩ = some (.slice pa p.length pc) ∧ W.cell? ⟨Sb, 1, none⟩ = some (.int .i64 k) ∧ W.cell? ⟨Sb, 2, none⟩ = some (.string s) ∧ W.cell? ⟨Sb, 3, none⟩ = some (.int .i64 (D : Nat)) ∧ W.cell? ⟨Sb, 4, none⟩ = some (.int .i64 n) ∧ W.cell? ⟨Sb, 5, none⟩ = some (.string t)) ∧ True) := hide (fun W hW => ⟨op6_of ((hW.block _ (Array.getElem?_eq_some_iff.1 m0).1).trans m0), trivial⟩)
  have HW := hide (And.intro hw0 (And.intro hSb d0))
  have k56 := fun W => Ki.words9 W
  have k58 : ∀ W, Below w0.heap.size w0 W → Calls Tryz.prog 58 #[.slice pa p.length pc] W fun e w' => e = .returned (.string ⟨(joinB p).toArray⟩) ∧ w' = W := fun W hW => refJoin_any ((h.rs.below d0).below hW) hpath
  have kJP : ∀ W, Calls Tryz.prog 57 #[.string ⟨(joinB p).toArray⟩] W fun e w' => e = .returned (.string ⟨(wordB (joinB p)).toArray⟩) ∧ Below W.heap.size W w' := fun W => refWord_any ⟨(joinB p).toArray⟩ W (by rw [arr_size]; omega)
  have kS := fun W => refWord_any s W (by omega)
  have kT := fun W => refWord_any t W (by omega)
  have kF : ∀ W, Below w0.heap.size w0 W → Calls Tryz.prog 59 #[.int .i64 n, .int .i64 10] W fun e w' => e = .returned (.string ⟨(decL n).toArray⟩) ∧ Below W.heap.size W w' := fun W hW => format_any n W hn ((hE.below d0).below hW).env
  have z1 : (Ki.wordB Ki.doWs (D : Int)).size ≤ 6 := doW_len _
  have z2 : (⟨(wordB (joinB p)).toArray⟩ : ByteArray).size ≤ 2000 := by rw [arr_size]; have := wordB_len (joinB p); omega
  have z3 : (⟨(wordB s.data.toList).toArray⟩ : ByteArray).size ≤ 2000 := by rw [arr_size]; have := wordB_len s.data.toList; rw [← Lib.size_eq] at this; omega
  have z4 : (⟨(wordB t.data.toList).toArray⟩ : ByteArray).size ≤ 2000 := by rw [arr_size]; have := wordB_len t.data.toList; rw [← Lib.size_eq] at this; omega
  have z5 : (⟨(decL n).toArray⟩ : ByteArray).size ≤ 2000 := by rw [arr_size]; have := decL_len n hn; omega
  obtain ⟨DW, hDW⟩ : ∃ q, q = Ki.wordB Ki.doWs (D : Int) := ⟨_, rfl⟩
  rw [← hDW] at z1 ⊢
  have HD := hide hDW
  obtain ⟨JP, hJP⟩ : ∃ q, q = (⟨(joinB p).toArray⟩ : ByteArray) := ⟨_, rfl⟩
  rw [← hJP] at k58 kJP
  generalize (⟨(wordB (joinB p)).toArray⟩ : ByteArray) = WJ at kJP z2 ⊢
  generalize (⟨(wordB s.data.toList).toArray⟩ : ByteArray) = WS at kS z3 ⊢
  generalize (⟨(wordB t.data.toList).toArray⟩ : ByteArray) = WT at kT z4 ⊢
  generalize (⟨(decL n).toArray⟩ : ByteArray) = WN at kF z5 ⊢
  have f1 : ¬ 9223372036854775807 < DW.size + 1 := by omega
  have f2 : ¬ 9223372036854775807 < DW.size + 1 + WJ.size := by omega
  have f3 : ¬ 9223372036854775807 < DW.size + 1 + WJ.size + 1 := by omega
  have f4 : ¬ 9223372036854775807 < DW.size + 1 + WJ.size + 1 + WS.size := by omega
  have f5 : ¬ 9223372036854775807 < DW.size + 1 + WJ.size + 1 + WS.size + 1 := by omega
  have f6 : ¬ 9223372036854775807 < DW.size + 1 + WJ.size + 1 + WS.size + 1 + WT.size := by omega
  have f7 : ¬ 9223372036854775807 < DW.size + 1 + WJ.size + 1 + WS.size + 1 + WN.size := by omega
  clear h ho hE hn hss htt hjl hpath m0 hw0 hSb d0 hJP hDW hd1 hd7 hwl z1 z2 z3 z4 z5
  by_cases h1 : D = 1
  · rw [if_pos (show ((D : Nat) : Int) = 1 by omega)]
    have e1 : (((D : Nat) : Int) == 1) = true := by simp; omega
    clear h1
    go_enter Tryz.func16, Tryz.ntmps16
    go_upto_region 1 with fail
    rw [← HW.out.1, ← HW.out.2.1]
    have hsd := HS.out w0 (Below.refl _ _)
    refine wp_region_held_drew (S := fun w' => w'.cell? ⟨Sb, 0, none⟩ = some (.slice pa p.length pc) ∧ w'.cell? ⟨Sb, 1, none⟩ = some (.int .i64 k) ∧ w'.cell? ⟨Sb, 2, none⟩ = some (.string s) ∧ w'.cell? ⟨Sb, 3, none⟩ = some (.int .i64 (D : Nat)) ∧ w'.cell? ⟨Sb, 4, none⟩ = some (.int .i64 n) ∧ w'.cell? ⟨Sb, 5, none⟩ = some (.string t)) (by kernel_rfl) hsd.1 (fun hHeld => ?_)
    clear hsd
    obtain ⟨Wd, hWd⟩ : ∃ q, q = w0.drew := ⟨_, rfl⟩
    have b0 : Below w0.heap.size w0 Wd := by rw [hWd]; exact (Below.refl _ _).drew
    rw [← hWd] at hHeld ⊢
    clear hWd
    refine take_op (i := 1) (d := 5) (OP := Op.fieldAddr 34 (Operand.tmp 1) 3) (T := 0) (v := ?voga1) rfl rfl rfl rfl (by kernel_rfl) (by kernel_rfl) (by kernel_rfl) (fun _ _ _ h => h) (by rfl) ?hoga1 hHeld ?roga1
    case hoga1 => (intro w' hSw; (try dsimp only at hSw); go_simp <;> with_reducible rfl)
    try simp only [Act.put, List.setIfInBounds_toArray, List.set_cons_zero, List.set_cons_succ]
    refine take_op (i := 2) (d := 6) (OP := Op.load 32 (Operand.tmp 5)) (T := 32) (v := ?voga2) rfl rfl rfl rfl (by kernel_rfl) (by kernel_rfl) (by kernel_rfl) (fun _ _ _ h => h) (by rfl) ?hoga2 hHeld ?roga2
    case hoga2 => (intro w' hSw; (try dsimp only at hSw); go_simp <;> with_reducible rfl)
    try simp only [Act.put, List.setIfInBounds_toArray, List.set_cons_zero, List.set_cons_succ]
    refine take_op (i := 6) (d := 10) (OP := Op.fieldAddr 34 (Operand.tmp 1) 0) (T := 0) (v := ?voga3) rfl rfl rfl rfl (by kernel_rfl) (by kernel_rfl) (by kernel_rfl) (fun _ _ _ h => h) (by rfl) ?hoga3 hHeld ?roga3
    case hoga3 => (intro w' hSw; (try dsimp only at hSw); go_simp <;> with_reducible rfl)
    try simp only [Act.put, List.setIfInBounds_toArray, List.set_cons_zero, List.set_cons_succ]
    refine take_op (i := 7) (d := 11) (OP := Op.load 30 (Operand.tmp 10)) (T := 30) (v := ?voga4) rfl rfl rfl rfl (by kernel_rfl) (by kernel_rfl) (by kernel_rfl) (fun _ _ _ h => h) (by rfl) ?hoga4 hHeld ?roga4
    case hoga4 => (intro w' hSw; (try dsimp only at hSw); go_simp <;> with_reducible rfl)
    try simp only [Act.put, List.setIfInBounds_toArray, List.set_cons_zero, List.set_cons_succ]
    refine take_op (i := 12) (d := 16) (OP := Op.fieldAddr 34 (Operand.tmp 1) 2) (T := 0) (v := ?voga5) rfl rfl rfl rfl (by kernel_rfl) (by kernel_rfl) (by kernel_rfl) (fun _ _ _ h => h) (by rfl) ?hoga5 hHeld ?roga5
    case hoga5 => (intro w' hSw; (try dsimp only at hSw); go_simp <;> with_reducible rfl)
    try simp only [Act.put, List.setIfInBounds_toArray, List.set_cons_zero, List.set_cons_succ]
    refine take_op (i := 13) (d := 17) (OP := Op.load 9 (Operand.tmp 16)) (T := 9) (v := ?voga6) rfl rfl rfl rfl (by kernel_rfl) (by kernel_rfl) (by kernel_rfl) (fun _ _ _ h => h) (by rfl) ?hoga6 hHeld ?roga6
    case hoga6 => (intro w' hSw; (try dsimp only at hSw); go_simp <;> with_reducible rfl)
    try simp only [Act.put, List.setIfInBounds_toArray, List.set_cons_zero, List.set_cons_succ]
    refine call_op (i := 0) (d := 4) (OP := Op.call { callee := Callee.value (Operand.func 56), args := #[], argTypes := #[] }) (T := 30) (f := 56) (args := #[]) rfl rfl rfl rfl (by kernel_rfl) (by rfl) (by go_simp) ?_
    refine (k56 _).mono ?_
    rintro e y1 ⟨rfl, hy1⟩
    have dy1 : Below Wd.heap.size Wd y1 := by rw [hy1]; exact (Below.refl _ _).alloc (Nat.le_refl _) _
    have by1 := b0.trans (dy1.mono b0.size)
    have sy1 := (HS.out y1 by1).1
    have mW : y1.heap[Wd.heap.size]? = some (.cells ((⟨#[]⟩ :: Ki.doWs).map Value.string).toArray 9 (0, 0)) := by rw [hy1]; exact heap_alloc_new _ _
    have hdw := dw_cell mW h1d h7d
    rw [← HD.out] at hdw
    refine ⟨_, rfl, sy1, ?_⟩
    refine wpAnyH_mono (S' := fun w' => (w'.cell? ⟨Sb, 0, none⟩ = some (.slice pa p.length pc) ∧ w'.cell? ⟨Sb, 1, none⟩ = some (.int .i64 k) ∧ w'.cell? ⟨Sb, 2, none⟩ = some (.string s) ∧ w'.cell? ⟨Sb, 3, none⟩ = some (.int .i64 (D : Nat)) ∧ w'.cell? ⟨Sb, 4, none⟩ = some (.int .i64 n) ∧ w'.cell? ⟨Sb, 5, none⟩ = some (.string t)) ∧ w'.cell? ⟨Wd.heap.size, D, none⟩ = some (.string DW)) (fun _ h => h.1) ?_
    replace hHeld := And.intro sy1 hdw
    clear sy1 mW hy1
    try simp only [Act.put, List.setIfInBounds_toArray, List.set_cons_zero, List.set_cons_succ]
    refine take_op (i := 3) (d := 7) (OP := Op.indexAddr 30 (Operand.tmp 4) (Operand.tmp 6)) (T := 0) (v := ?voga7) rfl rfl rfl rfl (by kernel_rfl) (by kernel_rfl) (by kernel_rfl) (fun _ _ _ h => h) (by rfl) ?hoga7 hHeld ?roga7
    case hoga7 => (intro w' hSw; (try dsimp only at hSw); go_simp <;> with_reducible rfl)
    try simp only [Act.put, List.setIfInBounds_toArray, List.set_cons_zero, List.set_cons_succ]
    refine take_op (i := 4) (d := 8) (OP := Op.load 9 (Operand.tmp 7)) (T := 9) (v := ?voga8) rfl rfl rfl rfl (by kernel_rfl) (by kernel_rfl) (by kernel_rfl) (fun _ _ _ h => h) (by rfl) ?hoga8 hHeld ?roga8
    case hoga8 => (intro w' hSw; (try dsimp only at hSw); go_simp <;> with_reducible rfl)
    try simp only [Act.put, List.setIfInBounds_toArray, List.set_cons_zero, List.set_cons_succ]
    refine take_op (i := 5) (d := 9) (OP := Op.binOp BinOp.add 9 (Operand.tmp 8) (Operand.const (Value.string { data := #[32] })) 9) (T := 9) (v := ?voga9) rfl rfl rfl rfl (by kernel_rfl) (by kernel_rfl) (by kernel_rfl) (fun _ _ _ h => h) (by rfl) ?hoga9 hHeld ?roga9
    case hoga9 => (intro w' hSw; (try dsimp only at hSw); go_simp <;> with_reducible rfl)
    try simp only [Act.put, List.setIfInBounds_toArray, List.set_cons_zero, List.set_cons_succ]
    refine call_op (i := 8) (d := 12) (OP := Op.call { callee := Callee.value (Operand.func 58), args := #[Operand.tmp 11], argTypes := #[30] }) (T := 9) (f := 58) (args := #[.slice pa p.length pc]) rfl rfl rfl rfl (by kernel_rfl) (by rfl) (by go_simp) ?_
    refine (k58 _ by1).mono ?_
    rintro e y2 ⟨rfl, dy2⟩
    replace dy2 : Below y1.heap.size y1 y2 := by rw [dy2]; exact Below.refl _ _
    have by2 := by1.trans (dy2.mono by1.size)
    have sy2 := And.intro (HS.out y2 by2).1 (Ki.cell_stays hdw (dy2))
    refine ⟨_, rfl, sy2, ?_⟩
    replace hHeld := sy2
    try simp only [Act.put, List.setIfInBounds_toArray, List.set_cons_zero, List.set_cons_succ]
    have dd := dy2
    refine call_op (i := 9) (d := 13) (OP := Op.call { callee := Callee.value (Operand.func 57), args := #[Operand.tmp 12], argTypes := #[9] }) (T := 9) (f := 57) (args := #[.string JP]) rfl rfl rfl rfl (by kernel_rfl) (by rfl) (by go_simp) ?_
    refine (kJP _).mono ?_
    rintro e y3 ⟨rfl, dy3⟩
    have by3 := by2.trans (dy3.mono by2.size)
    have sy3 := And.intro (HS.out y3 by3).1 (Ki.cell_stays hdw ((Below.trans dd (dy3.mono dd.size))))
    refine ⟨_, rfl, sy3, ?_⟩
    replace hHeld := sy3
    try simp only [Act.put, List.setIfInBounds_toArray, List.set_cons_zero, List.set_cons_succ]
    replace dd := Below.trans dd (dy3.mono dd.size)
    refine take_op (i := 10) (d := 14) (OP := Op.binOp BinOp.add 9 (Operand.tmp 9) (Operand.tmp 13) 9) (T := 9) (v := ?voga10) rfl rfl rfl rfl (by kernel_rfl) (by kernel_rfl) (by kernel_rfl) (fun _ _ _ h => h) (by rfl) ?hoga10 hHeld ?roga10
    case hoga10 => (intro w' hSw; (try dsimp only at hSw); go_simp <;> with_reducible rfl)
    try simp only [Act.put, List.setIfInBounds_toArray, List.set_cons_zero, List.set_cons_succ]
    refine take_op (i := 11) (d := 15) (OP := Op.binOp BinOp.add 9 (Operand.tmp 14) (Operand.const (Value.string { data := #[32] })) 9) (T := 9) (v := ?voga11) rfl rfl rfl rfl (by kernel_rfl) (by kernel_rfl) (by kernel_rfl) (fun _ _ _ h => h) (by rfl) ?hoga11 hHeld ?roga11
    case hoga11 => (intro w' hSw; (try dsimp only at hSw); go_simp <;> with_reducible rfl)
    try simp only [Act.put, List.setIfInBounds_toArray, List.set_cons_zero, List.set_cons_succ]
    refine call_op (i := 14) (d := 18) (OP := Op.call { callee := Callee.value (Operand.func 57), args := #[Operand.tmp 17], argTypes := #[9] }) (T := 9) (f := 57) (args := #[.string s]) rfl rfl rfl rfl (by kernel_rfl) (by rfl) (by go_simp) ?_
    refine (kS _).mono ?_
    rintro e y4 ⟨rfl, dy4⟩
    have by4 := by3.trans (dy4.mono by3.size)
    have sy4 := And.intro (HS.out y4 by4).1 (Ki.cell_stays hdw ((Below.trans dd (dy4.mono dd.size))))
    refine ⟨_, rfl, sy4, ?_⟩
    replace hHeld := sy4
    try simp only [Act.put, List.setIfInBounds_toArray, List.set_cons_zero, List.set_cons_succ]
    refine take_op (i := 15) (d := 19) (OP := Op.binOp BinOp.add 9 (Operand.tmp 15) (Operand.tmp 18) 9) (T := 9) (v := ?voga12) rfl rfl rfl rfl (by kernel_rfl) (by kernel_rfl) (by kernel_rfl) (fun _ _ _ h => h) (by rfl) ?hoga12 hHeld ?roga12
    case hoga12 => (intro w' hSw; (try dsimp only at hSw); go_simp <;> with_reducible rfl)
    try simp only [Act.put, List.setIfInBounds_toArray, List.set_cons_zero, List.set_cons_succ]
    refine take_op (i := 16) (d := 3) (OP := Op.assign (Operand.tmp 19)) (T := 9) (v := ?voga13) rfl rfl rfl rfl (by kernel_rfl) (by kernel_rfl) (by kernel_rfl) (fun _ _ _ h => h) (by rfl) ?hoga13 hHeld ?roga13
    case hoga13 => (intro w' hSw; (try dsimp only at hSw); go_simp <;> with_reducible rfl)
    try simp only [Act.put, List.setIfInBounds_toArray, List.set_cons_zero, List.set_cons_succ]
    refine wpAnyH_done (by kernel_rfl) ?_ _
    have BZ := hide by4
    have s4 := sy4.1
    clear hHeld sy4 sy3 sy2 dy4 dy3 dy2 dy1 dd by1 by2 by3 by4 b0 hdw k56 k58 kJP kS
    obtain ⟨x0, x1, x2, x3, x4, x5⟩ := s4

    have kF := kF y4 BZ.out
    go_wp2_with (go_at_call 59; refine kF.mono ?_; rintro e u1 ⟨rfl, du1⟩)
    go_ret
    exact ⟨(by simp only [ByteArray.append_assoc]; rfl), (HW.out.2.2.trans (BZ.out.mono HW.out.2.2.size)).trans (du1.mono (HW.out.2.2.trans (BZ.out.mono HW.out.2.2.size)).size)⟩
  have e1 : (((D : Nat) : Int) == 1) = false := by simp; omega
  rw [if_neg (show ¬ ((D : Nat) : Int) = 1 by omega)]
  by_cases h6 : D = 6
  · rw [if_pos (show ((D : Nat) : Int) = 6 by omega)]
    have e6 : (((D : Nat) : Int) == 6) = true := by simp; omega
    clear h6
    go_enter Tryz.func16, Tryz.ntmps16
    go_upto_region 1 with fail
    rw [← HW.out.1, ← HW.out.2.1]
    have hsd := HS.out w0 (Below.refl _ _)
    refine wp_region_held_drew (S := fun w' => w'.cell? ⟨Sb, 0, none⟩ = some (.slice pa p.length pc) ∧ w'.cell? ⟨Sb, 1, none⟩ = some (.int .i64 k) ∧ w'.cell? ⟨Sb, 2, none⟩ = some (.string s) ∧ w'.cell? ⟨Sb, 3, none⟩ = some (.int .i64 (D : Nat)) ∧ w'.cell? ⟨Sb, 4, none⟩ = some (.int .i64 n) ∧ w'.cell? ⟨Sb, 5, none⟩ = some (.string t)) (by kernel_rfl) hsd.1 (fun hHeld => ?_)
    clear hsd
    obtain ⟨Wd, hWd⟩ : ∃ q, q = w0.drew := ⟨_, rfl⟩
    have b0 : Below w0.heap.size w0 Wd := by rw [hWd]; exact (Below.refl _ _).drew
    rw [← hWd] at hHeld ⊢
    clear hWd
    refine take_op (i := 1) (d := 5) (OP := Op.fieldAddr 34 (Operand.tmp 1) 3) (T := 0) (v := ?vogb1) rfl rfl rfl rfl (by kernel_rfl) (by kernel_rfl) (by kernel_rfl) (fun _ _ _ h => h) (by rfl) ?hogb1 hHeld ?rogb1
    case hogb1 => (intro w' hSw; (try dsimp only at hSw); go_simp <;> with_reducible rfl)
    try simp only [Act.put, List.setIfInBounds_toArray, List.set_cons_zero, List.set_cons_succ]
    refine take_op (i := 2) (d := 6) (OP := Op.load 32 (Operand.tmp 5)) (T := 32) (v := ?vogb2) rfl rfl rfl rfl (by kernel_rfl) (by kernel_rfl) (by kernel_rfl) (fun _ _ _ h => h) (by rfl) ?hogb2 hHeld ?rogb2
    case hogb2 => (intro w' hSw; (try dsimp only at hSw); go_simp <;> with_reducible rfl)
    try simp only [Act.put, List.setIfInBounds_toArray, List.set_cons_zero, List.set_cons_succ]
    refine take_op (i := 6) (d := 10) (OP := Op.fieldAddr 34 (Operand.tmp 1) 0) (T := 0) (v := ?vogb3) rfl rfl rfl rfl (by kernel_rfl) (by kernel_rfl) (by kernel_rfl) (fun _ _ _ h => h) (by rfl) ?hogb3 hHeld ?rogb3
    case hogb3 => (intro w' hSw; (try dsimp only at hSw); go_simp <;> with_reducible rfl)
    try simp only [Act.put, List.setIfInBounds_toArray, List.set_cons_zero, List.set_cons_succ]
    refine take_op (i := 7) (d := 11) (OP := Op.load 30 (Operand.tmp 10)) (T := 30) (v := ?vogb4) rfl rfl rfl rfl (by kernel_rfl) (by kernel_rfl) (by kernel_rfl) (fun _ _ _ h => h) (by rfl) ?hogb4 hHeld ?rogb4
    case hogb4 => (intro w' hSw; (try dsimp only at hSw); go_simp <;> with_reducible rfl)
    try simp only [Act.put, List.setIfInBounds_toArray, List.set_cons_zero, List.set_cons_succ]
    refine take_op (i := 12) (d := 16) (OP := Op.fieldAddr 34 (Operand.tmp 1) 2) (T := 0) (v := ?vogb5) rfl rfl rfl rfl (by kernel_rfl) (by kernel_rfl) (by kernel_rfl) (fun _ _ _ h => h) (by rfl) ?hogb5 hHeld ?rogb5
    case hogb5 => (intro w' hSw; (try dsimp only at hSw); go_simp <;> with_reducible rfl)
    try simp only [Act.put, List.setIfInBounds_toArray, List.set_cons_zero, List.set_cons_succ]
    refine take_op (i := 13) (d := 17) (OP := Op.load 9 (Operand.tmp 16)) (T := 9) (v := ?vogb6) rfl rfl rfl rfl (by kernel_rfl) (by kernel_rfl) (by kernel_rfl) (fun _ _ _ h => h) (by rfl) ?hogb6 hHeld ?rogb6
    case hogb6 => (intro w' hSw; (try dsimp only at hSw); go_simp <;> with_reducible rfl)
    try simp only [Act.put, List.setIfInBounds_toArray, List.set_cons_zero, List.set_cons_succ]
    refine call_op (i := 0) (d := 4) (OP := Op.call { callee := Callee.value (Operand.func 56), args := #[], argTypes := #[] }) (T := 30) (f := 56) (args := #[]) rfl rfl rfl rfl (by kernel_rfl) (by rfl) (by go_simp) ?_
    refine (k56 _).mono ?_
    rintro e y1 ⟨rfl, hy1⟩
    have dy1 : Below Wd.heap.size Wd y1 := by rw [hy1]; exact (Below.refl _ _).alloc (Nat.le_refl _) _
    have by1 := b0.trans (dy1.mono b0.size)
    have sy1 := (HS.out y1 by1).1
    have mW : y1.heap[Wd.heap.size]? = some (.cells ((⟨#[]⟩ :: Ki.doWs).map Value.string).toArray 9 (0, 0)) := by rw [hy1]; exact heap_alloc_new _ _
    have hdw := dw_cell mW h1d h7d
    rw [← HD.out] at hdw
    refine ⟨_, rfl, sy1, ?_⟩
    refine wpAnyH_mono (S' := fun w' => (w'.cell? ⟨Sb, 0, none⟩ = some (.slice pa p.length pc) ∧ w'.cell? ⟨Sb, 1, none⟩ = some (.int .i64 k) ∧ w'.cell? ⟨Sb, 2, none⟩ = some (.string s) ∧ w'.cell? ⟨Sb, 3, none⟩ = some (.int .i64 (D : Nat)) ∧ w'.cell? ⟨Sb, 4, none⟩ = some (.int .i64 n) ∧ w'.cell? ⟨Sb, 5, none⟩ = some (.string t)) ∧ w'.cell? ⟨Wd.heap.size, D, none⟩ = some (.string DW)) (fun _ h => h.1) ?_
    replace hHeld := And.intro sy1 hdw
    clear sy1 mW hy1
    try simp only [Act.put, List.setIfInBounds_toArray, List.set_cons_zero, List.set_cons_succ]
    refine take_op (i := 3) (d := 7) (OP := Op.indexAddr 30 (Operand.tmp 4) (Operand.tmp 6)) (T := 0) (v := ?vogb7) rfl rfl rfl rfl (by kernel_rfl) (by kernel_rfl) (by kernel_rfl) (fun _ _ _ h => h) (by rfl) ?hogb7 hHeld ?rogb7
    case hogb7 => (intro w' hSw; (try dsimp only at hSw); go_simp <;> with_reducible rfl)
    try simp only [Act.put, List.setIfInBounds_toArray, List.set_cons_zero, List.set_cons_succ]
    refine take_op (i := 4) (d := 8) (OP := Op.load 9 (Operand.tmp 7)) (T := 9) (v := ?vogb8) rfl rfl rfl rfl (by kernel_rfl) (by kernel_rfl) (by kernel_rfl) (fun _ _ _ h => h) (by rfl) ?hogb8 hHeld ?rogb8
    case hogb8 => (intro w' hSw; (try dsimp only at hSw); go_simp <;> with_reducible rfl)
    try simp only [Act.put, List.setIfInBounds_toArray, List.set_cons_zero, List.set_cons_succ]
    refine take_op (i := 5) (d := 9) (OP := Op.binOp BinOp.add 9 (Operand.tmp 8) (Operand.const (Value.string { data := #[32] })) 9) (T := 9) (v := ?vogb9) rfl rfl rfl rfl (by kernel_rfl) (by kernel_rfl) (by kernel_rfl) (fun _ _ _ h => h) (by rfl) ?hogb9 hHeld ?rogb9
    case hogb9 => (intro w' hSw; (try dsimp only at hSw); go_simp <;> with_reducible rfl)
    try simp only [Act.put, List.setIfInBounds_toArray, List.set_cons_zero, List.set_cons_succ]
    refine call_op (i := 8) (d := 12) (OP := Op.call { callee := Callee.value (Operand.func 58), args := #[Operand.tmp 11], argTypes := #[30] }) (T := 9) (f := 58) (args := #[.slice pa p.length pc]) rfl rfl rfl rfl (by kernel_rfl) (by rfl) (by go_simp) ?_
    refine (k58 _ by1).mono ?_
    rintro e y2 ⟨rfl, dy2⟩
    replace dy2 : Below y1.heap.size y1 y2 := by rw [dy2]; exact Below.refl _ _
    have by2 := by1.trans (dy2.mono by1.size)
    have sy2 := And.intro (HS.out y2 by2).1 (Ki.cell_stays hdw (dy2))
    refine ⟨_, rfl, sy2, ?_⟩
    replace hHeld := sy2
    try simp only [Act.put, List.setIfInBounds_toArray, List.set_cons_zero, List.set_cons_succ]
    have dd := dy2
    refine call_op (i := 9) (d := 13) (OP := Op.call { callee := Callee.value (Operand.func 57), args := #[Operand.tmp 12], argTypes := #[9] }) (T := 9) (f := 57) (args := #[.string JP]) rfl rfl rfl rfl (by kernel_rfl) (by rfl) (by go_simp) ?_
    refine (kJP _).mono ?_
    rintro e y3 ⟨rfl, dy3⟩
    have by3 := by2.trans (dy3.mono by2.size)
    have sy3 := And.intro (HS.out y3 by3).1 (Ki.cell_stays hdw ((Below.trans dd (dy3.mono dd.size))))
    refine ⟨_, rfl, sy3, ?_⟩
    replace hHeld := sy3
    try simp only [Act.put, List.setIfInBounds_toArray, List.set_cons_zero, List.set_cons_succ]
    replace dd := Below.trans dd (dy3.mono dd.size)
    refine take_op (i := 10) (d := 14) (OP := Op.binOp BinOp.add 9 (Operand.tmp 9) (Operand.tmp 13) 9) (T := 9) (v := ?vogb10) rfl rfl rfl rfl (by kernel_rfl) (by kernel_rfl) (by kernel_rfl) (fun _ _ _ h => h) (by rfl) ?hogb10 hHeld ?rogb10
    case hogb10 => (intro w' hSw; (try dsimp only at hSw); go_simp <;> with_reducible rfl)
    try simp only [Act.put, List.setIfInBounds_toArray, List.set_cons_zero, List.set_cons_succ]
    refine take_op (i := 11) (d := 15) (OP := Op.binOp BinOp.add 9 (Operand.tmp 14) (Operand.const (Value.string { data := #[32] })) 9) (T := 9) (v := ?vogb11) rfl rfl rfl rfl (by kernel_rfl) (by kernel_rfl) (by kernel_rfl) (fun _ _ _ h => h) (by rfl) ?hogb11 hHeld ?rogb11
    case hogb11 => (intro w' hSw; (try dsimp only at hSw); go_simp <;> with_reducible rfl)
    try simp only [Act.put, List.setIfInBounds_toArray, List.set_cons_zero, List.set_cons_succ]
    refine call_op (i := 14) (d := 18) (OP := Op.call { callee := Callee.value (Operand.func 57), args := #[Operand.tmp 17], argTypes := #[9] }) (T := 9) (f := 57) (args := #[.string s]) rfl rfl rfl rfl (by kernel_rfl) (by rfl) (by go_simp) ?_
    refine (kS _).mono ?_
    rintro e y4 ⟨rfl, dy4⟩
    have by4 := by3.trans (dy4.mono by3.size)
    have sy4 := And.intro (HS.out y4 by4).1 (Ki.cell_stays hdw ((Below.trans dd (dy4.mono dd.size))))
    refine ⟨_, rfl, sy4, ?_⟩
    replace hHeld := sy4
    try simp only [Act.put, List.setIfInBounds_toArray, List.set_cons_zero, List.set_cons_succ]
    refine take_op (i := 15) (d := 19) (OP := Op.binOp BinOp.add 9 (Operand.tmp 15) (Operand.tmp 18) 9) (T := 9) (v := ?vogb12) rfl rfl rfl rfl (by kernel_rfl) (by kernel_rfl) (by kernel_rfl) (fun _ _ _ h => h) (by rfl) ?hogb12 hHeld ?rogb12
    case hogb12 => (intro w' hSw; (try dsimp only at hSw); go_simp <;> with_reducible rfl)
    try simp only [Act.put, List.setIfInBounds_toArray, List.set_cons_zero, List.set_cons_succ]
    refine take_op (i := 16) (d := 3) (OP := Op.assign (Operand.tmp 19)) (T := 9) (v := ?vogb13) rfl rfl rfl rfl (by kernel_rfl) (by kernel_rfl) (by kernel_rfl) (fun _ _ _ h => h) (by rfl) ?hogb13 hHeld ?rogb13
    case hogb13 => (intro w' hSw; (try dsimp only at hSw); go_simp <;> with_reducible rfl)
    try simp only [Act.put, List.setIfInBounds_toArray, List.set_cons_zero, List.set_cons_succ]
    refine wpAnyH_done (by kernel_rfl) ?_ _
    have BZ := hide by4
    have s4 := sy4.1
    clear hHeld sy4 sy3 sy2 dy4 dy3 dy2 dy1 dd by1 by2 by3 by4 b0 hdw k56 k58 kJP kS
    obtain ⟨x0, x1, x2, x3, x4, x5⟩ := s4

    go_wp2
    go_ret
    exact ⟨(by rw [ba_nil]; simp only [ByteArray.append_assoc]; rfl), HW.out.2.2.trans (BZ.out.mono HW.out.2.2.size)⟩
  have e6 : (((D : Nat) : Int) == 6) = false := by simp; omega
  rw [if_neg (show ¬ ((D : Nat) : Int) = 6 by omega)]
  go_enter Tryz.func16, Tryz.ntmps16
  go_upto_region 1 with fail
  rw [← HW.out.1, ← HW.out.2.1]
  have hsd := HS.out w0 (Below.refl _ _)
  refine wp_region_held_drew (S := fun w' => w'.cell? ⟨Sb, 0, none⟩ = some (.slice pa p.length pc) ∧ w'.cell? ⟨Sb, 1, none⟩ = some (.int .i64 k) ∧ w'.cell? ⟨Sb, 2, none⟩ = some (.string s) ∧ w'.cell? ⟨Sb, 3, none⟩ = some (.int .i64 (D : Nat)) ∧ w'.cell? ⟨Sb, 4, none⟩ = some (.int .i64 n) ∧ w'.cell? ⟨Sb, 5, none⟩ = some (.string t)) (by kernel_rfl) hsd.1 (fun hHeld => ?_)
  clear hsd
  obtain ⟨Wd, hWd⟩ : ∃ q, q = w0.drew := ⟨_, rfl⟩
  have b0 : Below w0.heap.size w0 Wd := by rw [hWd]; exact (Below.refl _ _).drew
  rw [← hWd] at hHeld ⊢
  clear hWd
  refine take_op (i := 1) (d := 5) (OP := Op.fieldAddr 34 (Operand.tmp 1) 3) (T := 0) (v := ?vogc1) rfl rfl rfl rfl (by kernel_rfl) (by kernel_rfl) (by kernel_rfl) (fun _ _ _ h => h) (by rfl) ?hogc1 hHeld ?rogc1
  case hogc1 => (intro w' hSw; (try dsimp only at hSw); go_simp <;> with_reducible rfl)
  try simp only [Act.put, List.setIfInBounds_toArray, List.set_cons_zero, List.set_cons_succ]
  refine take_op (i := 2) (d := 6) (OP := Op.load 32 (Operand.tmp 5)) (T := 32) (v := ?vogc2) rfl rfl rfl rfl (by kernel_rfl) (by kernel_rfl) (by kernel_rfl) (fun _ _ _ h => h) (by rfl) ?hogc2 hHeld ?rogc2
  case hogc2 => (intro w' hSw; (try dsimp only at hSw); go_simp <;> with_reducible rfl)
  try simp only [Act.put, List.setIfInBounds_toArray, List.set_cons_zero, List.set_cons_succ]
  refine take_op (i := 6) (d := 10) (OP := Op.fieldAddr 34 (Operand.tmp 1) 0) (T := 0) (v := ?vogc3) rfl rfl rfl rfl (by kernel_rfl) (by kernel_rfl) (by kernel_rfl) (fun _ _ _ h => h) (by rfl) ?hogc3 hHeld ?rogc3
  case hogc3 => (intro w' hSw; (try dsimp only at hSw); go_simp <;> with_reducible rfl)
  try simp only [Act.put, List.setIfInBounds_toArray, List.set_cons_zero, List.set_cons_succ]
  refine take_op (i := 7) (d := 11) (OP := Op.load 30 (Operand.tmp 10)) (T := 30) (v := ?vogc4) rfl rfl rfl rfl (by kernel_rfl) (by kernel_rfl) (by kernel_rfl) (fun _ _ _ h => h) (by rfl) ?hogc4 hHeld ?rogc4
  case hogc4 => (intro w' hSw; (try dsimp only at hSw); go_simp <;> with_reducible rfl)
  try simp only [Act.put, List.setIfInBounds_toArray, List.set_cons_zero, List.set_cons_succ]
  refine take_op (i := 12) (d := 16) (OP := Op.fieldAddr 34 (Operand.tmp 1) 2) (T := 0) (v := ?vogc5) rfl rfl rfl rfl (by kernel_rfl) (by kernel_rfl) (by kernel_rfl) (fun _ _ _ h => h) (by rfl) ?hogc5 hHeld ?rogc5
  case hogc5 => (intro w' hSw; (try dsimp only at hSw); go_simp <;> with_reducible rfl)
  try simp only [Act.put, List.setIfInBounds_toArray, List.set_cons_zero, List.set_cons_succ]
  refine take_op (i := 13) (d := 17) (OP := Op.load 9 (Operand.tmp 16)) (T := 9) (v := ?vogc6) rfl rfl rfl rfl (by kernel_rfl) (by kernel_rfl) (by kernel_rfl) (fun _ _ _ h => h) (by rfl) ?hogc6 hHeld ?rogc6
  case hogc6 => (intro w' hSw; (try dsimp only at hSw); go_simp <;> with_reducible rfl)
  try simp only [Act.put, List.setIfInBounds_toArray, List.set_cons_zero, List.set_cons_succ]
  refine call_op (i := 0) (d := 4) (OP := Op.call { callee := Callee.value (Operand.func 56), args := #[], argTypes := #[] }) (T := 30) (f := 56) (args := #[]) rfl rfl rfl rfl (by kernel_rfl) (by rfl) (by go_simp) ?_
  refine (k56 _).mono ?_
  rintro e y1 ⟨rfl, hy1⟩
  have dy1 : Below Wd.heap.size Wd y1 := by rw [hy1]; exact (Below.refl _ _).alloc (Nat.le_refl _) _
  have by1 := b0.trans (dy1.mono b0.size)
  have sy1 := (HS.out y1 by1).1
  have mW : y1.heap[Wd.heap.size]? = some (.cells ((⟨#[]⟩ :: Ki.doWs).map Value.string).toArray 9 (0, 0)) := by rw [hy1]; exact heap_alloc_new _ _
  have hdw := dw_cell mW h1d h7d
  rw [← HD.out] at hdw
  refine ⟨_, rfl, sy1, ?_⟩
  refine wpAnyH_mono (S' := fun w' => (w'.cell? ⟨Sb, 0, none⟩ = some (.slice pa p.length pc) ∧ w'.cell? ⟨Sb, 1, none⟩ = some (.int .i64 k) ∧ w'.cell? ⟨Sb, 2, none⟩ = some (.string s) ∧ w'.cell? ⟨Sb, 3, none⟩ = some (.int .i64 (D : Nat)) ∧ w'.cell? ⟨Sb, 4, none⟩ = some (.int .i64 n) ∧ w'.cell? ⟨Sb, 5, none⟩ = some (.string t)) ∧ w'.cell? ⟨Wd.heap.size, D, none⟩ = some (.string DW)) (fun _ h => h.1) ?_
  replace hHeld := And.intro sy1 hdw
  clear sy1 mW hy1
  try simp only [Act.put, List.setIfInBounds_toArray, List.set_cons_zero, List.set_cons_succ]
  refine take_op (i := 3) (d := 7) (OP := Op.indexAddr 30 (Operand.tmp 4) (Operand.tmp 6)) (T := 0) (v := ?vogc7) rfl rfl rfl rfl (by kernel_rfl) (by kernel_rfl) (by kernel_rfl) (fun _ _ _ h => h) (by rfl) ?hogc7 hHeld ?rogc7
  case hogc7 => (intro w' hSw; (try dsimp only at hSw); go_simp <;> with_reducible rfl)
  try simp only [Act.put, List.setIfInBounds_toArray, List.set_cons_zero, List.set_cons_succ]
  refine take_op (i := 4) (d := 8) (OP := Op.load 9 (Operand.tmp 7)) (T := 9) (v := ?vogc8) rfl rfl rfl rfl (by kernel_rfl) (by kernel_rfl) (by kernel_rfl) (fun _ _ _ h => h) (by rfl) ?hogc8 hHeld ?rogc8
  case hogc8 => (intro w' hSw; (try dsimp only at hSw); go_simp <;> with_reducible rfl)
  try simp only [Act.put, List.setIfInBounds_toArray, List.set_cons_zero, List.set_cons_succ]
  refine take_op (i := 5) (d := 9) (OP := Op.binOp BinOp.add 9 (Operand.tmp 8) (Operand.const (Value.string { data := #[32] })) 9) (T := 9) (v := ?vogc9) rfl rfl rfl rfl (by kernel_rfl) (by kernel_rfl) (by kernel_rfl) (fun _ _ _ h => h) (by rfl) ?hogc9 hHeld ?rogc9
  case hogc9 => (intro w' hSw; (try dsimp only at hSw); go_simp <;> with_reducible rfl)
  try simp only [Act.put, List.setIfInBounds_toArray, List.set_cons_zero, List.set_cons_succ]
  refine call_op (i := 8) (d := 12) (OP := Op.call { callee := Callee.value (Operand.func 58), args := #[Operand.tmp 11], argTypes := #[30] }) (T := 9) (f := 58) (args := #[.slice pa p.length pc]) rfl rfl rfl rfl (by kernel_rfl) (by rfl) (by go_simp) ?_
  refine (k58 _ by1).mono ?_
  rintro e y2 ⟨rfl, dy2⟩
  replace dy2 : Below y1.heap.size y1 y2 := by rw [dy2]; exact Below.refl _ _
  have by2 := by1.trans (dy2.mono by1.size)
  have sy2 := And.intro (HS.out y2 by2).1 (Ki.cell_stays hdw (dy2))
  refine ⟨_, rfl, sy2, ?_⟩
  replace hHeld := sy2
  try simp only [Act.put, List.setIfInBounds_toArray, List.set_cons_zero, List.set_cons_succ]
  have dd := dy2
  refine call_op (i := 9) (d := 13) (OP := Op.call { callee := Callee.value (Operand.func 57), args := #[Operand.tmp 12], argTypes := #[9] }) (T := 9) (f := 57) (args := #[.string JP]) rfl rfl rfl rfl (by kernel_rfl) (by rfl) (by go_simp) ?_
  refine (kJP _).mono ?_
  rintro e y3 ⟨rfl, dy3⟩
  have by3 := by2.trans (dy3.mono by2.size)
  have sy3 := And.intro (HS.out y3 by3).1 (Ki.cell_stays hdw ((Below.trans dd (dy3.mono dd.size))))
  refine ⟨_, rfl, sy3, ?_⟩
  replace hHeld := sy3
  try simp only [Act.put, List.setIfInBounds_toArray, List.set_cons_zero, List.set_cons_succ]
  replace dd := Below.trans dd (dy3.mono dd.size)
  refine take_op (i := 10) (d := 14) (OP := Op.binOp BinOp.add 9 (Operand.tmp 9) (Operand.tmp 13) 9) (T := 9) (v := ?vogc10) rfl rfl rfl rfl (by kernel_rfl) (by kernel_rfl) (by kernel_rfl) (fun _ _ _ h => h) (by rfl) ?hogc10 hHeld ?rogc10
  case hogc10 => (intro w' hSw; (try dsimp only at hSw); go_simp <;> with_reducible rfl)
  try simp only [Act.put, List.setIfInBounds_toArray, List.set_cons_zero, List.set_cons_succ]
  refine take_op (i := 11) (d := 15) (OP := Op.binOp BinOp.add 9 (Operand.tmp 14) (Operand.const (Value.string { data := #[32] })) 9) (T := 9) (v := ?vogc11) rfl rfl rfl rfl (by kernel_rfl) (by kernel_rfl) (by kernel_rfl) (fun _ _ _ h => h) (by rfl) ?hogc11 hHeld ?rogc11
  case hogc11 => (intro w' hSw; (try dsimp only at hSw); go_simp <;> with_reducible rfl)
  try simp only [Act.put, List.setIfInBounds_toArray, List.set_cons_zero, List.set_cons_succ]
  refine call_op (i := 14) (d := 18) (OP := Op.call { callee := Callee.value (Operand.func 57), args := #[Operand.tmp 17], argTypes := #[9] }) (T := 9) (f := 57) (args := #[.string s]) rfl rfl rfl rfl (by kernel_rfl) (by rfl) (by go_simp) ?_
  refine (kS _).mono ?_
  rintro e y4 ⟨rfl, dy4⟩
  have by4 := by3.trans (dy4.mono by3.size)
  have sy4 := And.intro (HS.out y4 by4).1 (Ki.cell_stays hdw ((Below.trans dd (dy4.mono dd.size))))
  refine ⟨_, rfl, sy4, ?_⟩
  replace hHeld := sy4
  try simp only [Act.put, List.setIfInBounds_toArray, List.set_cons_zero, List.set_cons_succ]
  refine take_op (i := 15) (d := 19) (OP := Op.binOp BinOp.add 9 (Operand.tmp 15) (Operand.tmp 18) 9) (T := 9) (v := ?vogc12) rfl rfl rfl rfl (by kernel_rfl) (by kernel_rfl) (by kernel_rfl) (fun _ _ _ h => h) (by rfl) ?hogc12 hHeld ?rogc12
  case hogc12 => (intro w' hSw; (try dsimp only at hSw); go_simp <;> with_reducible rfl)
  try simp only [Act.put, List.setIfInBounds_toArray, List.set_cons_zero, List.set_cons_succ]
  refine take_op (i := 16) (d := 3) (OP := Op.assign (Operand.tmp 19)) (T := 9) (v := ?vogc13) rfl rfl rfl rfl (by kernel_rfl) (by kernel_rfl) (by kernel_rfl) (fun _ _ _ h => h) (by rfl) ?hogc13 hHeld ?rogc13
  case hogc13 => (intro w' hSw; (try dsimp only at hSw); go_simp <;> with_reducible rfl)
  try simp only [Act.put, List.setIfInBounds_toArray, List.set_cons_zero, List.set_cons_succ]
  refine wpAnyH_done (by kernel_rfl) ?_ _
  have BZ := hide by4
  have s4 := sy4.1
  clear hHeld sy4 sy3 sy2 dy4 dy3 dy2 dy1 dd by1 by2 by3 by4 b0 hdw k56 k58 kJP kS
  obtain ⟨x0, x1, x2, x3, x4, x5⟩ := s4

  have kT := kT y4
  go_wp2_with (go_at_call 57; refine kT.mono ?_; rintro e u1 ⟨rfl, du1⟩)
  go_ret
  exact ⟨(by simp only [ByteArray.append_assoc]; rfl), (HW.out.2.2.trans (BZ.out.mono HW.out.2.2.size)).trans (du1.mono (HW.out.2.2.trans (BZ.out.mono HW.out.2.2.size)).size)⟩
theorem join_snoc {xs : List (List UInt8)} (y sep : List UInt8) (h : xs ≠ []) : Lib.join (xs ++ [y]) sep = Lib.join xs sep ++ sep ++ y := by
  cases xs with
  | nil => exact absurd rfl h
  | cons x r =>
    rw [List.cons_append, Lib.join_cons, Lib.join_cons]
    simp [Lib.joinTail]
set_option maxHeartbeats 4000000 in
set_option maxRecDepth 100000 in
theorem refTextAll_any (ao : Option Addr) (cap : Nat) (ps : List Od) (w : World) (hr : Rq w ao ps) (hf : OkL ps) (hE : EnvO w) :
    Calls Tryz.prog 22 #[.slice ao ps.length cap] w fun e w' => e = .returned (.string ⟨(txA ps).toArray⟩) ∧ Below w.heap.size w w' := by
  by_cases hnil : ps = []
  · subst hnil
    go_enter Tryz.func22, Tryz.ntmps22
    go_wp2
    go_ret
    exact ⟨rfl, Below.refl _ _⟩
  have hlen := hf.len
  have hz : ((ps.length : Int) == 0) = false := by simp; exact hnil
  have hsz : Hid (∀ j, j ≤ ps.length → (⟨(Lib.join ((ps.take j).map txO) [59, 32]).toArray⟩ : ByteArray).size ≤ 900200000) := hide (fun j hj => by
    rw [arr_size]
    have h1 := joinL_len (B := 9000) (xs := (ps.take j).map txO) (sep := [59, 32]) (fun x hx => by
      obtain ⟨o, ho, rfl⟩ := List.mem_map.1 hx
      exact txO_len (hf.ok o (List.mem_of_mem_take ho)) (hf.num o (List.mem_of_mem_take ho)))
    rw [List.length_map, List.length_take] at h1
    have h2 : (9000 + [59, 32].length) * min j ps.length ≤ 9002 * 100000 := Nat.mul_le_mul (by simp) (by omega)
    exact Nat.le_trans h1 (Nat.le_trans h2 (by omega)))
  have hX : (⟨(txA ps).toArray⟩ : ByteArray) = ⟨(Lib.join (ps.map txO) [59, 32]).toArray⟩ := by unfold txA; rw [if_neg hnil]
  rw [hX]
  obtain ⟨X, hXX⟩ : ∃ q, q = (⟨(Lib.join (ps.map txO) [59, 32]).toArray⟩ : ByteArray) := ⟨_, rfl⟩
  rw [← hXX]
  have HX := hide hXX
  clear hX hXX hnil
  go_enter Tryz.func22, Tryz.ntmps22
  go_wp2
  go_loopw [3, 4] (fun v3 v4 wr => ∃ (j : Nat) (P : ByteArray), j ≤ ps.length ∧ v4 = .int .i64 (j : Nat) ∧ v3 = .string P ∧ Hid (P = ⟨(Lib.join ((ps.take j).map txO) [59, 32]).toArray⟩) ∧ Hid (Below w.heap.size w wr))
    (fun _ v4 _ => ps.length - (intOf v4).toNat)
  case atStart => exact ⟨0, ⟨#[]⟩, Nat.zero_le _, rfl, rfl, hide (by simp [Lib.join, List.intercalate]), hide (Below.refl _ _)⟩
  case round =>
    obtain ⟨j, P, hj, rfl, rfl, HP, HB⟩ := hrel
    have hPs : P.size ≤ 900200000 := by rw [HP.out]; exact hsz.out j hj
    by_cases hlt : j < ps.length
    · obtain ⟨x, hx⟩ : ∃ q, ps[j]? = some q := ⟨_, List.getElem?_eq_getElem hlt⟩
      have hxo := hf.ok x (List.mem_of_getElem? hx)
      have hxn := hf.num x (List.mem_of_getElem? hx)
      obtain ⟨ab, aoff, pa, pc, rfl, hp, c0, c1', c2, c3, c4, c5⟩ := (hr.below HB.out) j x hx
      have k16 := refText16_any (w := wr) (pc := pc) x hp hxo hxn (hE.below HB.out)
      have hml : (⟨(txO x).toArray⟩ : ByteArray).size ≤ 9000 := by rw [arr_size]; exact txO_len hxo hxn
      obtain ⟨M, hM⟩ : ∃ q, q = (⟨(txO x).toArray⟩ : ByteArray) := ⟨_, rfl⟩
      rw [← hM] at k16 hml
      have HXX := hide (And.intro hx hM)
      clear hx hM hxo hxn
      obtain ⟨xp, xk, xs, xd, xn, xt⟩ := x
      dsimp only at c0 c1' c2 c3 c4 c5 k16 hp
      generalize xp.length = N at c0 k16
      have hg1 : ¬ 9223372036854775807 < P.size + 2 := by omega
      have hg2 : ¬ 9223372036854775807 < P.size + 2 + M.size := by omega
      have hg3 : ¬ 9223372036854775807 < P.size + M.size := by omega
      clear hp hml
      by_cases h0 : j = 0
      · subst h0
        simp only [Nat.zero_mul, Nat.add_zero] at c0 c1' c2 c3 c4 c5
        go_wp2_with (go_at_call 16; refine k16.mono ?_; rintro e w5 ⟨rfl, b5⟩; have B5 := hide b5; clear b5 k16 c0 c1' c2 c3 c4 c5)
        go_roundw
        case rel => exact ⟨1, P ++ M, by omega, by go_num, rfl, hide (by
            obtain ⟨hk', he⟩ := List.getElem?_eq_some_iff.1 HXX.out.1
            rw [HP.out, HXX.out.2, List.take_succ_eq_append_getElem hk', he]
            apply Ki.ba_eq
            simp [Lib.join, List.intercalate, ByteArray.data_append]), hide (HB.out.trans (B5.out.mono HB.out.size))⟩
        case measure => simp [intOf]; omega
      · have hgt : (0 : Int) < (j : Int) := by omega
        have HJ := hide h0
        clear h0
        go_wp2_with (go_at_call 16; refine k16.mono ?_; rintro e w5 ⟨rfl, b5⟩; have B5 := hide b5; clear b5 k16 c0 c1' c2 c3 c4 c5)
        go_roundw
        case rel => exact ⟨j + 1, P ++ ⟨#[59, 32]⟩ ++ M, by omega, by go_num, by simp only [ByteArray.append_assoc], hide (by
            obtain ⟨hk', he⟩ := List.getElem?_eq_some_iff.1 HXX.out.1
            have hne : (ps.take j).map txO ≠ [] := fun e => by
              have := congrArg List.length e
              rw [List.length_map, List.length_take] at this
              have := HJ.out
              simp only [List.length_nil] at *
              omega
            rw [HP.out, HXX.out.2, List.take_succ_eq_append_getElem hk', he, List.map_append, List.map_cons, List.map_nil, join_snoc _ _ hne]
            apply Ki.ba_eq
            simp [ByteArray.data_append]), hide (HB.out.trans (B5.out.mono HB.out.size))⟩
        case measure => simp [intOf]; omega
    · have he : X = P := by rw [HX.out, HP.out, List.take_of_length_le (by omega)]
      have HE := hide he
      clear he
      go_wp2
      go_ret
      exact ⟨(by rw [HE.out]; rfl), HB.out⟩
end Go.Proofs.YtpepgoelnagoaaaGreatDoor
namespace Go.Proofs.YtpepgoelnagoaaaGreatDoor
open Go.RowKit Go.Shelf
set_option linter.unusedSimpArgs false
set_option linter.unusedVariables false
attribute [local go_sem] Oper.semAt_some

end Go.Proofs.YtpepgoelnagoaaaGreatDoor
