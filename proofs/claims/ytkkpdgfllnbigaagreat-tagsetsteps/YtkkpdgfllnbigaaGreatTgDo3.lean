/-
  tagset: one step of the law TagsetSteps (do 24): Has, Tags, nothing.
-/
import Derived.Test.YtkkpdgfllnbigaaGreatMg25
namespace Go.Proofs.YtkkpdgfllnbigaaGreat.Tg
open Go.RowKit Go.Shelf
set_option linter.unusedSimpArgs false
set_option linter.unusedVariables false
attribute [local go_sem] Oper.semAt_some

set_option maxHeartbeats 16000000 in
set_option maxRecDepth 100000 in
theorem do24_3 {w : World} {t : Pm.T} {pm : Option Addr} {ao : Option Addr} {c : Nat} (s : St) (X : ByteArray) (h : Mg w t) (hn : t.n < 399) (hp : t.ptr = .pointer pm) (hm : mayT t.list = true) (hre : Re w ao (elsT t.list)) (hss : s.2.2.1.size ≤ 9223372036854775807) :
    Calls Tryz.prog 24 #[.agg #[.pointer pm], .slice ao (elsT t.list).length c, .agg #[.int .i64 3, .string X, .int .i64 s.1, .int .i64 s.2.1, .string s.2.2.1, .int .i64 s.2.2.2.1, .int .i64 s.2.2.2.2]] w (DoT w t) := by
  have HI := hide (DoI.of (pm := pm) 3 X s h hre)
  obtain ⟨g, r, lb, n, ix⟩ := s
  dsimp only at hss HI ⊢
  obtain ⟨L0, hL0⟩ : ∃ q, q = elsT t.list := ⟨_, rfl⟩
  obtain ⟨N, hN⟩ : ∃ q, q = L0.length := ⟨_, rfl⟩
  rw [← hL0] at HI hre ⊢
  rw [← hN]
  obtain ⟨w0, hw0⟩ : ∃ q, q = ((w.alloc (.cells #[.pointer pm] 27)).alloc (.cells #[.int .i64 3, .string X, .int .i64 g, .int .i64 r, .string lb, .int .i64 n, .int .i64 ix] 45)).alloc (.cells #[.pointer none] 27) := ⟨_, rfl⟩
  rw [← hw0] at HI
  obtain ⟨Mb, hMb⟩ : ∃ q, q = w.heap.size := ⟨_, rfl⟩
  obtain ⟨Pb, hPb⟩ : ∃ q, q = w.heap.size + 1 := ⟨_, rfl⟩
  obtain ⟨Rb, hRb⟩ : ∃ q, q = w.heap.size + 1 + 1 := ⟨_, rfl⟩
  have HI : Hid (DoI w w0 Mb Pb Rb t pm ao L0 3 X (g, r, lb, n, ix)) := hide (by rw [hMb, hPb, hRb]; exact HI.out)
  have hNn : N = t.n := by rw [hN, hL0, els_len hm, Pm.T.n_eq]
  have HT := hide (And.intro hN (And.intro hL0 (And.intro hp (And.intro hm (And.intro hn hNn)))))
  have HW0 := hide (And.intro hw0 (And.intro hRb (And.intro hPb hMb)))
  have hNb : N ≤ 400 := by omega
  obtain ⟨x0, y0, y1, y2, y3, y4, y5, y6⟩ := HI.out.cell w0 (Below.refl _ _)
  dsimp only at y2 y3 y4 y5 y6
  have k111 := fun W => refText_any X W
  have kS := h.srt
  have HS0 := hide kS
  clear h hn hp hm hre hN hL0 hw0 hMb hPb hRb hNn kS
  have bS : Below w0.heap.size w0 w0 := Below.refl _ _
  have HS : Hid (∀ W, Below w0.heap.size w0 W → W.cell? ⟨Mb, 0, none⟩ = some (.pointer pm) ∧ W.cell? ⟨Pb, 1, none⟩ = some (.string X)) := hide (fun W hW => ⟨(HI.out.cell W hW).1, (HI.out.cell W hW).2.2.1⟩)
  have HR : Hid (∀ W, Below w0.heap.size w0 W → W.heap[Rb]? = some (.cells #[.pointer none] 27 (0, 0))) := hide (fun W hW => (HI.out.row W hW).1)
  have HNE : Hid (Mb ≠ Rb ∧ Pb ≠ Rb) := hide (by obtain ⟨q1, q2, q3, q4⟩ := HI.out.ge; omega)
  have hst := stg_els X HT.out.2.2.2.1 HS0.out
  rw [← HT.out.2.1] at hst
  obtain ⟨M, hM⟩ : ∃ q, q = (stL X L0).length := ⟨_, rfl⟩
  have hMb : M ≤ 400 := by have := stL_len X L0; have := HT.out.1; omega
  have kG : ∀ W, Below w0.heap.size w0 W → Calls Tryz.prog 117 #[.slice ao N c, .string X] W fun e w' => ∃ a1 c1, e = .returned (.slice a1 M c1) ∧ Rv w' a1 (stL X L0) ∧ Below W.heap.size W w' := fun W hW => by
    have := tags117 (c := c) L0 X (HI.out.row W hW).2.2.1 (by have := HT.out.1; omega)
    rw [← HT.out.1] at this
    refine this.mono fun e w' hh => ?_
    obtain ⟨v, he, ho, hb⟩ := hh
    obtain ⟨a', c', hv, hr, -⟩ := ho.form
    rw [← hM] at hv
    subst hv
    exact ⟨a', c', he, hr, hb⟩
  have kH : ∀ W, Below w0.heap.size w0 W → Calls Tryz.prog 36 #[.agg #[.pointer pm], .string X] W fun e w' => e = .returned (.bool (decide (0 < M))) ∧ Below W.heap.size W w' := fun W hW => by
    have := has36 X (HI.out.row W hW).2.1 HT.out.2.2.1
    rw [hst, ← hM] at this
    exact this
  clear hst hM
  by_cases hz : 0 < M
  · have hz1 : (0 : Int) < (M : Int) := by omega
    have hz2 : decide (0 < M) = true := by simpa using hz
    rw [hz2] at kH
    go_enter Tryz.func24, Tryz.ntmps24
    go_upto_region 1 with fail
    rw [← HW0.out.1, ← HW0.out.2.1, ← HW0.out.2.2.1, ← HW0.out.2.2.2]
    go_upto_region 27 with (first | (go_at_call 111; refine (k111 _).mono ?_; rintro e wz ⟨rfl, hwz⟩; replace hwz := hwz.symm; subst hwz; clear k111; dsimp only))
    refine wp_region_held_drew (S := fun w' => w'.cell? ⟨Mb, 0, none⟩ = some (.pointer pm) ∧ w'.cell? ⟨Pb, 1, none⟩ = some (.string X)) (by kernel_rfl) (by exact HS.out _ (bS.trans ((drew_below w0).mono bS.size))) (fun hHeld => ?_)
    try dsimp only at hHeld
    have bW : Below w0.heap.size w0 w0.drew := bS.trans ((drew_below w0).mono bS.size)
    have bX : Below w0.heap.size w0 w0.drew := drew_below w0
    generalize w0.drew = Wd at hHeld bW bX ⊢
    refine take_op (i := 0) (d := 172) (OP := Op.load 27 (Operand.tmp 3)) (T := 27) (v := ?vzd120) rfl rfl rfl rfl (by kernel_rfl) (by kernel_rfl) (by kernel_rfl) (fun _ _ _ h => h) (by rfl) ?hzd120 hHeld ?rzd120
    case hzd120 => (intro w' hSw; (try dsimp only at hSw); go_simp <;> with_reducible rfl)
    try simp only [Act.put, sI, sZ, sS]
    refine take_op (i := 1) (d := 173) (OP := Op.move (Operand.tmp 1)) (T := 22) (v := ?vzd121) rfl rfl rfl rfl (by kernel_rfl) (by kernel_rfl) (by kernel_rfl) (fun _ _ _ h => h) (by rfl) ?hzd121 hHeld ?rzd121
    case hzd121 => (intro w' hSw; (try dsimp only at hSw); go_simp <;> with_reducible rfl)
    try simp only [Act.put, sI, sZ, sS]
    refine take_op (i := 2) (d := 174) (OP := Op.load 27 (Operand.tmp 3)) (T := 27) (v := ?vzd122) rfl rfl rfl rfl (by kernel_rfl) (by kernel_rfl) (by kernel_rfl) (fun _ _ _ h => h) (by rfl) ?hzd122 hHeld ?rzd122
    case hzd122 => (intro w' hSw; (try dsimp only at hSw); go_simp <;> with_reducible rfl)
    try simp only [Act.put, sI, sZ, sS]
    refine take_op (i := 3) (d := 175) (OP := Op.fieldAddr 45 (Operand.tmp 5) 1) (T := 0) (v := ?vzd123) rfl rfl rfl rfl (by kernel_rfl) (by kernel_rfl) (by kernel_rfl) (fun _ _ _ h => h) (by rfl) ?hzd123 hHeld ?rzd123
    case hzd123 => (intro w' hSw; (try dsimp only at hSw); go_simp <;> with_reducible rfl)
    try simp only [Act.put, sI, sZ, sS]
    refine take_op (i := 4) (d := 176) (OP := Op.load 9 (Operand.tmp 175)) (T := 9) (v := ?vzd124) rfl rfl rfl rfl (by kernel_rfl) (by kernel_rfl) (by kernel_rfl) (fun _ _ _ h => h) (by rfl) ?hzd124 hHeld ?rzd124
    case hzd124 => (intro w' hSw; (try dsimp only at hSw); go_simp <;> with_reducible rfl)
    try simp only [Act.put, sI, sZ, sS]
    refine take_op (i := 6) (d := 178) (OP := Op.move (Operand.tmp 1)) (T := 22) (v := ?vzd125) rfl rfl rfl rfl (by kernel_rfl) (by kernel_rfl) (by kernel_rfl) (fun _ _ _ h => h) (by rfl) ?hzd125 hHeld ?rzd125
    case hzd125 => (intro w' hSw; (try dsimp only at hSw); go_simp <;> with_reducible rfl)
    try simp only [Act.put, sI, sZ, sS]
    refine take_op (i := 7) (d := 179) (OP := Op.fieldAddr 45 (Operand.tmp 5) 1) (T := 0) (v := ?vzd126) rfl rfl rfl rfl (by kernel_rfl) (by kernel_rfl) (by kernel_rfl) (fun _ _ _ h => h) (by rfl) ?hzd126 hHeld ?rzd126
    case hzd126 => (intro w' hSw; (try dsimp only at hSw); go_simp <;> with_reducible rfl)
    try simp only [Act.put, sI, sZ, sS]
    refine take_op (i := 8) (d := 180) (OP := Op.load 9 (Operand.tmp 179)) (T := 9) (v := ?vzd127) rfl rfl rfl rfl (by kernel_rfl) (by kernel_rfl) (by kernel_rfl) (fun _ _ _ h => h) (by rfl) ?hzd127 hHeld ?rzd127
    case hzd127 => (intro w' hSw; (try dsimp only at hSw); go_simp <;> with_reducible rfl)
    try simp only [Act.put, sI, sZ, sS]
    refine call_op (i := 5) (d := 177) (OP := Op.call { callee := Callee.value (Operand.func 36), args := #[Operand.tmp 174, Operand.tmp 176], argTypes := #[27, 9] }) (T := 4) (f := 36) (args := #[.agg #[.pointer pm], .string X]) rfl rfl rfl rfl (by kernel_rfl) (by rfl) (by go_simp) ?_
    refine (kH _ bW).mono ?_
    rintro e zc5 ⟨rfl, bzc5⟩
    have qzc5 : zc5.cell? ⟨Mb, 0, none⟩ = some (.pointer pm) ∧ zc5.cell? ⟨Pb, 1, none⟩ = some (.string X) := ⟨cell_stays hHeld.1 bzc5, cell_stays hHeld.2 bzc5⟩
    refine ⟨_, rfl, qzc5, ?_⟩
    replace hHeld := qzc5
    replace bW := bW.trans (bzc5.mono bW.size)
    replace bX := bX.trans (bzc5.mono bX.size)
    clear qzc5 bzc5
    try simp only [Act.put, sI, sZ, sS]
    refine call_op (i := 9) (d := 181) (OP := Op.call { callee := Callee.value (Operand.func 117), args := #[Operand.tmp 178, Operand.tmp 180], argTypes := #[22, 9] }) (T := 71) (f := 117) (args := #[.slice ao N c, .string X]) rfl rfl rfl rfl (by kernel_rfl) (by rfl) (by go_simp) ?_
    refine (kG _ bW).mono ?_
    rintro e zc9 ⟨a1, c1, rfl, r1, bzc9⟩
    have qzc9 : zc9.cell? ⟨Mb, 0, none⟩ = some (.pointer pm) ∧ zc9.cell? ⟨Pb, 1, none⟩ = some (.string X) := ⟨cell_stays hHeld.1 bzc9, cell_stays hHeld.2 bzc9⟩
    refine ⟨_, rfl, qzc9, ?_⟩
    replace hHeld := qzc9
    replace bW := bW.trans (bzc9.mono bW.size)
    replace bX := bX.trans (bzc9.mono bX.size)
    clear qzc9 bzc9
    try simp only [Act.put, sI, sZ, sS]
    refine take_op (i := 10) (d := 182) (OP := Op.call { callee := Callee.builtin Builtin.len, args := #[Operand.tmp 181], argTypes := #[71] }) (T := 3) (v := ?vzd128) rfl rfl rfl rfl (by kernel_rfl) (by kernel_rfl) (by kernel_rfl) (fun _ _ _ h => h) (by rfl) ?hzd128 hHeld ?rzd128
    case hzd128 => (intro w' hSw; (try dsimp only at hSw); go_simp <;> with_reducible rfl)
    try simp only [Act.put, sI, sZ, sS]
    refine take_op (i := 11) (d := 183) (OP := Op.binOp BinOp.gtr 3 (Operand.tmp 182) (Operand.const (Value.int IntKind.i64 0)) 3) (T := 4) (v := .bool true) rfl rfl rfl rfl (by kernel_rfl) (by kernel_rfl) (by kernel_rfl) (fun _ _ _ h => h) (by rfl) ?hzd129 hHeld ?rzd129
    case hzd129 => (intro w' hSw; (try dsimp only at hSw); go_simp)
    try simp only [Act.put, sI, sZ, sS]
    refine take_op (i := 12) (d := 184) (OP := Op.binOp BinOp.eql 4 (Operand.tmp 177) (Operand.tmp 183) 4) (T := 4) (v := ?vzd130) rfl rfl rfl rfl (by kernel_rfl) (by kernel_rfl) (by kernel_rfl) (fun _ _ _ h => h) (by rfl) ?hzd130 hHeld ?rzd130
    case hzd130 => (intro w' hSw; (try dsimp only at hSw); go_simp <;> with_reducible rfl)
    try simp only [Act.put, sI, sZ, sS]
    obtain ⟨u6, o6⟩ := set_one (i := 0) (.pointer pm) (HR.out _ bW)
    have hS6 : (zc9.setCell ⟨Rb, 0, none⟩ (.pointer pm)).cell? ⟨Mb, 0, none⟩ = some (.pointer pm) ∧ (zc9.setCell ⟨Rb, 0, none⟩ (.pointer pm)).cell? ⟨Pb, 1, none⟩ = some (.string X) := ⟨o6.cell hHeld.1 (fun e => by have := HNE.out; simp only at e; omega), o6.cell hHeld.2 (fun e => by have := HNE.out; simp only at e; omega)⟩
    refine skip_op (i := 13) (OP := Op.store 27 (Operand.tmp 6) (Operand.tmp 172)) (T := 0) (w' := zc9.setCell ⟨Rb, 0, none⟩ (.pointer pm)) rfl rfl rfl rfl (by kernel_rfl) (by rfl) (exec_st27 rfl rfl ((cell_of_row _ _ 0 _ 27 (0, 0) (HR.out _ bW)).trans rfl) (frozen_of_row _ _ 0 _ 27 (HR.out _ bW))) ⟨hS6, ?_⟩
    try simp only [Act.put, sI, sZ, sS]
    replace hHeld := hS6
    clear hS6
    refine take_op (i := 14) (d := 7) (OP := Op.assign (Operand.tmp 173)) (T := 22) (v := ?vzd131) rfl rfl rfl rfl (by kernel_rfl) (by kernel_rfl) (by kernel_rfl) (fun _ _ _ h => h) (by rfl) ?hzd131 hHeld ?rzd131
    case hzd131 => (intro w' hSw; (try dsimp only at hSw); go_simp <;> with_reducible rfl)
    try simp only [Act.put, sI, sZ, sS]
    refine take_op (i := 15) (d := 8) (OP := Op.assign (Operand.tmp 184)) (T := 4) (v := ?vzd132) rfl rfl rfl rfl (by kernel_rfl) (by kernel_rfl) (by kernel_rfl) (fun _ _ _ h => h) (by rfl) ?hzd132 hHeld ?rzd132
    case hzd132 => (intro w' hSw; (try dsimp only at hSw); go_simp <;> with_reducible rfl)
    try simp only [Act.put, sI, sZ, sS]
    refine wpAnyH_done (by kernel_rfl) ?_ _
    clear r1 hz hz1 hz2
    have b0W := bW
    obtain ⟨r1, r2, r3, r4⟩ := HI.out.row _ b0W
    have HE := hide (And.intro u6 (And.intro (Below.only r4 o6 r4.size (fun j e => by have e' : j = Rb := e; have := HI.out.ge; omega)) (And.intro (r2.aside r1 o6) (r3.aside r1 o6))))
    clear u6 o6 hHeld bW bX bS r1 r2 r3 r4 b0W HS HR HNE kG kH
    go_wp2
    refine ret_row_t3 Rb [.pointer pm] rfl rfl rfl rfl Tryz.underlying27 rfl T27 (by simpa using HE.out.1) rfl ?_
    exact ⟨t, pm, ao, c, HT.out.2.2.1, by rw [← HT.out.2.1, ← HT.out.1]; rfl, HE.out.2.2.1, HT.out.2.2.2.1, by rw [← HT.out.2.1]; exact HE.out.2.2.2, by omega, HE.out.2.1⟩
  · have hz1 : ¬ (0 : Int) < (M : Int) := by omega
    have hz2 : decide (0 < M) = false := by simpa using hz
    rw [hz2] at kH
    go_enter Tryz.func24, Tryz.ntmps24
    go_upto_region 1 with fail
    rw [← HW0.out.1, ← HW0.out.2.1, ← HW0.out.2.2.1, ← HW0.out.2.2.2]
    go_upto_region 27 with (first | (go_at_call 111; refine (k111 _).mono ?_; rintro e wz ⟨rfl, hwz⟩; replace hwz := hwz.symm; subst hwz; clear k111; dsimp only))
    refine wp_region_held_drew (S := fun w' => w'.cell? ⟨Mb, 0, none⟩ = some (.pointer pm) ∧ w'.cell? ⟨Pb, 1, none⟩ = some (.string X)) (by kernel_rfl) (by exact HS.out _ (bS.trans ((drew_below w0).mono bS.size))) (fun hHeld => ?_)
    try dsimp only at hHeld
    have bW : Below w0.heap.size w0 w0.drew := bS.trans ((drew_below w0).mono bS.size)
    have bX : Below w0.heap.size w0 w0.drew := drew_below w0
    generalize w0.drew = Wd at hHeld bW bX ⊢
    refine take_op (i := 0) (d := 172) (OP := Op.load 27 (Operand.tmp 3)) (T := 27) (v := ?vzd133) rfl rfl rfl rfl (by kernel_rfl) (by kernel_rfl) (by kernel_rfl) (fun _ _ _ h => h) (by rfl) ?hzd133 hHeld ?rzd133
    case hzd133 => (intro w' hSw; (try dsimp only at hSw); go_simp <;> with_reducible rfl)
    try simp only [Act.put, sI, sZ, sS]
    refine take_op (i := 1) (d := 173) (OP := Op.move (Operand.tmp 1)) (T := 22) (v := ?vzd134) rfl rfl rfl rfl (by kernel_rfl) (by kernel_rfl) (by kernel_rfl) (fun _ _ _ h => h) (by rfl) ?hzd134 hHeld ?rzd134
    case hzd134 => (intro w' hSw; (try dsimp only at hSw); go_simp <;> with_reducible rfl)
    try simp only [Act.put, sI, sZ, sS]
    refine take_op (i := 2) (d := 174) (OP := Op.load 27 (Operand.tmp 3)) (T := 27) (v := ?vzd135) rfl rfl rfl rfl (by kernel_rfl) (by kernel_rfl) (by kernel_rfl) (fun _ _ _ h => h) (by rfl) ?hzd135 hHeld ?rzd135
    case hzd135 => (intro w' hSw; (try dsimp only at hSw); go_simp <;> with_reducible rfl)
    try simp only [Act.put, sI, sZ, sS]
    refine take_op (i := 3) (d := 175) (OP := Op.fieldAddr 45 (Operand.tmp 5) 1) (T := 0) (v := ?vzd136) rfl rfl rfl rfl (by kernel_rfl) (by kernel_rfl) (by kernel_rfl) (fun _ _ _ h => h) (by rfl) ?hzd136 hHeld ?rzd136
    case hzd136 => (intro w' hSw; (try dsimp only at hSw); go_simp <;> with_reducible rfl)
    try simp only [Act.put, sI, sZ, sS]
    refine take_op (i := 4) (d := 176) (OP := Op.load 9 (Operand.tmp 175)) (T := 9) (v := ?vzd137) rfl rfl rfl rfl (by kernel_rfl) (by kernel_rfl) (by kernel_rfl) (fun _ _ _ h => h) (by rfl) ?hzd137 hHeld ?rzd137
    case hzd137 => (intro w' hSw; (try dsimp only at hSw); go_simp <;> with_reducible rfl)
    try simp only [Act.put, sI, sZ, sS]
    refine take_op (i := 6) (d := 178) (OP := Op.move (Operand.tmp 1)) (T := 22) (v := ?vzd138) rfl rfl rfl rfl (by kernel_rfl) (by kernel_rfl) (by kernel_rfl) (fun _ _ _ h => h) (by rfl) ?hzd138 hHeld ?rzd138
    case hzd138 => (intro w' hSw; (try dsimp only at hSw); go_simp <;> with_reducible rfl)
    try simp only [Act.put, sI, sZ, sS]
    refine take_op (i := 7) (d := 179) (OP := Op.fieldAddr 45 (Operand.tmp 5) 1) (T := 0) (v := ?vzd139) rfl rfl rfl rfl (by kernel_rfl) (by kernel_rfl) (by kernel_rfl) (fun _ _ _ h => h) (by rfl) ?hzd139 hHeld ?rzd139
    case hzd139 => (intro w' hSw; (try dsimp only at hSw); go_simp <;> with_reducible rfl)
    try simp only [Act.put, sI, sZ, sS]
    refine take_op (i := 8) (d := 180) (OP := Op.load 9 (Operand.tmp 179)) (T := 9) (v := ?vzd140) rfl rfl rfl rfl (by kernel_rfl) (by kernel_rfl) (by kernel_rfl) (fun _ _ _ h => h) (by rfl) ?hzd140 hHeld ?rzd140
    case hzd140 => (intro w' hSw; (try dsimp only at hSw); go_simp <;> with_reducible rfl)
    try simp only [Act.put, sI, sZ, sS]
    refine call_op (i := 5) (d := 177) (OP := Op.call { callee := Callee.value (Operand.func 36), args := #[Operand.tmp 174, Operand.tmp 176], argTypes := #[27, 9] }) (T := 4) (f := 36) (args := #[.agg #[.pointer pm], .string X]) rfl rfl rfl rfl (by kernel_rfl) (by rfl) (by go_simp) ?_
    refine (kH _ bW).mono ?_
    rintro e zc5 ⟨rfl, bzc5⟩
    have qzc5 : zc5.cell? ⟨Mb, 0, none⟩ = some (.pointer pm) ∧ zc5.cell? ⟨Pb, 1, none⟩ = some (.string X) := ⟨cell_stays hHeld.1 bzc5, cell_stays hHeld.2 bzc5⟩
    refine ⟨_, rfl, qzc5, ?_⟩
    replace hHeld := qzc5
    replace bW := bW.trans (bzc5.mono bW.size)
    replace bX := bX.trans (bzc5.mono bX.size)
    clear qzc5 bzc5
    try simp only [Act.put, sI, sZ, sS]
    refine call_op (i := 9) (d := 181) (OP := Op.call { callee := Callee.value (Operand.func 117), args := #[Operand.tmp 178, Operand.tmp 180], argTypes := #[22, 9] }) (T := 71) (f := 117) (args := #[.slice ao N c, .string X]) rfl rfl rfl rfl (by kernel_rfl) (by rfl) (by go_simp) ?_
    refine (kG _ bW).mono ?_
    rintro e zc9 ⟨a1, c1, rfl, r1, bzc9⟩
    have qzc9 : zc9.cell? ⟨Mb, 0, none⟩ = some (.pointer pm) ∧ zc9.cell? ⟨Pb, 1, none⟩ = some (.string X) := ⟨cell_stays hHeld.1 bzc9, cell_stays hHeld.2 bzc9⟩
    refine ⟨_, rfl, qzc9, ?_⟩
    replace hHeld := qzc9
    replace bW := bW.trans (bzc9.mono bW.size)
    replace bX := bX.trans (bzc9.mono bX.size)
    clear qzc9 bzc9
    try simp only [Act.put, sI, sZ, sS]
    refine take_op (i := 10) (d := 182) (OP := Op.call { callee := Callee.builtin Builtin.len, args := #[Operand.tmp 181], argTypes := #[71] }) (T := 3) (v := ?vzd141) rfl rfl rfl rfl (by kernel_rfl) (by kernel_rfl) (by kernel_rfl) (fun _ _ _ h => h) (by rfl) ?hzd141 hHeld ?rzd141
    case hzd141 => (intro w' hSw; (try dsimp only at hSw); go_simp <;> with_reducible rfl)
    try simp only [Act.put, sI, sZ, sS]
    refine take_op (i := 11) (d := 183) (OP := Op.binOp BinOp.gtr 3 (Operand.tmp 182) (Operand.const (Value.int IntKind.i64 0)) 3) (T := 4) (v := .bool false) rfl rfl rfl rfl (by kernel_rfl) (by kernel_rfl) (by kernel_rfl) (fun _ _ _ h => h) (by rfl) ?hzd142 hHeld ?rzd142
    case hzd142 => (intro w' hSw; (try dsimp only at hSw); go_simp)
    try simp only [Act.put, sI, sZ, sS]
    refine take_op (i := 12) (d := 184) (OP := Op.binOp BinOp.eql 4 (Operand.tmp 177) (Operand.tmp 183) 4) (T := 4) (v := ?vzd143) rfl rfl rfl rfl (by kernel_rfl) (by kernel_rfl) (by kernel_rfl) (fun _ _ _ h => h) (by rfl) ?hzd143 hHeld ?rzd143
    case hzd143 => (intro w' hSw; (try dsimp only at hSw); go_simp <;> with_reducible rfl)
    try simp only [Act.put, sI, sZ, sS]
    obtain ⟨u6, o6⟩ := set_one (i := 0) (.pointer pm) (HR.out _ bW)
    have hS6 : (zc9.setCell ⟨Rb, 0, none⟩ (.pointer pm)).cell? ⟨Mb, 0, none⟩ = some (.pointer pm) ∧ (zc9.setCell ⟨Rb, 0, none⟩ (.pointer pm)).cell? ⟨Pb, 1, none⟩ = some (.string X) := ⟨o6.cell hHeld.1 (fun e => by have := HNE.out; simp only at e; omega), o6.cell hHeld.2 (fun e => by have := HNE.out; simp only at e; omega)⟩
    refine skip_op (i := 13) (OP := Op.store 27 (Operand.tmp 6) (Operand.tmp 172)) (T := 0) (w' := zc9.setCell ⟨Rb, 0, none⟩ (.pointer pm)) rfl rfl rfl rfl (by kernel_rfl) (by rfl) (exec_st27 rfl rfl ((cell_of_row _ _ 0 _ 27 (0, 0) (HR.out _ bW)).trans rfl) (frozen_of_row _ _ 0 _ 27 (HR.out _ bW))) ⟨hS6, ?_⟩
    try simp only [Act.put, sI, sZ, sS]
    replace hHeld := hS6
    clear hS6
    refine take_op (i := 14) (d := 7) (OP := Op.assign (Operand.tmp 173)) (T := 22) (v := ?vzd144) rfl rfl rfl rfl (by kernel_rfl) (by kernel_rfl) (by kernel_rfl) (fun _ _ _ h => h) (by rfl) ?hzd144 hHeld ?rzd144
    case hzd144 => (intro w' hSw; (try dsimp only at hSw); go_simp <;> with_reducible rfl)
    try simp only [Act.put, sI, sZ, sS]
    refine take_op (i := 15) (d := 8) (OP := Op.assign (Operand.tmp 184)) (T := 4) (v := ?vzd145) rfl rfl rfl rfl (by kernel_rfl) (by kernel_rfl) (by kernel_rfl) (fun _ _ _ h => h) (by rfl) ?hzd145 hHeld ?rzd145
    case hzd145 => (intro w' hSw; (try dsimp only at hSw); go_simp <;> with_reducible rfl)
    try simp only [Act.put, sI, sZ, sS]
    refine wpAnyH_done (by kernel_rfl) ?_ _
    clear r1 hz hz1 hz2
    have b0W := bW
    obtain ⟨r1, r2, r3, r4⟩ := HI.out.row _ b0W
    have HE := hide (And.intro u6 (And.intro (Below.only r4 o6 r4.size (fun j e => by have e' : j = Rb := e; have := HI.out.ge; omega)) (And.intro (r2.aside r1 o6) (r3.aside r1 o6))))
    clear u6 o6 hHeld bW bX bS r1 r2 r3 r4 b0W HS HR HNE kG kH
    go_wp2
    refine ret_row_t3 Rb [.pointer pm] rfl rfl rfl rfl Tryz.underlying27 rfl T27 (by simpa using HE.out.1) rfl ?_
    exact ⟨t, pm, ao, c, HT.out.2.2.1, by rw [← HT.out.2.1, ← HT.out.1]; rfl, HE.out.2.2.1, HT.out.2.2.2.1, by rw [← HT.out.2.1]; exact HE.out.2.2.2, by omega, HE.out.2.1⟩
set_option maxHeartbeats 16000000 in
set_option maxRecDepth 100000 in
theorem do24_4 {w : World} {t : Pm.T} {pm : Option Addr} {ao : Option Addr} {c : Nat} (s : St) (X : ByteArray) (h : Mg w t) (hn : t.n < 399) (hp : t.ptr = .pointer pm) (hm : mayT t.list = true) (hre : Re w ao (elsT t.list)) (hss : s.2.2.1.size ≤ 9223372036854775807) :
    Calls Tryz.prog 24 #[.agg #[.pointer pm], .slice ao (elsT t.list).length c, .agg #[.int .i64 4, .string X, .int .i64 s.1, .int .i64 s.2.1, .string s.2.2.1, .int .i64 s.2.2.2.1, .int .i64 s.2.2.2.2]] w (DoT w t) := by
  have HI := hide (DoI.of (pm := pm) 4 X s h hre)
  obtain ⟨g, r, lb, n, ix⟩ := s
  dsimp only at hss HI ⊢
  obtain ⟨L0, hL0⟩ : ∃ q, q = elsT t.list := ⟨_, rfl⟩
  obtain ⟨N, hN⟩ : ∃ q, q = L0.length := ⟨_, rfl⟩
  rw [← hL0] at HI hre ⊢
  rw [← hN]
  obtain ⟨w0, hw0⟩ : ∃ q, q = ((w.alloc (.cells #[.pointer pm] 27)).alloc (.cells #[.int .i64 4, .string X, .int .i64 g, .int .i64 r, .string lb, .int .i64 n, .int .i64 ix] 45)).alloc (.cells #[.pointer none] 27) := ⟨_, rfl⟩
  rw [← hw0] at HI
  obtain ⟨Mb, hMb⟩ : ∃ q, q = w.heap.size := ⟨_, rfl⟩
  obtain ⟨Pb, hPb⟩ : ∃ q, q = w.heap.size + 1 := ⟨_, rfl⟩
  obtain ⟨Rb, hRb⟩ : ∃ q, q = w.heap.size + 1 + 1 := ⟨_, rfl⟩
  have HI : Hid (DoI w w0 Mb Pb Rb t pm ao L0 4 X (g, r, lb, n, ix)) := hide (by rw [hMb, hPb, hRb]; exact HI.out)
  have hNn : N = t.n := by rw [hN, hL0, els_len hm, Pm.T.n_eq]
  have HT := hide (And.intro hN (And.intro hL0 (And.intro hp (And.intro hm (And.intro hn hNn)))))
  have HW0 := hide (And.intro hw0 (And.intro hRb (And.intro hPb hMb)))
  have hNb : N ≤ 400 := by omega
  obtain ⟨x0, y0, y1, y2, y3, y4, y5, y6⟩ := HI.out.cell w0 (Below.refl _ _)
  dsimp only at y2 y3 y4 y5 y6
  have k111 := fun W => refText_any X W
  have kS := h.srt
  have HS0 := hide kS
  clear h hn hp hm hre hN hL0 hw0 hMb hPb hRb hNn kS
  have bS : Below w0.heap.size w0 w0 := Below.refl _ _
  have HS : Hid (∀ W, Below w0.heap.size w0 W → W.cell? ⟨Mb, 0, none⟩ = some (.pointer pm) ∧ W.cell? ⟨Pb, 1, none⟩ = some (.string X)) := hide (fun W hW => ⟨(HI.out.cell W hW).1, (HI.out.cell W hW).2.2.1⟩)
  have HR : Hid (∀ W, Below w0.heap.size w0 W → W.heap[Rb]? = some (.cells #[.pointer none] 27 (0, 0))) := hide (fun W hW => (HI.out.row W hW).1)
  have HNE : Hid (Mb ≠ Rb ∧ Pb ≠ Rb) := hide (by obtain ⟨q1, q2, q3, q4⟩ := HI.out.ge; omega)
  have hst := stg_els X HT.out.2.2.2.1 HS0.out
  rw [← HT.out.2.1] at hst
  obtain ⟨M, hM⟩ : ∃ q, q = (stL X L0).length := ⟨_, rfl⟩
  have hMb : M ≤ 400 := by have := stL_len X L0; have := HT.out.1; omega
  have kG : ∀ W, Below w0.heap.size w0 W → Calls Tryz.prog 117 #[.slice ao N c, .string X] W fun e w' => ∃ a1 c1, e = .returned (.slice a1 M c1) ∧ Rv w' a1 (stL X L0) ∧ Below W.heap.size W w' := fun W hW => by
    have := tags117 (c := c) L0 X (HI.out.row W hW).2.2.1 (by have := HT.out.1; omega)
    rw [← HT.out.1] at this
    refine this.mono fun e w' hh => ?_
    obtain ⟨v, he, ho, hb⟩ := hh
    obtain ⟨a', c', hv, hr, -⟩ := ho.form
    rw [← hM] at hv
    subst hv
    exact ⟨a', c', he, hr, hb⟩
  have kT : ∀ W, Below w0.heap.size w0 W → Calls Tryz.prog 37 #[.agg #[.pointer pm], .string X] W fun e w' => ∃ a1 c1, e = .returned (.slice a1 M c1) ∧ Rv w' a1 (stL X L0) ∧ Below W.heap.size W w' := fun W hW => by
    have := tags37 X (HI.out.row W hW).2.1 HT.out.2.2.1
    unfold TagE at this
    rw [hst, ← hM] at this
    exact this.mono fun e w' ⟨a1, c1, h1, h2, h3⟩ => ⟨a1, c1, h1, h2.rv, h3⟩
  have kS : ∀ W a1 c1 a2 c2, Rv W a1 (stL X L0) → Rv W a2 (stL X L0) → Calls Tryz.prog 116 #[.slice a1 M c1, .slice a2 M c2] W fun e w' => e = .returned (.bool true) ∧ Below W.heap.size W w' := fun W a1 c1 a2 c2 h1 h2 => by
    have := same116 (c := c1) (d := c2) h1 h2 (by omega)
    rw [← hM] at this
    exact this.mono fun e w' ⟨he, n, hn⟩ => ⟨he, by rw [hn]; exact below_drew _ _⟩
  clear hst hM
  go_enter Tryz.func24, Tryz.ntmps24
  go_upto_region 1 with fail
  rw [← HW0.out.1, ← HW0.out.2.1, ← HW0.out.2.2.1, ← HW0.out.2.2.2]
  go_upto_region 29 with (first | (go_at_call 111; refine (k111 _).mono ?_; rintro e wz ⟨rfl, hwz⟩; replace hwz := hwz.symm; subst hwz; clear k111; dsimp only))
  refine wp_region_held_drew (S := fun w' => w'.cell? ⟨Mb, 0, none⟩ = some (.pointer pm) ∧ w'.cell? ⟨Pb, 1, none⟩ = some (.string X)) (by kernel_rfl) (by exact HS.out _ (bS.trans ((drew_below w0).mono bS.size))) (fun hHeld => ?_)
  try dsimp only at hHeld
  have bW : Below w0.heap.size w0 w0.drew := bS.trans ((drew_below w0).mono bS.size)
  have bX : Below w0.heap.size w0 w0.drew := drew_below w0
  generalize w0.drew = Wd at hHeld bW bX ⊢
  refine take_op (i := 0) (d := 187) (OP := Op.load 27 (Operand.tmp 3)) (T := 27) (v := ?vzd146) rfl rfl rfl rfl (by kernel_rfl) (by kernel_rfl) (by kernel_rfl) (fun _ _ _ h => h) (by rfl) ?hzd146 hHeld ?rzd146
  case hzd146 => (intro w' hSw; (try dsimp only at hSw); go_simp <;> with_reducible rfl)
  try simp only [Act.put, sI, sZ, sS]
  refine take_op (i := 1) (d := 188) (OP := Op.move (Operand.tmp 1)) (T := 22) (v := ?vzd147) rfl rfl rfl rfl (by kernel_rfl) (by kernel_rfl) (by kernel_rfl) (fun _ _ _ h => h) (by rfl) ?hzd147 hHeld ?rzd147
  case hzd147 => (intro w' hSw; (try dsimp only at hSw); go_simp <;> with_reducible rfl)
  try simp only [Act.put, sI, sZ, sS]
  refine take_op (i := 2) (d := 189) (OP := Op.load 27 (Operand.tmp 3)) (T := 27) (v := ?vzd148) rfl rfl rfl rfl (by kernel_rfl) (by kernel_rfl) (by kernel_rfl) (fun _ _ _ h => h) (by rfl) ?hzd148 hHeld ?rzd148
  case hzd148 => (intro w' hSw; (try dsimp only at hSw); go_simp <;> with_reducible rfl)
  try simp only [Act.put, sI, sZ, sS]
  refine take_op (i := 3) (d := 190) (OP := Op.fieldAddr 45 (Operand.tmp 5) 1) (T := 0) (v := ?vzd149) rfl rfl rfl rfl (by kernel_rfl) (by kernel_rfl) (by kernel_rfl) (fun _ _ _ h => h) (by rfl) ?hzd149 hHeld ?rzd149
  case hzd149 => (intro w' hSw; (try dsimp only at hSw); go_simp <;> with_reducible rfl)
  try simp only [Act.put, sI, sZ, sS]
  refine take_op (i := 4) (d := 191) (OP := Op.load 9 (Operand.tmp 190)) (T := 9) (v := ?vzd150) rfl rfl rfl rfl (by kernel_rfl) (by kernel_rfl) (by kernel_rfl) (fun _ _ _ h => h) (by rfl) ?hzd150 hHeld ?rzd150
  case hzd150 => (intro w' hSw; (try dsimp only at hSw); go_simp <;> with_reducible rfl)
  try simp only [Act.put, sI, sZ, sS]
  refine take_op (i := 6) (d := 193) (OP := Op.move (Operand.tmp 1)) (T := 22) (v := ?vzd151) rfl rfl rfl rfl (by kernel_rfl) (by kernel_rfl) (by kernel_rfl) (fun _ _ _ h => h) (by rfl) ?hzd151 hHeld ?rzd151
  case hzd151 => (intro w' hSw; (try dsimp only at hSw); go_simp <;> with_reducible rfl)
  try simp only [Act.put, sI, sZ, sS]
  refine take_op (i := 7) (d := 194) (OP := Op.fieldAddr 45 (Operand.tmp 5) 1) (T := 0) (v := ?vzd152) rfl rfl rfl rfl (by kernel_rfl) (by kernel_rfl) (by kernel_rfl) (fun _ _ _ h => h) (by rfl) ?hzd152 hHeld ?rzd152
  case hzd152 => (intro w' hSw; (try dsimp only at hSw); go_simp <;> with_reducible rfl)
  try simp only [Act.put, sI, sZ, sS]
  refine take_op (i := 8) (d := 195) (OP := Op.load 9 (Operand.tmp 194)) (T := 9) (v := ?vzd153) rfl rfl rfl rfl (by kernel_rfl) (by kernel_rfl) (by kernel_rfl) (fun _ _ _ h => h) (by rfl) ?hzd153 hHeld ?rzd153
  case hzd153 => (intro w' hSw; (try dsimp only at hSw); go_simp <;> with_reducible rfl)
  try simp only [Act.put, sI, sZ, sS]
  refine call_op (i := 5) (d := 192) (OP := Op.call { callee := Callee.value (Operand.func 37), args := #[Operand.tmp 189, Operand.tmp 191], argTypes := #[27, 9] }) (T := 71) (f := 37) (args := #[.agg #[.pointer pm], .string X]) rfl rfl rfl rfl (by kernel_rfl) (by rfl) (by go_simp) ?_
  refine (kT _ bW).mono ?_
  rintro e zc5 ⟨a1, c1, rfl, r1, bzc5⟩
  have qzc5 : zc5.cell? ⟨Mb, 0, none⟩ = some (.pointer pm) ∧ zc5.cell? ⟨Pb, 1, none⟩ = some (.string X) := ⟨cell_stays hHeld.1 bzc5, cell_stays hHeld.2 bzc5⟩
  refine ⟨_, rfl, qzc5, ?_⟩
  replace hHeld := qzc5
  replace bW := bW.trans (bzc5.mono bW.size)
  replace bX := bX.trans (bzc5.mono bX.size)
  clear qzc5 bzc5
  try simp only [Act.put, sI, sZ, sS]
  refine call_op (i := 9) (d := 196) (OP := Op.call { callee := Callee.value (Operand.func 117), args := #[Operand.tmp 193, Operand.tmp 195], argTypes := #[22, 9] }) (T := 71) (f := 117) (args := #[.slice ao N c, .string X]) rfl rfl rfl rfl (by kernel_rfl) (by rfl) (by go_simp) ?_
  refine (kG _ bW).mono ?_
  rintro e zc9 ⟨a2, c2, rfl, r2, bzc9⟩
  have qzc9 : zc9.cell? ⟨Mb, 0, none⟩ = some (.pointer pm) ∧ zc9.cell? ⟨Pb, 1, none⟩ = some (.string X) := ⟨cell_stays hHeld.1 bzc9, cell_stays hHeld.2 bzc9⟩
  refine ⟨_, rfl, qzc9, ?_⟩
  replace hHeld := qzc9
  replace bW := bW.trans (bzc9.mono bW.size)
  replace bX := bX.trans (bzc9.mono bX.size)
  replace r1 := r1.below bzc9
  clear qzc9 bzc9
  try simp only [Act.put, sI, sZ, sS]
  refine call_op (i := 10) (d := 197) (OP := Op.call { callee := Callee.value (Operand.func 116), args := #[Operand.tmp 192, Operand.tmp 196], argTypes := #[71, 71] }) (T := 4) (f := 116) (args := #[.slice a1 M c1, .slice a2 M c2]) rfl rfl rfl rfl (by kernel_rfl) (by rfl) (by go_simp) ?_
  refine (kS _ _ _ _ _ r1 r2).mono ?_
  rintro e zc10 ⟨rfl, bzc10⟩
  have qzc10 : zc10.cell? ⟨Mb, 0, none⟩ = some (.pointer pm) ∧ zc10.cell? ⟨Pb, 1, none⟩ = some (.string X) := ⟨cell_stays hHeld.1 bzc10, cell_stays hHeld.2 bzc10⟩
  refine ⟨_, rfl, qzc10, ?_⟩
  replace hHeld := qzc10
  replace bW := bW.trans (bzc10.mono bW.size)
  replace bX := bX.trans (bzc10.mono bX.size)
  replace r1 := r1.below bzc10
  replace r2 := r2.below bzc10
  clear qzc10 bzc10
  try simp only [Act.put, sI, sZ, sS]
  obtain ⟨u6, o6⟩ := set_one (i := 0) (.pointer pm) (HR.out _ bW)
  have hS6 : (zc10.setCell ⟨Rb, 0, none⟩ (.pointer pm)).cell? ⟨Mb, 0, none⟩ = some (.pointer pm) ∧ (zc10.setCell ⟨Rb, 0, none⟩ (.pointer pm)).cell? ⟨Pb, 1, none⟩ = some (.string X) := ⟨o6.cell hHeld.1 (fun e => by have := HNE.out; simp only at e; omega), o6.cell hHeld.2 (fun e => by have := HNE.out; simp only at e; omega)⟩
  refine skip_op (i := 11) (OP := Op.store 27 (Operand.tmp 6) (Operand.tmp 187)) (T := 0) (w' := zc10.setCell ⟨Rb, 0, none⟩ (.pointer pm)) rfl rfl rfl rfl (by kernel_rfl) (by rfl) (exec_st27 rfl rfl ((cell_of_row _ _ 0 _ 27 (0, 0) (HR.out _ bW)).trans rfl) (frozen_of_row _ _ 0 _ 27 (HR.out _ bW))) ⟨hS6, ?_⟩
  try simp only [Act.put, sI, sZ, sS]
  replace hHeld := hS6
  clear hS6
  refine take_op (i := 12) (d := 7) (OP := Op.assign (Operand.tmp 188)) (T := 22) (v := ?vzd154) rfl rfl rfl rfl (by kernel_rfl) (by kernel_rfl) (by kernel_rfl) (fun _ _ _ h => h) (by rfl) ?hzd154 hHeld ?rzd154
  case hzd154 => (intro w' hSw; (try dsimp only at hSw); go_simp <;> with_reducible rfl)
  try simp only [Act.put, sI, sZ, sS]
  refine take_op (i := 13) (d := 8) (OP := Op.assign (Operand.tmp 197)) (T := 4) (v := ?vzd155) rfl rfl rfl rfl (by kernel_rfl) (by kernel_rfl) (by kernel_rfl) (fun _ _ _ h => h) (by rfl) ?hzd155 hHeld ?rzd155
  case hzd155 => (intro w' hSw; (try dsimp only at hSw); go_simp <;> with_reducible rfl)
  try simp only [Act.put, sI, sZ, sS]
  refine wpAnyH_done (by kernel_rfl) ?_ _
  clear r1 r2
  have b0W := bW
  obtain ⟨r1, r2, r3, r4⟩ := HI.out.row _ b0W
  have HE := hide (And.intro u6 (And.intro (Below.only r4 o6 r4.size (fun j e => by have e' : j = Rb := e; have := HI.out.ge; omega)) (And.intro (r2.aside r1 o6) (r3.aside r1 o6))))
  clear u6 o6 hHeld bW bX bS r1 r2 r3 r4 b0W HS HR HNE kG kT kS
  go_wp2
  refine ret_row_t3 Rb [.pointer pm] rfl rfl rfl rfl Tryz.underlying27 rfl T27 (by simpa using HE.out.1) rfl ?_
  exact ⟨t, pm, ao, c, HT.out.2.2.1, by rw [← HT.out.2.1, ← HT.out.1]; rfl, HE.out.2.2.1, HT.out.2.2.2.1, by rw [← HT.out.2.1]; exact HE.out.2.2.2, by omega, HE.out.2.1⟩
set_option maxHeartbeats 16000000 in
set_option maxRecDepth 100000 in
theorem do24_0 {w : World} {t : Pm.T} {pm : Option Addr} {ao : Option Addr} {c : Nat} (K : Int) (s : St) (X : ByteArray) (h : Mg w t) (hn : t.n < 399) (hp : t.ptr = .pointer pm) (hm : mayT t.list = true) (hre : Re w ao (elsT t.list)) (hss : s.2.2.1.size ≤ 9223372036854775807) (hK : K ≠ 1 ∧ K ≠ 2 ∧ K ≠ 3 ∧ K ≠ 4) :
    Calls Tryz.prog 24 #[.agg #[.pointer pm], .slice ao (elsT t.list).length c, .agg #[.int .i64 K, .string X, .int .i64 s.1, .int .i64 s.2.1, .string s.2.2.1, .int .i64 s.2.2.2.1, .int .i64 s.2.2.2.2]] w (DoT w t) := by
  have HI := hide (DoI.of (pm := pm) K X s h hre)
  obtain ⟨g, r, lb, n, ix⟩ := s
  dsimp only at hss HI ⊢
  obtain ⟨L0, hL0⟩ : ∃ q, q = elsT t.list := ⟨_, rfl⟩
  obtain ⟨N, hN⟩ : ∃ q, q = L0.length := ⟨_, rfl⟩
  rw [← hL0] at HI hre ⊢
  rw [← hN]
  obtain ⟨w0, hw0⟩ : ∃ q, q = ((w.alloc (.cells #[.pointer pm] 27)).alloc (.cells #[.int .i64 K, .string X, .int .i64 g, .int .i64 r, .string lb, .int .i64 n, .int .i64 ix] 45)).alloc (.cells #[.pointer none] 27) := ⟨_, rfl⟩
  rw [← hw0] at HI
  obtain ⟨Mb, hMb⟩ : ∃ q, q = w.heap.size := ⟨_, rfl⟩
  obtain ⟨Pb, hPb⟩ : ∃ q, q = w.heap.size + 1 := ⟨_, rfl⟩
  obtain ⟨Rb, hRb⟩ : ∃ q, q = w.heap.size + 1 + 1 := ⟨_, rfl⟩
  have HI : Hid (DoI w w0 Mb Pb Rb t pm ao L0 K X (g, r, lb, n, ix)) := hide (by rw [hMb, hPb, hRb]; exact HI.out)
  have hNn : N = t.n := by rw [hN, hL0, els_len hm, Pm.T.n_eq]
  have HT := hide (And.intro hN (And.intro hL0 (And.intro hp (And.intro hm (And.intro hn hNn)))))
  have HW0 := hide (And.intro hw0 (And.intro hRb (And.intro hPb hMb)))
  have hNb : N ≤ 400 := by omega
  obtain ⟨x0, y0, y1, y2, y3, y4, y5, y6⟩ := HI.out.cell w0 (Below.refl _ _)
  dsimp only at y2 y3 y4 y5 y6
  have k111 := fun W => refText_any X W
  have kS := h.srt
  have HS0 := hide kS
  clear h hn hp hm hre hN hL0 hw0 hMb hPb hRb hNn kS
  have e1 : (K == 1) = false := by simpa using hK.1
  have e2 : (K == 2) = false := by simpa using hK.2.1
  have e3 : (K == 3) = false := by simpa using hK.2.2.1
  have e4 : (K == 4) = false := by simpa using hK.2.2.2
  obtain ⟨q1, q2, q3, q4⟩ := HI.out.row w0 (Below.refl _ _)
  obtain ⟨u6, o6⟩ := set_one (i := 0) (.pointer pm) q1
  have cR : w0.cell? ⟨Rb, 0, none⟩ = some (.pointer none) := (cell_of_row _ _ 0 _ 27 (0, 0) q1).trans rfl
  have fR : w0.frozen? ⟨Rb, 0, none⟩ = false := frozen_of_row _ _ 0 _ 27 q1
  have HE := hide (And.intro u6 (And.intro (Below.only q4 o6 q4.size (fun j e => by have e' : j = Rb := e; have := HI.out.ge; omega)) (And.intro (q2.aside q1 o6) (q3.aside q1 o6))))
  clear q1 q2 q3 q4 u6 o6 hK
  go_enter Tryz.func24, Tryz.ntmps24
  go_upto_region 1 with fail
  rw [← HW0.out.1, ← HW0.out.2.1, ← HW0.out.2.2.1, ← HW0.out.2.2.2]
  go_upto_region 30 with (first | (go_at_call 111; refine (k111 _).mono ?_; rintro e wz ⟨rfl, hwz⟩; replace hwz := hwz.symm; subst hwz; clear k111; dsimp only))
  go_wp2
  refine ret_row_t3 Rb [.pointer pm] rfl rfl rfl rfl Tryz.underlying27 rfl T27 (by simpa using HE.out.1) rfl ?_
  exact ⟨t, pm, ao, c, HT.out.2.2.1, by rw [← HT.out.2.1, ← HT.out.1]; rfl, HE.out.2.2.1, HT.out.2.2.2.1, by rw [← HT.out.2.1]; exact HE.out.2.2.2, by omega, HE.out.2.1⟩
end Go.Proofs.YtkkpdgfllnbigaaGreat.Tg
