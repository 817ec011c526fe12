/-
  tagset: one step of the law TagsetSteps (do 24): Remove.
-/
import Derived.Test.YtkkpdgfllnbigaaGreatMg25
namespace Go.Proofs.YtkkpdgfllnbigaaGreat.Tg
open Go.RowKit Go.Shelf
set_option linter.unusedSimpArgs false
set_option linter.unusedVariables false
attribute [local go_sem] Oper.semAt_some

set_option maxHeartbeats 16000000 in
set_option maxRecDepth 100000 in
theorem do24_2 {w : World} {t : Pm.T} {pm : Option Addr} {ao : Option Addr} {c : Nat} (s : St) (X : ByteArray) (h : Mg w t) (hn : t.n < 399) (hp : t.ptr = .pointer pm) (hm : mayT t.list = true) (hre : Re w ao (elsT t.list)) (hss : s.2.2.1.size ≤ 9223372036854775807) :
    Calls Tryz.prog 24 #[.agg #[.pointer pm], .slice ao (elsT t.list).length c, .agg #[.int .i64 2, .string X, .int .i64 s.1, .int .i64 s.2.1, .string s.2.2.1, .int .i64 s.2.2.2.1, .int .i64 s.2.2.2.2]] w (DoT w t) := by
  have HI := hide (DoI.of (pm := pm) 2 X s h hre)
  obtain ⟨g, r, lb, n, ix⟩ := s
  dsimp only at hss HI ⊢
  obtain ⟨L0, hL0⟩ : ∃ q, q = elsT t.list := ⟨_, rfl⟩
  obtain ⟨N, hN⟩ : ∃ q, q = L0.length := ⟨_, rfl⟩
  rw [← hL0] at HI hre ⊢
  rw [← hN]
  obtain ⟨w0, hw0⟩ : ∃ q, q = ((w.alloc (.cells #[.pointer pm] 27)).alloc (.cells #[.int .i64 2, .string X, .int .i64 g, .int .i64 r, .string lb, .int .i64 n, .int .i64 ix] 45)).alloc (.cells #[.pointer none] 27) := ⟨_, rfl⟩
  rw [← hw0] at HI
  obtain ⟨Mb, hMb⟩ : ∃ q, q = w.heap.size := ⟨_, rfl⟩
  obtain ⟨Pb, hPb⟩ : ∃ q, q = w.heap.size + 1 := ⟨_, rfl⟩
  obtain ⟨Rb, hRb⟩ : ∃ q, q = w.heap.size + 1 + 1 := ⟨_, rfl⟩
  have HI : Hid (DoI w w0 Mb Pb Rb t pm ao L0 2 X (g, r, lb, n, ix)) := hide (by rw [hMb, hPb, hRb]; exact HI.out)
  have hNn : N = t.n := by rw [hN, hL0, els_len hm, Pm.T.n_eq]
  have HT := hide (And.intro hN (And.intro hL0 (And.intro hp (And.intro hm (And.intro hn hNn)))))
  have HW0 := hide (And.intro hw0 (And.intro hRb (And.intro hPb hMb)))
  have hNb : N ≤ 400 := by omega
  obtain ⟨x0, y0, y1, y2, y3, y4, y5, y6⟩ := HI.out.cell w0 (Below.refl _ _)
  dsimp only at y2 y3 y4 y5 y6
  have k111 := fun W => refText_any X W
  have kS := h.srt
  have HS0 := hide kS
  clear h hn hp hm hre hN hL0 hw0 hMb hPb hRb hNn kS
  have hrm := fun W (hW : Below w0.heap.size w0 W) => remove32 X (HI.out.row W hW).2.1 HT.out.2.2.1
  unfold RemE remL remN at hrm
  obtain ⟨TV, hTV⟩ : ∃ q, q = txtB X := ⟨_, rfl⟩
  simp only [tokR, HT.out.2.2.2.1, Bool.and_true, ← hTV] at hrm
  rw [← hTV] at k111
  have HTV := hide hTV
  clear hTV
  cases TV with
  | false =>
    simp only [Bool.false_eq_true, if_false] at hrm
    go_enter Tryz.func24, Tryz.ntmps24
    go_upto_region 1 with fail
    rw [← HW0.out.1, ← HW0.out.2.1, ← HW0.out.2.2.1, ← HW0.out.2.2.2]
    go_upto_region 18 with (first | (go_at_call 111; refine (k111 _).mono ?_; rintro e wz ⟨rfl, hwz⟩; replace hwz := hwz.symm; subst hwz; clear k111; dsimp only) | (go_at_call 32; refine (hrm w0 (Below.refl _ _)).mono ?_; rintro e w1 ⟨t1, p1, hp1, rfl, mg1, hl1, hsm, b1⟩; have HB1 := hide (And.intro (b1.trans (((Below.refl _ w1).alloc (Nat.le_refl _) (.cells #[.pointer p1] 27)).mono b1.size)) (And.intro (heap_alloc_new w1 (.cells #[.pointer p1] 27)) b1.size)); have HM1 := hide (And.intro hp1 (And.intro hl1 (And.intro (mg1.below ((Below.refl _ w1).alloc (Nat.le_refl _) (.cells #[.pointer p1] 27))) hsm))); clear b1 hp1 hl1 mg1 hsm; dsimp only))
    clear hrm
    obtain ⟨Bx, hBx⟩ : ∃ q, q = w1.heap.size := ⟨_, rfl⟩
    obtain ⟨W1, hW1⟩ : ∃ q, q = w1.alloc (.cells #[.pointer p1] 27) := ⟨_, rfl⟩
    rw [← hBx] at HB1
    rw [← hW1] at HB1 HM1 ⊢
    rw [← hBx]
    have c1 : W1.cell? ⟨Bx, 0, none⟩ = some (.pointer p1) := (cell_of_row _ _ 0 _ 27 (0, 0) HB1.out.2.1).trans rfl
    have hBz := HB1.out.2.2
    have bS : Below W1.heap.size W1 W1 := Below.refl _ _
    have HS : Hid (∀ W, Below W1.heap.size W1 W → W.cell? ⟨Mb, 0, none⟩ = some (.pointer pm) ∧ W.cell? ⟨Bx, 0, none⟩ = some (.pointer p1)) := hide (fun W hW => ⟨(HI.out.cell W (HB1.out.1.trans (hW.mono HB1.out.1.size))).1, cell_stays c1 hW⟩)
    have HR : Hid (∀ W, Below W1.heap.size W1 W → W.heap[Rb]? = some (.cells #[.pointer none] 27 (0, 0))) := hide (fun W hW => (HI.out.row W (HB1.out.1.trans (hW.mono HB1.out.1.size))).1)
    have HNE : Hid (Mb ≠ Rb ∧ Bx ≠ Rb) := hide (by obtain ⟨q1, q2, q3, q4⟩ := HI.out.ge; omega)
    have hl0 : t1.n = 0 := by rw [← Pm.T.n_eq, HM1.out.2.1]; rfl
    have kL : ∀ W, Below W1.heap.size W1 W → Calls Tryz.prog 21 #[.agg #[.pointer p1]] W fun e w' => e = .returned (.int .i64 0) ∧ Below W.heap.size W w' := fun W hW => by
      have := Pm.mLen_any t1 W (HM1.out.2.2.1.below hW).inn
      unfold Pm.mv at this
      rw [HM1.out.1, hl0] at this
      exact this
    have tkN : ∀ W, Calls Tryz.prog 20 #[.int .i64 2] W fun e w' => e = .returned (.int .i64 2) ∧ Below W.heap.size W w' := fun W => (num20 2 W).mono fun e w' ⟨h1, h2⟩ => ⟨h1, by rw [h2]; exact Below.refl _ _⟩
    clear c1 hl0 hBz hBx hW1
    refine wp_region_held_drew (S := fun w' => w'.cell? ⟨Mb, 0, none⟩ = some (.pointer pm) ∧ w'.cell? ⟨Bx, 0, none⟩ = some (.pointer p1)) (by kernel_rfl) (by exact HS.out _ (bS.trans ((drew_below W1).mono bS.size))) (fun hHeld => ?_)
    try dsimp only at hHeld
    have bW : Below W1.heap.size W1 W1.drew := bS.trans ((drew_below W1).mono bS.size)
    have bX : Below W1.heap.size W1 W1.drew := drew_below W1
    generalize W1.drew = Wd at hHeld bW bX ⊢
    refine take_op (i := 0) (d := 105) (OP := Op.load 27 (Operand.tmp 3)) (T := 27) (v := ?vzd39) rfl rfl rfl rfl (by kernel_rfl) (by kernel_rfl) (by kernel_rfl) (fun _ _ _ h => h) (by rfl) ?hzd39 hHeld ?rzd39
    case hzd39 => (intro w' hSw; (try dsimp only at hSw); go_simp <;> with_reducible rfl)
    try simp only [Act.put, sI, sZ, sS]
    refine take_op (i := 1) (d := 106) (OP := Op.move (Operand.tmp 1)) (T := 22) (v := ?vzd40) rfl rfl rfl rfl (by kernel_rfl) (by kernel_rfl) (by kernel_rfl) (fun _ _ _ h => h) (by rfl) ?hzd40 hHeld ?rzd40
    case hzd40 => (intro w' hSw; (try dsimp only at hSw); go_simp <;> with_reducible rfl)
    try simp only [Act.put, sI, sZ, sS]
    refine take_op (i := 2) (d := 107) (OP := Op.move (Operand.tmp 17)) (T := 28) (v := ?vzd41) rfl rfl rfl rfl (by kernel_rfl) (by kernel_rfl) (by kernel_rfl) (fun _ _ _ h => h) (by rfl) ?hzd41 hHeld ?rzd41
    case hzd41 => (intro w' hSw; (try dsimp only at hSw); go_simp <;> with_reducible rfl)
    try simp only [Act.put, sI, sZ, sS]
    refine call_op (i := 3) (d := 108) (OP := Op.call { callee := Callee.value (Operand.func 20), args := #[Operand.tmp 107], argTypes := #[28] }) (T := 3) (f := 20) (args := #[.int .i64 2]) rfl rfl rfl rfl (by kernel_rfl) (by rfl) (by go_simp) ?_
    refine (tkN _).mono ?_
    rintro e zc3 ⟨rfl, bzc3⟩
    have qzc3 : zc3.cell? ⟨Mb, 0, none⟩ = some (.pointer pm) ∧ zc3.cell? ⟨Bx, 0, none⟩ = some (.pointer p1) := ⟨cell_stays hHeld.1 bzc3, cell_stays hHeld.2 bzc3⟩
    refine ⟨_, rfl, qzc3, ?_⟩
    replace hHeld := qzc3
    replace bW := bW.trans (bzc3.mono bW.size)
    replace bX := bX.trans (bzc3.mono bX.size)
    clear qzc3 bzc3
    try simp only [Act.put, sI, sZ, sS]
    refine take_op (i := 4) (d := 109) (OP := Op.binOp BinOp.eql 3 (Operand.tmp 108) (Operand.const (Value.int IntKind.i64 2)) 3) (T := 4) (v := ?vzd42) rfl rfl rfl rfl (by kernel_rfl) (by kernel_rfl) (by kernel_rfl) (fun _ _ _ h => h) (by rfl) ?hzd42 hHeld ?rzd42
    case hzd42 => (intro w' hSw; (try dsimp only at hSw); go_simp <;> with_reducible rfl)
    try simp only [Act.put, sI, sZ, sS]
    refine take_op (i := 5) (d := 110) (OP := Op.move (Operand.tmp 109)) (T := 4) (v := ?vzd43) rfl rfl rfl rfl (by kernel_rfl) (by kernel_rfl) (by kernel_rfl) (fun _ _ _ h => h) (by rfl) ?hzd43 hHeld ?rzd43
    case hzd43 => (intro w' hSw; (try dsimp only at hSw); go_simp <;> with_reducible rfl)
    try simp only [Act.put, sI, sZ, sS]
    refine take_op (i := 6) (d := 111) (OP := Op.move (Operand.tmp 16)) (T := 3) (v := ?vzd44) rfl rfl rfl rfl (by kernel_rfl) (by kernel_rfl) (by kernel_rfl) (fun _ _ _ h => h) (by rfl) ?hzd44 hHeld ?rzd44
    case hzd44 => (intro w' hSw; (try dsimp only at hSw); go_simp <;> with_reducible rfl)
    try simp only [Act.put, sI, sZ, sS]
    refine take_op (i := 7) (d := 112) (OP := Op.binOp BinOp.eql 3 (Operand.tmp 111) (Operand.const (Value.int IntKind.i64 0)) 3) (T := 4) (v := ?vzd45) rfl rfl rfl rfl (by kernel_rfl) (by kernel_rfl) (by kernel_rfl) (fun _ _ _ h => h) (by rfl) ?hzd45 hHeld ?rzd45
    case hzd45 => (intro w' hSw; (try dsimp only at hSw); go_simp <;> with_reducible rfl)
    try simp only [Act.put, sI, sZ, sS]
    refine take_op (i := 8) (d := 113) (OP := Op.pick (Operand.tmp 110) (Operand.tmp 112) (Operand.const (Value.bool false))) (T := 4) (v := ?vzd46) rfl rfl rfl rfl (by kernel_rfl) (by kernel_rfl) (by kernel_rfl) (fun _ _ _ h => h) (by rfl) ?hzd46 hHeld ?rzd46
    case hzd46 => (intro w' hSw; (try dsimp only at hSw); go_simp <;> with_reducible rfl)
    try simp only [Act.put, sI, sZ, sS]
    refine take_op (i := 9) (d := 114) (OP := Op.move (Operand.tmp 113)) (T := 4) (v := ?vzd47) rfl rfl rfl rfl (by kernel_rfl) (by kernel_rfl) (by kernel_rfl) (fun _ _ _ h => h) (by rfl) ?hzd47 hHeld ?rzd47
    case hzd47 => (intro w' hSw; (try dsimp only at hSw); go_simp <;> with_reducible rfl)
    try simp only [Act.put, sI, sZ, sS]
    refine take_op (i := 10) (d := 115) (OP := Op.load 27 (Operand.tmp 15)) (T := 27) (v := ?vzd48) rfl rfl rfl rfl (by kernel_rfl) (by kernel_rfl) (by kernel_rfl) (fun _ _ _ h => h) (by rfl) ?hzd48 hHeld ?rzd48
    case hzd48 => (intro w' hSw; (try dsimp only at hSw); go_simp <;> with_reducible rfl)
    try simp only [Act.put, sI, sZ, sS]
    refine call_op (i := 11) (d := 116) (OP := Op.call { callee := Callee.value (Operand.func 21), args := #[Operand.tmp 115], argTypes := #[27] }) (T := 3) (f := 21) (args := #[.agg #[.pointer p1]]) rfl rfl rfl rfl (by kernel_rfl) (by rfl) (by go_simp) ?_
    refine (kL _ bW).mono ?_
    rintro e zc11 ⟨rfl, bzc11⟩
    have qzc11 : zc11.cell? ⟨Mb, 0, none⟩ = some (.pointer pm) ∧ zc11.cell? ⟨Bx, 0, none⟩ = some (.pointer p1) := ⟨cell_stays hHeld.1 bzc11, cell_stays hHeld.2 bzc11⟩
    refine ⟨_, rfl, qzc11, ?_⟩
    replace hHeld := qzc11
    replace bW := bW.trans (bzc11.mono bW.size)
    replace bX := bX.trans (bzc11.mono bX.size)
    clear qzc11 bzc11
    try simp only [Act.put, sI, sZ, sS]
    refine take_op (i := 12) (d := 117) (OP := Op.binOp BinOp.eql 3 (Operand.tmp 116) (Operand.const (Value.int IntKind.i64 0)) 3) (T := 4) (v := ?vzd49) rfl rfl rfl rfl (by kernel_rfl) (by kernel_rfl) (by kernel_rfl) (fun _ _ _ h => h) (by rfl) ?hzd49 hHeld ?rzd49
    case hzd49 => (intro w' hSw; (try dsimp only at hSw); go_simp <;> with_reducible rfl)
    try simp only [Act.put, sI, sZ, sS]
    refine take_op (i := 13) (d := 118) (OP := Op.pick (Operand.tmp 114) (Operand.tmp 117) (Operand.const (Value.bool false))) (T := 4) (v := ?vzd50) rfl rfl rfl rfl (by kernel_rfl) (by kernel_rfl) (by kernel_rfl) (fun _ _ _ h => h) (by rfl) ?hzd50 hHeld ?rzd50
    case hzd50 => (intro w' hSw; (try dsimp only at hSw); go_simp <;> with_reducible rfl)
    try simp only [Act.put, sI, sZ, sS]
    obtain ⟨u6, o6⟩ := set_one (i := 0) (.pointer pm) (HR.out _ bW)
    have hS6 : (zc11.setCell ⟨Rb, 0, none⟩ (.pointer pm)).cell? ⟨Mb, 0, none⟩ = some (.pointer pm) ∧ (zc11.setCell ⟨Rb, 0, none⟩ (.pointer pm)).cell? ⟨Bx, 0, none⟩ = some (.pointer p1) := ⟨o6.cell hHeld.1 (fun e => by have := HNE.out; simp only at e; omega), o6.cell hHeld.2 (fun e => by have := HNE.out; simp only at e; omega)⟩
    refine skip_op (i := 14) (OP := Op.store 27 (Operand.tmp 6) (Operand.tmp 105)) (T := 0) (w' := zc11.setCell ⟨Rb, 0, none⟩ (.pointer pm)) rfl rfl rfl rfl (by kernel_rfl) (by rfl) (exec_st27 rfl rfl ((cell_of_row _ _ 0 _ 27 (0, 0) (HR.out _ bW)).trans rfl) (frozen_of_row _ _ 0 _ 27 (HR.out _ bW))) ⟨hS6, ?_⟩
    try simp only [Act.put, sI, sZ, sS]
    replace hHeld := hS6
    clear hS6
    refine take_op (i := 15) (d := 7) (OP := Op.assign (Operand.tmp 106)) (T := 22) (v := ?vzd51) rfl rfl rfl rfl (by kernel_rfl) (by kernel_rfl) (by kernel_rfl) (fun _ _ _ h => h) (by rfl) ?hzd51 hHeld ?rzd51
    case hzd51 => (intro w' hSw; (try dsimp only at hSw); go_simp <;> with_reducible rfl)
    try simp only [Act.put, sI, sZ, sS]
    refine take_op (i := 16) (d := 8) (OP := Op.assign (Operand.tmp 118)) (T := 4) (v := ?vzd52) rfl rfl rfl rfl (by kernel_rfl) (by kernel_rfl) (by kernel_rfl) (fun _ _ _ h => h) (by rfl) ?hzd52 hHeld ?rzd52
    case hzd52 => (intro w' hSw; (try dsimp only at hSw); go_simp <;> with_reducible rfl)
    try simp only [Act.put, sI, sZ, sS]
    refine wpAnyH_done (by kernel_rfl) ?_ _
    have b0W := HB1.out.1.trans (bW.mono HB1.out.1.size)
    obtain ⟨r1, r2, r3, r4⟩ := HI.out.row _ b0W
    have HE := hide (And.intro u6 (And.intro (Below.only r4 o6 r4.size (fun j e => by have e' : j = Rb := e; have := HI.out.ge; omega)) (And.intro (r2.aside r1 o6) (r3.aside r1 o6))))
    clear u6 o6 hHeld bW bX bS r1 r2 r3 r4 b0W HS HR HNE kL tkN
    go_wp2
    refine ret_row_t3 Rb [.pointer pm] rfl rfl rfl rfl Tryz.underlying27 rfl T27 (by simpa using HE.out.1) rfl ?_
    exact ⟨t, pm, ao, c, HT.out.2.2.1, by rw [← HT.out.2.1, ← HT.out.1]; rfl, HE.out.2.2.1, HT.out.2.2.2.1, by rw [← HT.out.2.1]; exact HE.out.2.2.2, by omega, HE.out.2.1⟩
  | true =>
    simp only [if_true] at hrm
    go_enter Tryz.func24, Tryz.ntmps24
    go_upto_region 1 with fail
    rw [← HW0.out.1, ← HW0.out.2.1, ← HW0.out.2.2.1, ← HW0.out.2.2.2]
    go_upto_region 19 with (first | (go_at_call 111; refine (k111 _).mono ?_; rintro e wz ⟨rfl, hwz⟩; replace hwz := hwz.symm; subst hwz; clear k111; dsimp only) | (go_at_call 32; refine (hrm w0 (Below.refl _ _)).mono ?_; rintro e w1 ⟨t1, p1, hp1, rfl, mg1, hl1, hsm, b1⟩; have HB1 := hide (And.intro (b1.trans (((Below.refl _ w1).alloc (Nat.le_refl _) (.cells #[.pointer p1] 27)).mono b1.size)) (And.intro (heap_alloc_new w1 (.cells #[.pointer p1] 27)) b1.size)); have HM1 := hide (And.intro hp1 (And.intro hl1 (And.intro (mg1.below ((Below.refl _ w1).alloc (Nat.le_refl _) (.cells #[.pointer p1] 27))) hsm))); clear b1 hp1 hl1 mg1 hsm; dsimp only))
    clear hrm
    obtain ⟨Bx, hBx⟩ : ∃ q, q = w1.heap.size := ⟨_, rfl⟩
    obtain ⟨W1, hW1⟩ : ∃ q, q = w1.alloc (.cells #[.pointer p1] 27) := ⟨_, rfl⟩
    rw [← hBx] at HB1
    rw [← hW1] at HB1 HM1 ⊢
    rw [← hBx]
    have c1 : W1.cell? ⟨Bx, 0, none⟩ = some (.pointer p1) := (cell_of_row _ _ 0 _ 27 (0, 0) HB1.out.2.1).trans rfl
    have hBz := HB1.out.2.2
    have hrl := els_rem X HT.out.2.2.2.1 HS0.out
    have hrn := rem_n X HT.out.2.2.2.1 HS0.out
    have hmr := may_rem HT.out.2.2.2.1 (fun x => !decide (x.2 = X))
    have hhr := has_rem X HT.out.2.2.2.1 HS0.out
    rw [← HM1.out.2.1] at hrl hmr hhr
    obtain ⟨R1, hR1⟩ : ∃ q, q = (t.list.filter fun x => decide (x.2 = X)).length := ⟨_, rfl⟩
    rw [← hR1] at hrn HM1 ⊢
    rw [← HT.out.2.1] at hrl hrn
    rw [← HT.out.1] at hrn
    have HL1 := hide (And.intro hrl (And.intro hmr (And.intro hhr hrn)))
    have HNE : Hid (Mb ≠ Rb ∧ Bx ≠ Rb ∧ Pb ≠ Rb) := hide (by obtain ⟨q1, q2, q3, q4⟩ := HI.out.ge; omega)
    have HC1 := hide c1
    clear hrl hmr hhr hrn hR1 hBx hW1 c1 hBz
    go_wp2
    go_loopw [18, 19] (fun v18 v19 wr => ∃ (i : Nat) (p : List El) (a5 : Option Addr) (c5 : Nat), i ≤ N ∧ p.length ≤ i ∧ v18 = .slice a5 p.length c5 ∧ v19 = .int .i64 (i : Nat) ∧ Hid (p = (L0.take i).filter (fun y => !decide (y.2 = X)) ∧ (a5 = none → c5 = 0) ∧ Below W1.heap.size W1 wr ∧ Oe wr W1.heap.size (.slice a5 p.length c5) p)) (fun _ v19 _ => N - (intOf v19).toNat)
    case atStart => exact ⟨0, [], none, 0, Nat.zero_le _, Nat.le_refl _, rfl, rfl, hide ⟨rfl, fun _ => rfl, Below.refl _ _, Oe.nil _ _⟩⟩
    case round =>
      obtain ⟨i, p, a5, c5, hi, hpl, rfl, rfl, HQ⟩ := hrel
      by_cases h1 : i < N
      · have z1 : (i : Int) < (N : Int) := by omega
        have d1 : decide (i < N) = true := by simpa using h1
        obtain ⟨x, hx⟩ : ∃ x, L0[i]? = some x := ⟨_, List.getElem?_eq_getElem (by rw [← HT.out.1]; exact h1)⟩
        have b0w := HB1.out.1.trans (HQ.out.2.2.1.mono HB1.out.1.size)
        have HXC : Hid (∀ W, Below wr.heap.size wr W → ∃ b off, ao = some ⟨b, off, none⟩ ∧ W.cell? ⟨b, off + i * 6, none⟩ = some (.int .i64 x.1.1) ∧ W.cell? ⟨b, off + i * 6 + 1, none⟩ = some (.int .i64 x.1.2.1) ∧ W.cell? ⟨b, off + i * 6 + 2, none⟩ = some (.string x.1.2.2.1) ∧ W.cell? ⟨b, off + i * 6 + 3, none⟩ = some (.int .i64 x.1.2.2.2.1) ∧ W.cell? ⟨b, off + i * 6 + 4, none⟩ = some (.int .i64 x.1.2.2.2.2) ∧ W.cell? ⟨b, off + i * 6 + 5, none⟩ = some (.string x.2)) := hide (fun W hW => (HI.out.row W (b0w.trans (hW.mono b0w.size))).2.2.1.cells hx)
        have hfil : (L0.take (i + 1)).filter (fun y => !decide (y.2 = X)) = p ++ (if (!decide (x.2 = X)) = true then [x] else []) := by
          rw [List.take_add_one, hx, List.filter_append, ← HQ.out.1]; congr 1; simp [List.filter_cons]
        have HFL := hide hfil
        have cX := (HI.out.cell wr b0w).2.2.1
        obtain ⟨b, off, hao, x0', x1', x2', x3', x4', x5'⟩ := HXC.out wr (Below.refl _ _)
        obtain ⟨NE, hNE⟩ : ∃ q, q = !decide (x.2 = X) := ⟨_, rfl⟩
        rw [← hNE] at HFL
        have hbe : (!(x.2.toList == X.toList)) = NE := by
          rw [hNE]; congr 1; rw [Bool.eq_iff_iff, bytes_same, decide_eq_true_eq]
        obtain ⟨⟨g1, r1, l1, n1, i1⟩, t1x⟩ := x
        dsimp only at x0' x1' x2' x3' x4' x5' hbe
        have HAO := hide hao
        subst hao
        clear hx b0w hfil hNE
        go_upto_region 23 with fail
        refine wp_region_held_drew (S := fun w' => w'.cell? ⟨b, off + i * 6 + 5, none⟩ = some (.string t1x) ∧ w'.cell? ⟨Pb, 1, none⟩ = some (.string X) ∧ Below wr.heap.size wr w') (by kernel_rfl) (by exact ⟨x5', cX, drew_below wr⟩) (fun hHeld => ?_)
        try dsimp only at hHeld
        refine take_op (i := 0) (d := 125) (OP := Op.move (Operand.tmp 1)) (T := 22) (v := ?v53) rfl rfl rfl rfl (by kernel_rfl) (by kernel_rfl) (by kernel_rfl) (fun _ _ _ h => h) (by rfl) ?h53 hHeld ?r53
        case h53 => (intro w' hSw; (try dsimp only at hSw); go_simp <;> with_reducible rfl)
        try simp only [Act.put, sI, sZ, sS]
        refine take_op (i := 1) (d := 126) (OP := Op.move (Operand.tmp 19)) (T := 3) (v := ?v54) rfl rfl rfl rfl (by kernel_rfl) (by kernel_rfl) (by kernel_rfl) (fun _ _ _ h => h) (by rfl) ?h54 hHeld ?r54
        case h54 => (intro w' hSw; (try dsimp only at hSw); go_simp <;> with_reducible rfl)
        try simp only [Act.put, sI, sZ, sS]
        refine take_op (i := 2) (d := 127) (OP := Op.indexAddr 22 (Operand.tmp 125) (Operand.tmp 126)) (T := 0) (v := .pointer (some ⟨b, off + i * 6, none⟩)) rfl rfl rfl rfl (by kernel_rfl) (by kernel_rfl) (by kernel_rfl) (fun _ _ _ h => h) (by rfl) ?h55 hHeld ?r55
        case h55 => (intro w' hSw; exact exec_ixE rfl rfl z1)
        try simp only [Act.put, sI, sZ, sS]
        refine take_op (i := 3) (d := 128) (OP := Op.fieldAddr 53 (Operand.tmp 127) 1) (T := 0) (v := ?v56) rfl rfl rfl rfl (by kernel_rfl) (by kernel_rfl) (by kernel_rfl) (fun _ _ _ h => h) (by rfl) ?h56 hHeld ?r56
        case h56 => (intro w' hSw; (try dsimp only at hSw); go_simp <;> with_reducible rfl)
        try simp only [Act.put, sI, sZ, sS]
        refine take_op (i := 4) (d := 129) (OP := Op.load 9 (Operand.tmp 128)) (T := 9) (v := ?v57) rfl rfl rfl rfl (by kernel_rfl) (by kernel_rfl) (by kernel_rfl) (fun _ _ _ h => h) (by rfl) ?h57 hHeld ?r57
        case h57 => (intro w' hSw; (try dsimp only at hSw); go_simp <;> with_reducible rfl)
        try simp only [Act.put, sI, sZ, sS]
        refine take_op (i := 5) (d := 130) (OP := Op.fieldAddr 45 (Operand.tmp 5) 1) (T := 0) (v := ?v58) rfl rfl rfl rfl (by kernel_rfl) (by kernel_rfl) (by kernel_rfl) (fun _ _ _ h => h) (by rfl) ?h58 hHeld ?r58
        case h58 => (intro w' hSw; (try dsimp only at hSw); go_simp <;> with_reducible rfl)
        try simp only [Act.put, sI, sZ, sS]
        refine take_op (i := 6) (d := 131) (OP := Op.load 9 (Operand.tmp 130)) (T := 9) (v := ?v59) rfl rfl rfl rfl (by kernel_rfl) (by kernel_rfl) (by kernel_rfl) (fun _ _ _ h => h) (by rfl) ?h59 hHeld ?r59
        case h59 => (intro w' hSw; (try dsimp only at hSw); go_simp <;> with_reducible rfl)
        try simp only [Act.put, sI, sZ, sS]
        refine take_op (i := 7) (d := 132) (OP := Op.binOp BinOp.neq 9 (Operand.tmp 129) (Operand.tmp 131) 9) (T := 4) (v := .bool NE) rfl rfl rfl rfl (by kernel_rfl) (by kernel_rfl) (by kernel_rfl) (fun _ _ _ h => h) (by rfl) ?h60 hHeld ?r60
        case h60 => (intro w' hSw; (try dsimp only at hSw); go_simp <;> first | exact hbe | (rw [← hbe]; rfl) | simp [← hbe])
        try simp only [Act.put, sI, sZ, sS]
        refine wpAnyH_done (by kernel_rfl) ?_ _
        have HE := hide hHeld.2.2
        clear hHeld x0' x1' x2' x3' x4' x5' cX
        obtain ⟨W2, hW2⟩ : ∃ q, q = wr.drew := ⟨_, rfl⟩
        rw [← hW2] at HE ⊢
        obtain ⟨b', off', hao', x0', x1', x2', x3', x4', x5'⟩ := HXC.out W2 HE.out
        injection hao' with e1
        injection e1 with e1 e2
        subst e1 e2
        dsimp only at x0' x1' x2' x3' x4' x5'
        clear hW2
        have H4 := hide (And.intro (HQ.out.2.2.1.trans (HE.out.mono HQ.out.2.2.1.size)) (HQ.out.2.2.2.below HE.out))
        clear hbe
        cases NE with
        | false =>
          go_wp2
          go_roundw
          case rel => exact ⟨i + 1, p, a5, c5, by omega, by omega, rfl, by go_num, hide ⟨by rw [HFL.out]; simp, HQ.out.2.1, H4.out.1, H4.out.2⟩⟩
          case measure => simp [intOf]; omega
        | true =>
          go_wp2_with (refine pushT ((g1, r1, l1, n1, i1), t1x) H4 (Nat.le_refl _) (by omega) rfl _ _ rfl rfl rfl ?_; intro a6 c6 w6 H6)
          go_roundw
          case rel => exact ⟨i + 1, p ++ [((g1, r1, l1, n1, i1), t1x)], a6, c6, by omega, by rw [List.length_append]; simp; omega, by rw [List.length_append]; rfl, by go_num, hide ⟨by rw [HFL.out]; simp, H6.out.1, H6.out.2.1, by rw [List.length_append]; exact H6.out.2.2⟩⟩
          case measure => simp [intOf]; omega
      · obtain rfl : i = N := by omega
        have d1 : decide (i < i) = false := by simp
        have z1 : ¬ (i : Int) < (i : Int) := by omega
        have hfull : p = elsT t1.list := by rw [HQ.out.1, HT.out.1, List.take_length]; exact HL1.out.1
        have bS := HQ.out.2.2.1
        have hO := HQ.out.2.2.2
        have hsub : (i : Int) - (p.length : Int) = (R1 : Int) := by have h1 := HL1.out.2.2.2; rw [HL1.out.1, ← hfull] at h1; omega
        obtain ⟨Wl, rfl⟩ : ∃ q, q = wr := ⟨_, rfl⟩
        go_upto_region 25 with fail
        have HS : Hid (∀ W, Below W1.heap.size W1 W → W.cell? ⟨Mb, 0, none⟩ = some (.pointer pm) ∧ W.cell? ⟨Bx, 0, none⟩ = some (.pointer p1) ∧ W.cell? ⟨Pb, 1, none⟩ = some (.string X)) := hide (fun W hW => by
          have q := HI.out.cell W (HB1.out.1.trans (hW.mono HB1.out.1.size))
          exact ⟨q.1, cell_stays HC1.out hW, q.2.2.1⟩)
        have HR : Hid (∀ W, Below W1.heap.size W1 W → W.heap[Rb]? = some (.cells #[.pointer none] 27 (0, 0))) := hide (fun W hW => (HI.out.row W (HB1.out.1.trans (hW.mono HB1.out.1.size))).1)
        have tkN : ∀ W, Calls Tryz.prog 20 #[.int .i64 0] W fun e w' => e = .returned (.int .i64 0) ∧ Below W.heap.size W w' := fun W => (num20 0 W).mono fun e w' ⟨h1, h2⟩ => ⟨h1, by rw [h2]; exact Below.refl _ _⟩
        have kH : ∀ W, Below W1.heap.size W1 W → Calls Tryz.prog 36 #[.agg #[.pointer p1], .string X] W fun e w' => e = .returned (.bool false) ∧ Below W.heap.size W w' := fun W hW => by
          have := has36 X (HM1.out.2.2.1.below hW) HM1.out.1
          rw [HL1.out.2.2.1] at this
          exact this
        have r9 := hO.re
        have HFU := hide hfull
        have hRb : R1 ≤ 400 := by omega
        clear hfull hO h1 hi hpl
        by_cases hz : R1 = 0
        · subst hz
          have hsm := HM1.out.2.2.2 (by first | trivial | rfl) rfl
          have kSm : ∀ W, Below W1.heap.size W1 W → Calls Tryz.prog 79 #[.agg #[.pointer p1], .agg #[.pointer pm]] W fun e w' => e = .returned (.bool true) ∧ Below W.heap.size W w' := fun W hW => by
            have := Pm.mSame_any t1 t W (HM1.out.2.2.1.below hW).inn (HI.out.row W (HB1.out.1.trans (hW.mono HB1.out.1.size))).2.1.inn
            unfold Pm.mv at this
            rw [HM1.out.1, HT.out.2.2.1, decide_eq_true hsm] at this
            exact this
          refine wp_region_held_drew (S := fun w' => w'.cell? ⟨Mb, 0, none⟩ = some (.pointer pm) ∧ w'.cell? ⟨Bx, 0, none⟩ = some (.pointer p1) ∧ w'.cell? ⟨Pb, 1, none⟩ = some (.string X)) (by kernel_rfl) (by exact HS.out _ (bS.trans ((drew_below Wl).mono bS.size))) (fun hHeld => ?_)
          try dsimp only at hHeld
          have bW : Below W1.heap.size W1 Wl.drew := bS.trans ((drew_below Wl).mono bS.size)
          have bX : Below Wl.heap.size Wl Wl.drew := drew_below Wl
          generalize Wl.drew = Wd at hHeld bW bX ⊢
          refine take_op (i := 0) (d := 140) (OP := Op.load 27 (Operand.tmp 15)) (T := 27) (v := ?vzd61) rfl rfl rfl rfl (by kernel_rfl) (by kernel_rfl) (by kernel_rfl) (fun _ _ _ h => h) (by rfl) ?hzd61 hHeld ?rzd61
          case hzd61 => (intro w' hSw; (try dsimp only at hSw); go_simp <;> with_reducible rfl)
          try simp only [Act.put, sI, sZ, sS]
          refine take_op (i := 1) (d := 141) (OP := Op.move (Operand.tmp 18)) (T := 22) (v := ?vzd62) rfl rfl rfl rfl (by kernel_rfl) (by kernel_rfl) (by kernel_rfl) (fun _ _ _ h => h) (by rfl) ?hzd62 hHeld ?rzd62
          case hzd62 => (intro w' hSw; (try dsimp only at hSw); go_simp <;> with_reducible rfl)
          try simp only [Act.put, sI, sZ, sS]
          refine take_op (i := 2) (d := 142) (OP := Op.move (Operand.tmp 17)) (T := 28) (v := ?vzd63) rfl rfl rfl rfl (by kernel_rfl) (by kernel_rfl) (by kernel_rfl) (fun _ _ _ h => h) (by rfl) ?hzd63 hHeld ?rzd63
          case hzd63 => (intro w' hSw; (try dsimp only at hSw); go_simp <;> with_reducible rfl)
          try simp only [Act.put, sI, sZ, sS]
          refine call_op (i := 3) (d := 143) (OP := Op.call { callee := Callee.value (Operand.func 20), args := #[Operand.tmp 142], argTypes := #[28] }) (T := 3) (f := 20) (args := #[.int .i64 0]) rfl rfl rfl rfl (by kernel_rfl) (by rfl) (by go_simp) ?_
          refine (tkN _).mono ?_
          rintro e zc3 ⟨rfl, bzc3⟩
          have qzc3 : zc3.cell? ⟨Mb, 0, none⟩ = some (.pointer pm) ∧ zc3.cell? ⟨Bx, 0, none⟩ = some (.pointer p1) ∧ zc3.cell? ⟨Pb, 1, none⟩ = some (.string X) := ⟨cell_stays hHeld.1 bzc3, cell_stays hHeld.2.1 bzc3, cell_stays hHeld.2.2 bzc3⟩
          refine ⟨_, rfl, qzc3, ?_⟩
          replace hHeld := qzc3
          replace bW := bW.trans (bzc3.mono bW.size)
          replace bX := bX.trans (bzc3.mono bX.size)
          clear qzc3 bzc3
          try simp only [Act.put, sI, sZ, sS]
          refine take_op (i := 4) (d := 144) (OP := Op.binOp BinOp.eql 3 (Operand.tmp 143) (Operand.const (Value.int IntKind.i64 0)) 3) (T := 4) (v := ?vzd64) rfl rfl rfl rfl (by kernel_rfl) (by kernel_rfl) (by kernel_rfl) (fun _ _ _ h => h) (by rfl) ?hzd64 hHeld ?rzd64
          case hzd64 => (intro w' hSw; (try dsimp only at hSw); go_simp <;> with_reducible rfl)
          try simp only [Act.put, sI, sZ, sS]
          refine take_op (i := 5) (d := 145) (OP := Op.move (Operand.tmp 144)) (T := 4) (v := ?vzd65) rfl rfl rfl rfl (by kernel_rfl) (by kernel_rfl) (by kernel_rfl) (fun _ _ _ h => h) (by rfl) ?hzd65 hHeld ?rzd65
          case hzd65 => (intro w' hSw; (try dsimp only at hSw); go_simp <;> with_reducible rfl)
          try simp only [Act.put, sI, sZ, sS]
          refine take_op (i := 6) (d := 146) (OP := Op.move (Operand.tmp 16)) (T := 3) (v := ?vzd66) rfl rfl rfl rfl (by kernel_rfl) (by kernel_rfl) (by kernel_rfl) (fun _ _ _ h => h) (by rfl) ?hzd66 hHeld ?rzd66
          case hzd66 => (intro w' hSw; (try dsimp only at hSw); go_simp <;> with_reducible rfl)
          try simp only [Act.put, sI, sZ, sS]
          refine take_op (i := 7) (d := 147) (OP := Op.move (Operand.tmp 1)) (T := 22) (v := ?vzd67) rfl rfl rfl rfl (by kernel_rfl) (by kernel_rfl) (by kernel_rfl) (fun _ _ _ h => h) (by rfl) ?hzd67 hHeld ?rzd67
          case hzd67 => (intro w' hSw; (try dsimp only at hSw); go_simp <;> with_reducible rfl)
          try simp only [Act.put, sI, sZ, sS]
          refine take_op (i := 8) (d := 148) (OP := Op.call { callee := Callee.builtin Builtin.len, args := #[Operand.tmp 147], argTypes := #[22] }) (T := 3) (v := ?vzd68) rfl rfl rfl rfl (by kernel_rfl) (by kernel_rfl) (by kernel_rfl) (fun _ _ _ h => h) (by rfl) ?hzd68 hHeld ?rzd68
          case hzd68 => (intro w' hSw; (try dsimp only at hSw); go_simp <;> with_reducible rfl)
          try simp only [Act.put, sI, sZ, sS]
          refine take_op (i := 9) (d := 149) (OP := Op.move (Operand.tmp 18)) (T := 22) (v := ?vzd69) rfl rfl rfl rfl (by kernel_rfl) (by kernel_rfl) (by kernel_rfl) (fun _ _ _ h => h) (by rfl) ?hzd69 hHeld ?rzd69
          case hzd69 => (intro w' hSw; (try dsimp only at hSw); go_simp <;> with_reducible rfl)
          try simp only [Act.put, sI, sZ, sS]
          refine take_op (i := 10) (d := 150) (OP := Op.call { callee := Callee.builtin Builtin.len, args := #[Operand.tmp 149], argTypes := #[22] }) (T := 3) (v := ?vzd70) rfl rfl rfl rfl (by kernel_rfl) (by kernel_rfl) (by kernel_rfl) (fun _ _ _ h => h) (by rfl) ?hzd70 hHeld ?rzd70
          case hzd70 => (intro w' hSw; (try dsimp only at hSw); go_simp <;> with_reducible rfl)
          try simp only [Act.put, sI, sZ, sS]
          refine take_op (i := 11) (d := 151) (OP := Op.binOp BinOp.sub 3 (Operand.tmp 148) (Operand.tmp 150) 3) (T := 3) (v := .int .i64 (0 : Nat)) rfl rfl rfl rfl (by kernel_rfl) (by kernel_rfl) (by kernel_rfl) (fun _ _ _ h => h) (by rfl) ?hzd71 hHeld ?rzd71
          case hzd71 => (intro w' hSw; (try dsimp only at hSw); go_simp <;> (rw [IntKind.wrap_i64]; omega))
          try simp only [Act.put, sI, sZ, sS]
          refine take_op (i := 12) (d := 152) (OP := Op.binOp BinOp.eql 3 (Operand.tmp 146) (Operand.tmp 151) 3) (T := 4) (v := ?vzd72) rfl rfl rfl rfl (by kernel_rfl) (by kernel_rfl) (by kernel_rfl) (fun _ _ _ h => h) (by rfl) ?hzd72 hHeld ?rzd72
          case hzd72 => (intro w' hSw; (try dsimp only at hSw); go_simp <;> with_reducible rfl)
          try simp only [Act.put, sI, sZ, sS]
          refine take_op (i := 13) (d := 153) (OP := Op.pick (Operand.tmp 145) (Operand.tmp 152) (Operand.const (Value.bool false))) (T := 4) (v := ?vzd73) rfl rfl rfl rfl (by kernel_rfl) (by kernel_rfl) (by kernel_rfl) (fun _ _ _ h => h) (by rfl) ?hzd73 hHeld ?rzd73
          case hzd73 => (intro w' hSw; (try dsimp only at hSw); go_simp <;> with_reducible rfl)
          try simp only [Act.put, sI, sZ, sS]
          refine take_op (i := 14) (d := 154) (OP := Op.move (Operand.tmp 153)) (T := 4) (v := ?vzd74) rfl rfl rfl rfl (by kernel_rfl) (by kernel_rfl) (by kernel_rfl) (fun _ _ _ h => h) (by rfl) ?hzd74 hHeld ?rzd74
          case hzd74 => (intro w' hSw; (try dsimp only at hSw); go_simp <;> with_reducible rfl)
          try simp only [Act.put, sI, sZ, sS]
          refine take_op (i := 15) (d := 155) (OP := Op.load 27 (Operand.tmp 15)) (T := 27) (v := ?vzd75) rfl rfl rfl rfl (by kernel_rfl) (by kernel_rfl) (by kernel_rfl) (fun _ _ _ h => h) (by rfl) ?hzd75 hHeld ?rzd75
          case hzd75 => (intro w' hSw; (try dsimp only at hSw); go_simp <;> with_reducible rfl)
          try simp only [Act.put, sI, sZ, sS]
          refine take_op (i := 16) (d := 156) (OP := Op.fieldAddr 45 (Operand.tmp 5) 1) (T := 0) (v := ?vzd76) rfl rfl rfl rfl (by kernel_rfl) (by kernel_rfl) (by kernel_rfl) (fun _ _ _ h => h) (by rfl) ?hzd76 hHeld ?rzd76
          case hzd76 => (intro w' hSw; (try dsimp only at hSw); go_simp <;> with_reducible rfl)
          try simp only [Act.put, sI, sZ, sS]
          refine take_op (i := 17) (d := 157) (OP := Op.load 9 (Operand.tmp 156)) (T := 9) (v := ?vzd77) rfl rfl rfl rfl (by kernel_rfl) (by kernel_rfl) (by kernel_rfl) (fun _ _ _ h => h) (by rfl) ?hzd77 hHeld ?rzd77
          case hzd77 => (intro w' hSw; (try dsimp only at hSw); go_simp <;> with_reducible rfl)
          try simp only [Act.put, sI, sZ, sS]
          refine call_op (i := 18) (d := 158) (OP := Op.call { callee := Callee.value (Operand.func 36), args := #[Operand.tmp 155, Operand.tmp 157], argTypes := #[27, 9] }) (T := 4) (f := 36) (args := #[.agg #[.pointer p1], .string X]) rfl rfl rfl rfl (by kernel_rfl) (by rfl) (by go_simp) ?_
          refine (kH _ bW).mono ?_
          rintro e zc18 ⟨rfl, bzc18⟩
          have qzc18 : zc18.cell? ⟨Mb, 0, none⟩ = some (.pointer pm) ∧ zc18.cell? ⟨Bx, 0, none⟩ = some (.pointer p1) ∧ zc18.cell? ⟨Pb, 1, none⟩ = some (.string X) := ⟨cell_stays hHeld.1 bzc18, cell_stays hHeld.2.1 bzc18, cell_stays hHeld.2.2 bzc18⟩
          refine ⟨_, rfl, qzc18, ?_⟩
          replace hHeld := qzc18
          replace bW := bW.trans (bzc18.mono bW.size)
          replace bX := bX.trans (bzc18.mono bX.size)
          clear qzc18 bzc18
          try simp only [Act.put, sI, sZ, sS]
          refine take_op (i := 19) (d := 159) (OP := Op.unOp UnOp.not 4 (Operand.tmp 158)) (T := 4) (v := ?vzd78) rfl rfl rfl rfl (by kernel_rfl) (by kernel_rfl) (by kernel_rfl) (fun _ _ _ h => h) (by rfl) ?hzd78 hHeld ?rzd78
          case hzd78 => (intro w' hSw; (try dsimp only at hSw); go_simp <;> with_reducible rfl)
          try simp only [Act.put, sI, sZ, sS]
          refine take_op (i := 20) (d := 160) (OP := Op.pick (Operand.tmp 154) (Operand.tmp 159) (Operand.const (Value.bool false))) (T := 4) (v := ?vzd79) rfl rfl rfl rfl (by kernel_rfl) (by kernel_rfl) (by kernel_rfl) (fun _ _ _ h => h) (by rfl) ?hzd79 hHeld ?rzd79
          case hzd79 => (intro w' hSw; (try dsimp only at hSw); go_simp <;> with_reducible rfl)
          try simp only [Act.put, sI, sZ, sS]
          refine take_op (i := 21) (d := 161) (OP := Op.move (Operand.tmp 160)) (T := 4) (v := ?vzd80) rfl rfl rfl rfl (by kernel_rfl) (by kernel_rfl) (by kernel_rfl) (fun _ _ _ h => h) (by rfl) ?hzd80 hHeld ?rzd80
          case hzd80 => (intro w' hSw; (try dsimp only at hSw); go_simp <;> with_reducible rfl)
          try simp only [Act.put, sI, sZ, sS]
          refine take_op (i := 22) (d := 162) (OP := Op.move (Operand.tmp 16)) (T := 3) (v := ?vzd81) rfl rfl rfl rfl (by kernel_rfl) (by kernel_rfl) (by kernel_rfl) (fun _ _ _ h => h) (by rfl) ?hzd81 hHeld ?rzd81
          case hzd81 => (intro w' hSw; (try dsimp only at hSw); go_simp <;> with_reducible rfl)
          try simp only [Act.put, sI, sZ, sS]
          refine take_op (i := 23) (d := 163) (OP := Op.binOp BinOp.gtr 3 (Operand.tmp 162) (Operand.const (Value.int IntKind.i64 0)) 3) (T := 4) (v := .bool false) rfl rfl rfl rfl (by kernel_rfl) (by kernel_rfl) (by kernel_rfl) (fun _ _ _ h => h) (by rfl) ?hzd82 hHeld ?rzd82
          case hzd82 => (intro w' hSw; (try dsimp only at hSw); go_simp)
          try simp only [Act.put, sI, sZ, sS]
          refine take_op (i := 24) (d := 164) (OP := Op.move (Operand.tmp 163)) (T := 4) (v := ?vzd83) rfl rfl rfl rfl (by kernel_rfl) (by kernel_rfl) (by kernel_rfl) (fun _ _ _ h => h) (by rfl) ?hzd83 hHeld ?rzd83
          case hzd83 => (intro w' hSw; (try dsimp only at hSw); go_simp <;> with_reducible rfl)
          try simp only [Act.put, sI, sZ, sS]
          refine take_op (i := 25) (d := 165) (OP := Op.load 27 (Operand.tmp 15)) (T := 27) (v := ?vzd84) rfl rfl rfl rfl (by kernel_rfl) (by kernel_rfl) (by kernel_rfl) (fun _ _ _ h => h) (by rfl) ?hzd84 hHeld ?rzd84
          case hzd84 => (intro w' hSw; (try dsimp only at hSw); go_simp <;> with_reducible rfl)
          try simp only [Act.put, sI, sZ, sS]
          refine take_op (i := 26) (d := 166) (OP := Op.load 27 (Operand.tmp 3)) (T := 27) (v := ?vzd85) rfl rfl rfl rfl (by kernel_rfl) (by kernel_rfl) (by kernel_rfl) (fun _ _ _ h => h) (by rfl) ?hzd85 hHeld ?rzd85
          case hzd85 => (intro w' hSw; (try dsimp only at hSw); go_simp <;> with_reducible rfl)
          try simp only [Act.put, sI, sZ, sS]
          refine call_op (i := 27) (d := 167) (OP := Op.call { callee := Callee.value (Operand.func 79), args := #[Operand.tmp 165, Operand.tmp 166], argTypes := #[27, 27] }) (T := 4) (f := 79) (args := #[.agg #[.pointer p1], .agg #[.pointer pm]]) rfl rfl rfl rfl (by kernel_rfl) (by rfl) (by go_simp) ?_
          refine (kSm _ bW).mono ?_
          rintro e zc27 ⟨rfl, bzc27⟩
          have qzc27 : zc27.cell? ⟨Mb, 0, none⟩ = some (.pointer pm) ∧ zc27.cell? ⟨Bx, 0, none⟩ = some (.pointer p1) ∧ zc27.cell? ⟨Pb, 1, none⟩ = some (.string X) := ⟨cell_stays hHeld.1 bzc27, cell_stays hHeld.2.1 bzc27, cell_stays hHeld.2.2 bzc27⟩
          refine ⟨_, rfl, qzc27, ?_⟩
          replace hHeld := qzc27
          replace bW := bW.trans (bzc27.mono bW.size)
          replace bX := bX.trans (bzc27.mono bX.size)
          clear qzc27 bzc27
          try simp only [Act.put, sI, sZ, sS]
          refine take_op (i := 28) (d := 168) (OP := Op.pick (Operand.tmp 164) (Operand.const (Value.bool true)) (Operand.tmp 167)) (T := 4) (v := ?vzd86) rfl rfl rfl rfl (by kernel_rfl) (by kernel_rfl) (by kernel_rfl) (fun _ _ _ h => h) (by rfl) ?hzd86 hHeld ?rzd86
          case hzd86 => (intro w' hSw; (try dsimp only at hSw); go_simp <;> with_reducible rfl)
          try simp only [Act.put, sI, sZ, sS]
          refine take_op (i := 29) (d := 169) (OP := Op.pick (Operand.tmp 161) (Operand.tmp 168) (Operand.const (Value.bool false))) (T := 4) (v := ?vzd87) rfl rfl rfl rfl (by kernel_rfl) (by kernel_rfl) (by kernel_rfl) (fun _ _ _ h => h) (by rfl) ?hzd87 hHeld ?rzd87
          case hzd87 => (intro w' hSw; (try dsimp only at hSw); go_simp <;> with_reducible rfl)
          try simp only [Act.put, sI, sZ, sS]
          obtain ⟨u6, o6⟩ := set_one (i := 0) (.pointer p1) (HR.out _ bW)
          have hS6 : (zc27.setCell ⟨Rb, 0, none⟩ (.pointer p1)).cell? ⟨Mb, 0, none⟩ = some (.pointer pm) ∧ (zc27.setCell ⟨Rb, 0, none⟩ (.pointer p1)).cell? ⟨Bx, 0, none⟩ = some (.pointer p1) ∧ (zc27.setCell ⟨Rb, 0, none⟩ (.pointer p1)).cell? ⟨Pb, 1, none⟩ = some (.string X) := ⟨o6.cell hHeld.1 (fun e => by have := HNE.out; simp only at e; omega), o6.cell hHeld.2.1 (fun e => by have := HNE.out; simp only at e; omega), o6.cell hHeld.2.2 (fun e => by have := HNE.out; simp only at e; omega)⟩
          refine skip_op (i := 30) (OP := Op.store 27 (Operand.tmp 6) (Operand.tmp 140)) (T := 0) (w' := zc27.setCell ⟨Rb, 0, none⟩ (.pointer p1)) rfl rfl rfl rfl (by kernel_rfl) (by rfl) (exec_st27 rfl rfl ((cell_of_row _ _ 0 _ 27 (0, 0) (HR.out _ bW)).trans rfl) (frozen_of_row _ _ 0 _ 27 (HR.out _ bW))) ⟨hS6, ?_⟩
          try simp only [Act.put, sI, sZ, sS]
          replace hHeld := hS6
          clear hS6
          refine take_op (i := 31) (d := 7) (OP := Op.assign (Operand.tmp 141)) (T := 22) (v := ?vzd88) rfl rfl rfl rfl (by kernel_rfl) (by kernel_rfl) (by kernel_rfl) (fun _ _ _ h => h) (by rfl) ?hzd88 hHeld ?rzd88
          case hzd88 => (intro w' hSw; (try dsimp only at hSw); go_simp <;> with_reducible rfl)
          try simp only [Act.put, sI, sZ, sS]
          refine take_op (i := 32) (d := 8) (OP := Op.assign (Operand.tmp 169)) (T := 4) (v := ?vzd89) rfl rfl rfl rfl (by kernel_rfl) (by kernel_rfl) (by kernel_rfl) (fun _ _ _ h => h) (by rfl) ?hzd89 hHeld ?rzd89
          case hzd89 => (intro w' hSw; (try dsimp only at hSw); go_simp <;> with_reducible rfl)
          try simp only [Act.put, sI, sZ, sS]
          refine wpAnyH_done (by kernel_rfl) ?_ _
          clear kSm hsm
          have b0W := HB1.out.1.trans (bW.mono HB1.out.1.size)
          obtain ⟨q1, q2, q3, q4⟩ := HI.out.row _ b0W
          have HE := hide (And.intro u6 (And.intro (Below.only q4 o6 q4.size (fun j e => by have e' : j = Rb := e; have := HI.out.ge; omega)) (And.intro ((HM1.out.2.2.1.below bW).aside q1 o6) ((r9.below bX).aside q1 o6))))
          clear u6 o6 hHeld bW bX bS q1 q2 q3 q4 b0W HS HR HNE kH tkN r9 hsub
          go_wp2
          refine ret_row_t3 Rb [.pointer p1] rfl rfl rfl rfl Tryz.underlying27 rfl T27 (by simpa using HE.out.1) rfl ?_
          exact ⟨t1, p1, a5, c5, HM1.out.1, by rw [← HFU.out]; rfl, HE.out.2.2.1, HL1.out.2.1, by rw [← HFU.out]; exact HE.out.2.2.2, by rw [← Pm.T.n_eq, ← Pm.T.n_eq, HM1.out.2.1]; exact Nat.le_trans (List.length_filter_le _ _) (Nat.le_succ _), HE.out.2.1⟩
        · have hz1 : (0 : Int) < (R1 : Int) := by omega
          have hz2 : decide (0 < R1) = true := by simpa using Nat.pos_of_ne_zero hz
          refine wp_region_held_drew (S := fun w' => w'.cell? ⟨Mb, 0, none⟩ = some (.pointer pm) ∧ w'.cell? ⟨Bx, 0, none⟩ = some (.pointer p1) ∧ w'.cell? ⟨Pb, 1, none⟩ = some (.string X)) (by kernel_rfl) (by exact HS.out _ (bS.trans ((drew_below Wl).mono bS.size))) (fun hHeld => ?_)
          try dsimp only at hHeld
          have bW : Below W1.heap.size W1 Wl.drew := bS.trans ((drew_below Wl).mono bS.size)
          have bX : Below Wl.heap.size Wl Wl.drew := drew_below Wl
          generalize Wl.drew = Wd at hHeld bW bX ⊢
          refine take_op (i := 0) (d := 140) (OP := Op.load 27 (Operand.tmp 15)) (T := 27) (v := ?vzd90) rfl rfl rfl rfl (by kernel_rfl) (by kernel_rfl) (by kernel_rfl) (fun _ _ _ h => h) (by rfl) ?hzd90 hHeld ?rzd90
          case hzd90 => (intro w' hSw; (try dsimp only at hSw); go_simp <;> with_reducible rfl)
          try simp only [Act.put, sI, sZ, sS]
          refine take_op (i := 1) (d := 141) (OP := Op.move (Operand.tmp 18)) (T := 22) (v := ?vzd91) rfl rfl rfl rfl (by kernel_rfl) (by kernel_rfl) (by kernel_rfl) (fun _ _ _ h => h) (by rfl) ?hzd91 hHeld ?rzd91
          case hzd91 => (intro w' hSw; (try dsimp only at hSw); go_simp <;> with_reducible rfl)
          try simp only [Act.put, sI, sZ, sS]
          refine take_op (i := 2) (d := 142) (OP := Op.move (Operand.tmp 17)) (T := 28) (v := ?vzd92) rfl rfl rfl rfl (by kernel_rfl) (by kernel_rfl) (by kernel_rfl) (fun _ _ _ h => h) (by rfl) ?hzd92 hHeld ?rzd92
          case hzd92 => (intro w' hSw; (try dsimp only at hSw); go_simp <;> with_reducible rfl)
          try simp only [Act.put, sI, sZ, sS]
          refine call_op (i := 3) (d := 143) (OP := Op.call { callee := Callee.value (Operand.func 20), args := #[Operand.tmp 142], argTypes := #[28] }) (T := 3) (f := 20) (args := #[.int .i64 0]) rfl rfl rfl rfl (by kernel_rfl) (by rfl) (by go_simp) ?_
          refine (tkN _).mono ?_
          rintro e zc3 ⟨rfl, bzc3⟩
          have qzc3 : zc3.cell? ⟨Mb, 0, none⟩ = some (.pointer pm) ∧ zc3.cell? ⟨Bx, 0, none⟩ = some (.pointer p1) ∧ zc3.cell? ⟨Pb, 1, none⟩ = some (.string X) := ⟨cell_stays hHeld.1 bzc3, cell_stays hHeld.2.1 bzc3, cell_stays hHeld.2.2 bzc3⟩
          refine ⟨_, rfl, qzc3, ?_⟩
          replace hHeld := qzc3
          replace bW := bW.trans (bzc3.mono bW.size)
          replace bX := bX.trans (bzc3.mono bX.size)
          clear qzc3 bzc3
          try simp only [Act.put, sI, sZ, sS]
          refine take_op (i := 4) (d := 144) (OP := Op.binOp BinOp.eql 3 (Operand.tmp 143) (Operand.const (Value.int IntKind.i64 0)) 3) (T := 4) (v := ?vzd93) rfl rfl rfl rfl (by kernel_rfl) (by kernel_rfl) (by kernel_rfl) (fun _ _ _ h => h) (by rfl) ?hzd93 hHeld ?rzd93
          case hzd93 => (intro w' hSw; (try dsimp only at hSw); go_simp <;> with_reducible rfl)
          try simp only [Act.put, sI, sZ, sS]
          refine take_op (i := 5) (d := 145) (OP := Op.move (Operand.tmp 144)) (T := 4) (v := ?vzd94) rfl rfl rfl rfl (by kernel_rfl) (by kernel_rfl) (by kernel_rfl) (fun _ _ _ h => h) (by rfl) ?hzd94 hHeld ?rzd94
          case hzd94 => (intro w' hSw; (try dsimp only at hSw); go_simp <;> with_reducible rfl)
          try simp only [Act.put, sI, sZ, sS]
          refine take_op (i := 6) (d := 146) (OP := Op.move (Operand.tmp 16)) (T := 3) (v := ?vzd95) rfl rfl rfl rfl (by kernel_rfl) (by kernel_rfl) (by kernel_rfl) (fun _ _ _ h => h) (by rfl) ?hzd95 hHeld ?rzd95
          case hzd95 => (intro w' hSw; (try dsimp only at hSw); go_simp <;> with_reducible rfl)
          try simp only [Act.put, sI, sZ, sS]
          refine take_op (i := 7) (d := 147) (OP := Op.move (Operand.tmp 1)) (T := 22) (v := ?vzd96) rfl rfl rfl rfl (by kernel_rfl) (by kernel_rfl) (by kernel_rfl) (fun _ _ _ h => h) (by rfl) ?hzd96 hHeld ?rzd96
          case hzd96 => (intro w' hSw; (try dsimp only at hSw); go_simp <;> with_reducible rfl)
          try simp only [Act.put, sI, sZ, sS]
          refine take_op (i := 8) (d := 148) (OP := Op.call { callee := Callee.builtin Builtin.len, args := #[Operand.tmp 147], argTypes := #[22] }) (T := 3) (v := ?vzd97) rfl rfl rfl rfl (by kernel_rfl) (by kernel_rfl) (by kernel_rfl) (fun _ _ _ h => h) (by rfl) ?hzd97 hHeld ?rzd97
          case hzd97 => (intro w' hSw; (try dsimp only at hSw); go_simp <;> with_reducible rfl)
          try simp only [Act.put, sI, sZ, sS]
          refine take_op (i := 9) (d := 149) (OP := Op.move (Operand.tmp 18)) (T := 22) (v := ?vzd98) rfl rfl rfl rfl (by kernel_rfl) (by kernel_rfl) (by kernel_rfl) (fun _ _ _ h => h) (by rfl) ?hzd98 hHeld ?rzd98
          case hzd98 => (intro w' hSw; (try dsimp only at hSw); go_simp <;> with_reducible rfl)
          try simp only [Act.put, sI, sZ, sS]
          refine take_op (i := 10) (d := 150) (OP := Op.call { callee := Callee.builtin Builtin.len, args := #[Operand.tmp 149], argTypes := #[22] }) (T := 3) (v := ?vzd99) rfl rfl rfl rfl (by kernel_rfl) (by kernel_rfl) (by kernel_rfl) (fun _ _ _ h => h) (by rfl) ?hzd99 hHeld ?rzd99
          case hzd99 => (intro w' hSw; (try dsimp only at hSw); go_simp <;> with_reducible rfl)
          try simp only [Act.put, sI, sZ, sS]
          refine take_op (i := 11) (d := 151) (OP := Op.binOp BinOp.sub 3 (Operand.tmp 148) (Operand.tmp 150) 3) (T := 3) (v := .int .i64 (R1 : Nat)) rfl rfl rfl rfl (by kernel_rfl) (by kernel_rfl) (by kernel_rfl) (fun _ _ _ h => h) (by rfl) ?hzd100 hHeld ?rzd100
          case hzd100 => (intro w' hSw; (try dsimp only at hSw); go_simp <;> (rw [IntKind.wrap_i64]; omega))
          try simp only [Act.put, sI, sZ, sS]
          refine take_op (i := 12) (d := 152) (OP := Op.binOp BinOp.eql 3 (Operand.tmp 146) (Operand.tmp 151) 3) (T := 4) (v := ?vzd101) rfl rfl rfl rfl (by kernel_rfl) (by kernel_rfl) (by kernel_rfl) (fun _ _ _ h => h) (by rfl) ?hzd101 hHeld ?rzd101
          case hzd101 => (intro w' hSw; (try dsimp only at hSw); go_simp <;> with_reducible rfl)
          try simp only [Act.put, sI, sZ, sS]
          refine take_op (i := 13) (d := 153) (OP := Op.pick (Operand.tmp 145) (Operand.tmp 152) (Operand.const (Value.bool false))) (T := 4) (v := ?vzd102) rfl rfl rfl rfl (by kernel_rfl) (by kernel_rfl) (by kernel_rfl) (fun _ _ _ h => h) (by rfl) ?hzd102 hHeld ?rzd102
          case hzd102 => (intro w' hSw; (try dsimp only at hSw); go_simp <;> with_reducible rfl)
          try simp only [Act.put, sI, sZ, sS]
          refine take_op (i := 14) (d := 154) (OP := Op.move (Operand.tmp 153)) (T := 4) (v := ?vzd103) rfl rfl rfl rfl (by kernel_rfl) (by kernel_rfl) (by kernel_rfl) (fun _ _ _ h => h) (by rfl) ?hzd103 hHeld ?rzd103
          case hzd103 => (intro w' hSw; (try dsimp only at hSw); go_simp <;> with_reducible rfl)
          try simp only [Act.put, sI, sZ, sS]
          refine take_op (i := 15) (d := 155) (OP := Op.load 27 (Operand.tmp 15)) (T := 27) (v := ?vzd104) rfl rfl rfl rfl (by kernel_rfl) (by kernel_rfl) (by kernel_rfl) (fun _ _ _ h => h) (by rfl) ?hzd104 hHeld ?rzd104
          case hzd104 => (intro w' hSw; (try dsimp only at hSw); go_simp <;> with_reducible rfl)
          try simp only [Act.put, sI, sZ, sS]
          refine take_op (i := 16) (d := 156) (OP := Op.fieldAddr 45 (Operand.tmp 5) 1) (T := 0) (v := ?vzd105) rfl rfl rfl rfl (by kernel_rfl) (by kernel_rfl) (by kernel_rfl) (fun _ _ _ h => h) (by rfl) ?hzd105 hHeld ?rzd105
          case hzd105 => (intro w' hSw; (try dsimp only at hSw); go_simp <;> with_reducible rfl)
          try simp only [Act.put, sI, sZ, sS]
          refine take_op (i := 17) (d := 157) (OP := Op.load 9 (Operand.tmp 156)) (T := 9) (v := ?vzd106) rfl rfl rfl rfl (by kernel_rfl) (by kernel_rfl) (by kernel_rfl) (fun _ _ _ h => h) (by rfl) ?hzd106 hHeld ?rzd106
          case hzd106 => (intro w' hSw; (try dsimp only at hSw); go_simp <;> with_reducible rfl)
          try simp only [Act.put, sI, sZ, sS]
          refine call_op (i := 18) (d := 158) (OP := Op.call { callee := Callee.value (Operand.func 36), args := #[Operand.tmp 155, Operand.tmp 157], argTypes := #[27, 9] }) (T := 4) (f := 36) (args := #[.agg #[.pointer p1], .string X]) rfl rfl rfl rfl (by kernel_rfl) (by rfl) (by go_simp) ?_
          refine (kH _ bW).mono ?_
          rintro e zc18 ⟨rfl, bzc18⟩
          have qzc18 : zc18.cell? ⟨Mb, 0, none⟩ = some (.pointer pm) ∧ zc18.cell? ⟨Bx, 0, none⟩ = some (.pointer p1) ∧ zc18.cell? ⟨Pb, 1, none⟩ = some (.string X) := ⟨cell_stays hHeld.1 bzc18, cell_stays hHeld.2.1 bzc18, cell_stays hHeld.2.2 bzc18⟩
          refine ⟨_, rfl, qzc18, ?_⟩
          replace hHeld := qzc18
          replace bW := bW.trans (bzc18.mono bW.size)
          replace bX := bX.trans (bzc18.mono bX.size)
          clear qzc18 bzc18
          try simp only [Act.put, sI, sZ, sS]
          refine take_op (i := 19) (d := 159) (OP := Op.unOp UnOp.not 4 (Operand.tmp 158)) (T := 4) (v := ?vzd107) rfl rfl rfl rfl (by kernel_rfl) (by kernel_rfl) (by kernel_rfl) (fun _ _ _ h => h) (by rfl) ?hzd107 hHeld ?rzd107
          case hzd107 => (intro w' hSw; (try dsimp only at hSw); go_simp <;> with_reducible rfl)
          try simp only [Act.put, sI, sZ, sS]
          refine take_op (i := 20) (d := 160) (OP := Op.pick (Operand.tmp 154) (Operand.tmp 159) (Operand.const (Value.bool false))) (T := 4) (v := ?vzd108) rfl rfl rfl rfl (by kernel_rfl) (by kernel_rfl) (by kernel_rfl) (fun _ _ _ h => h) (by rfl) ?hzd108 hHeld ?rzd108
          case hzd108 => (intro w' hSw; (try dsimp only at hSw); go_simp <;> with_reducible rfl)
          try simp only [Act.put, sI, sZ, sS]
          refine take_op (i := 21) (d := 161) (OP := Op.move (Operand.tmp 160)) (T := 4) (v := ?vzd109) rfl rfl rfl rfl (by kernel_rfl) (by kernel_rfl) (by kernel_rfl) (fun _ _ _ h => h) (by rfl) ?hzd109 hHeld ?rzd109
          case hzd109 => (intro w' hSw; (try dsimp only at hSw); go_simp <;> with_reducible rfl)
          try simp only [Act.put, sI, sZ, sS]
          refine take_op (i := 22) (d := 162) (OP := Op.move (Operand.tmp 16)) (T := 3) (v := ?vzd110) rfl rfl rfl rfl (by kernel_rfl) (by kernel_rfl) (by kernel_rfl) (fun _ _ _ h => h) (by rfl) ?hzd110 hHeld ?rzd110
          case hzd110 => (intro w' hSw; (try dsimp only at hSw); go_simp <;> with_reducible rfl)
          try simp only [Act.put, sI, sZ, sS]
          refine take_op (i := 23) (d := 163) (OP := Op.binOp BinOp.gtr 3 (Operand.tmp 162) (Operand.const (Value.int IntKind.i64 0)) 3) (T := 4) (v := .bool true) rfl rfl rfl rfl (by kernel_rfl) (by kernel_rfl) (by kernel_rfl) (fun _ _ _ h => h) (by rfl) ?hzd111 hHeld ?rzd111
          case hzd111 => (intro w' hSw; (try dsimp only at hSw); go_simp)
          try simp only [Act.put, sI, sZ, sS]
          refine take_op (i := 24) (d := 164) (OP := Op.move (Operand.tmp 163)) (T := 4) (v := ?vzd112) rfl rfl rfl rfl (by kernel_rfl) (by kernel_rfl) (by kernel_rfl) (fun _ _ _ h => h) (by rfl) ?hzd112 hHeld ?rzd112
          case hzd112 => (intro w' hSw; (try dsimp only at hSw); go_simp <;> with_reducible rfl)
          try simp only [Act.put, sI, sZ, sS]
          refine pass_op (i := 25) (d := 165) rfl rfl (by kernel_rfl) (by kernel_rfl) (by kernel_rfl) (fun _ _ _ h => h) (by rfl) hHeld ?_
          try simp only [Act.put, sI, sZ, sS]
          refine pass_op (i := 26) (d := 166) rfl rfl (by kernel_rfl) (by kernel_rfl) (by kernel_rfl) (fun _ _ _ h => h) (by rfl) hHeld ?_
          try simp only [Act.put, sI, sZ, sS]
          refine pass_op (i := 27) (d := 167) rfl rfl (by kernel_rfl) (by kernel_rfl) (by kernel_rfl) (fun _ _ _ h => h) (by rfl) hHeld ?_
          try simp only [Act.put, sI, sZ, sS]
          refine take_op (i := 28) (d := 168) (OP := Op.pick (Operand.tmp 164) (Operand.const (Value.bool true)) (Operand.tmp 167)) (T := 4) (v := ?vzd116) rfl rfl rfl rfl (by kernel_rfl) (by kernel_rfl) (by kernel_rfl) (fun _ _ _ h => h) (by rfl) ?hzd116 hHeld ?rzd116
          case hzd116 => (intro w' hSw; (try dsimp only at hSw); go_simp <;> with_reducible rfl)
          try simp only [Act.put, sI, sZ, sS]
          refine take_op (i := 29) (d := 169) (OP := Op.pick (Operand.tmp 161) (Operand.tmp 168) (Operand.const (Value.bool false))) (T := 4) (v := ?vzd117) rfl rfl rfl rfl (by kernel_rfl) (by kernel_rfl) (by kernel_rfl) (fun _ _ _ h => h) (by rfl) ?hzd117 hHeld ?rzd117
          case hzd117 => (intro w' hSw; (try dsimp only at hSw); go_simp <;> with_reducible rfl)
          try simp only [Act.put, sI, sZ, sS]
          obtain ⟨u6, o6⟩ := set_one (i := 0) (.pointer p1) (HR.out _ bW)
          have hS6 : (zc18.setCell ⟨Rb, 0, none⟩ (.pointer p1)).cell? ⟨Mb, 0, none⟩ = some (.pointer pm) ∧ (zc18.setCell ⟨Rb, 0, none⟩ (.pointer p1)).cell? ⟨Bx, 0, none⟩ = some (.pointer p1) ∧ (zc18.setCell ⟨Rb, 0, none⟩ (.pointer p1)).cell? ⟨Pb, 1, none⟩ = some (.string X) := ⟨o6.cell hHeld.1 (fun e => by have := HNE.out; simp only at e; omega), o6.cell hHeld.2.1 (fun e => by have := HNE.out; simp only at e; omega), o6.cell hHeld.2.2 (fun e => by have := HNE.out; simp only at e; omega)⟩
          refine skip_op (i := 30) (OP := Op.store 27 (Operand.tmp 6) (Operand.tmp 140)) (T := 0) (w' := zc18.setCell ⟨Rb, 0, none⟩ (.pointer p1)) rfl rfl rfl rfl (by kernel_rfl) (by rfl) (exec_st27 rfl rfl ((cell_of_row _ _ 0 _ 27 (0, 0) (HR.out _ bW)).trans rfl) (frozen_of_row _ _ 0 _ 27 (HR.out _ bW))) ⟨hS6, ?_⟩
          try simp only [Act.put, sI, sZ, sS]
          replace hHeld := hS6
          clear hS6
          refine take_op (i := 31) (d := 7) (OP := Op.assign (Operand.tmp 141)) (T := 22) (v := ?vzd118) rfl rfl rfl rfl (by kernel_rfl) (by kernel_rfl) (by kernel_rfl) (fun _ _ _ h => h) (by rfl) ?hzd118 hHeld ?rzd118
          case hzd118 => (intro w' hSw; (try dsimp only at hSw); go_simp <;> with_reducible rfl)
          try simp only [Act.put, sI, sZ, sS]
          refine take_op (i := 32) (d := 8) (OP := Op.assign (Operand.tmp 169)) (T := 4) (v := ?vzd119) rfl rfl rfl rfl (by kernel_rfl) (by kernel_rfl) (by kernel_rfl) (fun _ _ _ h => h) (by rfl) ?hzd119 hHeld ?rzd119
          case hzd119 => (intro w' hSw; (try dsimp only at hSw); go_simp <;> with_reducible rfl)
          try simp only [Act.put, sI, sZ, sS]
          refine wpAnyH_done (by kernel_rfl) ?_ _
          clear hz hz1 hz2
          have b0W := HB1.out.1.trans (bW.mono HB1.out.1.size)
          obtain ⟨q1, q2, q3, q4⟩ := HI.out.row _ b0W
          have HE := hide (And.intro u6 (And.intro (Below.only q4 o6 q4.size (fun j e => by have e' : j = Rb := e; have := HI.out.ge; omega)) (And.intro ((HM1.out.2.2.1.below bW).aside q1 o6) ((r9.below bX).aside q1 o6))))
          clear u6 o6 hHeld bW bX bS q1 q2 q3 q4 b0W HS HR HNE kH tkN r9 hsub
          go_wp2
          refine ret_row_t3 Rb [.pointer p1] rfl rfl rfl rfl Tryz.underlying27 rfl T27 (by simpa using HE.out.1) rfl ?_
          exact ⟨t1, p1, a5, c5, HM1.out.1, by rw [← HFU.out]; rfl, HE.out.2.2.1, HL1.out.2.1, by rw [← HFU.out]; exact HE.out.2.2.2, by rw [← Pm.T.n_eq, ← Pm.T.n_eq, HM1.out.2.1]; exact Nat.le_trans (List.length_filter_le _ _) (Nat.le_succ _), HE.out.2.1⟩
end Go.Proofs.YtkkpdgfllnbigaaGreat.Tg
