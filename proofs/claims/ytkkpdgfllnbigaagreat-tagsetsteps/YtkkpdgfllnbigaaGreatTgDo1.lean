/-
  tagset: one step of the law TagsetSteps (do 24): Insert.
-/
import Derived.Test.YtkkpdgfllnbigaaGreatMg25
import Derived.Test.YtkkpdgfllnbigaaGreatTgSo
namespace Go.Proofs.YtkkpdgfllnbigaaGreat.Tg
open Go.RowKit Go.Shelf
set_option linter.unusedSimpArgs false
set_option linter.unusedVariables false
attribute [local go_sem] Oper.semAt_some

set_option maxHeartbeats 16000000 in
set_option maxRecDepth 100000 in
theorem do24_1 {w : World} {t : Pm.T} {pm : Option Addr} {ao : Option Addr} {c : Nat} (s : St) (X : ByteArray) (h : Mg w t) (hn : t.n < 399) (hp : t.ptr = .pointer pm) (hm : mayT t.list = true) (hre : Re w ao (elsT t.list)) (hss : s.2.2.1.size ≤ 9223372036854775807) :
    Calls Tryz.prog 24 #[.agg #[.pointer pm], .slice ao (elsT t.list).length c, .agg #[.int .i64 1, .string X, .int .i64 s.1, .int .i64 s.2.1, .string s.2.2.1, .int .i64 s.2.2.2.1, .int .i64 s.2.2.2.2]] w (DoT w t) := by
  have HI := hide (DoI.of (pm := pm) 1 X s h hre)
  obtain ⟨g, r, lb, n, ix⟩ := s
  dsimp only at hss HI ⊢
  obtain ⟨L0, hL0⟩ : ∃ q, q = elsT t.list := ⟨_, rfl⟩
  obtain ⟨N, hN⟩ : ∃ q, q = L0.length := ⟨_, rfl⟩
  rw [← hL0] at HI hre ⊢
  rw [← hN]
  obtain ⟨w0, hw0⟩ : ∃ q, q = ((w.alloc (.cells #[.pointer pm] 27)).alloc (.cells #[.int .i64 1, .string X, .int .i64 g, .int .i64 r, .string lb, .int .i64 n, .int .i64 ix] 45)).alloc (.cells #[.pointer none] 27) := ⟨_, rfl⟩
  rw [← hw0] at HI
  obtain ⟨Mb, hMb⟩ : ∃ q, q = w.heap.size := ⟨_, rfl⟩
  obtain ⟨Pb, hPb⟩ : ∃ q, q = w.heap.size + 1 := ⟨_, rfl⟩
  obtain ⟨Rb, hRb⟩ : ∃ q, q = w.heap.size + 1 + 1 := ⟨_, rfl⟩
  have HI : Hid (DoI w w0 Mb Pb Rb t pm ao L0 1 X (g, r, lb, n, ix)) := hide (by rw [hMb, hPb, hRb]; exact HI.out)
  have hNn : N = t.n := by rw [hN, hL0, els_len hm, Pm.T.n_eq]
  have HT := hide (And.intro hN (And.intro hL0 (And.intro hp (And.intro hm (And.intro hn hNn)))))
  have HW0 := hide (And.intro hw0 (And.intro hRb (And.intro hPb hMb)))
  have hNb : N ≤ 400 := by omega
  obtain ⟨x0, y0, y1, y2, y3, y4, y5, y6⟩ := HI.out.cell w0 (Below.refl _ _)
  dsimp only at y2 y3 y4 y5 y6
  have k111 := fun W => refText_any X W
  have kS := h.srt
  have HS0 := hide kS
  clear h hn hp hm hre hN hL0 hw0 hMb hPb hRb hNn kS
  have hin := fun W (hW : Below w0.heap.size w0 W) => insert30 (g, r, lb, n, ix) X (HI.out.row W hW).2.1 HT.out.2.2.1 (by have := HT.out; omega)
  unfold InsE insI okI at hin
  simp only [HT.out.2.2.2.1, Bool.and_true] at hin
  dsimp only [svT, sv] at hin
  have k112 := fun W => refStamp_any g r lb n ix W hss
  dsimp only [sv] at k112
  have hok : okEl ((g, r, lb, n, ix), X) = (stV (g, r, lb, n, ix) && txtB X) := rfl
  obtain ⟨SV, hSV⟩ : ∃ q, q = stampV g r lb n ix := ⟨_, rfl⟩
  obtain ⟨TV, hTV⟩ : ∃ q, q = txtB X := ⟨_, rfl⟩
  rw [show stV (g, r, lb, n, ix) = SV from hSV.symm, ← hTV] at hok
  rw [← hSV] at k112
  rw [← hTV] at k111
  obtain ⟨OK, hOK⟩ : ∃ q, q = okEl ((g, r, lb, n, ix), X) := ⟨_, rfl⟩
  rw [← hOK] at hin hok
  have HOK := hide (And.intro hOK (And.intro hSV hTV))
  clear hSV hTV hOK
  cases TV with
  | false =>
    have hF : OK = false := by rw [hok, Bool.and_false]
    subst hF
    clear hok
    simp only [Bool.false_eq_true, if_false] at hin
    go_enter Tryz.func24, Tryz.ntmps24
    go_upto_region 1 with fail
    rw [← HW0.out.1, ← HW0.out.2.1, ← HW0.out.2.2.1, ← HW0.out.2.2.2]
    go_upto_region 6 with (first | (go_at_call 111; refine (k111 _).mono ?_; rintro e wz ⟨rfl, hwz⟩; replace hwz := hwz.symm; subst hwz; clear k111; dsimp only) | (go_at_call 30; refine (hin w0 (Below.refl _ _)).mono ?_; rintro e w1 ⟨t1, p1, hp1, rfl, mg1, hl1, b1⟩; have HB1 := hide (And.intro (b1.trans (((Below.refl _ w1).alloc (Nat.le_refl _) (.cells #[.pointer p1] 27)).mono b1.size)) (And.intro (heap_alloc_new w1 (.cells #[.pointer p1] 27)) b1.size)); have HM1 := hide (And.intro hp1 (And.intro hl1 (mg1.below ((Below.refl _ w1).alloc (Nat.le_refl _) (.cells #[.pointer p1] 27))))); have yy := HI.out.cell _ HB1.out.1; dsimp only at yy; obtain ⟨-, -, z1, z2, z3, z4, z5, z6⟩ := yy; clear b1 hp1 hl1 mg1; dsimp only))
    clear z1 z2 z3 z4 z5 z6 hin k112
    obtain ⟨Bx, hBx⟩ : ∃ q, q = w1.heap.size := ⟨_, rfl⟩
    obtain ⟨W1, hW1⟩ : ∃ q, q = w1.alloc (.cells #[.pointer p1] 27) := ⟨_, rfl⟩
    rw [← hBx] at HB1
    rw [← hW1] at HB1 HM1 ⊢
    rw [← hBx]
    have c1 : W1.cell? ⟨Bx, 0, none⟩ = some (.pointer p1) := (cell_of_row _ _ 0 _ 27 (0, 0) HB1.out.2.1).trans rfl
    have hBz := HB1.out.2.2
    have bS : Below W1.heap.size W1 W1 := Below.refl _ _
    have HS : Hid (∀ W, Below W1.heap.size W1 W → W.cell? ⟨Mb, 0, none⟩ = some (.pointer pm) ∧ W.cell? ⟨Bx, 0, none⟩ = some (.pointer p1)) := hide (fun W hW => ⟨(HI.out.cell W (HB1.out.1.trans (hW.mono HB1.out.1.size))).1, cell_stays c1 hW⟩)
    have HR : Hid (∀ W, Below W1.heap.size W1 W → W.heap[Rb]? = some (.cells #[.pointer none] 27 (0, 0))) := hide (fun W hW => (HI.out.row W (HB1.out.1.trans (hW.mono HB1.out.1.size))).1)
    have HNE : Hid (Mb ≠ Rb ∧ Bx ≠ Rb) := hide (by obtain ⟨q1, q2, q3, q4⟩ := HI.out.ge; omega)
    have hl0 : t1.n = 0 := by rw [← Pm.T.n_eq, HM1.out.2.1]; rfl
    have kL : ∀ W, Below W1.heap.size W1 W → Calls Tryz.prog 21 #[.agg #[.pointer p1]] W fun e w' => e = .returned (.int .i64 0) ∧ Below W.heap.size W w' := fun W hW => by
      have := Pm.mLen_any t1 W (HM1.out.2.2.below hW).inn
      unfold Pm.mv at this
      rw [HM1.out.1, hl0] at this
      exact this
    have tkN : ∀ W, Calls Tryz.prog 20 #[.int .i64 2] W fun e w' => e = .returned (.int .i64 2) ∧ Below W.heap.size W w' := fun W => (num20 2 W).mono fun e w' ⟨h1, h2⟩ => ⟨h1, by rw [h2]; exact Below.refl _ _⟩
    clear c1 hl0 hBz hBx hW1
    refine wp_region_held_drew (S := fun w' => w'.cell? ⟨Mb, 0, none⟩ = some (.pointer pm) ∧ w'.cell? ⟨Bx, 0, none⟩ = some (.pointer p1)) (by kernel_rfl) (by exact HS.out _ (bS.trans ((drew_below W1).mono bS.size))) (fun hHeld => ?_)
    try dsimp only at hHeld
    have bW : Below W1.heap.size W1 W1.drew := bS.trans ((drew_below W1).mono bS.size)
    have bX : Below W1.heap.size W1 W1.drew := drew_below W1
    generalize W1.drew = Wd at hHeld bW bX ⊢
    refine take_op (i := 0) (d := 44) (OP := Op.load 27 (Operand.tmp 3)) (T := 27) (v := ?vzd1) rfl rfl rfl rfl (by kernel_rfl) (by kernel_rfl) (by kernel_rfl) (fun _ _ _ h => h) (by rfl) ?hzd1 hHeld ?rzd1
    case hzd1 => (intro w' hSw; (try dsimp only at hSw); go_simp <;> with_reducible rfl)
    try simp only [Act.put, sI, sZ, sS]
    refine take_op (i := 1) (d := 45) (OP := Op.move (Operand.tmp 1)) (T := 22) (v := ?vzd2) rfl rfl rfl rfl (by kernel_rfl) (by kernel_rfl) (by kernel_rfl) (fun _ _ _ h => h) (by rfl) ?hzd2 hHeld ?rzd2
    case hzd2 => (intro w' hSw; (try dsimp only at hSw); go_simp <;> with_reducible rfl)
    try simp only [Act.put, sI, sZ, sS]
    refine take_op (i := 2) (d := 46) (OP := Op.move (Operand.tmp 11)) (T := 28) (v := ?vzd3) rfl rfl rfl rfl (by kernel_rfl) (by kernel_rfl) (by kernel_rfl) (fun _ _ _ h => h) (by rfl) ?hzd3 hHeld ?rzd3
    case hzd3 => (intro w' hSw; (try dsimp only at hSw); go_simp <;> with_reducible rfl)
    try simp only [Act.put, sI, sZ, sS]
    refine call_op (i := 3) (d := 47) (OP := Op.call { callee := Callee.value (Operand.func 20), args := #[Operand.tmp 46], argTypes := #[28] }) (T := 3) (f := 20) (args := #[.int .i64 2]) rfl rfl rfl rfl (by kernel_rfl) (by rfl) (by go_simp) ?_
    refine (tkN _).mono ?_
    rintro e zc3 ⟨rfl, bzc3⟩
    have qzc3 : zc3.cell? ⟨Mb, 0, none⟩ = some (.pointer pm) ∧ zc3.cell? ⟨Bx, 0, none⟩ = some (.pointer p1) := ⟨cell_stays hHeld.1 bzc3, cell_stays hHeld.2 bzc3⟩
    refine ⟨_, rfl, qzc3, ?_⟩
    replace hHeld := qzc3
    replace bW := bW.trans (bzc3.mono bW.size)
    replace bX := bX.trans (bzc3.mono bX.size)
    clear qzc3 bzc3
    try simp only [Act.put, sI, sZ, sS]
    refine take_op (i := 4) (d := 48) (OP := Op.binOp BinOp.eql 3 (Operand.tmp 47) (Operand.const (Value.int IntKind.i64 2)) 3) (T := 4) (v := ?vzd4) rfl rfl rfl rfl (by kernel_rfl) (by kernel_rfl) (by kernel_rfl) (fun _ _ _ h => h) (by rfl) ?hzd4 hHeld ?rzd4
    case hzd4 => (intro w' hSw; (try dsimp only at hSw); go_simp <;> with_reducible rfl)
    try simp only [Act.put, sI, sZ, sS]
    refine take_op (i := 5) (d := 49) (OP := Op.move (Operand.tmp 48)) (T := 4) (v := ?vzd5) rfl rfl rfl rfl (by kernel_rfl) (by kernel_rfl) (by kernel_rfl) (fun _ _ _ h => h) (by rfl) ?hzd5 hHeld ?rzd5
    case hzd5 => (intro w' hSw; (try dsimp only at hSw); go_simp <;> with_reducible rfl)
    try simp only [Act.put, sI, sZ, sS]
    refine take_op (i := 6) (d := 50) (OP := Op.load 27 (Operand.tmp 10)) (T := 27) (v := ?vzd6) rfl rfl rfl rfl (by kernel_rfl) (by kernel_rfl) (by kernel_rfl) (fun _ _ _ h => h) (by rfl) ?hzd6 hHeld ?rzd6
    case hzd6 => (intro w' hSw; (try dsimp only at hSw); go_simp <;> with_reducible rfl)
    try simp only [Act.put, sI, sZ, sS]
    refine call_op (i := 7) (d := 51) (OP := Op.call { callee := Callee.value (Operand.func 21), args := #[Operand.tmp 50], argTypes := #[27] }) (T := 3) (f := 21) (args := #[.agg #[.pointer p1]]) rfl rfl rfl rfl (by kernel_rfl) (by rfl) (by go_simp) ?_
    refine (kL _ bW).mono ?_
    rintro e zc7 ⟨rfl, bzc7⟩
    have qzc7 : zc7.cell? ⟨Mb, 0, none⟩ = some (.pointer pm) ∧ zc7.cell? ⟨Bx, 0, none⟩ = some (.pointer p1) := ⟨cell_stays hHeld.1 bzc7, cell_stays hHeld.2 bzc7⟩
    refine ⟨_, rfl, qzc7, ?_⟩
    replace hHeld := qzc7
    replace bW := bW.trans (bzc7.mono bW.size)
    replace bX := bX.trans (bzc7.mono bX.size)
    clear qzc7 bzc7
    try simp only [Act.put, sI, sZ, sS]
    refine take_op (i := 8) (d := 52) (OP := Op.binOp BinOp.eql 3 (Operand.tmp 51) (Operand.const (Value.int IntKind.i64 0)) 3) (T := 4) (v := ?vzd7) rfl rfl rfl rfl (by kernel_rfl) (by kernel_rfl) (by kernel_rfl) (fun _ _ _ h => h) (by rfl) ?hzd7 hHeld ?rzd7
    case hzd7 => (intro w' hSw; (try dsimp only at hSw); go_simp <;> with_reducible rfl)
    try simp only [Act.put, sI, sZ, sS]
    refine take_op (i := 9) (d := 53) (OP := Op.pick (Operand.tmp 49) (Operand.tmp 52) (Operand.const (Value.bool false))) (T := 4) (v := ?vzd8) rfl rfl rfl rfl (by kernel_rfl) (by kernel_rfl) (by kernel_rfl) (fun _ _ _ h => h) (by rfl) ?hzd8 hHeld ?rzd8
    case hzd8 => (intro w' hSw; (try dsimp only at hSw); go_simp <;> with_reducible rfl)
    try simp only [Act.put, sI, sZ, sS]
    obtain ⟨u6, o6⟩ := set_one (i := 0) (.pointer pm) (HR.out _ bW)
    have hS6 : (zc7.setCell ⟨Rb, 0, none⟩ (.pointer pm)).cell? ⟨Mb, 0, none⟩ = some (.pointer pm) ∧ (zc7.setCell ⟨Rb, 0, none⟩ (.pointer pm)).cell? ⟨Bx, 0, none⟩ = some (.pointer p1) := ⟨o6.cell hHeld.1 (fun e => by have := HNE.out; simp only at e; omega), o6.cell hHeld.2 (fun e => by have := HNE.out; simp only at e; omega)⟩
    refine skip_op (i := 10) (OP := Op.store 27 (Operand.tmp 6) (Operand.tmp 44)) (T := 0) (w' := zc7.setCell ⟨Rb, 0, none⟩ (.pointer pm)) rfl rfl rfl rfl (by kernel_rfl) (by rfl) (exec_st27 rfl rfl ((cell_of_row _ _ 0 _ 27 (0, 0) (HR.out _ bW)).trans rfl) (frozen_of_row _ _ 0 _ 27 (HR.out _ bW))) ⟨hS6, ?_⟩
    try simp only [Act.put, sI, sZ, sS]
    replace hHeld := hS6
    clear hS6
    refine take_op (i := 11) (d := 7) (OP := Op.assign (Operand.tmp 45)) (T := 22) (v := ?vzd9) rfl rfl rfl rfl (by kernel_rfl) (by kernel_rfl) (by kernel_rfl) (fun _ _ _ h => h) (by rfl) ?hzd9 hHeld ?rzd9
    case hzd9 => (intro w' hSw; (try dsimp only at hSw); go_simp <;> with_reducible rfl)
    try simp only [Act.put, sI, sZ, sS]
    refine take_op (i := 12) (d := 8) (OP := Op.assign (Operand.tmp 53)) (T := 4) (v := ?vzd10) rfl rfl rfl rfl (by kernel_rfl) (by kernel_rfl) (by kernel_rfl) (fun _ _ _ h => h) (by rfl) ?hzd10 hHeld ?rzd10
    case hzd10 => (intro w' hSw; (try dsimp only at hSw); go_simp <;> with_reducible rfl)
    try simp only [Act.put, sI, sZ, sS]
    refine wpAnyH_done (by kernel_rfl) ?_ _
    have b0W := HB1.out.1.trans (bW.mono HB1.out.1.size)
    obtain ⟨r1, r2, r3, r4⟩ := HI.out.row _ b0W
    have HE := hide (And.intro u6 (And.intro (Below.only r4 o6 r4.size (fun j e => by have e' : j = Rb := e; have := HI.out.ge; omega)) (And.intro (r2.aside r1 o6) (r3.aside r1 o6))))
    clear u6 o6 hHeld bW bX bS r1 r2 r3 r4 b0W HS HR HNE kL tkN
    go_wp2
    refine ret_row_t3 Rb [.pointer pm] rfl rfl rfl rfl Tryz.underlying27 rfl T27 (by simpa using HE.out.1) rfl ?_
    exact ⟨t, pm, ao, c, HT.out.2.2.1, by rw [← HT.out.2.1, ← HT.out.1]; rfl, HE.out.2.2.1, HT.out.2.2.2.1, by rw [← HT.out.2.1]; exact HE.out.2.2.2, by omega, HE.out.2.1⟩
  | true =>
    cases SV with
    | false =>
      have hF : OK = false := by rw [hok]; rfl
      subst hF
      clear hok
      simp only [Bool.false_eq_true, if_false] at hin
      go_enter Tryz.func24, Tryz.ntmps24
      go_upto_region 1 with fail
      rw [← HW0.out.1, ← HW0.out.2.1, ← HW0.out.2.2.1, ← HW0.out.2.2.2]
      go_upto_region 6 with (first | (go_at_call 111; refine (k111 _).mono ?_; rintro e wz ⟨rfl, hwz⟩; replace hwz := hwz.symm; subst hwz; clear k111; dsimp only) | (go_at_call 30; refine (hin w0 (Below.refl _ _)).mono ?_; rintro e w1 ⟨t1, p1, hp1, rfl, mg1, hl1, b1⟩; have HB1 := hide (And.intro (b1.trans (((Below.refl _ w1).alloc (Nat.le_refl _) (.cells #[.pointer p1] 27)).mono b1.size)) (And.intro (heap_alloc_new w1 (.cells #[.pointer p1] 27)) b1.size)); have HM1 := hide (And.intro hp1 (And.intro hl1 (mg1.below ((Below.refl _ w1).alloc (Nat.le_refl _) (.cells #[.pointer p1] 27))))); have yy := HI.out.cell _ HB1.out.1; dsimp only at yy; obtain ⟨-, -, z1, z2, z3, z4, z5, z6⟩ := yy; clear b1 hp1 hl1 mg1; dsimp only) | (go_at_call 112; refine (k112 _).mono ?_; rintro e w2 ⟨rfl, b2⟩; have H2 := hide b2; clear b2; dsimp only))
      clear z1 z2 z3 z4 z5 z6 hin k112
      obtain ⟨Bx, hBx⟩ : ∃ q, q = w1.heap.size := ⟨_, rfl⟩
      obtain ⟨W1, hW1⟩ : ∃ q, q = w1.alloc (.cells #[.pointer p1] 27) := ⟨_, rfl⟩
      rw [← hBx] at HB1
      rw [← hW1] at HB1 HM1 H2
      rw [← hBx]
      have c1 : W1.cell? ⟨Bx, 0, none⟩ = some (.pointer p1) := (cell_of_row _ _ 0 _ 27 (0, 0) HB1.out.2.1).trans rfl
      have hBz := HB1.out.2.2
      skip
      have bS : Below W1.heap.size W1 w2 := H2.out
      have HS : Hid (∀ W, Below W1.heap.size W1 W → W.cell? ⟨Mb, 0, none⟩ = some (.pointer pm) ∧ W.cell? ⟨Bx, 0, none⟩ = some (.pointer p1)) := hide (fun W hW => ⟨(HI.out.cell W (HB1.out.1.trans (hW.mono HB1.out.1.size))).1, cell_stays c1 hW⟩)
      have HR : Hid (∀ W, Below W1.heap.size W1 W → W.heap[Rb]? = some (.cells #[.pointer none] 27 (0, 0))) := hide (fun W hW => (HI.out.row W (HB1.out.1.trans (hW.mono HB1.out.1.size))).1)
      have HNE : Hid (Mb ≠ Rb ∧ Bx ≠ Rb) := hide (by obtain ⟨q1, q2, q3, q4⟩ := HI.out.ge; omega)
      have hl0 : t1.n = 0 := by rw [← Pm.T.n_eq, HM1.out.2.1]; rfl
      have kL : ∀ W, Below W1.heap.size W1 W → Calls Tryz.prog 21 #[.agg #[.pointer p1]] W fun e w' => e = .returned (.int .i64 0) ∧ Below W.heap.size W w' := fun W hW => by
        have := Pm.mLen_any t1 W (HM1.out.2.2.below hW).inn
        unfold Pm.mv at this
        rw [HM1.out.1, hl0] at this
        exact this
      have tkN : ∀ W, Calls Tryz.prog 20 #[.int .i64 2] W fun e w' => e = .returned (.int .i64 2) ∧ Below W.heap.size W w' := fun W => (num20 2 W).mono fun e w' ⟨h1, h2⟩ => ⟨h1, by rw [h2]; exact Below.refl _ _⟩
      clear c1 hl0 hBz hBx hW1
      refine wp_region_held_drew (S := fun w' => w'.cell? ⟨Mb, 0, none⟩ = some (.pointer pm) ∧ w'.cell? ⟨Bx, 0, none⟩ = some (.pointer p1)) (by kernel_rfl) (by exact HS.out _ (bS.trans ((drew_below w2).mono bS.size))) (fun hHeld => ?_)
      try dsimp only at hHeld
      have bW : Below W1.heap.size W1 w2.drew := bS.trans ((drew_below w2).mono bS.size)
      have bX : Below w2.heap.size w2 w2.drew := drew_below w2
      generalize w2.drew = Wd at hHeld bW bX ⊢
      refine take_op (i := 0) (d := 44) (OP := Op.load 27 (Operand.tmp 3)) (T := 27) (v := ?vzd11) rfl rfl rfl rfl (by kernel_rfl) (by kernel_rfl) (by kernel_rfl) (fun _ _ _ h => h) (by rfl) ?hzd11 hHeld ?rzd11
      case hzd11 => (intro w' hSw; (try dsimp only at hSw); go_simp <;> with_reducible rfl)
      try simp only [Act.put, sI, sZ, sS]
      refine take_op (i := 1) (d := 45) (OP := Op.move (Operand.tmp 1)) (T := 22) (v := ?vzd12) rfl rfl rfl rfl (by kernel_rfl) (by kernel_rfl) (by kernel_rfl) (fun _ _ _ h => h) (by rfl) ?hzd12 hHeld ?rzd12
      case hzd12 => (intro w' hSw; (try dsimp only at hSw); go_simp <;> with_reducible rfl)
      try simp only [Act.put, sI, sZ, sS]
      refine take_op (i := 2) (d := 46) (OP := Op.move (Operand.tmp 11)) (T := 28) (v := ?vzd13) rfl rfl rfl rfl (by kernel_rfl) (by kernel_rfl) (by kernel_rfl) (fun _ _ _ h => h) (by rfl) ?hzd13 hHeld ?rzd13
      case hzd13 => (intro w' hSw; (try dsimp only at hSw); go_simp <;> with_reducible rfl)
      try simp only [Act.put, sI, sZ, sS]
      refine call_op (i := 3) (d := 47) (OP := Op.call { callee := Callee.value (Operand.func 20), args := #[Operand.tmp 46], argTypes := #[28] }) (T := 3) (f := 20) (args := #[.int .i64 2]) rfl rfl rfl rfl (by kernel_rfl) (by rfl) (by go_simp) ?_
      refine (tkN _).mono ?_
      rintro e zc3 ⟨rfl, bzc3⟩
      have qzc3 : zc3.cell? ⟨Mb, 0, none⟩ = some (.pointer pm) ∧ zc3.cell? ⟨Bx, 0, none⟩ = some (.pointer p1) := ⟨cell_stays hHeld.1 bzc3, cell_stays hHeld.2 bzc3⟩
      refine ⟨_, rfl, qzc3, ?_⟩
      replace hHeld := qzc3
      replace bW := bW.trans (bzc3.mono bW.size)
      replace bX := bX.trans (bzc3.mono bX.size)
      clear qzc3 bzc3
      try simp only [Act.put, sI, sZ, sS]
      refine take_op (i := 4) (d := 48) (OP := Op.binOp BinOp.eql 3 (Operand.tmp 47) (Operand.const (Value.int IntKind.i64 2)) 3) (T := 4) (v := ?vzd14) rfl rfl rfl rfl (by kernel_rfl) (by kernel_rfl) (by kernel_rfl) (fun _ _ _ h => h) (by rfl) ?hzd14 hHeld ?rzd14
      case hzd14 => (intro w' hSw; (try dsimp only at hSw); go_simp <;> with_reducible rfl)
      try simp only [Act.put, sI, sZ, sS]
      refine take_op (i := 5) (d := 49) (OP := Op.move (Operand.tmp 48)) (T := 4) (v := ?vzd15) rfl rfl rfl rfl (by kernel_rfl) (by kernel_rfl) (by kernel_rfl) (fun _ _ _ h => h) (by rfl) ?hzd15 hHeld ?rzd15
      case hzd15 => (intro w' hSw; (try dsimp only at hSw); go_simp <;> with_reducible rfl)
      try simp only [Act.put, sI, sZ, sS]
      refine take_op (i := 6) (d := 50) (OP := Op.load 27 (Operand.tmp 10)) (T := 27) (v := ?vzd16) rfl rfl rfl rfl (by kernel_rfl) (by kernel_rfl) (by kernel_rfl) (fun _ _ _ h => h) (by rfl) ?hzd16 hHeld ?rzd16
      case hzd16 => (intro w' hSw; (try dsimp only at hSw); go_simp <;> with_reducible rfl)
      try simp only [Act.put, sI, sZ, sS]
      refine call_op (i := 7) (d := 51) (OP := Op.call { callee := Callee.value (Operand.func 21), args := #[Operand.tmp 50], argTypes := #[27] }) (T := 3) (f := 21) (args := #[.agg #[.pointer p1]]) rfl rfl rfl rfl (by kernel_rfl) (by rfl) (by go_simp) ?_
      refine (kL _ bW).mono ?_
      rintro e zc7 ⟨rfl, bzc7⟩
      have qzc7 : zc7.cell? ⟨Mb, 0, none⟩ = some (.pointer pm) ∧ zc7.cell? ⟨Bx, 0, none⟩ = some (.pointer p1) := ⟨cell_stays hHeld.1 bzc7, cell_stays hHeld.2 bzc7⟩
      refine ⟨_, rfl, qzc7, ?_⟩
      replace hHeld := qzc7
      replace bW := bW.trans (bzc7.mono bW.size)
      replace bX := bX.trans (bzc7.mono bX.size)
      clear qzc7 bzc7
      try simp only [Act.put, sI, sZ, sS]
      refine take_op (i := 8) (d := 52) (OP := Op.binOp BinOp.eql 3 (Operand.tmp 51) (Operand.const (Value.int IntKind.i64 0)) 3) (T := 4) (v := ?vzd17) rfl rfl rfl rfl (by kernel_rfl) (by kernel_rfl) (by kernel_rfl) (fun _ _ _ h => h) (by rfl) ?hzd17 hHeld ?rzd17
      case hzd17 => (intro w' hSw; (try dsimp only at hSw); go_simp <;> with_reducible rfl)
      try simp only [Act.put, sI, sZ, sS]
      refine take_op (i := 9) (d := 53) (OP := Op.pick (Operand.tmp 49) (Operand.tmp 52) (Operand.const (Value.bool false))) (T := 4) (v := ?vzd18) rfl rfl rfl rfl (by kernel_rfl) (by kernel_rfl) (by kernel_rfl) (fun _ _ _ h => h) (by rfl) ?hzd18 hHeld ?rzd18
      case hzd18 => (intro w' hSw; (try dsimp only at hSw); go_simp <;> with_reducible rfl)
      try simp only [Act.put, sI, sZ, sS]
      obtain ⟨u6, o6⟩ := set_one (i := 0) (.pointer pm) (HR.out _ bW)
      have hS6 : (zc7.setCell ⟨Rb, 0, none⟩ (.pointer pm)).cell? ⟨Mb, 0, none⟩ = some (.pointer pm) ∧ (zc7.setCell ⟨Rb, 0, none⟩ (.pointer pm)).cell? ⟨Bx, 0, none⟩ = some (.pointer p1) := ⟨o6.cell hHeld.1 (fun e => by have := HNE.out; simp only at e; omega), o6.cell hHeld.2 (fun e => by have := HNE.out; simp only at e; omega)⟩
      refine skip_op (i := 10) (OP := Op.store 27 (Operand.tmp 6) (Operand.tmp 44)) (T := 0) (w' := zc7.setCell ⟨Rb, 0, none⟩ (.pointer pm)) rfl rfl rfl rfl (by kernel_rfl) (by rfl) (exec_st27 rfl rfl ((cell_of_row _ _ 0 _ 27 (0, 0) (HR.out _ bW)).trans rfl) (frozen_of_row _ _ 0 _ 27 (HR.out _ bW))) ⟨hS6, ?_⟩
      try simp only [Act.put, sI, sZ, sS]
      replace hHeld := hS6
      clear hS6
      refine take_op (i := 11) (d := 7) (OP := Op.assign (Operand.tmp 45)) (T := 22) (v := ?vzd19) rfl rfl rfl rfl (by kernel_rfl) (by kernel_rfl) (by kernel_rfl) (fun _ _ _ h => h) (by rfl) ?hzd19 hHeld ?rzd19
      case hzd19 => (intro w' hSw; (try dsimp only at hSw); go_simp <;> with_reducible rfl)
      try simp only [Act.put, sI, sZ, sS]
      refine take_op (i := 12) (d := 8) (OP := Op.assign (Operand.tmp 53)) (T := 4) (v := ?vzd20) rfl rfl rfl rfl (by kernel_rfl) (by kernel_rfl) (by kernel_rfl) (fun _ _ _ h => h) (by rfl) ?hzd20 hHeld ?rzd20
      case hzd20 => (intro w' hSw; (try dsimp only at hSw); go_simp <;> with_reducible rfl)
      try simp only [Act.put, sI, sZ, sS]
      refine wpAnyH_done (by kernel_rfl) ?_ _
      have b0W := HB1.out.1.trans (bW.mono HB1.out.1.size)
      obtain ⟨r1, r2, r3, r4⟩ := HI.out.row _ b0W
      have HE := hide (And.intro u6 (And.intro (Below.only r4 o6 r4.size (fun j e => by have e' : j = Rb := e; have := HI.out.ge; omega)) (And.intro (r2.aside r1 o6) (r3.aside r1 o6))))
      clear u6 o6 hHeld bW bX bS r1 r2 r3 r4 b0W HS HR HNE kL tkN
      go_wp2
      refine ret_row_t3 Rb [.pointer pm] rfl rfl rfl rfl Tryz.underlying27 rfl T27 (by simpa using HE.out.1) rfl ?_
      exact ⟨t, pm, ao, c, HT.out.2.2.1, by rw [← HT.out.2.1, ← HT.out.1]; rfl, HE.out.2.2.1, HT.out.2.2.2.1, by rw [← HT.out.2.1]; exact HE.out.2.2.2, by omega, HE.out.2.1⟩
    | true =>
      have hT : OK = true := by rw [hok]; rfl
      subst hT
      clear hok
      simp only [if_true] at hin
      go_enter Tryz.func24, Tryz.ntmps24
      go_upto_region 1 with fail
      rw [← HW0.out.1, ← HW0.out.2.1, ← HW0.out.2.2.1, ← HW0.out.2.2.2]
      go_upto_region 7 with (first | (go_at_call 111; refine (k111 _).mono ?_; rintro e wz ⟨rfl, hwz⟩; replace hwz := hwz.symm; subst hwz; clear k111; dsimp only) | (go_at_call 30; refine (hin w0 (Below.refl _ _)).mono ?_; rintro e w1 ⟨t1, p1, hp1, rfl, mg1, hl1, b1⟩; have HB1 := hide (And.intro (b1.trans (((Below.refl _ w1).alloc (Nat.le_refl _) (.cells #[.pointer p1] 27)).mono b1.size)) (And.intro (heap_alloc_new w1 (.cells #[.pointer p1] 27)) b1.size)); have HM1 := hide (And.intro hp1 (And.intro hl1 (mg1.below ((Below.refl _ w1).alloc (Nat.le_refl _) (.cells #[.pointer p1] 27))))); have yy := HI.out.cell _ HB1.out.1; dsimp only at yy; obtain ⟨-, -, z1, z2, z3, z4, z5, z6⟩ := yy; clear b1 hp1 hl1 mg1; dsimp only) | (go_at_call 112; refine (k112 _).mono ?_; rintro e w2 ⟨rfl, b2⟩; have H2 := hide b2; clear b2; dsimp only))
      clear hin k112 z1 z2 z3 z4 z5 z6
      obtain ⟨Bx, hBx⟩ : ∃ q, q = w1.heap.size := ⟨_, rfl⟩
      obtain ⟨W1, hW1⟩ : ∃ q, q = w1.alloc (.cells #[.pointer p1] 27) := ⟨_, rfl⟩
      rw [← hBx] at HB1
      rw [← hW1] at HB1 HM1 H2
      rw [← hBx]
      have c1 : W1.cell? ⟨Bx, 0, none⟩ = some (.pointer p1) := (cell_of_row _ _ 0 _ 27 (0, 0) HB1.out.2.1).trans rfl
      have hBz := HB1.out.2.2
      have b02 : Below w0.heap.size w0 w2 := HB1.out.1.trans (H2.out.mono HB1.out.1.size)
      have yy := HI.out.cell w2 b02
      dsimp only at yy
      obtain ⟨-, -, z1, z2, z3, z4, z5, z6⟩ := yy
      have hins := els_ins HT.out.2.2.2.1 HS0.out HOK.out.1.symm
      have hmi := may_ins HT.out.2.2.2.1 HS0.out HOK.out.1.symm
      have hhi := has_ins HT.out.2.2.2.1 HS0.out HOK.out.1.symm
      dsimp only at hins hmi hhi
      have hl1 := HM1.out.2.1
      try dsimp only at hl1
      rw [← hl1] at hins hmi hhi
      rw [← HT.out.2.1] at hins
      have HL1 := hide (And.intro hins (And.intro hmi hhi))
      clear hins hmi hhi hl1
      go_upto_region 8 with fail
      obtain ⟨Yb, hYb⟩ : ∃ q, q = w2.heap.size := ⟨_, rfl⟩
      obtain ⟨W3, hW3⟩ : ∃ q, q = w2.alloc (.cells #[.int .i64 g, .int .i64 r, .string lb, .int .i64 n, .int .i64 ix, .string X] 53) := ⟨_, rfl⟩
      have m3 := heap_alloc_new w2 (.cells #[.int .i64 g, .int .i64 r, .string lb, .int .i64 n, .int .i64 ix, .string X] 53)
      have d3 : Below w2.heap.size w2 W3 := by rw [hW3]; exact (Below.refl _ w2).alloc (Nat.le_refl _) _
      rw [← hW3, ← hYb] at m3
      rw [← hW3, ← hYb]
      have hYz : w0.heap.size ≤ Yb := by rw [hYb]; exact b02.size
      have b13 : Below W1.heap.size W1 W3 := H2.out.trans (d3.mono H2.out.size)
      have H3 := hide (And.intro m3 (And.intro (b02.trans (d3.mono b02.size)) (And.intro (cell_stays c1 b13) (HM1.out.2.2.below b13))))
      have HNE : Hid (Bx ≠ Rb ∧ Yb ≠ Rb ∧ Pb ≠ Rb) := hide (by obtain ⟨q1, q2, q3, q4⟩ := HI.out.ge; omega)
      clear z1 z2 z3 z4 z5 z6 hW3 m3 d3 hYz b13 b02 hYb hBx hW1 c1 hBz
      go_wp2
      go_loopw [13, 14] (fun v13 v14 wr => ∃ (i : Nat) (p : List El) (a5 : Option Addr) (c5 : Nat), i ≤ N ∧ p.length ≤ i ∧ v13 = .slice a5 p.length c5 ∧ v14 = .int .i64 (i : Nat) ∧ Hid (p = (L0.take i).filter (fun y => !decide (y = ((g, r, lb, n, ix), X))) ∧ (a5 = none → c5 = 0) ∧ Below W3.heap.size W3 wr ∧ Oe wr W3.heap.size (.slice a5 p.length c5) p)) (fun _ v14 _ => N - (intOf v14).toNat)
      case atStart => exact ⟨0, [], none, 0, Nat.zero_le _, Nat.le_refl _, rfl, rfl, hide ⟨rfl, fun _ => rfl, Below.refl _ _, Oe.nil _ _⟩⟩
      case round =>
        obtain ⟨i, p, a5, c5, hi, hpl, rfl, rfl, HQ⟩ := hrel
        by_cases h1 : i < N
        · have z1 : (i : Int) < (N : Int) := by omega
          have d1 : decide (i < N) = true := by simpa using h1
          obtain ⟨x, hx⟩ : ∃ x, L0[i]? = some x := ⟨_, List.getElem?_eq_getElem (by rw [← HT.out.1]; exact h1)⟩
          have b0w := H3.out.2.1.trans (HQ.out.2.2.1.mono H3.out.2.1.size)
          obtain ⟨b, off, hao, x0', x1', x2', x3', x4', x5'⟩ := (HI.out.row wr b0w).2.2.1.cells hx
          have hfil : (L0.take (i + 1)).filter (fun y => !decide (y = ((g, r, lb, n, ix), X))) = p ++ (if (!decide (x = ((g, r, lb, n, ix), X))) = true then [x] else []) := by
            rw [List.take_add_one, hx, List.filter_append, ← HQ.out.1]; congr 1; simp [List.filter_cons]
          have HFL := hide hfil
          obtain ⟨yy0, yy1, yy2, yy3, yy4, yy5⟩ : wr.cell? ⟨Yb, 0, none⟩ = some (.int .i64 g) ∧ wr.cell? ⟨Yb, 1, none⟩ = some (.int .i64 r) ∧ wr.cell? ⟨Yb, 2, none⟩ = some (.string lb) ∧ wr.cell? ⟨Yb, 3, none⟩ = some (.int .i64 n) ∧ wr.cell? ⟨Yb, 4, none⟩ = some (.int .i64 ix) ∧ wr.cell? ⟨Yb, 5, none⟩ = some (.string X) := by
            have q := (HQ.out.2.2.1.block _ (gI H3.out.1).1).trans H3.out.1
            exact ⟨(cell_of_row _ _ 0 _ 53 (0, 0) q).trans rfl, (cell_of_row _ _ 1 _ 53 (0, 0) q).trans rfl, (cell_of_row _ _ 2 _ 53 (0, 0) q).trans rfl, (cell_of_row _ _ 3 _ 53 (0, 0) q).trans rfl, (cell_of_row _ _ 4 _ 53 (0, 0) q).trans rfl, (cell_of_row _ _ 5 _ 53 (0, 0) q).trans rfl⟩
          clear hfil
          have HXX := hide hx
          have HAO := hide hao
          subst hao
          clear hx b0w
          obtain ⟨NE, hNE⟩ : ∃ q, q = !decide (x = ((g, r, lb, n, ix), X)) := ⟨_, rfl⟩
          rw [← hNE] at HFL
          obtain ⟨⟨g1, r1, l1, n1, i1⟩, t1x⟩ := x
          dsimp only at x0' x1' x2' x3' x4' x5'
          have hne := hNE.symm
          have HNX := hide hNE
          clear hNE
          go_upto_region 12 with fail
          refine wp_region_held_drew (S := fun w' => w'.cell? ⟨Yb, 0, none⟩ = some (.int .i64 g) ∧ w'.cell? ⟨Yb, 1, none⟩ = some (.int .i64 r) ∧ w'.cell? ⟨Yb, 2, none⟩ = some (.string lb) ∧ w'.cell? ⟨Yb, 3, none⟩ = some (.int .i64 n) ∧ w'.cell? ⟨Yb, 4, none⟩ = some (.int .i64 ix) ∧ w'.cell? ⟨Yb, 5, none⟩ = some (.string X) ∧ w'.cell? ⟨b, off + i * 6, none⟩ = some (.int .i64 g1) ∧ w'.cell? ⟨b, off + i * 6 + 1, none⟩ = some (.int .i64 r1) ∧ w'.cell? ⟨b, off + i * 6 + 2, none⟩ = some (.string l1) ∧ w'.cell? ⟨b, off + i * 6 + 3, none⟩ = some (.int .i64 n1) ∧ w'.cell? ⟨b, off + i * 6 + 4, none⟩ = some (.int .i64 i1) ∧ w'.cell? ⟨b, off + i * 6 + 5, none⟩ = some (.string t1x) ∧ Below wr.heap.size wr w') (by kernel_rfl) (by exact ⟨yy0, yy1, yy2, yy3, yy4, yy5, x0', x1', x2', x3', x4', x5', drew_below wr⟩) (fun hHeld => ?_)
          try dsimp only at hHeld
          refine take_op (i := 0) (d := 65) (OP := Op.move (Operand.tmp 1)) (T := 22) (v := ?v21) rfl rfl rfl rfl (by kernel_rfl) (by kernel_rfl) (by kernel_rfl) (fun _ _ _ h => h) (by rfl) ?h21 hHeld ?r21
          case h21 => (intro w' hSw; (try dsimp only at hSw); go_simp <;> with_reducible rfl)
          try simp only [Act.put, sI, sZ, sS]
          refine take_op (i := 1) (d := 66) (OP := Op.move (Operand.tmp 14)) (T := 3) (v := ?v22) rfl rfl rfl rfl (by kernel_rfl) (by kernel_rfl) (by kernel_rfl) (fun _ _ _ h => h) (by rfl) ?h22 hHeld ?r22
          case h22 => (intro w' hSw; (try dsimp only at hSw); go_simp <;> with_reducible rfl)
          try simp only [Act.put, sI, sZ, sS]
          refine take_op (i := 2) (d := 67) (OP := Op.indexAddr 22 (Operand.tmp 65) (Operand.tmp 66)) (T := 0) (v := .pointer (some ⟨b, off + i * 6, none⟩)) rfl rfl rfl rfl (by kernel_rfl) (by kernel_rfl) (by kernel_rfl) (fun _ _ _ h => h) (by rfl) ?h23 hHeld ?r23
          case h23 => (intro w' hSw; exact exec_ixE rfl rfl z1)
          try simp only [Act.put, sI, sZ, sS]
          refine take_op (i := 3) (d := 68) (OP := Op.load 53 (Operand.tmp 67)) (T := 53) (v := ev ((g1, r1, l1, n1, i1), t1x)) rfl rfl rfl rfl (by kernel_rfl) (by kernel_rfl) (by kernel_rfl) (fun _ _ _ h => h) (by rfl) ?h24 hHeld ?r24
          case h24 => (intro w' hSw; exact exec_ld53 rfl hSw.2.2.2.2.2.2.1 hSw.2.2.2.2.2.2.2.1 hSw.2.2.2.2.2.2.2.2.1 hSw.2.2.2.2.2.2.2.2.2.1 hSw.2.2.2.2.2.2.2.2.2.2.1 hSw.2.2.2.2.2.2.2.2.2.2.2.1)
          try simp only [Act.put, sI, sZ, sS]
          refine take_op (i := 4) (d := 69) (OP := Op.load 53 (Operand.tmp 12)) (T := 53) (v := ev ((g, r, lb, n, ix), X)) rfl rfl rfl rfl (by kernel_rfl) (by kernel_rfl) (by kernel_rfl) (fun _ _ _ h => h) (by rfl) ?h25 hHeld ?r25
          case h25 => (intro w' hSw; exact exec_ld53 rfl hSw.1 hSw.2.1 hSw.2.2.1 hSw.2.2.2.1 hSw.2.2.2.2.1 hSw.2.2.2.2.2.1)
          try simp only [Act.put, sI, sZ, sS]
          refine take_op (i := 5) (d := 70) (OP := Op.binOp BinOp.neq 53 (Operand.tmp 68) (Operand.tmp 69) 53) (T := 4) (v := .bool NE) rfl rfl rfl rfl (by kernel_rfl) (by kernel_rfl) (by kernel_rfl) (fun _ _ _ h => h) (by rfl) ?h26 hHeld ?r26
          case h26 => (intro w' hSw; exact exec_ne53T (p := ((g1, r1, l1, n1, i1), t1x)) (q := ((g, r, lb, n, ix), X)) rfl rfl hne)
          try simp only [Act.put, sI, sZ, sS]
          refine wpAnyH_done (by kernel_rfl) ?_ _
          have HE := hide hHeld.2.2.2.2.2.2.2.2.2.2.2.2
          clear yy0 yy1 yy2 yy3 yy4 yy5
          obtain ⟨W2, hW2⟩ : ∃ q, q = wr.drew := ⟨_, rfl⟩
          rw [← hW2] at HE hHeld ⊢
          obtain ⟨-, -, -, -, -, -, x0', x1', x2', x3', x4', x5', -⟩ := hHeld
          clear hW2
          have H4 := hide (And.intro (HQ.out.2.2.1.trans (HE.out.mono HQ.out.2.2.1.size)) (HQ.out.2.2.2.below HE.out))
          cases NE with
          | false =>
            go_wp2
            go_roundw
            case rel => exact ⟨i + 1, p, a5, c5, by omega, by omega, rfl, by go_num, hide ⟨by rw [HFL.out]; simp, HQ.out.2.1, H4.out.1, H4.out.2⟩⟩
            case measure => simp [intOf]; omega
          | true =>
            go_wp2_with (refine pushT ((g1, r1, l1, n1, i1), t1x) H4 (Nat.le_refl _) (by omega) rfl _ _ rfl rfl rfl ?_; intro a6 c6 w6 H6)
            go_roundw
            case rel => exact ⟨i + 1, p ++ [((g1, r1, l1, n1, i1), t1x)], a6, c6, by omega, by rw [List.length_append]; simp; omega, by rw [List.length_append]; rfl, by go_num, hide ⟨by rw [HFL.out]; simp, H6.out.1, H6.out.2.1, by rw [List.length_append]; exact H6.out.2.2⟩⟩
            case measure => simp [intOf]; omega
        · obtain rfl : i = N := by omega
          have d1 : decide (i < i) = false := by simp
          have z1 : ¬ (i : Int) < (i : Int) := by omega
          have hfull : p = L0.filter (fun y => !decide (y = ((g, r, lb, n, ix), X))) := by rw [HQ.out.1, HT.out.1, List.take_length]
          have bS := HQ.out.2.2.1
          have hO := HQ.out.2.2.2
          obtain ⟨Wl, rfl⟩ : ∃ q, q = wr := ⟨_, rfl⟩
          go_upto_region 14 with fail
          have HS : Hid (∀ W, Below W3.heap.size W3 W → W.cell? ⟨Bx, 0, none⟩ = some (.pointer p1) ∧ W.cell? ⟨Pb, 1, none⟩ = some (.string X) ∧ W.cell? ⟨Yb, 0, none⟩ = some (.int .i64 g) ∧ W.cell? ⟨Yb, 1, none⟩ = some (.int .i64 r) ∧ W.cell? ⟨Yb, 2, none⟩ = some (.string lb) ∧ W.cell? ⟨Yb, 3, none⟩ = some (.int .i64 n) ∧ W.cell? ⟨Yb, 4, none⟩ = some (.int .i64 ix) ∧ W.cell? ⟨Yb, 5, none⟩ = some (.string X)) := hide (fun W hW => by
            have q := (hW.block _ (gI H3.out.1).1).trans H3.out.1
            exact ⟨cell_stays H3.out.2.2.1 hW, (HI.out.cell W (H3.out.2.1.trans (hW.mono H3.out.2.1.size))).2.2.1, (cell_of_row _ _ 0 _ 53 (0, 0) q).trans rfl, (cell_of_row _ _ 1 _ 53 (0, 0) q).trans rfl, (cell_of_row _ _ 2 _ 53 (0, 0) q).trans rfl, (cell_of_row _ _ 3 _ 53 (0, 0) q).trans rfl, (cell_of_row _ _ 4 _ 53 (0, 0) q).trans rfl, (cell_of_row _ _ 5 _ 53 (0, 0) q).trans rfl⟩)
          have HR : Hid (∀ W, Below W3.heap.size W3 W → W.heap[Rb]? = some (.cells #[.pointer none] 27 (0, 0))) := hide (fun W hW => (HI.out.row W (H3.out.2.1.trans (hW.mono H3.out.2.1.size))).1)
          have hpn : p.length ≤ 400 := by omega
          have hap : ∀ W, Below Wl.heap.size Wl W → ∃ a9 c9 w9, (Builtin.append_ #[22, 22] 22 #[.slice a5 p.length c5, .slice (some ⟨W.heap.size, 0, none⟩) 1 1]).run Tryz.prog (W.alloc (.cells (encE ((g, r, lb, n, ix), X)).toArray 53)) = .ok (.slice a9 (p.length + 1) c9) w9 ∧ Re w9 a9 (p ++ [((g, r, lb, n, ix), X)]) ∧ Below W3.heap.size W3 w9 := fun W hW => by
            have bA : Below W.heap.size W (W.alloc (.cells (encE ((g, r, lb, n, ix), X)).toArray 53)) := (Below.refl _ W).alloc (Nat.le_refl _) _
            have bL := hW.trans (bA.mono hW.size)
            have hOA := hO.below bL
            obtain ⟨a9, c9, w9, h1, h2, h3, -⟩ := push_OeW (y := ((g, r, lb, n, ix), X)) hOA (heap_alloc_new W _) (by omega) (by have := bL.size; have := bS.size; omega)
            have b3A := bS.trans (bL.mono bS.size)
            exact ⟨a9, c9, w9, h1, h2.re, Below.only b3A h3 b3A.size (fun j hj => (World.ownsRow.lt hOA j hj).1)⟩
          obtain ⟨N1, hN1⟩ : ∃ q, q = (elsT t1.list).length := ⟨_, rfl⟩
          have kSo : ∀ W a9 c9, Re W a9 (p ++ [((g, r, lb, n, ix), X)]) → Calls Tryz.prog 22 #[.slice a9 (p.length + 1) c9] W fun e w' => ∃ a10 c10, e = .returned (.slice a10 N1 c10) ∧ Re w' a10 (elsT t1.list) ∧ Below W.heap.size W w' := fun W a9 c9 hr => by
            have := sorted22 (c := c9) (p ++ [((g, r, lb, n, ix), X)]) hr (by rw [List.length_append]; simp; omega) (fun x hx => by
              rcases List.mem_append.1 hx with h1 | h1
              · rw [hfull] at h1
                have h2 := (List.mem_filter.1 h1).1
                rw [HT.out.2.1] at h2
                exact els_okEl HT.out.2.2.2.1 h2
              · rw [List.mem_singleton.1 h1]; exact HOK.out.1.symm)
            rw [List.length_append, List.length_singleton] at this
            have he : srtQ (p ++ [((g, r, lb, n, ix), X)]) = elsT t1.list := by rw [hfull]; exact HL1.out.1
            rw [he] at this
            refine this.mono fun e w' hh => ?_
            obtain ⟨v, h1, h2, h3⟩ := hh
            obtain ⟨a10, c10, h4, h5, -⟩ := h2.form
            rw [← hN1] at h4
            subst h4
            exact ⟨a10, c10, h1, h5, h3⟩
          have tkN : ∀ W, Calls Tryz.prog 20 #[.int .i64 0] W fun e w' => e = .returned (.int .i64 0) ∧ Below W.heap.size W w' := fun W => (num20 0 W).mono fun e w' ⟨h1, h2⟩ => ⟨h1, by rw [h2]; exact Below.refl _ _⟩
          have kH : ∀ W, Below W3.heap.size W3 W → Calls Tryz.prog 36 #[.agg #[.pointer p1], .string X] W fun e w' => e = .returned (.bool true) ∧ Below W.heap.size W w' := fun W hW => by
            have := has36 X (H3.out.2.2.2.below hW) HM1.out.1
            rw [decide_eq_true HL1.out.2.2] at this
            exact this
          have HN1 := hide hN1
          clear h1 hi hpl hfull hO hN1
          refine wp_region_held_drew (S := fun w' => w'.cell? ⟨Bx, 0, none⟩ = some (.pointer p1) ∧ w'.cell? ⟨Pb, 1, none⟩ = some (.string X) ∧ w'.cell? ⟨Yb, 0, none⟩ = some (.int .i64 g) ∧ w'.cell? ⟨Yb, 1, none⟩ = some (.int .i64 r) ∧ w'.cell? ⟨Yb, 2, none⟩ = some (.string lb) ∧ w'.cell? ⟨Yb, 3, none⟩ = some (.int .i64 n) ∧ w'.cell? ⟨Yb, 4, none⟩ = some (.int .i64 ix) ∧ w'.cell? ⟨Yb, 5, none⟩ = some (.string X)) (by kernel_rfl) (by exact HS.out _ (bS.trans ((drew_below Wl).mono bS.size))) (fun hHeld => ?_)
          try dsimp only at hHeld
          have bW : Below W3.heap.size W3 Wl.drew := bS.trans ((drew_below Wl).mono bS.size)
          have bX : Below Wl.heap.size Wl Wl.drew := drew_below Wl
          generalize Wl.drew = Wd at hHeld bW bX ⊢
          refine take_op (i := 0) (d := 78) (OP := Op.load 27 (Operand.tmp 10)) (T := 27) (v := ?vzd27) rfl rfl rfl rfl (by kernel_rfl) (by kernel_rfl) (by kernel_rfl) (fun _ _ _ h => h) (by rfl) ?hzd27 hHeld ?rzd27
          case hzd27 => (intro w' hSw; (try dsimp only at hSw); go_simp <;> with_reducible rfl)
          try simp only [Act.put, sI, sZ, sS]
          refine take_op (i := 1) (d := 79) (OP := Op.move (Operand.tmp 13)) (T := 22) (v := ?vzd28) rfl rfl rfl rfl (by kernel_rfl) (by kernel_rfl) (by kernel_rfl) (fun _ _ _ h => h) (by rfl) ?hzd28 hHeld ?rzd28
          case hzd28 => (intro w' hSw; (try dsimp only at hSw); go_simp <;> with_reducible rfl)
          try simp only [Act.put, sI, sZ, sS]
          refine take_op (i := 2) (d := 80) (OP := Op.load 53 (Operand.tmp 12)) (T := 53) (v := ev ((g, r, lb, n, ix), X)) rfl rfl rfl rfl (by kernel_rfl) (by kernel_rfl) (by kernel_rfl) (fun _ _ _ h => h) (by rfl) ?hzd29 hHeld ?rzd29
          case hzd29 => (intro w' hSw; exact exec_ld53 rfl hSw.2.2.1 hSw.2.2.2.1 hSw.2.2.2.2.1 hSw.2.2.2.2.2.1 hSw.2.2.2.2.2.2.1 hSw.2.2.2.2.2.2.2)
          try simp only [Act.put, sI, sZ, sS]
          refine take_op (i := 6) (d := 84) (OP := Op.move (Operand.tmp 11)) (T := 28) (v := ?vzd30) rfl rfl rfl rfl (by kernel_rfl) (by kernel_rfl) (by kernel_rfl) (fun _ _ _ h => h) (by rfl) ?hzd30 hHeld ?rzd30
          case hzd30 => (intro w' hSw; (try dsimp only at hSw); go_simp <;> with_reducible rfl)
          try simp only [Act.put, sI, sZ, sS]
          have bA : Below W3.heap.size W3 (Wd.alloc (.cells (encE ((g, r, lb, n, ix), X)).toArray 53)) := bW.alloc bW.size _
          obtain ⟨a9, c9, w9, run9, r9, b9⟩ := hap Wd bX
          refine turn_op (i := 3) (d := 81) (OP := Op.buildSlice 22 1 #[(0, Operand.tmp 80)]) (T := 22) (v := .slice (some ⟨Wd.heap.size, 0, none⟩) 1 1) (w' := Wd.alloc (.cells (encE ((g, r, lb, n, ix), X)).toArray 53)) rfl rfl rfl rfl (by kernel_rfl) (by rfl) (exec_bs53 rfl) (HS.out _ bA) ?_
          replace hHeld := HS.out _ bA
          try simp only [Act.put, sI, sZ, sS]
          refine turn_op (i := 4) (d := 82) (OP := Op.call { callee := Callee.builtin Builtin.append, args := #[Operand.tmp 79, Operand.tmp 81], argTypes := #[22, 22] }) (T := 22) (v := .slice a9 (p.length + 1) c9) (w' := w9) rfl rfl rfl rfl (by kernel_rfl) (by rfl) (exec_append rfl rfl run9) (HS.out _ b9) ?_
          replace hHeld := HS.out _ b9
          replace bW := b9
          have bX := Below.refl w9.heap.size w9
          clear run9 b9 bA
          try simp only [Act.put, sI, sZ, sS]
          refine call_op (i := 5) (d := 83) (OP := Op.call { callee := Callee.value (Operand.func 22), args := #[Operand.tmp 82], argTypes := #[22] }) (T := 22) (f := 22) (args := #[.slice a9 (p.length + 1) c9]) rfl rfl rfl rfl (by kernel_rfl) (by rfl) (by go_simp) ?_
          refine (kSo _ _ _ r9).mono ?_
          rintro e zc5 ⟨a10, c10, rfl, r10, bzc5⟩
          have qzc5 : zc5.cell? ⟨Bx, 0, none⟩ = some (.pointer p1) ∧ zc5.cell? ⟨Pb, 1, none⟩ = some (.string X) ∧ zc5.cell? ⟨Yb, 0, none⟩ = some (.int .i64 g) ∧ zc5.cell? ⟨Yb, 1, none⟩ = some (.int .i64 r) ∧ zc5.cell? ⟨Yb, 2, none⟩ = some (.string lb) ∧ zc5.cell? ⟨Yb, 3, none⟩ = some (.int .i64 n) ∧ zc5.cell? ⟨Yb, 4, none⟩ = some (.int .i64 ix) ∧ zc5.cell? ⟨Yb, 5, none⟩ = some (.string X) := ⟨cell_stays hHeld.1 bzc5, cell_stays hHeld.2.1 bzc5, cell_stays hHeld.2.2.1 bzc5, cell_stays hHeld.2.2.2.1 bzc5, cell_stays hHeld.2.2.2.2.1 bzc5, cell_stays hHeld.2.2.2.2.2.1 bzc5, cell_stays hHeld.2.2.2.2.2.2.1 bzc5, cell_stays hHeld.2.2.2.2.2.2.2 bzc5⟩
          refine ⟨_, rfl, qzc5, ?_⟩
          replace hHeld := qzc5
          replace bW := bW.trans (bzc5.mono bW.size)
          replace bX := bX.trans (bzc5.mono bX.size)
          clear qzc5 bzc5
          try simp only [Act.put, sI, sZ, sS]
          refine call_op (i := 7) (d := 85) (OP := Op.call { callee := Callee.value (Operand.func 20), args := #[Operand.tmp 84], argTypes := #[28] }) (T := 3) (f := 20) (args := #[.int .i64 0]) rfl rfl rfl rfl (by kernel_rfl) (by rfl) (by go_simp) ?_
          refine (tkN _).mono ?_
          rintro e zc7 ⟨rfl, bzc7⟩
          have qzc7 : zc7.cell? ⟨Bx, 0, none⟩ = some (.pointer p1) ∧ zc7.cell? ⟨Pb, 1, none⟩ = some (.string X) ∧ zc7.cell? ⟨Yb, 0, none⟩ = some (.int .i64 g) ∧ zc7.cell? ⟨Yb, 1, none⟩ = some (.int .i64 r) ∧ zc7.cell? ⟨Yb, 2, none⟩ = some (.string lb) ∧ zc7.cell? ⟨Yb, 3, none⟩ = some (.int .i64 n) ∧ zc7.cell? ⟨Yb, 4, none⟩ = some (.int .i64 ix) ∧ zc7.cell? ⟨Yb, 5, none⟩ = some (.string X) := ⟨cell_stays hHeld.1 bzc7, cell_stays hHeld.2.1 bzc7, cell_stays hHeld.2.2.1 bzc7, cell_stays hHeld.2.2.2.1 bzc7, cell_stays hHeld.2.2.2.2.1 bzc7, cell_stays hHeld.2.2.2.2.2.1 bzc7, cell_stays hHeld.2.2.2.2.2.2.1 bzc7, cell_stays hHeld.2.2.2.2.2.2.2 bzc7⟩
          refine ⟨_, rfl, qzc7, ?_⟩
          replace hHeld := qzc7
          replace bW := bW.trans (bzc7.mono bW.size)
          replace bX := bX.trans (bzc7.mono bX.size)
          replace r10 := r10.below bzc7
          clear qzc7 bzc7
          try simp only [Act.put, sI, sZ, sS]
          refine take_op (i := 8) (d := 86) (OP := Op.binOp BinOp.eql 3 (Operand.tmp 85) (Operand.const (Value.int IntKind.i64 0)) 3) (T := 4) (v := ?vzd31) rfl rfl rfl rfl (by kernel_rfl) (by kernel_rfl) (by kernel_rfl) (fun _ _ _ h => h) (by rfl) ?hzd31 hHeld ?rzd31
          case hzd31 => (intro w' hSw; (try dsimp only at hSw); go_simp <;> with_reducible rfl)
          try simp only [Act.put, sI, sZ, sS]
          refine take_op (i := 9) (d := 87) (OP := Op.move (Operand.tmp 86)) (T := 4) (v := ?vzd32) rfl rfl rfl rfl (by kernel_rfl) (by kernel_rfl) (by kernel_rfl) (fun _ _ _ h => h) (by rfl) ?hzd32 hHeld ?rzd32
          case hzd32 => (intro w' hSw; (try dsimp only at hSw); go_simp <;> with_reducible rfl)
          try simp only [Act.put, sI, sZ, sS]
          refine take_op (i := 10) (d := 88) (OP := Op.load 27 (Operand.tmp 10)) (T := 27) (v := ?vzd33) rfl rfl rfl rfl (by kernel_rfl) (by kernel_rfl) (by kernel_rfl) (fun _ _ _ h => h) (by rfl) ?hzd33 hHeld ?rzd33
          case hzd33 => (intro w' hSw; (try dsimp only at hSw); go_simp <;> with_reducible rfl)
          try simp only [Act.put, sI, sZ, sS]
          refine take_op (i := 11) (d := 89) (OP := Op.fieldAddr 45 (Operand.tmp 5) 1) (T := 0) (v := ?vzd34) rfl rfl rfl rfl (by kernel_rfl) (by kernel_rfl) (by kernel_rfl) (fun _ _ _ h => h) (by rfl) ?hzd34 hHeld ?rzd34
          case hzd34 => (intro w' hSw; (try dsimp only at hSw); go_simp <;> with_reducible rfl)
          try simp only [Act.put, sI, sZ, sS]
          refine take_op (i := 12) (d := 90) (OP := Op.load 9 (Operand.tmp 89)) (T := 9) (v := ?vzd35) rfl rfl rfl rfl (by kernel_rfl) (by kernel_rfl) (by kernel_rfl) (fun _ _ _ h => h) (by rfl) ?hzd35 hHeld ?rzd35
          case hzd35 => (intro w' hSw; (try dsimp only at hSw); go_simp <;> with_reducible rfl)
          try simp only [Act.put, sI, sZ, sS]
          refine call_op (i := 13) (d := 91) (OP := Op.call { callee := Callee.value (Operand.func 36), args := #[Operand.tmp 88, Operand.tmp 90], argTypes := #[27, 9] }) (T := 4) (f := 36) (args := #[.agg #[.pointer p1], .string X]) rfl rfl rfl rfl (by kernel_rfl) (by rfl) (by go_simp) ?_
          refine (kH _ bW).mono ?_
          rintro e zc13 ⟨rfl, bzc13⟩
          have qzc13 : zc13.cell? ⟨Bx, 0, none⟩ = some (.pointer p1) ∧ zc13.cell? ⟨Pb, 1, none⟩ = some (.string X) ∧ zc13.cell? ⟨Yb, 0, none⟩ = some (.int .i64 g) ∧ zc13.cell? ⟨Yb, 1, none⟩ = some (.int .i64 r) ∧ zc13.cell? ⟨Yb, 2, none⟩ = some (.string lb) ∧ zc13.cell? ⟨Yb, 3, none⟩ = some (.int .i64 n) ∧ zc13.cell? ⟨Yb, 4, none⟩ = some (.int .i64 ix) ∧ zc13.cell? ⟨Yb, 5, none⟩ = some (.string X) := ⟨cell_stays hHeld.1 bzc13, cell_stays hHeld.2.1 bzc13, cell_stays hHeld.2.2.1 bzc13, cell_stays hHeld.2.2.2.1 bzc13, cell_stays hHeld.2.2.2.2.1 bzc13, cell_stays hHeld.2.2.2.2.2.1 bzc13, cell_stays hHeld.2.2.2.2.2.2.1 bzc13, cell_stays hHeld.2.2.2.2.2.2.2 bzc13⟩
          refine ⟨_, rfl, qzc13, ?_⟩
          replace hHeld := qzc13
          replace bW := bW.trans (bzc13.mono bW.size)
          replace bX := bX.trans (bzc13.mono bX.size)
          replace r10 := r10.below bzc13
          clear qzc13 bzc13
          try simp only [Act.put, sI, sZ, sS]
          refine take_op (i := 14) (d := 92) (OP := Op.pick (Operand.tmp 87) (Operand.tmp 91) (Operand.const (Value.bool false))) (T := 4) (v := ?vzd36) rfl rfl rfl rfl (by kernel_rfl) (by kernel_rfl) (by kernel_rfl) (fun _ _ _ h => h) (by rfl) ?hzd36 hHeld ?rzd36
          case hzd36 => (intro w' hSw; (try dsimp only at hSw); go_simp <;> with_reducible rfl)
          try simp only [Act.put, sI, sZ, sS]
          obtain ⟨u6, o6⟩ := set_one (i := 0) (.pointer p1) (HR.out _ bW)
          have hS6 : (zc13.setCell ⟨Rb, 0, none⟩ (.pointer p1)).cell? ⟨Bx, 0, none⟩ = some (.pointer p1) ∧ (zc13.setCell ⟨Rb, 0, none⟩ (.pointer p1)).cell? ⟨Pb, 1, none⟩ = some (.string X) ∧ (zc13.setCell ⟨Rb, 0, none⟩ (.pointer p1)).cell? ⟨Yb, 0, none⟩ = some (.int .i64 g) ∧ (zc13.setCell ⟨Rb, 0, none⟩ (.pointer p1)).cell? ⟨Yb, 1, none⟩ = some (.int .i64 r) ∧ (zc13.setCell ⟨Rb, 0, none⟩ (.pointer p1)).cell? ⟨Yb, 2, none⟩ = some (.string lb) ∧ (zc13.setCell ⟨Rb, 0, none⟩ (.pointer p1)).cell? ⟨Yb, 3, none⟩ = some (.int .i64 n) ∧ (zc13.setCell ⟨Rb, 0, none⟩ (.pointer p1)).cell? ⟨Yb, 4, none⟩ = some (.int .i64 ix) ∧ (zc13.setCell ⟨Rb, 0, none⟩ (.pointer p1)).cell? ⟨Yb, 5, none⟩ = some (.string X) := ⟨o6.cell hHeld.1 (fun e => by have := HNE.out; simp only at e; omega), o6.cell hHeld.2.1 (fun e => by have := HNE.out; simp only at e; omega), o6.cell hHeld.2.2.1 (fun e => by have := HNE.out; simp only at e; omega), o6.cell hHeld.2.2.2.1 (fun e => by have := HNE.out; simp only at e; omega), o6.cell hHeld.2.2.2.2.1 (fun e => by have := HNE.out; simp only at e; omega), o6.cell hHeld.2.2.2.2.2.1 (fun e => by have := HNE.out; simp only at e; omega), o6.cell hHeld.2.2.2.2.2.2.1 (fun e => by have := HNE.out; simp only at e; omega), o6.cell hHeld.2.2.2.2.2.2.2 (fun e => by have := HNE.out; simp only at e; omega)⟩
          refine skip_op (i := 15) (OP := Op.store 27 (Operand.tmp 6) (Operand.tmp 78)) (T := 0) (w' := zc13.setCell ⟨Rb, 0, none⟩ (.pointer p1)) rfl rfl rfl rfl (by kernel_rfl) (by rfl) (exec_st27 rfl rfl ((cell_of_row _ _ 0 _ 27 (0, 0) (HR.out _ bW)).trans rfl) (frozen_of_row _ _ 0 _ 27 (HR.out _ bW))) ⟨hS6, ?_⟩
          try simp only [Act.put, sI, sZ, sS]
          replace hHeld := hS6
          clear hS6
          refine take_op (i := 16) (d := 7) (OP := Op.assign (Operand.tmp 83)) (T := 22) (v := ?vzd37) rfl rfl rfl rfl (by kernel_rfl) (by kernel_rfl) (by kernel_rfl) (fun _ _ _ h => h) (by rfl) ?hzd37 hHeld ?rzd37
          case hzd37 => (intro w' hSw; (try dsimp only at hSw); go_simp <;> with_reducible rfl)
          try simp only [Act.put, sI, sZ, sS]
          refine take_op (i := 17) (d := 8) (OP := Op.assign (Operand.tmp 92)) (T := 4) (v := ?vzd38) rfl rfl rfl rfl (by kernel_rfl) (by kernel_rfl) (by kernel_rfl) (fun _ _ _ h => h) (by rfl) ?hzd38 hHeld ?rzd38
          case hzd38 => (intro w' hSw; (try dsimp only at hSw); go_simp <;> with_reducible rfl)
          try simp only [Act.put, sI, sZ, sS]
          refine wpAnyH_done (by kernel_rfl) ?_ _
          have b0W := H3.out.2.1.trans (bW.mono H3.out.2.1.size)
          obtain ⟨q1, q2, q3, q4⟩ := HI.out.row _ b0W
          have HE := hide (And.intro u6 (And.intro (Below.only q4 o6 q4.size (fun j e => by have e' : j = Rb := e; have := HI.out.ge; omega)) (And.intro ((H3.out.2.2.2.below bW).aside q1 o6) (r10.aside q1 o6))))
          clear u6 o6 hHeld bW bX bS q1 q2 q3 q4 b0W HS HR HNE kH tkN kSo hap r10 r9
          go_wp2
          refine ret_row_t3 Rb [.pointer p1] rfl rfl rfl rfl Tryz.underlying27 rfl T27 (by simpa using HE.out.1) rfl ?_
          exact ⟨t1, p1, a10, c10, HM1.out.1, by rw [← HN1.out]; rfl, HE.out.2.2.1, HL1.out.2.1, HE.out.2.2.2, by rw [← Pm.T.n_eq, ← Pm.T.n_eq, HM1.out.2.1]; exact Pm.ins_len _ _ _, HE.out.2.1⟩
end Go.Proofs.YtkkpdgfllnbigaaGreat.Tg
