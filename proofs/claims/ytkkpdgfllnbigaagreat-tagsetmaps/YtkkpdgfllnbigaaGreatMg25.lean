/-
  tagset: Three (34) of maps that lie apart; Three with a map that may not be.
  register: the chapter's rows (known 32).
-/
import Derived.Test.YtkkpdgfllnbigaaGreatMg24
import Derived.Test.YtkkpdgfllnbigaaGreatMg20
import Derived.Test.YtkkpdgfllnbigaaGreatTgO
import Derived.Test.YtkkpdgfllnbigaaGreatMg14
import Derived.Deep.DeepCutAuto
import Derived.Deep.CutBlock
namespace Go.Proofs.YtkkpdgfllnbigaaGreat.Tg
open Go.RowKit Go.Shelf
set_option linter.unusedSimpArgs false
set_option linter.unusedVariables false
attribute [local go_sem] Oper.semAt_some

set_option maxHeartbeats 4000000 in
set_option maxRecDepth 100000 in
theorem three34_bad {w : World} {x y z : Pm.T} {px py pz : Option Addr} (hx : Mg w x) (hpx : x.ptr = .pointer px) (hy : Mg w y) (hpy : y.ptr = .pointer py) (hz : Mg w z) (hpz : z.ptr = .pointer pz) (hbad : (mayT x.list && mayT y.list && mayT z.list) = false) : Calls Tryz.prog 34 #[.agg #[.pointer px], .agg #[.pointer py], .agg #[.pointer pz]] w fun e w' => e = .returned (.tuple #[.agg #[.pointer none], .int .i64 2]) ∧ Below w.heap.size w w' := by
  have hm1 : ∀ W, Below w.heap.size w W → Calls Tryz.prog 28 #[.agg #[.pointer px]] W fun e w' => e = .returned (.bool (mayT x.list)) ∧ Below W.heap.size W w' := fun W hW => may28 (hx.below hW) hpx
  have hm2 : ∀ W, Below w.heap.size w W → Calls Tryz.prog 28 #[.agg #[.pointer py]] W fun e w' => e = .returned (.bool (mayT y.list)) ∧ Below W.heap.size W w' := fun W hW => may28 (hy.below hW) hpy
  have hm3 : ∀ W, Below w.heap.size w W → Calls Tryz.prog 28 #[.agg #[.pointer pz]] W fun e w' => e = .returned (.bool (mayT z.list)) ∧ Below W.heap.size W w' := fun W hW => may28 (hz.below hW) hpz
  clear hx hy hz hpx hpy hpz
  generalize mayT x.list = A at *
  generalize mayT y.list = B at *
  generalize mayT z.list = C at *
  obtain ⟨w0, hw0⟩ : ∃ w0, w0 = (((w.alloc (.cells #[.pointer px] 27)).alloc (.cells #[.pointer py] 27)).alloc (.cells #[.pointer pz] 27)).alloc (.cells #[.pointer none] 27) := ⟨_, rfl⟩
  have hn := Pm.new4 w (.cells #[.pointer px] 27) (.cells #[.pointer py] 27) (.cells #[.pointer pz] 27) (.cells #[.pointer none] 27)
  rw [← hw0] at hn
  obtain ⟨m0, m1, m2, m3, b0⟩ := hn
  have HC : Hid (∀ W, Below w0.heap.size w0 W → W.cell? ⟨w.heap.size, 0, none⟩ = some (.pointer px) ∧ W.cell? ⟨w.heap.size + 1, 0, none⟩ = some (.pointer py) ∧ W.cell? ⟨w.heap.size + 1 + 1, 0, none⟩ = some (.pointer pz) ∧ Below w.heap.size w W) := hide (fun W hW => ⟨cell_stays ((cell_of_row _ _ 0 _ 27 (0, 0) m0).trans rfl) hW, cell_stays ((cell_of_row _ _ 0 _ 27 (0, 0) m1).trans rfl) hW, cell_stays ((cell_of_row _ _ 0 _ 27 (0, 0) m2).trans rfl) hW, b0.trans (hW.mono b0.size)⟩)
  have HBAD : Hid (∀ W, Below w0.heap.size w0 W → W.cell? ⟨w.heap.size + 1 + 1 + 1, 0, none⟩ = some (.pointer none) ∧ W.frozen? ⟨w.heap.size + 1 + 1 + 1, 0, none⟩ = false ∧ Hid ((W.setCell ⟨w.heap.size + 1 + 1 + 1, 0, none⟩ (.pointer none)).heap[w.heap.size + 1 + 1 + 1]? = some (.cells #[.pointer none] 27 (0, 0)) ∧ Below w.heap.size w (W.setCell ⟨w.heap.size + 1 + 1 + 1, 0, none⟩ (.pointer none)))) := hide (fun W hW => by
    have q2 := (hW.block _ (gI m3).1).trans m3
    have q3 := b0.trans (hW.mono b0.size)
    obtain ⟨u, o⟩ := set_one (i := 0) (.pointer none) q2
    exact ⟨(cell_of_row _ _ 0 _ 27 (0, 0) q2).trans rfl, frozen_of_row _ _ 0 _ 27 q2, hide ⟨by simpa using u, Below.only q3 o q3.size (fun j e => by have e' : j = w.heap.size + 1 + 1 + 1 := e; omega)⟩⟩)
  have HW0 := hide hw0
  have HB0 := hide b0
  obtain ⟨c0, c1, c2, -⟩ := HC.out w0 (Below.refl _ _)
  clear m0 m1 m2 m3 b0 hw0
  cases A with
  | false =>
    clear hbad
    go_enter Tryz.func34, Tryz.ntmps34
    go_upto_region 1 with fail
    rw [← HW0.out]
    go_wp2_with (first
      | (go_at_call 28; refine (hm1 w0 HB0.out).mono ?_; rintro e w1 ⟨rfl, b1⟩; have bb1 := b1; obtain ⟨x11, x12, x13, x14⟩ := HC.out w1 bb1; obtain ⟨y11, y12, HY⟩ := HBAD.out w1 bb1; have H1 := hide (And.intro bb1 x14); clear b1 bb1 x14; dsimp only))
    refine ret_row_tmp (w.heap.size + 1 + 1 + 1) [.pointer none] rfl rfl rfl Tryz.underlying27 rfl T27 HY.out.1 rfl ?_
    exact ⟨rfl, HY.out.2⟩
  | true =>
    cases B with
    | false =>
      clear hbad
      go_enter Tryz.func34, Tryz.ntmps34
      go_upto_region 1 with fail
      rw [← HW0.out]
      go_wp2_with (first
        | (go_at_call 28; refine (hm2 w1 H1.out.2).mono ?_; rintro e w2 ⟨rfl, b2⟩; have bb2 := (H1.out.1.trans (b2.mono H1.out.1.size)); obtain ⟨x21, x22, x23, x24⟩ := HC.out w2 bb2; obtain ⟨y21, y22, HY⟩ := HBAD.out w2 bb2; have H2 := hide (And.intro bb2 x24); clear b2 bb2 x24; dsimp only)
        | (go_at_call 28; refine (hm1 w0 HB0.out).mono ?_; rintro e w1 ⟨rfl, b1⟩; have bb1 := b1; obtain ⟨x11, x12, x13, x14⟩ := HC.out w1 bb1; obtain ⟨y11, y12, HY⟩ := HBAD.out w1 bb1; have H1 := hide (And.intro bb1 x14); clear b1 bb1 x14; dsimp only))
      refine ret_row_tmp (w.heap.size + 1 + 1 + 1) [.pointer none] rfl rfl rfl Tryz.underlying27 rfl T27 HY.out.1 rfl ?_
      exact ⟨rfl, HY.out.2⟩
    | true =>
      cases C with
      | false =>
        clear hbad
        go_enter Tryz.func34, Tryz.ntmps34
        go_upto_region 1 with fail
        rw [← HW0.out]
        go_wp2_with (first
          | (go_at_call 28; refine (hm3 w2 H2.out.2).mono ?_; rintro e w3 ⟨rfl, b3⟩; have bb3 := (H2.out.1.trans (b3.mono H2.out.1.size)); obtain ⟨x31, x32, x33, x34⟩ := HC.out w3 bb3; obtain ⟨y31, y32, HY⟩ := HBAD.out w3 bb3; have H3 := hide (And.intro bb3 x34); clear b3 bb3 x34; dsimp only)
          | (go_at_call 28; refine (hm2 w1 H1.out.2).mono ?_; rintro e w2 ⟨rfl, b2⟩; have bb2 := (H1.out.1.trans (b2.mono H1.out.1.size)); obtain ⟨x21, x22, x23, x24⟩ := HC.out w2 bb2; obtain ⟨y21, y22, HY⟩ := HBAD.out w2 bb2; have H2 := hide (And.intro bb2 x24); clear b2 bb2 x24; dsimp only)
          | (go_at_call 28; refine (hm1 w0 HB0.out).mono ?_; rintro e w1 ⟨rfl, b1⟩; have bb1 := b1; obtain ⟨x11, x12, x13, x14⟩ := HC.out w1 bb1; obtain ⟨y11, y12, HY⟩ := HBAD.out w1 bb1; have H1 := hide (And.intro bb1 x14); clear b1 bb1 x14; dsimp only))
        refine ret_row_tmp (w.heap.size + 1 + 1 + 1) [.pointer none] rfl rfl rfl Tryz.underlying27 rfl T27 HY.out.1 rfl ?_
        exact ⟨rfl, HY.out.2⟩
      | true => cases hbad
end Go.Proofs.YtkkpdgfllnbigaaGreat.Tg
namespace Go.Proofs.YtkkpdgfllnbigaaGreat
open Go.RowKit Go.Shelf
set_option linter.unusedSimpArgs false
attribute [local go_sem] Oper.semAt_some

theorem fld53 (a b c d e f : Value) (w : World) : (Instr.field 53 (.agg #[a, b, c, d, e, f]) 0).run Tryz.prog w = .ok (.agg #[a, b, c, d, e]) w := by
  kernel_rfl
theorem exec_fld53 {ev' : Operand → Value} {x : Operand} {T : TypeId} {w : World} {a b c d e f : Value} (hx : ev' x = .agg #[a, b, c, d, e, f]) : (execOp ev' { dst := none, op := .field 53 x 0, type := T, pos := "", after := #[], guard := none }).run Tryz.prog w = .ok (.value (.agg #[a, b, c, d, e])) w := by
  simp [execOp, hx, fld53, Result.andThen]
end Go.Proofs.YtkkpdgfllnbigaaGreat
