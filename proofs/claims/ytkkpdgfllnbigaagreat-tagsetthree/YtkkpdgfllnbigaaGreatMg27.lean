/-
  tagset: Three (34) of maps that lie apart; Three with a map that may not be.
  register: the chapter's rows (known 32).
-/
import Derived.Test.YtkkpdgfllnbigaaGreatMg26
import Derived.Test.YtkkpdgfllnbigaaGreatMg22
import Derived.Test.YtkkpdgfllnbigaaGreatTgO
import Derived.Test.YtkkpdgfllnbigaaGreatMg17
import Derived.Deep.DeepCutAuto
import Derived.Deep.CutBlock
namespace Go.Proofs.YtkkpdgfllnbigaaGreat.Tg
open Go.RowKit Go.Shelf
set_option linter.unusedSimpArgs false
set_option linter.unusedVariables false
attribute [local go_sem] Oper.semAt_some

set_option maxHeartbeats 8000000 in
set_option maxRecDepth 100000 in
theorem three34 {w : World} {x y z : Pm.T} {px py pz : Option Addr} (hx : Mg w x) (hpx : x.ptr = .pointer px) (hy : Mg w y) (hpy : y.ptr = .pointer py) (hz : Mg w z) (hpz : z.ptr = .pointer pz) (hmx : mayT x.list = true) (hmy : mayT y.list = true) (hmz : mayT z.list = true) (hap : Pm.Apart x y) (hn : y.n + z.n ≤ 400) : Calls Tryz.prog 34 #[.agg #[.pointer px], .agg #[.pointer py], .agg #[.pointer pz]] w fun e w' => ∃ t pt, t.ptr = .pointer pt ∧ e = .returned (.tuple #[.agg #[.pointer pt], .int .i64 0]) ∧ Mg w' t ∧ (∀ k, Pm.look k t.list = Pm.keeps (Pm.look k x.list) (Pm.look k y.list) (Pm.look k z.list)) ∧ Below w.heap.size w w' := by
  have hm1 : ∀ W, Below w.heap.size w W → Calls Tryz.prog 28 #[.agg #[.pointer px]] W fun e w' => e = .returned (.bool (mayT x.list)) ∧ Below W.heap.size W w' := fun W hW => may28 (hx.below hW) hpx
  have hm2 : ∀ W, Below w.heap.size w W → Calls Tryz.prog 28 #[.agg #[.pointer py]] W fun e w' => e = .returned (.bool (mayT y.list)) ∧ Below W.heap.size W w' := fun W hW => may28 (hy.below hW) hpy
  have hm3 : ∀ W, Below w.heap.size w W → Calls Tryz.prog 28 #[.agg #[.pointer pz]] W fun e w' => e = .returned (.bool (mayT z.list)) ∧ Below W.heap.size W w' := fun W hW => may28 (hz.below hW) hpz
  rw [hmx] at hm1
  rw [hmy] at hm2
  rw [hmz] at hm3
  have hrun : ∀ W, Below w.heap.size w W → Calls Tryz.prog 132 #[.agg #[.pointer px], .agg #[.pointer py], .agg #[.pointer pz]] W fun e w' => ∃ t pt n1 n2 n3, t.ptr = .pointer pt ∧ e = .returned (.tuple #[.agg #[.pointer pt], .agg #[.int .i64 n1, .int .i64 n2, .int .i64 n3]]) ∧ Mg w' t ∧ (∀ k, Pm.look k t.list = Pm.keeps (Pm.look k x.list) (Pm.look k y.list) (Pm.look k z.list)) ∧ Below W.heap.size W w' := fun W hW => by
    have := Pm.elements_apart x y z W (trioA (hx.below hW) (hy.below hW) (hz.below hW)) hap
    unfold Pm.mv at this
    rw [hpx, hpy, hpz] at this
    refine this.mono fun e w' hh => ?_
    obtain ⟨t, ks, he, -, hi, hs, hb⟩ := hh
    obtain ⟨pt, hpt⟩ := t.ptr_shape
    rw [hpt] at he
    refine ⟨t, pt, _, _, _, hpt, he, ⟨hi, hs.srt, hs.bal, by have := hs.tn; omega, fun u hu => ?_⟩, hs.look, hb⟩
    rcases hs.keys u hu with ⟨v, hv, e⟩ | ⟨v, hv, e⟩
    · rw [← e]; exact hy.key v hv
    · rw [← e]; exact hz.key v hv
  have HRUN := hide hrun
  obtain ⟨w0, hw0⟩ : ∃ w0, w0 = (((w.alloc (.cells #[.pointer px] 27)).alloc (.cells #[.pointer py] 27)).alloc (.cells #[.pointer pz] 27)).alloc (.cells #[.pointer none] 27) := ⟨_, rfl⟩
  have hnn := Pm.new4 w (.cells #[.pointer px] 27) (.cells #[.pointer py] 27) (.cells #[.pointer pz] 27) (.cells #[.pointer none] 27)
  rw [← hw0] at hnn
  obtain ⟨m0, m1, m2, m3, b0⟩ := hnn
  have HC : Hid (∀ W, Below w0.heap.size w0 W → W.cell? ⟨w.heap.size, 0, none⟩ = some (.pointer px) ∧ W.cell? ⟨w.heap.size + 1, 0, none⟩ = some (.pointer py) ∧ W.cell? ⟨w.heap.size + 1 + 1, 0, none⟩ = some (.pointer pz) ∧ Below w.heap.size w W) := hide (fun W hW => ⟨cell_stays ((cell_of_row _ _ 0 _ 27 (0, 0) m0).trans rfl) hW, cell_stays ((cell_of_row _ _ 0 _ 27 (0, 0) m1).trans rfl) hW, cell_stays ((cell_of_row _ _ 0 _ 27 (0, 0) m2).trans rfl) hW, b0.trans (hW.mono b0.size)⟩)
  have HR : Hid (∀ W, Below w0.heap.size w0 W → W.heap[w.heap.size + 1 + 1 + 1]? = some (.cells #[.pointer none] 27 (0, 0))) := hide (fun W hW => (hW.block _ (gI m3).1).trans m3)
  have HW0 := hide hw0
  have HB0 := hide b0
  obtain ⟨c0, c1, c2, -⟩ := HC.out w0 (Below.refl _ _)
  clear m0 m1 m2 m3 b0 hw0 hx hy hz hpx hpy hpz hmx hmy hmz hap hrun hn
  go_enter Tryz.func34, Tryz.ntmps34
  go_upto_region 1 with fail
  rw [← HW0.out]
  go_upto_region 4 with (first
    | (go_at_call 28; refine (hm3 w2 H2.out.2).mono ?_; rintro e w3 ⟨rfl, b3⟩; have bb3 := (H2.out.1.trans (b3.mono H2.out.1.size)); obtain ⟨x31, x32, x33, x34⟩ := HC.out w3 bb3; have H3 := hide (And.intro bb3 x34); clear b3 bb3 x34; dsimp only)
    | (go_at_call 28; refine (hm2 w1 H1.out.2).mono ?_; rintro e w2 ⟨rfl, b2⟩; have bb2 := (H1.out.1.trans (b2.mono H1.out.1.size)); obtain ⟨x21, x22, x23, x24⟩ := HC.out w2 bb2; have H2 := hide (And.intro bb2 x24); clear b2 bb2 x24; dsimp only)
    | (go_at_call 28; refine (hm1 w0 HB0.out).mono ?_; rintro e w1 ⟨rfl, b1⟩; have bb1 := b1; obtain ⟨x11, x12, x13, x14⟩ := HC.out w1 bb1; have H1 := hide (And.intro bb1 x14); clear b1 bb1 x14; dsimp only)
    | (go_at_call 132; refine (HRUN.out w3 H3.out.2).mono ?_; rintro e w4 ⟨t, pt, n1, n2, n3, hpt, rfl, mg, hlk, b4⟩; have H4 := hide (And.intro hpt (And.intro mg (And.intro hlk (H3.out.1.trans (b4.mono H3.out.1.size))))); clear hpt mg hlk b4; dsimp only))
  obtain ⟨hpt, mg, hlk, bb4⟩ := H4.out
  obtain ⟨T8, hT8⟩ : ∃ q, q = w4.heap.size := ⟨_, rfl⟩
  obtain ⟨w5, hw5⟩ : ∃ q, q = (w4.alloc (.cells #[.pointer pt] 27)).alloc (.cells #[.int .i64 n1, .int .i64 n2, .int .i64 n3] 136) := ⟨_, rfl⟩
  obtain ⟨n0, -⟩ := new2 w4 (.cells #[.pointer pt] 27) (.cells #[.int .i64 n1, .int .i64 n2, .int .i64 n3] 136)
  have b45 : Below w4.heap.size w4 w5 := by rw [hw5]; exact ((Below.refl _ w4).alloc (Nat.le_refl _) _).alloc (by simp) _
  rw [← hw5, ← hT8] at n0
  rw [← hw5, ← hT8]
  have bb5 := bb4.trans (b45.mono bb4.size)
  have r5 := HR.out w5 bb5
  have x8 : w5.cell? ⟨T8, 0, none⟩ = some (.pointer pt) := (cell_of_row _ _ 0 _ 27 (0, 0) n0).trans rfl
  have c5 : w5.cell? ⟨w.heap.size + 1 + 1 + 1, 0, none⟩ = some (.pointer none) := (cell_of_row _ _ 0 _ 27 (0, 0) r5).trans rfl
  have f5 : w5.frozen? ⟨w.heap.size + 1 + 1 + 1, 0, none⟩ = false := frozen_of_row _ _ 0 _ 27 r5
  obtain ⟨u6, o6⟩ := set_one (i := 0) (.pointer pt) r5
  have bw5 := (HC.out w5 bb5).2.2.2
  have b6 := Below.only bw5 o6 bw5.size (fun j e => by have e' : j = w.heap.size + 1 + 1 + 1 := e; omega)
  have HE := hide (And.intro u6 (And.intro b6 (And.intro ((mg.below b45).aside r5 o6) (And.intro hlk hpt))))
  clear hpt mg hlk bb4 hT8 hw5 n0 b45 bb5 r5 u6 o6 bw5 b6 H4 H3 H2 H1 HRUN hm1 hm2 hm3 c0 c1 c2
  go_wp2
  refine ret_row_tmp (w.heap.size + 1 + 1 + 1) [.pointer pt] rfl rfl rfl Tryz.underlying27 rfl T27 (by simpa using HE.out.1) rfl ?_
  exact ⟨t, pt, HE.out.2.2.2.2, rfl, HE.out.2.2.1, HE.out.2.2.2.1, HE.out.2.1⟩
end Go.Proofs.YtkkpdgfllnbigaaGreat.Tg
namespace Go.Proofs.YtkkpdgfllnbigaaGreat
open Go.RowKit Go.Shelf
set_option linter.unusedSimpArgs false
attribute [local go_sem] Oper.semAt_some

theorem fld53 (a b c d e f : Value) (w : World) : (Instr.field 53 (.agg #[a, b, c, d, e, f]) 0).run Tryz.prog w = .ok (.agg #[a, b, c, d, e]) w := by
  kernel_rfl
theorem exec_fld53 {ev' : Operand → Value} {x : Operand} {T : TypeId} {w : World} {a b c d e f : Value} (hx : ev' x = .agg #[a, b, c, d, e, f]) : (execOp ev' { dst := none, op := .field 53 x 0, type := T, pos := "", after := #[], guard := none }).run Tryz.prog w = .ok (.value (.agg #[a, b, c, d, e])) w := by
  simp [execOp, hx, fld53, Result.andThen]
end Go.Proofs.YtkkpdgfllnbigaaGreat
