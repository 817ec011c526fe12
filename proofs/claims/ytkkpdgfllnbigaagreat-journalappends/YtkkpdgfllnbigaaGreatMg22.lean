/-
  journal: goes (104).
  journal: the document's Behind, May, Sorted.
  journal: what is gone over from a stamp on, against the law's own list.
-/
import Derived.Test.YtkkpdgfllnbigaaGreatMg19
import Derived.Test.YtkkpdgfllnbigaaGreatJoA
import Derived.Test.YtkkpdgfllnbigaaGreatMg21
namespace Go.Proofs.YtkkpdgfllnbigaaGreat.Jo
open Go.RowKit Go.Shelf
set_option linter.unusedSimpArgs false
attribute [local go_sem] Oper.semAt_some

set_option maxHeartbeats 8000000 in
set_option maxRecDepth 100000 in
theorem jgoes_all {w : World} {t : Pm.T} {L Sb : Nat} {sT : St} {ao : Option Addr} {c : Nat} {lv : Int} {xs : List El} (h : Mg w t) (hxs : xs = sinL t.list sT) (hx1 : xs.length ≤ 1000) (hL : w.cell? ⟨L, 0, none⟩ = some t.ptr) (hLlt : L < w.heap.size) (hSb : w.heap[Sb]? = some (.cells #[.int .i64 sT.1, .int .i64 sT.2.1, .string sT.2.2.1, .int .i64 sT.2.2.2.1, .int .i64 sT.2.2.2.2] 43 (0, 0))) (hre : Re w ao xs) : Calls Tryz.prog 104 #[.func (.func 162) #[] #[.pointer (some ⟨Sb, 0, none⟩), .pointer (some ⟨L, 0, none⟩)], .slice ao xs.length c, .int .i64 lv] w fun e w' => e = .returned (.bool true) ∧ Below w.heap.size w w' := by
  have mixed : Tryz.prog.follows .mixedOrders = true := by kernel_rfl
  have hnf := fn_nil86
  obtain ⟨N, hN⟩ : ∃ N, N = xs.length := ⟨_, rfl⟩
  rw [← hN] at hx1 ⊢
  obtain ⟨w0, hw0⟩ : ∃ w0, w0 = (((w.alloc (.cells #[.slice ao N c] 22)).alloc (.cells #[.int .i64 lv] 3)).alloc (.cells #[.bool false] 4)).alloc (.cells #[.int .i64 0] 3) := ⟨_, rfl⟩
  have hn := Pm.new4 w (.cells #[.slice ao N c] 22) (.cells #[.int .i64 lv] 3) (.cells #[.bool false] 4) (.cells #[.int .i64 0] 3)
  rw [← hw0] at hn
  obtain ⟨m0, m1, m2, m3, b0⟩ := hn
  have s0 : w0.heap.size = w.heap.size + 4 := by rw [hw0]; simp
  have hit := iterSince t L Sb sT w0 (Pm.In.below b0 h.inn) h.srt h.key (cell_stays hL b0) ((b0.block _ (gI hSb).1).trans hSb)
  rw [← hxs] at hit
  have hKlt : ∀ j, KS t L Sb j → j < w.heap.size := fun j hj => by
    rcases hj with rfl | rfl | hj
    · omega
    · exact (gI hSb).1
    · exact h.inn.blk_lt hj
  have HW0 := hide hw0
  obtain ⟨Ab, hAb⟩ : ∃ q, q = w.heap.size := ⟨_, rfl⟩
  obtain ⟨Nb, hNb⟩ : ∃ q, q = w.heap.size + 1 + 1 + 1 := ⟨_, rfl⟩
  obtain ⟨Rb, hRb⟩ : ∃ q, q = w.heap.size + 1 + 1 := ⟨_, rfl⟩
  obtain ⟨Lb, hLb⟩ : ∃ q, q = w.heap.size + 1 := ⟨_, rfl⟩
  have HZ : Hid (Ab = w.heap.size ∧ Lb = w.heap.size + 1 ∧ Rb = w.heap.size + 2 ∧ Nb = w.heap.size + 3 ∧ w0.heap.size = w.heap.size + 4) := hide ⟨hAb, hLb, hRb, hNb, s0⟩
  have HLB := hide (And.intro hNb (And.intro hRb (And.intro hLb hAb)))
  rw [← hNb] at m3
  rw [← hRb] at m2
  rw [← hLb] at m1
  rw [← hAb] at m0
  have HM := hide (And.intro m0 (And.intro m1 (And.intro m2 (And.intro m3 (And.intro b0 (And.intro hre hN))))))
  have HK := hide hKlt
  have HIT := hide hit
  have HNN := hide hx1
  clear hw0 m0 m1 m2 m3 b0 s0 h hxs hL hSb hAb hNb hRb hLb hre hN hKlt hit hx1
  refine calls_marks Tryz.func104 rfl ?_
  simp only [Tryz.ntmps104, List.size_toArray, List.length_cons, List.length_nil, Nat.reduceAdd, Nat.reduceSub, Array.replicate_succ, Array.replicate_zero, List.push_toArray, List.append_toArray, List.nil_append, List.cons_append]
  go_upto_region 4 with fail
  rw [← HW0.out]
  rw [← HLB.out.1, ← HLB.out.2.1, ← HLB.out.2.2.1, ← HLB.out.2.2.2]
  clear HW0 hnf
  go_wp2
  refine range_ib (Q := _) 162 enters162 _ xs encS _ HIT.out rfl (fun _ _ => rfl) (fun j hj => by have := HK.out j hj; have := HZ.out; omega) (fun j => j = Nb ∨ j = Rb) (fun j e hj => by have := HK.out j hj; have := HZ.out; have e' : j = Nb ∨ j = Rb := e; omega) (fun j e => by have := HZ.out; have e' : j = Nb ∨ j = Rb := e; omega)
    (fun B k W => k ≤ N ∧ GoI w0 Nb k W) (fun _ cd W => cd = .ret ∧ Only (fun j => j = Nb ∨ j = Rb ∨ w0.heap.size ≤ j) w0 W ∧ W.heap[Rb]? = some (.cells #[.bool true] 4 (0, 0)))
    (fun B k W W' hB hi ho => ⟨hi.1, hi.2.1.trans ho (fun j _ e => by have e' : w0.heap.size + 1 ≤ j ∧ j < B := e; show j = Nb ∨ w0.heap.size ≤ j; omega), (ho.block _ (gI hi.2.2).1 (fun e => by have := HZ.out; have e' : w0.heap.size + 1 ≤ Nb ∧ Nb < B := e; omega)).trans hi.2.2⟩)
    (fun B cd W W' hB hi ho => ⟨hi.1, hi.2.1.trans ho (fun j _ e => by have e' : w0.heap.size + 1 ≤ j ∧ j < B := e; show j = Nb ∨ j = Rb ∨ w0.heap.size ≤ j; omega), (ho.block _ (gI hi.2.2).1 (fun e => by have := HZ.out; have e' : w0.heap.size + 1 ≤ Rb ∧ Rb < B := e; omega)).trans hi.2.2⟩)
    (fun B W hb hB => ⟨Nat.zero_le _, below_only hb, (hb.block _ (by have := HZ.out; omega)).trans HM.out.2.2.2.1⟩) ?hround ?hdone ?hstop
  case hdone =>
    rintro B W hB ⟨-, hi, r3⟩ hlt hk0
    rw [← HM.out.2.2.2.2.2.2] at r3
    obtain ⟨m0, m1, m2, m3, b0, -, -⟩ := HM.out
    obtain ⟨z1, z2, z3, z4, z5⟩ := HZ.out
    have r0 := (hi.block _ (by omega) (fun e => by have e' : Ab = Nb ∨ w0.heap.size ≤ Ab := e; omega)).trans m0
    have r2 := (hi.block _ (by omega) (fun e => by have e' : Rb = Nb ∨ w0.heap.size ≤ Rb := e; omega)).trans m2
    have q0 : W.cell? ⟨Ab, 0, none⟩ = some (.slice ao N c) := (cell_of_row _ _ 0 _ 22 (0, 0) r0).trans rfl
    have q3 : W.cell? ⟨Nb, 0, none⟩ = some (.int .i64 (N : Nat)) := (cell_of_row _ _ 0 _ 3 (0, 0) r3).trans rfl
    have q2 : W.cell? ⟨Rb, 0, none⟩ = some (.bool false) := (cell_of_row _ _ 0 _ 4 (0, 0) r2).trans rfl
    have f2 : W.frozen? ⟨Rb, 0, none⟩ = false := frozen_of_row _ _ 0 _ 4 r2
    obtain ⟨u, o⟩ := set_one (i := 0) (.bool true) r2
    have bW : Below w.heap.size w W := Below.only b0 hi b0.size (fun j e => by have e' : j = Nb ∨ w0.heap.size ≤ j := e; omega)
    have bT := Below.only bW o bW.size (fun j e => by have e' : j = Rb := e; omega)
    have kT := (o.block _ hlt (fun e => by have e' : w0.heap.size = Rb := e; omega)).trans hk0
    have o1 := only_putObj (W.setCell ⟨Rb, 0, none⟩ (.bool true)) w0.heap.size (.deferred none)
    have cT : (W.setCell ⟨Rb, 0, none⟩ (.bool true)).cell? ⟨Rb, 0, none⟩ = some (.bool true) := (cell_of_row _ _ 0 _ 4 (0, 0) u).trans (by simp)
    have HE := hide (And.intro kT (And.intro (o1.cell cT (fun e => by have e' : Rb = w0.heap.size := e; omega)) (Below.only bT o1 bT.size (fun j e => by have e' : j = w0.heap.size := e; omega))))
    clear hi hlt hk0 m0 m1 m2 m3 b0 z1 z2 z3 z4 z5 r0 r2 r3 u o bW bT kT o1 cT HM HIT HK
    go_wp2
    refine ret_lv ?_
    dsimp only
    exact leave_mark HE.out.1 (leave_cell Rb (x := true) rfl rfl HE.out.2.1 ⟨rfl, HE.out.2.2⟩)
  case hstop =>
    rintro B cd W hB ⟨rfl, hi, r2⟩ hlt hk0
    obtain ⟨m0, m1, m2, m3, b0, -, -⟩ := HM.out
    obtain ⟨z1, z2, z3, z4, z5⟩ := HZ.out
    have bW : Below w.heap.size w W := Below.only b0 hi b0.size (fun j e => by have e' : j = Nb ∨ j = Rb ∨ w0.heap.size ≤ j := e; omega)
    have o1 := only_putObj W w0.heap.size (.deferred none)
    have cT : W.cell? ⟨Rb, 0, none⟩ = some (.bool true) := (cell_of_row _ _ 0 _ 4 (0, 0) r2).trans rfl
    have HE := hide (And.intro hk0 (And.intro (o1.cell cT (fun e => by have e' : Rb = w0.heap.size := e; omega)) (Below.only bW o1 bW.size (fun j e => by have e' : j = w0.heap.size := e; omega))))
    clear hi hlt hk0 m0 m1 m2 m3 b0 z1 z2 z3 z4 z5 r2 bW o1 cT HM HIT HK
    go_wp2
    refine ret_lv ?_
    dsimp only
    exact leave_mark HE.out.1 (leave_cell Rb (x := true) rfl rfl HE.out.2.1 ⟨rfl, HE.out.2.2⟩)
  case hround =>
    rintro B k ⟨s, x⟩ W hB hx ⟨hc, hi, r3⟩ hSame hsz
    obtain ⟨sg, sr, sl, sn, si⟩ := s
    have hcl : k < N := by rw [HM.out.2.2.2.2.2.2]; exact (List.getElem?_eq_some_iff.1 hx).1
    clear hSame
    dsimp only [encS, svT]
    gi_wp2
    obtain ⟨W1, hW1⟩ : ∃ W1, W1 = W.alloc (.cells #[.int .i64 sg, .int .i64 sr, .string sl, .int .i64 sn, .int .i64 si] 43) := ⟨_, rfl⟩
    have r1 := heap_alloc_new W (.cells #[.int .i64 sg, .int .i64 sr, .string sl, .int .i64 sn, .int .i64 si] 43)
    have b1 : Below W.heap.size W W1 := by rw [hW1]; exact (Below.refl _ W).alloc (Nat.le_refl _) _
    rw [← hW1] at r1 ⊢
    refine ⟨below_only b1, fun W2 ho2 => ?_⟩
    obtain ⟨z1, z2, z3, z4, z5⟩ := HZ.out
    obtain ⟨m0, m1, m2, m3, b0, hre, hN⟩ := HM.out
    have on2 : Only (fun j => j = Nb ∨ w0.heap.size ≤ j) w0 W2 := (hi.next (below_only b1)).trans ho2 (fun j hj e => by have e' : j = w0.heap.size + 1 := e; show j = Nb ∨ w0.heap.size ≤ j; omega)
    have rN := (ho2.block _ (by have := (gI r3).1; have := b1.size; omega) (fun e => by have e' : Nb = w0.heap.size + 1 := e; omega)).trans ((b1.block _ (gI r3).1).trans r3)
    have r2 := (ho2.block _ (gI r1).1 (fun e => by have e' : W.heap.size = w0.heap.size + 1 := e; omega)).trans r1
    have rA := (on2.block _ (by omega) (fun e => by have e' : Ab = Nb ∨ w0.heap.size ≤ Ab := e; omega)).trans m0
    have rL := (on2.block _ (by omega) (fun e => by have e' : Lb = Nb ∨ w0.heap.size ≤ Lb := e; omega)).trans m1
    have rR := (on2.block _ (by omega) (fun e => by have e' : Rb = Nb ∨ w0.heap.size ≤ Rb := e; omega)).trans m2
    obtain ⟨ab, aoff, rfl, e0, e1, e2, e3, e4, e5⟩ := hre.cells hx
    have hab : ab < w.heap.size := World.block_lt_of_cell? _ _ e0
    have keep : ∀ j v, w.cell? ⟨ab, j, none⟩ = some v → W2.cell? ⟨ab, j, none⟩ = some v := fun j v hv => on2.cell (cell_stays hv b0) (fun e => by have e' : ab = Nb ∨ w0.heap.size ≤ ab := e; omega)
    obtain ⟨Sb, hSb⟩ : ∃ q, q = W.heap.size := ⟨_, rfl⟩
    rw [← hSb] at r2 ⊢
    have hS2 : Sb < W2.heap.size := (gI r2).1
    have HS : Hid (B ≤ Sb ∧ Sb < W2.heap.size ∧ w0.heap.size + 2 ≤ B) := hide ⟨by omega, hS2, hB⟩
    dsimp only at e0 e1 e2 e3 e4 e5
    have qd : W2.drew.cell? ⟨Nb, 0, none⟩ = some (.int .i64 (k : Nat)) ∧ W2.drew.cell? ⟨Ab, 0, none⟩ = some (.slice (some ⟨ab, aoff, none⟩) N c) ∧ W2.drew.cell? ⟨Sb, 0, none⟩ = some (.int .i64 sg) ∧ W2.drew.cell? ⟨Sb, 1, none⟩ = some (.int .i64 sr) ∧ W2.drew.cell? ⟨Sb, 2, none⟩ = some (.string sl) ∧ W2.drew.cell? ⟨Sb, 3, none⟩ = some (.int .i64 sn) ∧ W2.drew.cell? ⟨Sb, 4, none⟩ = some (.int .i64 si) ∧ W2.drew.cell? ⟨ab, aoff + k * 6, none⟩ = some (.int .i64 sg) ∧ W2.drew.cell? ⟨ab, aoff + k * 6 + 1, none⟩ = some (.int .i64 sr) ∧ W2.drew.cell? ⟨ab, aoff + k * 6 + 2, none⟩ = some (.string sl) ∧ W2.drew.cell? ⟨ab, aoff + k * 6 + 3, none⟩ = some (.int .i64 sn) ∧ W2.drew.cell? ⟨ab, aoff + k * 6 + 4, none⟩ = some (.int .i64 si) ∧ W2.drew.cell? ⟨ab, aoff + k * 6 + 5, none⟩ = some (.string x) :=
      ⟨(cell_of_row W2.drew _ 0 _ 3 (0, 0) rN).trans rfl, (cell_of_row W2.drew _ 0 _ 22 (0, 0) rA).trans rfl, (cell_of_row W2.drew _ 0 _ 43 (0, 0) r2).trans rfl, (cell_of_row W2.drew _ 1 _ 43 (0, 0) r2).trans rfl, (cell_of_row W2.drew _ 2 _ 43 (0, 0) r2).trans rfl, (cell_of_row W2.drew _ 3 _ 43 (0, 0) r2).trans rfl, (cell_of_row W2.drew _ 4 _ 43 (0, 0) r2).trans rfl, keep _ _ e0, keep _ _ e1, keep _ _ e2, keep _ _ e3, keep _ _ e4, keep _ _ e5⟩
    have hne := fun W' => run_ne43 (sg, sr, sl, sn, si) (sg, sr, sl, sn, si) W'
    rw [decide_eq_true rfl] at hne
    dsimp only [svT, sv, Bool.not_true] at hne
    have d1 : ¬ (N : Int) ≤ (k : Int) := by omega
    have d2 : (k : Int) < (N : Int) := by omega
    have d3 : decide (N ≤ k) = false := by simp; omega
    have d4 : decide (k < N) = true := by simpa using hcl
    have HX := hide (And.intro rN (And.intro rR (And.intro rL on2)))
    clear rN rA r2 rL rR on2 hre m0 m1 m2 m3 b0 hi r3 hx e0 e1 e2 e3 e4 e5 r1 b1 hW1 ho2 keep hab hSb hS2 hsz z1 z2 z3 z4 z5 hN HIT HK HM
    gi_wp2
    refine region_in (S := fun w' => w'.cell? ⟨Nb, 0, none⟩ = some (.int .i64 (k : Nat)) ∧ w'.cell? ⟨Ab, 0, none⟩ = some (.slice (some ⟨ab, aoff, none⟩) N c) ∧ w'.cell? ⟨Sb, 0, none⟩ = some (.int .i64 sg) ∧ w'.cell? ⟨Sb, 1, none⟩ = some (.int .i64 sr) ∧ w'.cell? ⟨Sb, 2, none⟩ = some (.string sl) ∧ w'.cell? ⟨Sb, 3, none⟩ = some (.int .i64 sn) ∧ w'.cell? ⟨Sb, 4, none⟩ = some (.int .i64 si) ∧ w'.cell? ⟨ab, aoff + k * 6, none⟩ = some (.int .i64 sg) ∧ w'.cell? ⟨ab, aoff + k * 6 + 1, none⟩ = some (.int .i64 sr) ∧ w'.cell? ⟨ab, aoff + k * 6 + 2, none⟩ = some (.string sl) ∧ w'.cell? ⟨ab, aoff + k * 6 + 3, none⟩ = some (.int .i64 sn) ∧ w'.cell? ⟨ab, aoff + k * 6 + 4, none⟩ = some (.int .i64 si) ∧ w'.cell? ⟨ab, aoff + k * 6 + 5, none⟩ = some (.string x)) mixed (by kernel_rfl) (fun _ _ h => h) qd (fun hHeld => ?_)
    clear qd
    have HQ : Hid (W2.drew.heap[Nb]? = some (.cells #[.int .i64 (k : Nat)] 3 (0, 0)) ∧ W2.drew.heap[Rb]? = some (.cells #[.bool false] 4 (0, 0)) ∧ W2.drew.heap[Lb]? = some (.cells #[.int .i64 lv] 3 (0, 0)) ∧ Only (fun j => j = Nb ∨ w0.heap.size ≤ j) w0 W2.drew ∧ Below W2.heap.size W2 W2.drew) := hide ⟨HX.out.1, HX.out.2.1, HX.out.2.2.1, HX.out.2.2.2.next (below_only (drew_below W2)), drew_below W2⟩
    clear HX
    generalize W2.drew = W3 at hHeld HQ ⊢
    refine take_op (i := 0) (d := 15) (OP := Op.load 3 (Operand.tmp 7)) (T := 3) (v := ?v1) rfl rfl rfl rfl (by kernel_rfl) (by kernel_rfl) (by kernel_rfl) (fun _ _ _ h => h) (by rfl) ?h1 hHeld ?r1
    case h1 => (intro w' hSw; (try dsimp only at hSw); go_simp <;> with_reducible rfl)
    try simp only [Act.put, sI, sZ, sS]
    refine take_op (i := 1) (d := 16) (OP := Op.load 22 (Operand.tmp 4)) (T := 22) (v := ?v2) rfl rfl rfl rfl (by kernel_rfl) (by kernel_rfl) (by kernel_rfl) (fun _ _ _ h => h) (by rfl) ?h2 hHeld ?r2
    case h2 => (intro w' hSw; (try dsimp only at hSw); go_simp <;> with_reducible rfl)
    try simp only [Act.put, sI, sZ, sS]
    refine take_op (i := 2) (d := 17) (OP := Op.call { callee := Callee.builtin Builtin.len, args := #[Operand.tmp 16], argTypes := #[22] }) (T := 3) (v := ?v3) rfl rfl rfl rfl (by kernel_rfl) (by kernel_rfl) (by kernel_rfl) (fun _ _ _ h => h) (by rfl) ?h3 hHeld ?r3
    case h3 => (intro w' hSw; (try dsimp only at hSw); go_simp <;> with_reducible rfl)
    try simp only [Act.put, sI, sZ, sS]
    refine take_op (i := 3) (d := 18) (OP := Op.binOp BinOp.geq 3 (Operand.tmp 15) (Operand.tmp 17) 3) (T := 4) (v := ?v4) rfl rfl rfl rfl (by kernel_rfl) (by kernel_rfl) (by kernel_rfl) (fun _ _ _ h => h) (by rfl) ?h4 hHeld ?r4
    case h4 => (intro w' hSw; (try dsimp only at hSw); go_simp <;> with_reducible rfl)
    try simp only [Act.put, sI, sZ, sS]
    refine take_op (i := 4) (d := 19) (OP := Op.move (Operand.tmp 18)) (T := 4) (v := ?v5) rfl rfl rfl rfl (by kernel_rfl) (by kernel_rfl) (by kernel_rfl) (fun _ _ _ h => h) (by rfl) ?h5 hHeld ?r5
    case h5 => (intro w' hSw; (try dsimp only at hSw); go_simp <;> with_reducible rfl)
    try simp only [Act.put, sI, sZ, sS]
    refine take_op (i := 5) (d := 20) (OP := Op.load 22 (Operand.tmp 4)) (T := 22) (v := ?v6) rfl rfl rfl rfl (by kernel_rfl) (by kernel_rfl) (by kernel_rfl) (fun _ _ _ h => h) (by rfl) ?h6 hHeld ?r6
    case h6 => (intro w' hSw; (try dsimp only at hSw); go_simp <;> with_reducible rfl)
    try simp only [Act.put, sI, sZ, sS]
    refine take_op (i := 6) (d := 21) (OP := Op.load 3 (Operand.tmp 7)) (T := 3) (v := ?v7) rfl rfl rfl rfl (by kernel_rfl) (by kernel_rfl) (by kernel_rfl) (fun _ _ _ h => h) (by rfl) ?h7 hHeld ?r7
    case h7 => (intro w' hSw; (try dsimp only at hSw); go_simp <;> with_reducible rfl)
    try simp only [Act.put, sI, sZ, sS]
    refine take_op (i := 7) (d := 22) (OP := Op.indexAddr 22 (Operand.tmp 20) (Operand.tmp 21)) (T := 0) (v := ?v8) rfl rfl rfl rfl (by kernel_rfl) (by kernel_rfl) (by kernel_rfl) (fun _ _ _ h => h) (by rfl) ?h8 hHeld ?r8
    case h8 => (intro w' hSw; (try dsimp only at hSw); go_simp <;> with_reducible rfl)
    try simp only [Act.put, sI, sZ, sS]
    refine take_op (i := 8) (d := 23) (OP := Op.fieldAddr 53 (Operand.tmp 22) 0) (T := 0) (v := ?v9) rfl rfl rfl rfl (by kernel_rfl) (by kernel_rfl) (by kernel_rfl) (fun _ _ _ h => h) (by rfl) ?h9 hHeld ?r9
    case h9 => (intro w' hSw; (try dsimp only at hSw); go_simp <;> with_reducible rfl)
    try simp only [Act.put, sI, sZ, sS]
    refine take_op (i := 9) (d := 24) (OP := Op.load 43 (Operand.tmp 23)) (T := 43) (v := ?v10) rfl rfl rfl rfl (by kernel_rfl) (by kernel_rfl) (by kernel_rfl) (fun _ _ _ h => h) (by rfl) ?h10 hHeld ?r10
    case h10 => (intro w' hSw; (try dsimp only at hSw); go_simp <;> with_reducible rfl)
    try simp only [Act.put, sI, sZ, sS]
    refine take_op (i := 10) (d := 25) (OP := Op.load 43 (Operand.tmp 8)) (T := 43) (v := ?v11) rfl rfl rfl rfl (by kernel_rfl) (by kernel_rfl) (by kernel_rfl) (fun _ _ _ h => h) (by rfl) ?h11 hHeld ?r11
    case h11 => (intro w' hSw; (try dsimp only at hSw); go_simp <;> with_reducible rfl)
    try simp only [Act.put, sI, sZ, sS]
    refine take_op (i := 11) (d := 26) (OP := Op.binOp BinOp.neq 43 (Operand.tmp 24) (Operand.tmp 25) 43) (T := 4) (v := ?v12) rfl rfl rfl rfl (by kernel_rfl) (by kernel_rfl) (by kernel_rfl) (fun _ _ _ h => h) (by rfl) ?h12 hHeld ?r12
    case h12 => (intro w' hSw; (try dsimp only at hSw); go_simp <;> with_reducible rfl)
    try simp only [Act.put, sI, sZ, sS]
    refine take_op (i := 12) (d := 27) (OP := Op.pick (Operand.tmp 19) (Operand.const (Value.bool true)) (Operand.tmp 26)) (T := 4) (v := ?v13) rfl rfl rfl rfl (by kernel_rfl) (by kernel_rfl) (by kernel_rfl) (fun _ _ _ h => h) (by rfl) ?h13 hHeld ?r13
    case h13 => (intro w' hSw; (try dsimp only at hSw); go_simp <;> with_reducible rfl)
    try simp only [Act.put, sI, sZ, sS]
    refine take_op (i := 13) (d := 28) (OP := Op.move (Operand.tmp 27)) (T := 4) (v := ?v14) rfl rfl rfl rfl (by kernel_rfl) (by kernel_rfl) (by kernel_rfl) (fun _ _ _ h => h) (by rfl) ?h14 hHeld ?r14
    case h14 => (intro w' hSw; (try dsimp only at hSw); go_simp <;> with_reducible rfl)
    try simp only [Act.put, sI, sZ, sS]
    refine take_op (i := 14) (d := 29) (OP := Op.load 22 (Operand.tmp 4)) (T := 22) (v := ?v15) rfl rfl rfl rfl (by kernel_rfl) (by kernel_rfl) (by kernel_rfl) (fun _ _ _ h => h) (by rfl) ?h15 hHeld ?r15
    case h15 => (intro w' hSw; (try dsimp only at hSw); go_simp <;> with_reducible rfl)
    try simp only [Act.put, sI, sZ, sS]
    refine take_op (i := 15) (d := 30) (OP := Op.load 3 (Operand.tmp 7)) (T := 3) (v := ?v16) rfl rfl rfl rfl (by kernel_rfl) (by kernel_rfl) (by kernel_rfl) (fun _ _ _ h => h) (by rfl) ?h16 hHeld ?r16
    case h16 => (intro w' hSw; (try dsimp only at hSw); go_simp <;> with_reducible rfl)
    try simp only [Act.put, sI, sZ, sS]
    refine take_op (i := 16) (d := 31) (OP := Op.indexAddr 22 (Operand.tmp 29) (Operand.tmp 30)) (T := 0) (v := ?v17) rfl rfl rfl rfl (by kernel_rfl) (by kernel_rfl) (by kernel_rfl) (fun _ _ _ h => h) (by rfl) ?h17 hHeld ?r17
    case h17 => (intro w' hSw; (try dsimp only at hSw); go_simp <;> with_reducible rfl)
    try simp only [Act.put, sI, sZ, sS]
    refine take_op (i := 17) (d := 32) (OP := Op.fieldAddr 53 (Operand.tmp 31) 1) (T := 0) (v := ?v18) rfl rfl rfl rfl (by kernel_rfl) (by kernel_rfl) (by kernel_rfl) (fun _ _ _ h => h) (by rfl) ?h18 hHeld ?r18
    case h18 => (intro w' hSw; (try dsimp only at hSw); go_simp <;> with_reducible rfl)
    try simp only [Act.put, sI, sZ, sS]
    refine take_op (i := 18) (d := 33) (OP := Op.load 9 (Operand.tmp 32)) (T := 9) (v := ?v19) rfl rfl rfl rfl (by kernel_rfl) (by kernel_rfl) (by kernel_rfl) (fun _ _ _ h => h) (by rfl) ?h19 hHeld ?r19
    case h19 => (intro w' hSw; (try dsimp only at hSw); go_simp <;> with_reducible rfl)
    try simp only [Act.put, sI, sZ, sS]
    refine take_op (i := 19) (d := 34) (OP := Op.move (Operand.tmp 9)) (T := 9) (v := ?v20) rfl rfl rfl rfl (by kernel_rfl) (by kernel_rfl) (by kernel_rfl) (fun _ _ _ h => h) (by rfl) ?h20 hHeld ?r20
    case h20 => (intro w' hSw; (try dsimp only at hSw); go_simp <;> with_reducible rfl)
    try simp only [Act.put, sI, sZ, sS]
    refine take_op (i := 20) (d := 35) (OP := Op.binOp BinOp.neq 9 (Operand.tmp 33) (Operand.tmp 34) 9) (T := 4) (v := ?v21) rfl rfl rfl rfl (by kernel_rfl) (by kernel_rfl) (by kernel_rfl) (fun _ _ _ h => h) (by rfl) ?h21 hHeld ?r21
    case h21 => (intro w' hSw; (try dsimp only at hSw); go_simp <;> with_reducible rfl)
    try simp only [Act.put, sI, sZ, sS]
    refine take_op (i := 21) (d := 36) (OP := Op.pick (Operand.tmp 28) (Operand.const (Value.bool true)) (Operand.tmp 35)) (T := 4) (v := ?v22) rfl rfl rfl rfl (by kernel_rfl) (by kernel_rfl) (by kernel_rfl) (fun _ _ _ h => h) (by rfl) ?h22 hHeld ?r22
    case h22 => (intro w' hSw; (try dsimp only at hSw); go_simp <;> with_reducible rfl)
    try simp only [Act.put, sI, sZ, sS]
    refine wpAnyH_done (by kernel_rfl) ?_ _
    obtain ⟨rN, rR, rL, on3, b3⟩ := HQ.out
    obtain ⟨K1, hK1⟩ : ∃ q : Int, q = ((k + 1 : Nat) : Int) := ⟨_, rfl⟩
    obtain ⟨u, o⟩ := set_one (i := 0) (.int .i64 K1) rN
    obtain ⟨z1, z2, z3, z4, z5⟩ := HZ.out
    have hS := HS.out
    have hlt2 := on3.size
    have cN : W3.cell? ⟨Nb, 0, none⟩ = some (.int .i64 (k : Nat)) := (cell_of_row _ _ 0 _ 3 (0, 0) rN).trans rfl
    have fN : W3.frozen? ⟨Nb, 0, none⟩ = false := frozen_of_row _ _ 0 _ 3 rN
    have hk1 : wrap64 ((k : Int) + 1) = K1 := by have := HNN.out; rw [hK1]; unfold wrap64; omega
    have rN4 : (W3.setCell ⟨Nb, 0, none⟩ (.int .i64 K1)).heap[Nb]? = some (.cells #[.int .i64 K1] 3 (0, 0)) := by simpa using u
    have cN4 : (W3.setCell ⟨Nb, 0, none⟩ (.int .i64 K1)).cell? ⟨Nb, 0, none⟩ = some (.int .i64 K1) := (cell_of_row _ _ 0 _ 3 (0, 0) rN4).trans rfl
    have rL4 := (o.block _ (by omega) (fun e => by have e' : Lb = Nb := e; omega)).trans rL
    have cL4 : (W3.setCell ⟨Nb, 0, none⟩ (.int .i64 K1)).cell? ⟨Lb, 0, none⟩ = some (.int .i64 lv) := (cell_of_row _ _ 0 _ 3 (0, 0) rL4).trans rfl
    have rR4 := (o.block _ (by omega) (fun e => by have e' : Rb = Nb := e; omega)).trans rR
    have cR4 : (W3.setCell ⟨Nb, 0, none⟩ (.int .i64 K1)).cell? ⟨Rb, 0, none⟩ = some (.bool false) := (cell_of_row _ _ 0 _ 4 (0, 0) rR4).trans rfl
    have fR4 : (W3.setCell ⟨Nb, 0, none⟩ (.int .i64 K1)).frozen? ⟨Rb, 0, none⟩ = false := frozen_of_row _ _ 0 _ 4 rR4
    obtain ⟨u5, o5⟩ := set_one (i := 0) (.bool true) rR4
    have on4 : Only (fun j => j = Nb ∨ w0.heap.size ≤ j) w0 (W3.setCell ⟨Nb, 0, none⟩ (.int .i64 K1)) := on3.next (o.mono (fun j _ e => .inl e))
    have H5 : Hid (GoI w0 Nb (k + 1) (W3.setCell ⟨Nb, 0, none⟩ (.int .i64 K1)) ∧ Only (fun j => (j = Nb ∨ j = Rb) ∨ B ≤ j) W2 (W3.setCell ⟨Nb, 0, none⟩ (.int .i64 K1)) ∧ k + 1 ≤ N) := hide ⟨⟨on4, by rw [← hK1]; exact rN4⟩, (below_only b3).next (o.mono (fun j _ e => .inl (.inl e))), hcl⟩
    have H6 : Hid (Only (fun j => j = Nb ∨ j = Rb ∨ w0.heap.size ≤ j) w0 ((W3.setCell ⟨Nb, 0, none⟩ (.int .i64 K1)).setCell ⟨Rb, 0, none⟩ (.bool true)) ∧ ((W3.setCell ⟨Nb, 0, none⟩ (.int .i64 K1)).setCell ⟨Rb, 0, none⟩ (.bool true)).heap[Rb]? = some (.cells #[.bool true] 4 (0, 0)) ∧ Only (fun j => (j = Nb ∨ j = Rb) ∨ B ≤ j) W2 ((W3.setCell ⟨Nb, 0, none⟩ (.int .i64 K1)).setCell ⟨Rb, 0, none⟩ (.bool true))) := hide ⟨(on4.mono (fun j _ e => e.elim .inl (fun e => .inr (.inr e)))).next (o5.mono (fun j _ e => .inr (.inl e))), by simpa using u5, H5.out.2.1.next (o5.mono (fun j _ e => .inl (.inr e)))⟩
    clear HQ u o u5 o5 on3 on4 b3 rN rR rL rN4 rL4 rR4 z1 z2 z3 z4 z5 hS hlt2 HS HZ HNN hHeld d1 d2 d3 d4 hne hcl hc hB hK1
    by_cases hlv : K1 = lv
    · subst hlv
      gi_wp2
      exact ⟨H6.out.2.2, rfl, H6.out.1, H6.out.2.1⟩
    · gi_wp2
      exact ⟨H5.out.2.1, H5.out.2.2, H5.out.1⟩
end Go.Proofs.YtkkpdgfllnbigaaGreat.Jo
namespace Go.Proofs.YtkkpdgfllnbigaaGreat.Jo
open Go.RowKit Go.Shelf
set_option linter.unusedSimpArgs false
attribute [local go_sem] Oper.semAt_some

set_option maxHeartbeats 4000000 in
set_option maxRecDepth 100000 in
theorem behind14 {w : World} {ao : Option Addr} {c : Nat} (l' : List El) (s : St) (h : Re w ao l') (hl : l'.length ≤ 100000) (hs : ∀ x ∈ l', x.1.2.2.1.size ≤ 9223372036854775807) : Calls Tryz.prog 92 #[.slice ao l'.length c, svT s] w fun e w' => e = .returned (.bool (behB l' s)) ∧ Below w.heap.size w w' := by
  obtain ⟨g, r, l, n, x⟩ := s
  obtain ⟨w0, hw0⟩ : ∃ q, q = w.alloc (.cells #[.int .i64 g, .int .i64 r, .string l, .int .i64 n, .int .i64 x] 43) := ⟨_, rfl⟩
  have m := heap_alloc_new w (.cells #[.int .i64 g, .int .i64 r, .string l, .int .i64 n, .int .i64 x] 43)
  have b0 : Below w.heap.size w (w.alloc (.cells #[.int .i64 g, .int .i64 r, .string l, .int .i64 n, .int .i64 x] 43)) := (Below.refl _ w).alloc (Nat.le_refl _) _
  rw [← hw0] at m b0
  have HB := hide b0
  have HW0 := hide hw0
  obtain ⟨B0, hB0⟩ : ∃ q, q = w.heap.size := ⟨_, rfl⟩
  have HB0 := hide hB0
  rw [← hB0] at m
  dsimp only [svT, sv]
  cases hg : l'.getLast? with
  | none =>
    have he : l' = [] := List.getLast?_eq_none_iff.1 hg
    subst he
    have hR : behB [] (g, r, l, n, x) = true := rfl
    rw [hR]
    clear hg hw0 m b0 hB0 hs h
    go_enter Tryz.func92, Tryz.ntmps92
    go_upto_region 1 with fail
    rw [← HW0.out]
    go_quiet (fail)
    have HQ := hide (HB.out.trans ((below_drew w0 nq).mono HB.out.size))
    go_wp2
    go_ret
    exact ⟨rfl, HQ.out⟩
  | some q =>
    obtain ⟨R, hR⟩ : ∃ R, R = behB l' (g, r, l, n, x) := ⟨_, rfl⟩
    rw [← hR]
    have hR2 : R = decide (cmpT q.1 (g, r, l, n, x) = -1) := by rw [hR]; unfold behB; rw [hg]
    have hq : l'[l'.length - 1]? = some q := by rw [← hg, List.getLast?_eq_getElem?]
    obtain ⟨N, hN⟩ : ∃ N, N = l'.length := ⟨_, rfl⟩
    have hN0 : 0 < N := by rw [hN]; exact List.length_pos_of_mem (List.mem_of_getElem? hq)
    rw [← hN] at hq hl ⊢
    have hsz := hs q (List.mem_of_getElem? hq)
    obtain ⟨b, off, hao, e0, e1, e2, e3, e4, -⟩ := (h.below b0).cells hq
    subst hao
    have hcall := cmpR_any q.1 (g, r, l, n, x) hsz
    obtain ⟨⟨g', r', l'', n', x'⟩, y⟩ := q
    dsimp only at e0 e1 e2 e3 e4 hcall hR2
    obtain ⟨cv, hcv⟩ : ∃ cv, cv = cmpT (g', r', l'', n', x') (g, r, l, n, x) := ⟨_, rfl⟩
    have hcr := ord_T.range (g', r', l'', n', x') (g, r, l, n, x)
    rw [← hcv] at hcall hR2 hcr
    have hS : ∀ W', Below w0.heap.size w0 W' → W'.cell? ⟨b, off + (N - 1) * 6, none⟩ = some ((.int .i64 g')) ∧ W'.cell? ⟨b, off + (N - 1) * 6 + 1, none⟩ = some ((.int .i64 r')) ∧ W'.cell? ⟨b, off + (N - 1) * 6 + 2, none⟩ = some ((.string l'')) ∧ W'.cell? ⟨b, off + (N - 1) * 6 + 3, none⟩ = some ((.int .i64 n')) ∧ W'.cell? ⟨b, off + (N - 1) * 6 + 4, none⟩ = some ((.int .i64 x')) ∧ W'.cell? ⟨B0, 0, none⟩ = some ((.int .i64 g)) ∧ W'.cell? ⟨B0, 1, none⟩ = some ((.int .i64 r)) ∧ W'.cell? ⟨B0, 2, none⟩ = some ((.string l)) ∧ W'.cell? ⟨B0, 3, none⟩ = some ((.int .i64 n)) ∧ W'.cell? ⟨B0, 4, none⟩ = some ((.int .i64 x)) := fun W' hW => ⟨cell_stays e0 hW, cell_stays e1 hW, cell_stays e2 hW, cell_stays e3 hW, cell_stays e4 hW, cell_stays ((cell_of_row _ _ 0 _ 43 (0, 0) m).trans rfl) hW, cell_stays ((cell_of_row _ _ 1 _ 43 (0, 0) m).trans rfl) hW, cell_stays ((cell_of_row _ _ 2 _ 43 (0, 0) m).trans rfl) hW, cell_stays ((cell_of_row _ _ 3 _ 43 (0, 0) m).trans rfl) hW, cell_stays ((cell_of_row _ _ 4 _ 43 (0, 0) m).trans rfl) hW⟩
    have HS := hide hS
    have hlt : decide (cv < 0) = R := by rw [hR2, decide_eq_decide]; omega
    have HLT := hide hlt
    have hN1 : IntKind.i64.wrap ((N : Int) - 1) = ((N - 1 : Nat) : Int) := by rw [IntKind.wrap_i64]; omega
    have z1 : ¬ (N : Int) = 0 := by omega
    have z2 : ((N - 1 : Nat) : Int) < (N : Int) := by omega
    have z3 : ¬ N = 0 := by omega
    have z4 : N - 1 < N := by omega
    clear hg hw0 m b0 hB0 hs h hR hR2 hN hq hsz e0 e1 e2 e3 e4 hcv hS hcr hlt hl hN0
    dsimp only [svT, sv] at hcall
    go_enter Tryz.func92, Tryz.ntmps92
    go_upto_region 1 with fail
    rw [← HW0.out, ← HB0.out]
    refine wp_region_held_drew (S := (fun w' => w'.cell? ⟨b, off + (N - 1) * 6, none⟩ = some ((.int .i64 g')) ∧ w'.cell? ⟨b, off + (N - 1) * 6 + 1, none⟩ = some ((.int .i64 r')) ∧ w'.cell? ⟨b, off + (N - 1) * 6 + 2, none⟩ = some ((.string l'')) ∧ w'.cell? ⟨b, off + (N - 1) * 6 + 3, none⟩ = some ((.int .i64 n')) ∧ w'.cell? ⟨b, off + (N - 1) * 6 + 4, none⟩ = some ((.int .i64 x')) ∧ w'.cell? ⟨B0, 0, none⟩ = some ((.int .i64 g)) ∧ w'.cell? ⟨B0, 1, none⟩ = some ((.int .i64 r)) ∧ w'.cell? ⟨B0, 2, none⟩ = some ((.string l)) ∧ w'.cell? ⟨B0, 3, none⟩ = some ((.int .i64 n)) ∧ w'.cell? ⟨B0, 4, none⟩ = some ((.int .i64 x)))) (by kernel_rfl) (by exact HS.out _ (drew_below w0)) (fun hHeld => ?_)
    try dsimp only at hHeld
    refine take_op (i := 0) (d := 5) (OP := Op.move (Operand.tmp 0)) (T := 22) (v := ?v1) rfl rfl rfl rfl (by kernel_rfl) (by kernel_rfl) (by kernel_rfl) (fun _ _ _ h => h) (by rfl) ?h1 hHeld ?r1
    case h1 => (intro w' hSw; (try dsimp only at hSw); go_simp <;> with_reducible rfl)
    try simp only [Act.put, sI, sZ, sS]
    refine take_op (i := 1) (d := 6) (OP := Op.call { callee := Callee.builtin Builtin.len, args := #[Operand.tmp 5], argTypes := #[22] }) (T := 3) (v := ?v2) rfl rfl rfl rfl (by kernel_rfl) (by kernel_rfl) (by kernel_rfl) (fun _ _ _ h => h) (by rfl) ?h2 hHeld ?r2
    case h2 => (intro w' hSw; (try dsimp only at hSw); go_simp <;> with_reducible rfl)
    try simp only [Act.put, sI, sZ, sS]
    refine take_op (i := 2) (d := 7) (OP := Op.binOp BinOp.eql 3 (Operand.tmp 6) (Operand.const (Value.int IntKind.i64 0)) 3) (T := 4) (v := .bool false) rfl rfl rfl rfl (by kernel_rfl) (by kernel_rfl) (by kernel_rfl) (fun _ _ _ h => h) (by rfl) ?h3 hHeld ?r3
    case h3 => (intro w' hSw; (try dsimp only at hSw); go_simp <;> (first | with_reducible rfl | (simp; done) | (simp; omega) | omega))
    try simp only [Act.put, sI, sZ, sS]
    refine take_op (i := 3) (d := 8) (OP := Op.move (Operand.tmp 7)) (T := 4) (v := ?v4) rfl rfl rfl rfl (by kernel_rfl) (by kernel_rfl) (by kernel_rfl) (fun _ _ _ h => h) (by rfl) ?h4 hHeld ?r4
    case h4 => (intro w' hSw; (try dsimp only at hSw); go_simp <;> with_reducible rfl)
    try simp only [Act.put, sI, sZ, sS]
    refine take_op (i := 4) (d := 9) (OP := Op.move (Operand.tmp 0)) (T := 22) (v := ?v5) rfl rfl rfl rfl (by kernel_rfl) (by kernel_rfl) (by kernel_rfl) (fun _ _ _ h => h) (by rfl) ?h5 hHeld ?r5
    case h5 => (intro w' hSw; (try dsimp only at hSw); go_simp <;> with_reducible rfl)
    try simp only [Act.put, sI, sZ, sS]
    refine take_op (i := 5) (d := 10) (OP := Op.move (Operand.tmp 0)) (T := 22) (v := ?v6) rfl rfl rfl rfl (by kernel_rfl) (by kernel_rfl) (by kernel_rfl) (fun _ _ _ h => h) (by rfl) ?h6 hHeld ?r6
    case h6 => (intro w' hSw; (try dsimp only at hSw); go_simp <;> with_reducible rfl)
    try simp only [Act.put, sI, sZ, sS]
    refine take_op (i := 6) (d := 11) (OP := Op.call { callee := Callee.builtin Builtin.len, args := #[Operand.tmp 10], argTypes := #[22] }) (T := 3) (v := ?v7) rfl rfl rfl rfl (by kernel_rfl) (by kernel_rfl) (by kernel_rfl) (fun _ _ _ h => h) (by rfl) ?h7 hHeld ?r7
    case h7 => (intro w' hSw; (try dsimp only at hSw); go_simp <;> with_reducible rfl)
    try simp only [Act.put, sI, sZ, sS]
    refine take_op (i := 7) (d := 12) (OP := Op.binOp BinOp.sub 3 (Operand.tmp 11) (Operand.const (Value.int IntKind.i64 1)) 3) (T := 3) (v := .int .i64 ((N - 1 : Nat) : Int)) rfl rfl rfl rfl (by kernel_rfl) (by kernel_rfl) (by kernel_rfl) (fun _ _ _ h => h) (by rfl) ?h8 hHeld ?r8
    case h8 => (intro w' hSw; (try dsimp only at hSw); go_simp <;> (first | with_reducible rfl | exact hN1))
    try simp only [Act.put, sI, sZ, sS]
    refine take_op (i := 8) (d := 13) (OP := Op.indexAddr 22 (Operand.tmp 9) (Operand.tmp 12)) (T := 0) (v := ?v9) rfl rfl rfl rfl (by kernel_rfl) (by kernel_rfl) (by kernel_rfl) (fun _ _ _ h => h) (by rfl) ?h9 hHeld ?r9
    case h9 => (intro w' hSw; (try dsimp only at hSw); go_simp <;> with_reducible rfl)
    try simp only [Act.put, sI, sZ, sS]
    refine take_op (i := 9) (d := 14) (OP := Op.fieldAddr 53 (Operand.tmp 13) 0) (T := 0) (v := ?v10) rfl rfl rfl rfl (by kernel_rfl) (by kernel_rfl) (by kernel_rfl) (fun _ _ _ h => h) (by rfl) ?h10 hHeld ?r10
    case h10 => (intro w' hSw; (try dsimp only at hSw); go_simp <;> with_reducible rfl)
    try simp only [Act.put, sI, sZ, sS]
    refine take_op (i := 10) (d := 15) (OP := Op.load 43 (Operand.tmp 14)) (T := 43) (v := ?v11) rfl rfl rfl rfl (by kernel_rfl) (by kernel_rfl) (by kernel_rfl) (fun _ _ _ h => h) (by rfl) ?h11 hHeld ?r11
    case h11 => (intro w' hSw; (try dsimp only at hSw); go_simp <;> with_reducible rfl)
    try simp only [Act.put, sI, sZ, sS]
    refine take_op (i := 11) (d := 16) (OP := Op.load 43 (Operand.tmp 3)) (T := 43) (v := ?v12) rfl rfl rfl rfl (by kernel_rfl) (by kernel_rfl) (by kernel_rfl) (fun _ _ _ h => h) (by rfl) ?h12 hHeld ?r12
    case h12 => (intro w' hSw; (try dsimp only at hSw); go_simp <;> with_reducible rfl)
    try simp only [Act.put, sI, sZ, sS]
    refine call_op (i := 12) (d := 17) (OP := Op.call { callee := Callee.value (Operand.func 114), args := #[Operand.tmp 15, Operand.tmp 16], argTypes := #[43, 43] }) (T := 3) (f := 114) (args := #[.agg #[.int .i64 g', .int .i64 r', .string l'', .int .i64 n', .int .i64 x'], .agg #[.int .i64 g, .int .i64 r, .string l, .int .i64 n, .int .i64 x]]) rfl rfl rfl rfl (by kernel_rfl) (by rfl) (by go_simp) ?_
    refine (hcall _).mono ?_
    rintro e w5 ⟨rfl, b5⟩
    have bb5 := (drew_below w0).trans (b5.mono (drew_below w0).size)
    have q5 := HS.out w5 bb5
    have HW5 := hide (HB.out.trans (bb5.mono HB.out.size))
    clear b5 bb5
    refine ⟨_, rfl, q5, ?_⟩
    replace hHeld := q5
    try simp only [Act.put, sI, sZ, sS]
    refine take_op (i := 13) (d := 18) (OP := Op.binOp BinOp.lss 3 (Operand.tmp 17) (Operand.const (Value.int IntKind.i64 0)) 3) (T := 4) (v := ?v13) rfl rfl rfl rfl (by kernel_rfl) (by kernel_rfl) (by kernel_rfl) (fun _ _ _ h => h) (by rfl) ?h13 hHeld ?r13
    case h13 => (intro w' hSw; (try dsimp only at hSw); go_simp <;> with_reducible rfl)
    try simp only [Act.put, sI, sZ, sS]
    refine take_op (i := 14) (d := 19) (OP := Op.pick (Operand.tmp 8) (Operand.const (Value.bool true)) (Operand.tmp 18)) (T := 4) (v := ?v14) rfl rfl rfl rfl (by kernel_rfl) (by kernel_rfl) (by kernel_rfl) (fun _ _ _ h => h) (by rfl) ?h14 hHeld ?r14
    case h14 => (intro w' hSw; (try dsimp only at hSw); go_simp <;> with_reducible rfl)
    try simp only [Act.put, sI, sZ, sS]
    refine take_op (i := 15) (d := 4) (OP := Op.assign (Operand.tmp 19)) (T := 4) (v := ?v15) rfl rfl rfl rfl (by kernel_rfl) (by kernel_rfl) (by kernel_rfl) (fun _ _ _ h => h) (by rfl) ?h15 hHeld ?r15
    case h15 => (intro w' hSw; (try dsimp only at hSw); go_simp <;> with_reducible rfl)
    try simp only [Act.put, sI, sZ, sS]
    refine wpAnyH_done (by kernel_rfl) ?_ _
    clear HS hcall
    go_wp2
    go_ret
    exact ⟨by rw [← HLT.out]; rfl, HW5.out⟩
set_option maxHeartbeats 1000000 in
theorem refMay14 {w : World} {ao : Option Addr} {c : Nat} (l : List El) (h : Re w ao l) (hl : l.length ≤ 100000) (hs : ∀ x ∈ l, x.1.2.2.1.size ≤ 9223372036854775807) : Calls Tryz.prog 86 #[.slice ao l.length c] w fun e w' => e = .returned (.bool (mayE l)) ∧ Below w.heap.size w w' := by
  have hm := refMay11 (c := c) l h hl hs
  obtain ⟨N, hN⟩ : ∃ N, N = l.length := ⟨_, rfl⟩
  rw [← hN] at hm ⊢
  clear hN hl
  go_enter Tryz.func86, Tryz.ntmps86
  go_wp2_with (go_at_call 19; refine hm.mono ?_; rintro e w1 ⟨rfl, b1⟩; have H1 := hide b1; clear b1; dsimp only)
  go_ret
  exact ⟨rfl, H1.out⟩
set_option maxHeartbeats 1000000 in
theorem refSorted14 {w : World} {ao : Option Addr} {c : Nat} (l : List El) (h : Re w ao l) (hl : l.length ≤ 100000) (hm : mayE l = true) : Calls Tryz.prog 88 #[.slice ao l.length c] w fun e w' => ∃ ao' c', e = .returned (.slice ao' l.length c') ∧ Oe w' w.heap.size (.slice ao' l.length c') (srtE l) ∧ Below w.heap.size w w' := by
  have hm := refSorted18 (c := c) l h hl hm
  have hlen := srtE_len l
  obtain ⟨S, hS⟩ : ∃ S, S = srtE l := ⟨_, rfl⟩
  rw [← hS] at hm hlen ⊢
  obtain ⟨N, hN⟩ : ∃ N, N = l.length := ⟨_, rfl⟩
  rw [← hN] at hm hlen ⊢
  have HL := hide hlen
  clear hN hl hS hlen
  go_enter Tryz.func88, Tryz.ntmps88
  go_wp2_with (go_at_call 22; refine hm.mono ?_; rintro e w1 ⟨v, rfl, o1, b1⟩; obtain ⟨ao', c', e1, -⟩ := o1.form; rw [HL.out] at e1; subst e1; have H1 := hide (And.intro o1 b1); clear o1 b1; dsimp only)
  go_ret
  exact ⟨_, _, rfl, H1.out.1, H1.out.2⟩
end Go.Proofs.YtkkpdgfllnbigaaGreat.Jo
namespace Go.Proofs.YtkkpdgfllnbigaaGreat.Jo
open Go.RowKit Go.Shelf
set_option linter.unusedSimpArgs false

theorem cb_snoc : ∀ (x y : List UInt8), Lib.compareBytes x (y ++ [0]) = -1 ↔ Lib.compareBytes x y ≠ 1
  | [], [] => by decide
  | [], b :: y => by
    show Lib.compareBytes [] (b :: (y ++ [0])) = -1 ↔ _
    simp [Lib.compareBytes]
  | a :: x, [] => by
    have h0 : ¬ a < (0 : UInt8) := by
      intro h
      have := UInt8.lt_iff_toNat_lt.1 h
      simp at this
    show Lib.compareBytes (a :: x) [0] = -1 ↔ _
    simp only [Lib.compareBytes, h0, if_false]
    constructor
    · intro h
      split at h
      · omega
      · cases x with
        | nil => simp [Lib.compareBytes] at h
        | cons c x => simp [Lib.compareBytes] at h
    · intro h; exact absurd rfl h
  | a :: x, b :: y => by
    show Lib.compareBytes (a :: x) (b :: (y ++ [0])) = -1 ↔ _
    simp only [Lib.compareBytes]
    split
    · simp
    · split
      · simp
      · exact cb_snoc x y
/-- The law's own list of what is behind a stamp. -/
def restE (l : List El) (s : St) : List El := if s = zS then l else l.filter fun x => stV s && (!decide (cmpT x.1 s = -1) && !decide (x.1 = s))
theorem drop_pos {K : ByteArray} : ∀ {l : List Kv}, Pm.Srt l → l.drop (Pm.pos K l) = l.filter fun x => !decide (Pm.cmpB x.1 K = -1)
  | [], _ => rfl
  | x :: l, h => by
    obtain ⟨h1, h2⟩ := List.pairwise_cons.1 h
    unfold Pm.pos
    by_cases e : Pm.cmpB x.1 K = -1
    · rw [if_pos e, List.drop_succ_cons, drop_pos h2, List.filter_cons, if_neg (by simp [e])]
    · rw [if_neg e, List.drop_zero]
      have : ∀ y ∈ x :: l, (!decide (Pm.cmpB y.1 K = -1)) = true := fun y hy => by
        rcases List.mem_cons.1 hy with rfl | hy
        · simp [e]
        · simp only [Bool.not_eq_true', decide_eq_false_iff_not]
          intro hc
          exact e (Pm.ord_B.trans _ _ _ (h1 y hy) hc)
      rw [List.filter_eq_self.2 this]
theorem sin_rest {l : List Kv} (hm : mayL l = true) (hs : Pm.Srt l) (s : St) : sinL l s = restE (elsL l) s := by
  by_cases hz : s = zS
  · rw [hz, sinL_zero]; unfold restE; rw [if_pos rfl]
  · unfold restE
    rw [if_neg hz]
    cases hv : stV s with
    | false =>
      have : frM s = false := by unfold frM; rw [decide_eq_false hz, hv]; rfl
      unfold sinL
      rw [this]
      simp
    | true =>
      have h1 : frM s = true := by unfold frM; rw [hv, Bool.or_true]
      have h2 : frK s = keyT s ++ ⟨#[0]⟩ := by unfold frK; rw [if_neg hz, hv]; rfl
      unfold sinL elsL
      rw [h1, hm, h2, drop_pos hs]
      unfold elsM
      simp only [Bool.and_self, if_true, Bool.true_and]
      rw [List.filter_map]
      congr 1
      refine List.filter_congr (fun x hx => ?_)
      have ho := okV_of (okKv_el (may_mem hm hx)).1
      have hc := cmp_keys ho.2 hv
      rw [ho.1] at hc
      have hk : Pm.cmpB x.1 (keyT s ++ ⟨#[0]⟩) = -1 ↔ Pm.cmpB x.1 (keyT s) ≠ 1 := by
        have := cb_snoc x.1.data.toList (keyT s).data.toList
        have e : (keyT s ++ ⟨#[0]⟩ : ByteArray).data.toList = (keyT s).data.toList ++ [0] := by simp [ByteArray.toList_data_append]
        show Lib.compareBytes _ (keyT s ++ ⟨#[0]⟩ : ByteArray).data.toList = -1 ↔ _
        rw [e]
        exact this
      rw [hc] at hk
      have hr := ord_T.range (ofT x.1) s
      have heq : ofT x.1 = s ↔ cmpT (ofT x.1) s = 0 := ⟨fun e => by rw [e]; exact ordS_T.refl s, fun e => ord_T.eq _ _ e⟩
      show (!decide (Pm.cmpB x.1 (keyT s ++ ⟨#[0]⟩) = -1)) = (!decide (cmpT (ofT x.1) s = -1) && !decide (ofT x.1 = s))
      rw [Bool.eq_iff_iff]
      simp only [Bool.not_eq_true', decide_eq_false_iff_not, Bool.and_eq_true, hk, heq]
      omega
end Go.Proofs.YtkkpdgfllnbigaaGreat.Jo
