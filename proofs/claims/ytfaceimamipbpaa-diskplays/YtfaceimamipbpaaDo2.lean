/-
  WALKS over the program's raw writes: do, for each kind.
-/
import Derived.Test.YtfaceimamipbpaaDo
namespace Go.Proofs.Ytfaceimamipbpaa
open Go.RowKit
set_option linter.unusedSimpArgs false

/-- Two operations of a region that draws its order come up together: one that reads, one that turns the world. -/
theorem two_op {P : Program} {md : Region.Mode} {ops : Array Oper} {Q : Exit → Act → World → Prop} {S : World → Prop} {i j : Nat} {oi oj : Oper} {di dj : Tmp} {OPi OPj : Op} {Ti Tj : TypeId} {v u : Value} {fuel : Nat} {listed : Array Bool} {a : Act} {w w' : World}
    (hi : ops[i]? = some oi) (hdi : oi.dst = some di) (hoi : oi.op = OPi) (hti : oi.type = Ti) (hj : ops[j]? = some oj) (hdj : oj.dst = some dj) (hoj : oj.op = OPj) (htj : oj.type = Tj)
    (hr : Region.ready md ops listed = [i, j]) (hwi : Region.wanted oi (yielded ops a.tmps) = true) (hwj : Region.wanted oj (yielded ops a.tmps) = true)
    (hyi : (execOp a.eval { dst := none, op := OPi, type := Ti, pos := "", after := #[], guard := none }).run P w = .ok (.value v) w)
    (hyj : (execOp a.eval { dst := none, op := OPj, type := Tj, pos := "", after := #[], guard := none }).run P w = .ok (.value u) w')
    (hS : S w) (hS' : S w')
    (h1 : wpAnyH P md ops Q S fuel (listed.setIfInBounds i true) (a.put (some di) v) w) (h2 : wpAnyH P md ops Q S fuel (listed.setIfInBounds j true) (a.put (some dj) u) w') : wpAnyH P md ops Q S (fuel + 1) listed a w := by
  refine wpAnyH_ready hr (by simp) (AllReadyH.cons hi (fun K hK => ?_) (AllReadyH.cons hj (fun K hK => ?_) AllReadyH.nil))
  · rw [if_pos hwi]
    unfold Oper.wp
    rw [exec_same a.eval oi hoi hti, hyi]
    show K (a.put oi.dst v) w
    rw [hdi]
    exact hK.out _ _ hS (fun _ => h1)
  · rw [if_pos hwj]
    unfold Oper.wp
    rw [exec_same a.eval oj hoj htj, hyj]
    show K (a.put oj.dst u) w'
    rw [hdj]
    exact hK.out _ _ hS' (fun _ => h2)

section
variable {F G : Nat → Prop} {w : World} {R : Nat} {cap : Int} {beg now : St} {log : List Wr} {x0 : Option Addr} {c0 : Nat} {x1 : Option Addr} {c1 : Nat} {va vb vl : Value} {xs : List Value}
theorem lay_any (k ar : Int) (ao : Option Addr) (c : Nat) (l : List Int) (hD : Rep progL 60 F G w R cap beg now log x0 c0 x1 c1 va vb vl xs) (har : ar = 0 ∨ ar = 1) (hr : Rd w ao l) (hn : ao = none → c = 0) (hlen : (now.at ar).length + l.length ≤ 140737488355328) :
    Calls Try.prog 44 #[.pointer (some ⟨R, 4, none⟩), wrv k ar ao l.length c] w fun e w' => (∃ v, e = .returned v) ∧ ∃ F', Disk progL 60 F' G w' R cap beg (now.put ar (now.at ar ++ l)) log ∧ Only F w w' ∧ Grown F F' w := by
  rcases har with rfl | rfl
  · exact lay0 k ao c l hD hr hn hlen
  · exact lay1 k ao c l hD hr hn hlen
theorem clear_any (k ar : Int) (ao : Option Addr) (n c : Nat) (hD : Rep progL 60 F G w R cap beg now log x0 c0 x1 c1 va vb vl xs) (har : ar = 0 ∨ ar = 1) :
    Calls Try.prog 45 #[.pointer (some ⟨R, 4, none⟩), wrv k ar ao n c] w fun e w' => (∃ v, e = .returned v) ∧ ∃ F', Disk progL 60 F' G w' R cap beg (now.put ar []) log ∧ Only F w w' ∧ Grown F F' w := by
  rcases har with rfl | rfl
  · exact clear0 k ao n c hD
  · exact clear1 k ao n c hD

set_option maxHeartbeats 1000000 in
set_option maxRecDepth 100000 in
theorem do1 (ar : Int) (ao : Option Addr) (c : Nat) (l : List Int) (hD : Rep progL 60 F G w R cap beg now log x0 c0 x1 c1 va vb vl xs) (har : ar = 0 ∨ ar = 1) (hG : RdG w G ao c l) (hlen : (now.at ar).length + l.length ≤ 140737488355328) (hlog : log.length < 1000000) :
    Calls Try.prog 37 #[.pointer (some ⟨R, 0, none⟩), wrv 1 ar ao l.length c] w fun e w' => (∃ v, e = .returned v) ∧ ∃ F', Disk progL 60 F' G w' R cap beg (now.put ar (now.at ar ++ l)) (log ++ [⟨1, ar, l⟩]) ∧ Only F w w' ∧ Grown F F' w := by
  obtain ⟨i50, hi, hz0, hz1, hz2⟩ := info_parts Try.info50
  have hb0 : Below w.heap.size w ((w.alloc (.cells #[.int .i64 1, .int .i64 ar, .slice ao l.length c] 50)).drew) := ((Below.refl _ w).alloc (Nat.le_refl _) _).drew
  have hlt := hD.uF R hD.fR
  have hS0 : ((w.alloc (.cells #[.int .i64 1, .int .i64 ar, .slice ao l.length c] 50)).drew).cell? ⟨w.heap.size, 0, none⟩ = some (.int .i64 1) ∧ ((w.alloc (.cells #[.int .i64 1, .int .i64 ar, .slice ao l.length c] 50)).drew).cell? ⟨w.heap.size, 1, none⟩ = some (.int .i64 ar) ∧ ((w.alloc (.cells #[.int .i64 1, .int .i64 ar, .slice ao l.length c] 50)).drew).cell? ⟨w.heap.size, 2, none⟩ = some (.slice ao l.length c) := by
    obtain ⟨q0, q1, q2, _⟩ := blk3 (w := (w.alloc (.cells #[.int .i64 1, .int .i64 ar, .slice ao l.length c] 50)).drew) (R := w.heap.size) (heap_alloc_new w _)
    exact ⟨q0, q1, q2⟩
  have HD := hide hD
  clear hD
  unfold wrv
  go_enter Try.func37, Try.ntmps37
  go_wp2
  refine wp_region_held_drew (S := (fun w' => w'.cell? ⟨w.heap.size, 0, none⟩ = some (.int .i64 1) ∧ w'.cell? ⟨w.heap.size, 1, none⟩ = some (.int .i64 ar) ∧ w'.cell? ⟨w.heap.size, 2, none⟩ = some (.slice ao l.length c))) (by kernel_rfl) (by exact hS0) (fun hHeld => ?_)
  try dsimp only at hHeld
  refine take_op (i := 1) (d := 5) (OP := Op.fieldAddr 50 (Operand.tmp 3) 0) (T := 0) (v := ?vq1x) rfl rfl rfl rfl (by kernel_rfl) (by kernel_rfl) (by kernel_rfl) (fun _ _ _ h => h) (by rfl) ?hq1x hHeld ?rq1x
  case hq1x => (intro w' hSw; (try dsimp only at hSw); go_simp <;> with_reducible rfl)
  try simp only [Act.put, List.setIfInBounds_toArray, List.set_cons_zero, List.set_cons_succ]
  refine take_op (i := 2) (d := 6) (OP := Op.load 48 (Operand.tmp 5)) (T := 48) (v := ?vq2x) rfl rfl rfl rfl (by kernel_rfl) (by kernel_rfl) (by kernel_rfl) (fun _ _ _ h => h) (by rfl) ?hq2x hHeld ?rq2x
  case hq2x => (intro w' hSw; (try dsimp only at hSw); go_simp <;> with_reducible rfl)
  try simp only [Act.put, List.setIfInBounds_toArray, List.set_cons_zero, List.set_cons_succ]
  refine take_op (i := 4) (d := 8) (OP := Op.move (Operand.tmp 0)) (T := 28) (v := ?vq3x) rfl rfl rfl rfl (by kernel_rfl) (by kernel_rfl) (by kernel_rfl) (fun _ _ _ h => h) (by rfl) ?hq3x hHeld ?rq3x
  case hq3x => (intro w' hSw; (try dsimp only at hSw); go_simp <;> with_reducible rfl)
  try simp only [Act.put, List.setIfInBounds_toArray, List.set_cons_zero, List.set_cons_succ]
  refine take_op (i := 5) (d := 9) (OP := Op.nilCheck (Operand.tmp 8)) (T := 0) (v := ?vq4x) rfl rfl rfl rfl (by kernel_rfl) (by kernel_rfl) (by kernel_rfl) (fun _ _ _ h => h) (by rfl) ?hq4x hHeld ?rq4x
  case hq4x => (intro w' hSw; (try dsimp only at hSw); go_simp <;> with_reducible rfl)
  try simp only [Act.put, List.setIfInBounds_toArray, List.set_cons_zero, List.set_cons_succ]
  refine take_op (i := 6) (d := 10) (OP := Op.fieldAddr 60 (Operand.tmp 9) 2) (T := 0) (v := ?vq5x) rfl rfl rfl rfl (by kernel_rfl) (by kernel_rfl) (by kernel_rfl) (fun _ _ _ h => h) (by rfl) ?hq5x hHeld ?rq5x
  case hq5x => (intro w' hSw; (try dsimp only at hSw); go_simp <;> with_reducible rfl)
  try simp only [Act.put, List.setIfInBounds_toArray, List.set_cons_zero, List.set_cons_succ]
  refine take_op (i := 7) (d := 11) (OP := Op.load 50 (Operand.tmp 3)) (T := 50) (v := ?vq6x) rfl rfl rfl rfl (by kernel_rfl) (by kernel_rfl) (by kernel_rfl) (fun _ _ _ h => h) (by rfl) ?hq6x hHeld ?rq6x
  case hq6x => (intro w' hSw; (try dsimp only at hSw); go_simp <;> with_reducible rfl)
  try simp only [Act.put, List.setIfInBounds_toArray, List.set_cons_zero, List.set_cons_succ]
  refine call_op (i := 0) (d := 4) (OP := Op.call { callee := Callee.value (Operand.func 43), args := #[], argTypes := #[] }) (T := 81) (f := 43) (args := #[]) rfl rfl rfl rfl (by kernel_rfl) (by rfl) (by go_simp) ?_
  refine (doers_any _).mono ?_
  rintro e w1 ⟨rfl, hb1⟩
  have hS1 : w1.cell? ⟨w.heap.size, 0, none⟩ = some (.int .i64 1) ∧ w1.cell? ⟨w.heap.size, 1, none⟩ = some (.int .i64 ar) ∧ w1.cell? ⟨w.heap.size, 2, none⟩ = some (.slice ao l.length c) := ⟨(hb1.cell (by simp)).trans hS0.1, (hb1.cell (by simp)).trans hS0.2.1, (hb1.cell (by simp)).trans hS0.2.2⟩
  have hbw : Below w.heap.size w w1 := hb0.trans (hb1.mono (by simp))
  have hD1 := HD.out.below hbw
  have hix : (Instr.index 81 (.agg #[.nilFunc, .func (.func 44) #[] #[], .func (.func 45) #[] #[], .func (.func 46) #[] #[]]) (.int .i64 1)).run Try.prog w1 = .ok (.func (.func 44) #[] #[]) w1 := by kernel_rfl
  refine ⟨_, rfl, hS1, ?_⟩
  replace hHeld := hS1
  try simp only [Act.put, List.setIfInBounds_toArray, List.set_cons_zero, List.set_cons_succ]
  refine alone_op (i := 3) (d := 7) (OP := Op.index 81 (Operand.tmp 4) (Operand.tmp 6)) (T := 80) (v := ?vq8x) rfl rfl rfl rfl (by kernel_rfl) (by rfl) ?hq8x hHeld ?rq8x
  case hq8x => (go_simp <;> with_reducible rfl)
  try simp only [Act.put, List.setIfInBounds_toArray, List.set_cons_zero, List.set_cons_succ]
  refine call_op (i := 8) (d := 12) (OP := Op.call { callee := Callee.value (Operand.tmp 7), args := #[Operand.tmp 10, Operand.tmp 11], argTypes := #[83, 50] }) (T := 0) (f := 44) (args := #[.pointer (some ⟨R, 4, none⟩), .agg #[.int .i64 1, .int .i64 ar, .slice ao l.length c]]) rfl rfl rfl rfl (by kernel_rfl) (by rfl) (by go_simp) ?_
  refine (lay_any 1 ar ao c l hD1 har (hG.rd.below hbw) hG.nil hlen).mono ?_
  rintro e w2 ⟨⟨v, rfl⟩, F1, hE1, hon1, hgr1⟩
  have hnb : ¬ F w.heap.size := fun e => by have := HD.out.uF _ e; omega
  have hS2 : w2.cell? ⟨w.heap.size, 0, none⟩ = some (.int .i64 1) ∧ w2.cell? ⟨w.heap.size, 1, none⟩ = some (.int .i64 ar) ∧ w2.cell? ⟨w.heap.size, 2, none⟩ = some (.slice ao l.length c) := ⟨hon1.cell hS1.1 hnb, hon1.cell hS1.2.1 hnb, hon1.cell hS1.2.2 hnb⟩
  refine ⟨_, rfl, hS2, ?_⟩
  replace hHeld := hS2
  try simp only [Act.put, List.setIfInBounds_toArray, List.set_cons_zero, List.set_cons_succ]
  refine wpAnyH_done (by kernel_rfl) ?_ _
  clear hD1
  go_wp2
  obtain ⟨y0, d0, y1, d1, ua, ub, ul, ys, hE⟩ := hE1
  have hsz2 : w.heap.size + 1 ≤ w2.heap.size := by have h1 := hb1.size; have h2 := hon1.size; simp at h1; omega
  have hltE : R < w2.heap.size := by omega
  have hbE : Below w2.heap.size w2 (w2.drew.alloc (.cells #[.int .i64 1, .int .i64 ar, .slice ao l.length c] 50)) := ((Below.refl _ w2).drew).alloc (Nat.le_refl _) _
  have hEB := hE.below hbE
  have hcE : w2.drew.cell? ⟨R, 7, none⟩ = some ul := by rw [cell_of_row w2.drew R 7 _ 60 (0, 0) hE.cells]; rfl
  have hcB : (w2.drew.alloc (.cells #[.int .i64 1, .int .i64 ar, .slice ao l.length c] 50)).cell? ⟨R, 7, none⟩ = some ul := by rw [cell_of_row _ R 7 _ 60 (0, 0) hEB.cells]; rfl
  have hS3 : (w2.drew.alloc (.cells #[.int .i64 1, .int .i64 ar, .slice ao l.length c] 50)).cell? ⟨w.heap.size, 0, none⟩ = some (.int .i64 1) ∧ (w2.drew.alloc (.cells #[.int .i64 1, .int .i64 ar, .slice ao l.length c] 50)).cell? ⟨w.heap.size, 1, none⟩ = some (.int .i64 ar) ∧ (w2.drew.alloc (.cells #[.int .i64 1, .int .i64 ar, .slice ao l.length c] 50)).cell? ⟨w.heap.size, 2, none⟩ = some (.slice ao l.length c) := ⟨(hbE.cell (by simp; omega)).trans hS2.1, (hbE.cell (by simp; omega)).trans hS2.2.1, (hbE.cell (by simp; omega)).trans hS2.2.2⟩
  obtain ⟨q0, q1, q2, _⟩ := blk3 (w := (w2.drew.alloc (.cells #[.int .i64 1, .int .i64 ar, .slice ao l.length c] 50))) (R := w2.heap.size) (heap_alloc_new w2.drew _)
  obtain ⟨v3, w3, hr3, ho3, hg3, hw3⟩ := append_where (P := Try.prog) (w2.drew.alloc (.cells #[.int .i64 1, .int .i64 ar, .slice ao l.length c] 50)) 58 58 50 i50 _ 3 40 Try.underlying58 hi hz0 hz1 hz2 rfl (by decide) ul _ _ hEB.ol ⟨w2.heap.size, 0, none⟩ 1 1 [.int .i64 1, .int .i64 ar, .slice ao l.length c] rfl (by
    intro j u hj
    rw [add_lit]
    match j, hj with
    | 0, hj => cases hj; exact q0
    | 1, hj => cases hj; exact q1
    | 2, hj => cases hj; exact q2) (by simp [Value.oneCell']) (by unfold maxLen; omega) (by omega)
  obtain ⟨a3, n3, cp3, hv3⟩ : ∃ a n c, v3 = .slice a n c := by
    rcases ho3.2 with ⟨h, _⟩ | ⟨_, _, _, h, _⟩
    · exact ⟨_, _, _, h⟩
    · exact ⟨_, _, _, h⟩
  have hcE2 : w2.cell? ⟨R, 7, none⟩ = some ul := hcE
  have hne : some R ≠ ul.ownBlock := fun e => (hE.fl R e.symm).2.1 rfl
  have hc3 := (hg3.block R (by simp; omega) hne).trans hEB.cells
  have hcs : w3.cell? ⟨R, 7, none⟩ = some ul := by rw [cell_of_row _ R 7 _ 60 (0, 0) hc3]; rfl
  have hfs : w3.frozen? ⟨R, 7, none⟩ = false := frozen_of_row _ R 7 _ 60 hc3
  have hnl : some w.heap.size ≠ ul.ownBlock := fun e => by
    rcases hgr1 _ (hE.fl _ e.symm).1 with q | q
    · have := HD.out.uF _ q; omega
    · have h1 := hb1.size; simp at h1; omega
  have hS4 : w3.cell? ⟨w.heap.size, 0, none⟩ = some (.int .i64 1) ∧ w3.cell? ⟨w.heap.size, 1, none⟩ = some (.int .i64 ar) ∧ w3.cell? ⟨w.heap.size, 2, none⟩ = some (.slice ao l.length c) := ⟨hg3.cell hS3.1 hnl, hg3.cell hS3.2.1 hnl, hg3.cell hS3.2.2 hnl⟩
  have hS5 : (w3.setCell ⟨R, 7, none⟩ v3).cell? ⟨w.heap.size, 0, none⟩ = some (.int .i64 1) ∧ (w3.setCell ⟨R, 7, none⟩ v3).cell? ⟨w.heap.size, 1, none⟩ = some (.int .i64 ar) ∧ (w3.setCell ⟨R, 7, none⟩ v3).cell? ⟨w.heap.size, 2, none⟩ = some (.slice ao l.length c) := by
    have hq := grown_setCell w3 ⟨R, 7, none⟩ v3
    have hq2 : some w.heap.size ≠ some R := by simp; omega
    exact ⟨hq.cell hS4.1 hq2, hq.cell hS4.2.1 hq2, hq.cell hS4.2.2 hq2⟩
  have hfin : (∃ v, Ending.returned (.tuple #[]) = .returned v) ∧ ∃ F', Disk progL 60 F' G (w3.setCell ⟨R, 7, none⟩ v3) R cap beg (now.put ar (now.at ar ++ l)) (log ++ [⟨1, ar, l⟩]) ∧ Only F w (w3.setCell ⟨R, 7, none⟩ v3) ∧ Grown F F' w := by
    have hset := Only.ofGrown (grown_setCell w3 ⟨R, 7, none⟩ v3)
    have hgr := Only.ofGrown hg3
    have hon : Only F1 w2 (w3.setCell ⟨R, 7, none⟩ v3) := (((Only.ofBelow hbE).mono (D := F1) (fun _ _ h => h.elim)).trans hgr (fun j _ hj => (hE.fl j hj).1)).setCell ⟨R, 7, none⟩ v3 (fun _ => hE.fR)
    have hwv : Where w2 ul v3 := fun j hj => by
      rcases hw3 j hj with q | q
      · exact .inl q
      · simp at q; exact .inr (by omega)
    have hR3 : ∀ j, v3.ownBlock = some j → ¬ (some R = some j) := fun j hj e => by
      cases e
      rcases hwv R hj with q | q
      · exact hne q.symm
      · omega
    have hGd : RdG w2 G ao c l := (hG.only (Only.ofBelow hbw) (fun _ d => d.elim)).only hon1 HD.out.apart
    have hon0 : Only F w w2 := (((Only.ofBelow hbw).mono (D := F) (fun _ _ h => h.elim)).trans hon1 (fun j _ hj => hj))
    obtain ⟨r1, r2⟩ := hE.turn (now' := now.put ar (now.at ar ++ l)) (log' := log ++ [⟨1, ar, l⟩]) (va' := ua) (vb' := ub) (vl' := v3) (xs' := ys ++ [.int .i64 1, .int .i64 ar, .slice ao l.length c]) hon (by rw [heap_setCell_same _ _ _ _ 60 _ hc3]; simp [progL])
      (hset.own (hgr.own hEB.o0 (fun j hj e => (hE.fl j e).2.2.1 hj)) (fun j hj e => (hE.f0 j hj).2 (by cases e; rfl))) (hset.own (hgr.own hEB.o1 (fun j hj e => (hE.fl j e).2.2.2 hj)) (fun j hj e => (hE.f1 j hj).2.1 (by cases e; rfl)))
      (by rw [List.length_append]; exact hset.row ho3 hR3) (Items.snoc (x := ⟨1, ar, l⟩) (hGd.only hon hE.apart) (hE.it.only hon hE.apart))
      (fun j hj => .inl hj) (fun j hj => .inl hj) hwv
      (fun j hj e e2 => by have := hE.uF j (hE.f1 j e2).1; omega) (fun j hj e e2 => by have := hE.uF j (hE.f0 j e).1; omega) (fun j hj e e2 => by have := hE.uF j (hE.f1 j e).1; omega)
    refine ⟨⟨_, rfl⟩, _, ⟨_, _, _, _, _, _, _, _, r1⟩, hon0.trans hon (fun j hj hF1 => ?_), ?_⟩
    · rcases hgr1 j hF1 with q | q
      · exact q
      · have := hbw.size; omega
    · exact (fun j hj => by
        rcases r2 j hj with q | q
        · rcases hgr1 j q with p | p
          · exact .inl p
          · exact .inr (Nat.le_trans hbw.size p)
        · exact .inr (by omega))
  have HX := hide (And.intro hE (And.intro hEB (And.intro ho3 (And.intro hg3 (And.intro hw3 hc3)))))
  clear hE hEB ho3 hg3 hw3 hc3 hgr1 hon1 hb1
  refine wp_region_held_drew (S := (fun w' => w'.cell? ⟨w.heap.size, 0, none⟩ = some (.int .i64 1) ∧ w'.cell? ⟨w.heap.size, 1, none⟩ = some (.int .i64 ar) ∧ w'.cell? ⟨w.heap.size, 2, none⟩ = some (.slice ao l.length c))) (by kernel_rfl) (by exact hS2) (fun hHeld => ?_)
  try dsimp only at hHeld
  refine take_op (i := 0) (d := 13) (OP := Op.move (Operand.tmp 0)) (T := 28) (v := ?vq10x) rfl rfl rfl rfl (by kernel_rfl) (by kernel_rfl) (by kernel_rfl) (fun _ _ _ h => h) (by rfl) ?hq10x hHeld ?rq10x
  case hq10x => (intro w' hSw; (try dsimp only at hSw); go_simp <;> with_reducible rfl)
  try simp only [Act.put, List.setIfInBounds_toArray, List.set_cons_zero, List.set_cons_succ]
  refine take_op (i := 1) (d := 14) (OP := Op.move (Operand.tmp 0)) (T := 28) (v := ?vq11x) rfl rfl rfl rfl (by kernel_rfl) (by kernel_rfl) (by kernel_rfl) (fun _ _ _ h => h) (by rfl) ?hq11x hHeld ?rq11x
  case hq11x => (intro w' hSw; (try dsimp only at hSw); go_simp <;> with_reducible rfl)
  try simp only [Act.put, List.setIfInBounds_toArray, List.set_cons_zero, List.set_cons_succ]
  refine take_op (i := 2) (d := 15) (OP := Op.nilCheck (Operand.tmp 14)) (T := 0) (v := ?vq12x) rfl rfl rfl rfl (by kernel_rfl) (by kernel_rfl) (by kernel_rfl) (fun _ _ _ h => h) (by rfl) ?hq12x hHeld ?rq12x
  case hq12x => (intro w' hSw; (try dsimp only at hSw); go_simp <;> with_reducible rfl)
  try simp only [Act.put, List.setIfInBounds_toArray, List.set_cons_zero, List.set_cons_succ]
  refine take_op (i := 3) (d := 16) (OP := Op.fieldAddr 60 (Operand.tmp 15) 3) (T := 0) (v := ?vq13x) rfl rfl rfl rfl (by kernel_rfl) (by kernel_rfl) (by kernel_rfl) (fun _ _ _ h => h) (by rfl) ?hq13x hHeld ?rq13x
  case hq13x => (intro w' hSw; (try dsimp only at hSw); go_simp <;> with_reducible rfl)
  try simp only [Act.put, List.setIfInBounds_toArray, List.set_cons_zero, List.set_cons_succ]
  refine take_op (i := 5) (d := 18) (OP := Op.load 50 (Operand.tmp 3)) (T := 50) (v := ?vq14x) rfl rfl rfl rfl (by kernel_rfl) (by kernel_rfl) (by kernel_rfl) (fun _ _ _ h => h) (by rfl) ?hq14x hHeld ?rq14x
  case hq14x => (intro w' hSw; (try dsimp only at hSw); go_simp <;> with_reducible rfl)
  try simp only [Act.put, List.setIfInBounds_toArray, List.set_cons_zero, List.set_cons_succ]
  refine two_op (i := 4) (j := 6) (di := 17) (dj := 19) (OPi := Op.load 58 (Operand.tmp 16)) (OPj := Op.buildSlice 58 1 #[(0, Operand.tmp 18)]) (Ti := 58) (Tj := 58) (v := ul) (u := .slice (some ⟨w2.heap.size, 0, none⟩) 1 1) (w' := (w2.drew.alloc (.cells #[.int .i64 1, .int .i64 ar, .slice ao l.length c] 50))) rfl rfl rfl rfl rfl rfl rfl rfl (by kernel_rfl) (by rfl) (by rfl) ?ei ?ej hHeld hS3 ?bi ?bj
  case ei => go_simp <;> with_reducible rfl
  case ej => go_simp <;> with_reducible rfl
  case bi =>
    try simp only [Act.put, List.setIfInBounds_toArray, List.set_cons_zero, List.set_cons_succ]
    refine turn_op (i := 6) (d := 19) (OP := Op.buildSlice 58 1 #[(0, Operand.tmp 18)]) (T := 58) (v := (.slice (some ⟨w2.heap.size, 0, none⟩) 1 1)) (w' := (w2.drew.alloc (.cells #[.int .i64 1, .int .i64 ar, .slice ao l.length c] 50))) rfl rfl rfl rfl (by kernel_rfl) (by rfl) (by go_simp) hS3 ?_
    replace hHeld := hS3
    try simp only [Act.put, List.setIfInBounds_toArray, List.set_cons_zero, List.set_cons_succ]
    refine turn_op (i := 7) (d := 20) (OP := Op.call { callee := Callee.builtin Builtin.append, args := #[Operand.tmp 17, Operand.tmp 19], argTypes := #[58, 58] }) (T := 58) (v := v3) (w' := w3) rfl rfl rfl rfl (by kernel_rfl) (by rfl) (exec_append rfl rfl hr3) hS4 ?_
    replace hHeld := hS4
    try simp only [Act.put, List.setIfInBounds_toArray, List.set_cons_zero, List.set_cons_succ]
    refine take_op (i := 8) (d := 21) (OP := Op.nilCheck (Operand.tmp 13)) (T := 0) (v := ?vq17x) rfl rfl rfl rfl (by kernel_rfl) (by kernel_rfl) (by kernel_rfl) (fun _ _ _ h => h) (by rfl) ?hq17x hHeld ?rq17x
    case hq17x => (intro w' hSw; (try dsimp only at hSw); go_simp <;> with_reducible rfl)
    try simp only [Act.put, List.setIfInBounds_toArray, List.set_cons_zero, List.set_cons_succ]
    refine take_op (i := 9) (d := 22) (OP := Op.fieldAddr 60 (Operand.tmp 21) 3) (T := 0) (v := ?vq18x) rfl rfl rfl rfl (by kernel_rfl) (by kernel_rfl) (by kernel_rfl) (fun _ _ _ h => h) (by rfl) ?hq18x hHeld ?rq18x
    case hq18x => (intro w' hSw; (try dsimp only at hSw); go_simp <;> with_reducible rfl)
    try simp only [Act.put, List.setIfInBounds_toArray, List.set_cons_zero, List.set_cons_succ]
    refine skip_op (i := 10) (OP := Op.store 58 (Operand.tmp 22) (Operand.tmp 20)) (T := 0) (w' := w3.setCell ⟨R, 7, none⟩ v3) rfl rfl rfl rfl (by kernel_rfl) (by rfl) (by go_simp) ⟨hS5, ?_⟩
    replace hHeld := hS5
    refine wpAnyH_done (by kernel_rfl) ?_ _
    go_wp2
    go_end0
    first | exact hfin | (rw [hv3] at hfin; exact hfin)
  case bj =>
    replace hHeld := hS3
    try simp only [Act.put, List.setIfInBounds_toArray, List.set_cons_zero, List.set_cons_succ]
    refine alone_op (i := 4) (d := 17) (OP := Op.load 58 (Operand.tmp 16)) (T := 58) (v := ?vq20x) rfl rfl rfl rfl (by kernel_rfl) (by rfl) ?hq20x hHeld ?rq20x
    case hq20x => (go_simp <;> with_reducible rfl)
    try simp only [Act.put, List.setIfInBounds_toArray, List.set_cons_zero, List.set_cons_succ]
    refine turn_op (i := 7) (d := 20) (OP := Op.call { callee := Callee.builtin Builtin.append, args := #[Operand.tmp 17, Operand.tmp 19], argTypes := #[58, 58] }) (T := 58) (v := v3) (w' := w3) rfl rfl rfl rfl (by kernel_rfl) (by rfl) (exec_append rfl rfl hr3) hS4 ?_
    replace hHeld := hS4
    try simp only [Act.put, List.setIfInBounds_toArray, List.set_cons_zero, List.set_cons_succ]
    refine take_op (i := 8) (d := 21) (OP := Op.nilCheck (Operand.tmp 13)) (T := 0) (v := ?vq22x) rfl rfl rfl rfl (by kernel_rfl) (by kernel_rfl) (by kernel_rfl) (fun _ _ _ h => h) (by rfl) ?hq22x hHeld ?rq22x
    case hq22x => (intro w' hSw; (try dsimp only at hSw); go_simp <;> with_reducible rfl)
    try simp only [Act.put, List.setIfInBounds_toArray, List.set_cons_zero, List.set_cons_succ]
    refine take_op (i := 9) (d := 22) (OP := Op.fieldAddr 60 (Operand.tmp 21) 3) (T := 0) (v := ?vq23x) rfl rfl rfl rfl (by kernel_rfl) (by kernel_rfl) (by kernel_rfl) (fun _ _ _ h => h) (by rfl) ?hq23x hHeld ?rq23x
    case hq23x => (intro w' hSw; (try dsimp only at hSw); go_simp <;> with_reducible rfl)
    try simp only [Act.put, List.setIfInBounds_toArray, List.set_cons_zero, List.set_cons_succ]
    refine skip_op (i := 10) (OP := Op.store 58 (Operand.tmp 22) (Operand.tmp 20)) (T := 0) (w' := w3.setCell ⟨R, 7, none⟩ v3) rfl rfl rfl rfl (by kernel_rfl) (by rfl) (by go_simp) ⟨hS5, ?_⟩
    replace hHeld := hS5
    refine wpAnyH_done (by kernel_rfl) ?_ _
    go_wp2
    go_end0
    first | exact hfin | (rw [hv3] at hfin; exact hfin)

set_option maxHeartbeats 1000000 in
set_option maxRecDepth 100000 in
theorem do2 (ar : Int) (ao : Option Addr) (c : Nat) (l : List Int) (hD : Rep progL 60 F G w R cap beg now log x0 c0 x1 c1 va vb vl xs) (har : ar = 0 ∨ ar = 1) (hG : RdG w G ao c l) (hlog : log.length < 1000000) :
    Calls Try.prog 37 #[.pointer (some ⟨R, 0, none⟩), wrv 2 ar ao l.length c] w fun e w' => (∃ v, e = .returned v) ∧ ∃ F', Disk progL 60 F' G w' R cap beg (now.put ar []) (log ++ [⟨2, ar, l⟩]) ∧ Only F w w' ∧ Grown F F' w := by
  obtain ⟨i50, hi, hz0, hz1, hz2⟩ := info_parts Try.info50
  have hb0 : Below w.heap.size w ((w.alloc (.cells #[.int .i64 2, .int .i64 ar, .slice ao l.length c] 50)).drew) := ((Below.refl _ w).alloc (Nat.le_refl _) _).drew
  have hlt := hD.uF R hD.fR
  have hS0 : ((w.alloc (.cells #[.int .i64 2, .int .i64 ar, .slice ao l.length c] 50)).drew).cell? ⟨w.heap.size, 0, none⟩ = some (.int .i64 2) ∧ ((w.alloc (.cells #[.int .i64 2, .int .i64 ar, .slice ao l.length c] 50)).drew).cell? ⟨w.heap.size, 1, none⟩ = some (.int .i64 ar) ∧ ((w.alloc (.cells #[.int .i64 2, .int .i64 ar, .slice ao l.length c] 50)).drew).cell? ⟨w.heap.size, 2, none⟩ = some (.slice ao l.length c) := by
    obtain ⟨q0, q1, q2, _⟩ := blk3 (w := (w.alloc (.cells #[.int .i64 2, .int .i64 ar, .slice ao l.length c] 50)).drew) (R := w.heap.size) (heap_alloc_new w _)
    exact ⟨q0, q1, q2⟩
  have HD := hide hD
  clear hD
  unfold wrv
  go_enter Try.func37, Try.ntmps37
  go_wp2
  refine wp_region_held_drew (S := (fun w' => w'.cell? ⟨w.heap.size, 0, none⟩ = some (.int .i64 2) ∧ w'.cell? ⟨w.heap.size, 1, none⟩ = some (.int .i64 ar) ∧ w'.cell? ⟨w.heap.size, 2, none⟩ = some (.slice ao l.length c))) (by kernel_rfl) (by exact hS0) (fun hHeld => ?_)
  try dsimp only at hHeld
  refine take_op (i := 1) (d := 5) (OP := Op.fieldAddr 50 (Operand.tmp 3) 0) (T := 0) (v := ?vq25x) rfl rfl rfl rfl (by kernel_rfl) (by kernel_rfl) (by kernel_rfl) (fun _ _ _ h => h) (by rfl) ?hq25x hHeld ?rq25x
  case hq25x => (intro w' hSw; (try dsimp only at hSw); go_simp <;> with_reducible rfl)
  try simp only [Act.put, List.setIfInBounds_toArray, List.set_cons_zero, List.set_cons_succ]
  refine take_op (i := 2) (d := 6) (OP := Op.load 48 (Operand.tmp 5)) (T := 48) (v := ?vq26x) rfl rfl rfl rfl (by kernel_rfl) (by kernel_rfl) (by kernel_rfl) (fun _ _ _ h => h) (by rfl) ?hq26x hHeld ?rq26x
  case hq26x => (intro w' hSw; (try dsimp only at hSw); go_simp <;> with_reducible rfl)
  try simp only [Act.put, List.setIfInBounds_toArray, List.set_cons_zero, List.set_cons_succ]
  refine take_op (i := 4) (d := 8) (OP := Op.move (Operand.tmp 0)) (T := 28) (v := ?vq27x) rfl rfl rfl rfl (by kernel_rfl) (by kernel_rfl) (by kernel_rfl) (fun _ _ _ h => h) (by rfl) ?hq27x hHeld ?rq27x
  case hq27x => (intro w' hSw; (try dsimp only at hSw); go_simp <;> with_reducible rfl)
  try simp only [Act.put, List.setIfInBounds_toArray, List.set_cons_zero, List.set_cons_succ]
  refine take_op (i := 5) (d := 9) (OP := Op.nilCheck (Operand.tmp 8)) (T := 0) (v := ?vq28x) rfl rfl rfl rfl (by kernel_rfl) (by kernel_rfl) (by kernel_rfl) (fun _ _ _ h => h) (by rfl) ?hq28x hHeld ?rq28x
  case hq28x => (intro w' hSw; (try dsimp only at hSw); go_simp <;> with_reducible rfl)
  try simp only [Act.put, List.setIfInBounds_toArray, List.set_cons_zero, List.set_cons_succ]
  refine take_op (i := 6) (d := 10) (OP := Op.fieldAddr 60 (Operand.tmp 9) 2) (T := 0) (v := ?vq29x) rfl rfl rfl rfl (by kernel_rfl) (by kernel_rfl) (by kernel_rfl) (fun _ _ _ h => h) (by rfl) ?hq29x hHeld ?rq29x
  case hq29x => (intro w' hSw; (try dsimp only at hSw); go_simp <;> with_reducible rfl)
  try simp only [Act.put, List.setIfInBounds_toArray, List.set_cons_zero, List.set_cons_succ]
  refine take_op (i := 7) (d := 11) (OP := Op.load 50 (Operand.tmp 3)) (T := 50) (v := ?vq30x) rfl rfl rfl rfl (by kernel_rfl) (by kernel_rfl) (by kernel_rfl) (fun _ _ _ h => h) (by rfl) ?hq30x hHeld ?rq30x
  case hq30x => (intro w' hSw; (try dsimp only at hSw); go_simp <;> with_reducible rfl)
  try simp only [Act.put, List.setIfInBounds_toArray, List.set_cons_zero, List.set_cons_succ]
  refine call_op (i := 0) (d := 4) (OP := Op.call { callee := Callee.value (Operand.func 43), args := #[], argTypes := #[] }) (T := 81) (f := 43) (args := #[]) rfl rfl rfl rfl (by kernel_rfl) (by rfl) (by go_simp) ?_
  refine (doers_any _).mono ?_
  rintro e w1 ⟨rfl, hb1⟩
  have hS1 : w1.cell? ⟨w.heap.size, 0, none⟩ = some (.int .i64 2) ∧ w1.cell? ⟨w.heap.size, 1, none⟩ = some (.int .i64 ar) ∧ w1.cell? ⟨w.heap.size, 2, none⟩ = some (.slice ao l.length c) := ⟨(hb1.cell (by simp)).trans hS0.1, (hb1.cell (by simp)).trans hS0.2.1, (hb1.cell (by simp)).trans hS0.2.2⟩
  have hbw : Below w.heap.size w w1 := hb0.trans (hb1.mono (by simp))
  have hD1 := HD.out.below hbw
  have hix : (Instr.index 81 (.agg #[.nilFunc, .func (.func 44) #[] #[], .func (.func 45) #[] #[], .func (.func 46) #[] #[]]) (.int .i64 2)).run Try.prog w1 = .ok (.func (.func 45) #[] #[]) w1 := by kernel_rfl
  refine ⟨_, rfl, hS1, ?_⟩
  replace hHeld := hS1
  try simp only [Act.put, List.setIfInBounds_toArray, List.set_cons_zero, List.set_cons_succ]
  refine alone_op (i := 3) (d := 7) (OP := Op.index 81 (Operand.tmp 4) (Operand.tmp 6)) (T := 80) (v := ?vq32x) rfl rfl rfl rfl (by kernel_rfl) (by rfl) ?hq32x hHeld ?rq32x
  case hq32x => (go_simp <;> with_reducible rfl)
  try simp only [Act.put, List.setIfInBounds_toArray, List.set_cons_zero, List.set_cons_succ]
  refine call_op (i := 8) (d := 12) (OP := Op.call { callee := Callee.value (Operand.tmp 7), args := #[Operand.tmp 10, Operand.tmp 11], argTypes := #[83, 50] }) (T := 0) (f := 45) (args := #[.pointer (some ⟨R, 4, none⟩), .agg #[.int .i64 2, .int .i64 ar, .slice ao l.length c]]) rfl rfl rfl rfl (by kernel_rfl) (by rfl) (by go_simp) ?_
  refine (clear_any 2 ar ao l.length c hD1 har).mono ?_
  rintro e w2 ⟨⟨v, rfl⟩, F1, hE1, hon1, hgr1⟩
  have hnb : ¬ F w.heap.size := fun e => by have := HD.out.uF _ e; omega
  have hS2 : w2.cell? ⟨w.heap.size, 0, none⟩ = some (.int .i64 2) ∧ w2.cell? ⟨w.heap.size, 1, none⟩ = some (.int .i64 ar) ∧ w2.cell? ⟨w.heap.size, 2, none⟩ = some (.slice ao l.length c) := ⟨hon1.cell hS1.1 hnb, hon1.cell hS1.2.1 hnb, hon1.cell hS1.2.2 hnb⟩
  refine ⟨_, rfl, hS2, ?_⟩
  replace hHeld := hS2
  try simp only [Act.put, List.setIfInBounds_toArray, List.set_cons_zero, List.set_cons_succ]
  refine wpAnyH_done (by kernel_rfl) ?_ _
  clear hD1
  go_wp2
  obtain ⟨y0, d0, y1, d1, ua, ub, ul, ys, hE⟩ := hE1
  have hsz2 : w.heap.size + 1 ≤ w2.heap.size := by have h1 := hb1.size; have h2 := hon1.size; simp at h1; omega
  have hltE : R < w2.heap.size := by omega
  have hbE : Below w2.heap.size w2 (w2.drew.alloc (.cells #[.int .i64 2, .int .i64 ar, .slice ao l.length c] 50)) := ((Below.refl _ w2).drew).alloc (Nat.le_refl _) _
  have hEB := hE.below hbE
  have hcE : w2.drew.cell? ⟨R, 7, none⟩ = some ul := by rw [cell_of_row w2.drew R 7 _ 60 (0, 0) hE.cells]; rfl
  have hcB : (w2.drew.alloc (.cells #[.int .i64 2, .int .i64 ar, .slice ao l.length c] 50)).cell? ⟨R, 7, none⟩ = some ul := by rw [cell_of_row _ R 7 _ 60 (0, 0) hEB.cells]; rfl
  have hS3 : (w2.drew.alloc (.cells #[.int .i64 2, .int .i64 ar, .slice ao l.length c] 50)).cell? ⟨w.heap.size, 0, none⟩ = some (.int .i64 2) ∧ (w2.drew.alloc (.cells #[.int .i64 2, .int .i64 ar, .slice ao l.length c] 50)).cell? ⟨w.heap.size, 1, none⟩ = some (.int .i64 ar) ∧ (w2.drew.alloc (.cells #[.int .i64 2, .int .i64 ar, .slice ao l.length c] 50)).cell? ⟨w.heap.size, 2, none⟩ = some (.slice ao l.length c) := ⟨(hbE.cell (by simp; omega)).trans hS2.1, (hbE.cell (by simp; omega)).trans hS2.2.1, (hbE.cell (by simp; omega)).trans hS2.2.2⟩
  obtain ⟨q0, q1, q2, _⟩ := blk3 (w := (w2.drew.alloc (.cells #[.int .i64 2, .int .i64 ar, .slice ao l.length c] 50))) (R := w2.heap.size) (heap_alloc_new w2.drew _)
  obtain ⟨v3, w3, hr3, ho3, hg3, hw3⟩ := append_where (P := Try.prog) (w2.drew.alloc (.cells #[.int .i64 2, .int .i64 ar, .slice ao l.length c] 50)) 58 58 50 i50 _ 3 40 Try.underlying58 hi hz0 hz1 hz2 rfl (by decide) ul _ _ hEB.ol ⟨w2.heap.size, 0, none⟩ 1 1 [.int .i64 2, .int .i64 ar, .slice ao l.length c] rfl (by
    intro j u hj
    rw [add_lit]
    match j, hj with
    | 0, hj => cases hj; exact q0
    | 1, hj => cases hj; exact q1
    | 2, hj => cases hj; exact q2) (by simp [Value.oneCell']) (by unfold maxLen; omega) (by omega)
  obtain ⟨a3, n3, cp3, hv3⟩ : ∃ a n c, v3 = .slice a n c := by
    rcases ho3.2 with ⟨h, _⟩ | ⟨_, _, _, h, _⟩
    · exact ⟨_, _, _, h⟩
    · exact ⟨_, _, _, h⟩
  have hcE2 : w2.cell? ⟨R, 7, none⟩ = some ul := hcE
  have hne : some R ≠ ul.ownBlock := fun e => (hE.fl R e.symm).2.1 rfl
  have hc3 := (hg3.block R (by simp; omega) hne).trans hEB.cells
  have hcs : w3.cell? ⟨R, 7, none⟩ = some ul := by rw [cell_of_row _ R 7 _ 60 (0, 0) hc3]; rfl
  have hfs : w3.frozen? ⟨R, 7, none⟩ = false := frozen_of_row _ R 7 _ 60 hc3
  have hnl : some w.heap.size ≠ ul.ownBlock := fun e => by
    rcases hgr1 _ (hE.fl _ e.symm).1 with q | q
    · have := HD.out.uF _ q; omega
    · have h1 := hb1.size; simp at h1; omega
  have hS4 : w3.cell? ⟨w.heap.size, 0, none⟩ = some (.int .i64 2) ∧ w3.cell? ⟨w.heap.size, 1, none⟩ = some (.int .i64 ar) ∧ w3.cell? ⟨w.heap.size, 2, none⟩ = some (.slice ao l.length c) := ⟨hg3.cell hS3.1 hnl, hg3.cell hS3.2.1 hnl, hg3.cell hS3.2.2 hnl⟩
  have hS5 : (w3.setCell ⟨R, 7, none⟩ v3).cell? ⟨w.heap.size, 0, none⟩ = some (.int .i64 2) ∧ (w3.setCell ⟨R, 7, none⟩ v3).cell? ⟨w.heap.size, 1, none⟩ = some (.int .i64 ar) ∧ (w3.setCell ⟨R, 7, none⟩ v3).cell? ⟨w.heap.size, 2, none⟩ = some (.slice ao l.length c) := by
    have hq := grown_setCell w3 ⟨R, 7, none⟩ v3
    have hq2 : some w.heap.size ≠ some R := by simp; omega
    exact ⟨hq.cell hS4.1 hq2, hq.cell hS4.2.1 hq2, hq.cell hS4.2.2 hq2⟩
  have hfin : (∃ v, Ending.returned (.tuple #[]) = .returned v) ∧ ∃ F', Disk progL 60 F' G (w3.setCell ⟨R, 7, none⟩ v3) R cap beg (now.put ar []) (log ++ [⟨2, ar, l⟩]) ∧ Only F w (w3.setCell ⟨R, 7, none⟩ v3) ∧ Grown F F' w := by
    have hset := Only.ofGrown (grown_setCell w3 ⟨R, 7, none⟩ v3)
    have hgr := Only.ofGrown hg3
    have hon : Only F1 w2 (w3.setCell ⟨R, 7, none⟩ v3) := (((Only.ofBelow hbE).mono (D := F1) (fun _ _ h => h.elim)).trans hgr (fun j _ hj => (hE.fl j hj).1)).setCell ⟨R, 7, none⟩ v3 (fun _ => hE.fR)
    have hwv : Where w2 ul v3 := fun j hj => by
      rcases hw3 j hj with q | q
      · exact .inl q
      · simp at q; exact .inr (by omega)
    have hR3 : ∀ j, v3.ownBlock = some j → ¬ (some R = some j) := fun j hj e => by
      cases e
      rcases hwv R hj with q | q
      · exact hne q.symm
      · omega
    have hGd : RdG w2 G ao c l := (hG.only (Only.ofBelow hbw) (fun _ d => d.elim)).only hon1 HD.out.apart
    have hon0 : Only F w w2 := (((Only.ofBelow hbw).mono (D := F) (fun _ _ h => h.elim)).trans hon1 (fun j _ hj => hj))
    obtain ⟨r1, r2⟩ := hE.turn (now' := now.put ar []) (log' := log ++ [⟨2, ar, l⟩]) (va' := ua) (vb' := ub) (vl' := v3) (xs' := ys ++ [.int .i64 2, .int .i64 ar, .slice ao l.length c]) hon (by rw [heap_setCell_same _ _ _ _ 60 _ hc3]; simp [progL])
      (hset.own (hgr.own hEB.o0 (fun j hj e => (hE.fl j e).2.2.1 hj)) (fun j hj e => (hE.f0 j hj).2 (by cases e; rfl))) (hset.own (hgr.own hEB.o1 (fun j hj e => (hE.fl j e).2.2.2 hj)) (fun j hj e => (hE.f1 j hj).2.1 (by cases e; rfl)))
      (by rw [List.length_append]; exact hset.row ho3 hR3) (Items.snoc (x := ⟨2, ar, l⟩) (hGd.only hon hE.apart) (hE.it.only hon hE.apart))
      (fun j hj => .inl hj) (fun j hj => .inl hj) hwv
      (fun j hj e e2 => by have := hE.uF j (hE.f1 j e2).1; omega) (fun j hj e e2 => by have := hE.uF j (hE.f0 j e).1; omega) (fun j hj e e2 => by have := hE.uF j (hE.f1 j e).1; omega)
    refine ⟨⟨_, rfl⟩, _, ⟨_, _, _, _, _, _, _, _, r1⟩, hon0.trans hon (fun j hj hF1 => ?_), ?_⟩
    · rcases hgr1 j hF1 with q | q
      · exact q
      · have := hbw.size; omega
    · exact (fun j hj => by
        rcases r2 j hj with q | q
        · rcases hgr1 j q with p | p
          · exact .inl p
          · exact .inr (Nat.le_trans hbw.size p)
        · exact .inr (by omega))
  have HX := hide (And.intro hE (And.intro hEB (And.intro ho3 (And.intro hg3 (And.intro hw3 hc3)))))
  clear hE hEB ho3 hg3 hw3 hc3 hgr1 hon1 hb1
  refine wp_region_held_drew (S := (fun w' => w'.cell? ⟨w.heap.size, 0, none⟩ = some (.int .i64 2) ∧ w'.cell? ⟨w.heap.size, 1, none⟩ = some (.int .i64 ar) ∧ w'.cell? ⟨w.heap.size, 2, none⟩ = some (.slice ao l.length c))) (by kernel_rfl) (by exact hS2) (fun hHeld => ?_)
  try dsimp only at hHeld
  refine take_op (i := 0) (d := 13) (OP := Op.move (Operand.tmp 0)) (T := 28) (v := ?vq34x) rfl rfl rfl rfl (by kernel_rfl) (by kernel_rfl) (by kernel_rfl) (fun _ _ _ h => h) (by rfl) ?hq34x hHeld ?rq34x
  case hq34x => (intro w' hSw; (try dsimp only at hSw); go_simp <;> with_reducible rfl)
  try simp only [Act.put, List.setIfInBounds_toArray, List.set_cons_zero, List.set_cons_succ]
  refine take_op (i := 1) (d := 14) (OP := Op.move (Operand.tmp 0)) (T := 28) (v := ?vq35x) rfl rfl rfl rfl (by kernel_rfl) (by kernel_rfl) (by kernel_rfl) (fun _ _ _ h => h) (by rfl) ?hq35x hHeld ?rq35x
  case hq35x => (intro w' hSw; (try dsimp only at hSw); go_simp <;> with_reducible rfl)
  try simp only [Act.put, List.setIfInBounds_toArray, List.set_cons_zero, List.set_cons_succ]
  refine take_op (i := 2) (d := 15) (OP := Op.nilCheck (Operand.tmp 14)) (T := 0) (v := ?vq36x) rfl rfl rfl rfl (by kernel_rfl) (by kernel_rfl) (by kernel_rfl) (fun _ _ _ h => h) (by rfl) ?hq36x hHeld ?rq36x
  case hq36x => (intro w' hSw; (try dsimp only at hSw); go_simp <;> with_reducible rfl)
  try simp only [Act.put, List.setIfInBounds_toArray, List.set_cons_zero, List.set_cons_succ]
  refine take_op (i := 3) (d := 16) (OP := Op.fieldAddr 60 (Operand.tmp 15) 3) (T := 0) (v := ?vq37x) rfl rfl rfl rfl (by kernel_rfl) (by kernel_rfl) (by kernel_rfl) (fun _ _ _ h => h) (by rfl) ?hq37x hHeld ?rq37x
  case hq37x => (intro w' hSw; (try dsimp only at hSw); go_simp <;> with_reducible rfl)
  try simp only [Act.put, List.setIfInBounds_toArray, List.set_cons_zero, List.set_cons_succ]
  refine take_op (i := 5) (d := 18) (OP := Op.load 50 (Operand.tmp 3)) (T := 50) (v := ?vq38x) rfl rfl rfl rfl (by kernel_rfl) (by kernel_rfl) (by kernel_rfl) (fun _ _ _ h => h) (by rfl) ?hq38x hHeld ?rq38x
  case hq38x => (intro w' hSw; (try dsimp only at hSw); go_simp <;> with_reducible rfl)
  try simp only [Act.put, List.setIfInBounds_toArray, List.set_cons_zero, List.set_cons_succ]
  refine two_op (i := 4) (j := 6) (di := 17) (dj := 19) (OPi := Op.load 58 (Operand.tmp 16)) (OPj := Op.buildSlice 58 1 #[(0, Operand.tmp 18)]) (Ti := 58) (Tj := 58) (v := ul) (u := .slice (some ⟨w2.heap.size, 0, none⟩) 1 1) (w' := (w2.drew.alloc (.cells #[.int .i64 2, .int .i64 ar, .slice ao l.length c] 50))) rfl rfl rfl rfl rfl rfl rfl rfl (by kernel_rfl) (by rfl) (by rfl) ?ei ?ej hHeld hS3 ?bi ?bj
  case ei => go_simp <;> with_reducible rfl
  case ej => go_simp <;> with_reducible rfl
  case bi =>
    try simp only [Act.put, List.setIfInBounds_toArray, List.set_cons_zero, List.set_cons_succ]
    refine turn_op (i := 6) (d := 19) (OP := Op.buildSlice 58 1 #[(0, Operand.tmp 18)]) (T := 58) (v := (.slice (some ⟨w2.heap.size, 0, none⟩) 1 1)) (w' := (w2.drew.alloc (.cells #[.int .i64 2, .int .i64 ar, .slice ao l.length c] 50))) rfl rfl rfl rfl (by kernel_rfl) (by rfl) (by go_simp) hS3 ?_
    replace hHeld := hS3
    try simp only [Act.put, List.setIfInBounds_toArray, List.set_cons_zero, List.set_cons_succ]
    refine turn_op (i := 7) (d := 20) (OP := Op.call { callee := Callee.builtin Builtin.append, args := #[Operand.tmp 17, Operand.tmp 19], argTypes := #[58, 58] }) (T := 58) (v := v3) (w' := w3) rfl rfl rfl rfl (by kernel_rfl) (by rfl) (exec_append rfl rfl hr3) hS4 ?_
    replace hHeld := hS4
    try simp only [Act.put, List.setIfInBounds_toArray, List.set_cons_zero, List.set_cons_succ]
    refine take_op (i := 8) (d := 21) (OP := Op.nilCheck (Operand.tmp 13)) (T := 0) (v := ?vq41x) rfl rfl rfl rfl (by kernel_rfl) (by kernel_rfl) (by kernel_rfl) (fun _ _ _ h => h) (by rfl) ?hq41x hHeld ?rq41x
    case hq41x => (intro w' hSw; (try dsimp only at hSw); go_simp <;> with_reducible rfl)
    try simp only [Act.put, List.setIfInBounds_toArray, List.set_cons_zero, List.set_cons_succ]
    refine take_op (i := 9) (d := 22) (OP := Op.fieldAddr 60 (Operand.tmp 21) 3) (T := 0) (v := ?vq42x) rfl rfl rfl rfl (by kernel_rfl) (by kernel_rfl) (by kernel_rfl) (fun _ _ _ h => h) (by rfl) ?hq42x hHeld ?rq42x
    case hq42x => (intro w' hSw; (try dsimp only at hSw); go_simp <;> with_reducible rfl)
    try simp only [Act.put, List.setIfInBounds_toArray, List.set_cons_zero, List.set_cons_succ]
    refine skip_op (i := 10) (OP := Op.store 58 (Operand.tmp 22) (Operand.tmp 20)) (T := 0) (w' := w3.setCell ⟨R, 7, none⟩ v3) rfl rfl rfl rfl (by kernel_rfl) (by rfl) (by go_simp) ⟨hS5, ?_⟩
    replace hHeld := hS5
    refine wpAnyH_done (by kernel_rfl) ?_ _
    go_wp2
    go_end0
    first | exact hfin | (rw [hv3] at hfin; exact hfin)
  case bj =>
    replace hHeld := hS3
    try simp only [Act.put, List.setIfInBounds_toArray, List.set_cons_zero, List.set_cons_succ]
    refine alone_op (i := 4) (d := 17) (OP := Op.load 58 (Operand.tmp 16)) (T := 58) (v := ?vq44x) rfl rfl rfl rfl (by kernel_rfl) (by rfl) ?hq44x hHeld ?rq44x
    case hq44x => (go_simp <;> with_reducible rfl)
    try simp only [Act.put, List.setIfInBounds_toArray, List.set_cons_zero, List.set_cons_succ]
    refine turn_op (i := 7) (d := 20) (OP := Op.call { callee := Callee.builtin Builtin.append, args := #[Operand.tmp 17, Operand.tmp 19], argTypes := #[58, 58] }) (T := 58) (v := v3) (w' := w3) rfl rfl rfl rfl (by kernel_rfl) (by rfl) (exec_append rfl rfl hr3) hS4 ?_
    replace hHeld := hS4
    try simp only [Act.put, List.setIfInBounds_toArray, List.set_cons_zero, List.set_cons_succ]
    refine take_op (i := 8) (d := 21) (OP := Op.nilCheck (Operand.tmp 13)) (T := 0) (v := ?vq46x) rfl rfl rfl rfl (by kernel_rfl) (by kernel_rfl) (by kernel_rfl) (fun _ _ _ h => h) (by rfl) ?hq46x hHeld ?rq46x
    case hq46x => (intro w' hSw; (try dsimp only at hSw); go_simp <;> with_reducible rfl)
    try simp only [Act.put, List.setIfInBounds_toArray, List.set_cons_zero, List.set_cons_succ]
    refine take_op (i := 9) (d := 22) (OP := Op.fieldAddr 60 (Operand.tmp 21) 3) (T := 0) (v := ?vq47x) rfl rfl rfl rfl (by kernel_rfl) (by kernel_rfl) (by kernel_rfl) (fun _ _ _ h => h) (by rfl) ?hq47x hHeld ?rq47x
    case hq47x => (intro w' hSw; (try dsimp only at hSw); go_simp <;> with_reducible rfl)
    try simp only [Act.put, List.setIfInBounds_toArray, List.set_cons_zero, List.set_cons_succ]
    refine skip_op (i := 10) (OP := Op.store 58 (Operand.tmp 22) (Operand.tmp 20)) (T := 0) (w' := w3.setCell ⟨R, 7, none⟩ v3) rfl rfl rfl rfl (by kernel_rfl) (by rfl) (by go_simp) ⟨hS5, ?_⟩
    replace hHeld := hS5
    refine wpAnyH_done (by kernel_rfl) ?_ _
    go_wp2
    go_end0
    first | exact hfin | (rw [hv3] at hfin; exact hfin)

set_option maxHeartbeats 1000000 in
set_option maxRecDepth 100000 in
theorem do3 (ar : Int) (ao : Option Addr) (c : Nat) (l : List Int) (hD : Rep progL 60 F G w R cap beg now log x0 c0 x1 c1 va vb vl xs) (_har : ar = 0 ∨ ar = 1) (hG : RdG w G ao c l) (hu : now.u = 0 ∨ now.u = 1) (hlog : log.length < 1000000) :
    Calls Try.prog 37 #[.pointer (some ⟨R, 0, none⟩), wrv 3 ar ao l.length c] w fun e w' => (∃ v, e = .returned v) ∧ ∃ F', Disk progL 60 F' G w' R cap beg ({ now with u := 1 - now.u }) (log ++ [⟨3, ar, l⟩]) ∧ Only F w w' ∧ Grown F F' w := by
  obtain ⟨i50, hi, hz0, hz1, hz2⟩ := info_parts Try.info50
  have hb0 : Below w.heap.size w ((w.alloc (.cells #[.int .i64 3, .int .i64 ar, .slice ao l.length c] 50)).drew) := ((Below.refl _ w).alloc (Nat.le_refl _) _).drew
  have hlt := hD.uF R hD.fR
  have hS0 : ((w.alloc (.cells #[.int .i64 3, .int .i64 ar, .slice ao l.length c] 50)).drew).cell? ⟨w.heap.size, 0, none⟩ = some (.int .i64 3) ∧ ((w.alloc (.cells #[.int .i64 3, .int .i64 ar, .slice ao l.length c] 50)).drew).cell? ⟨w.heap.size, 1, none⟩ = some (.int .i64 ar) ∧ ((w.alloc (.cells #[.int .i64 3, .int .i64 ar, .slice ao l.length c] 50)).drew).cell? ⟨w.heap.size, 2, none⟩ = some (.slice ao l.length c) := by
    obtain ⟨q0, q1, q2, _⟩ := blk3 (w := (w.alloc (.cells #[.int .i64 3, .int .i64 ar, .slice ao l.length c] 50)).drew) (R := w.heap.size) (heap_alloc_new w _)
    exact ⟨q0, q1, q2⟩
  have HD := hide hD
  clear hD
  unfold wrv
  go_enter Try.func37, Try.ntmps37
  go_wp2
  refine wp_region_held_drew (S := (fun w' => w'.cell? ⟨w.heap.size, 0, none⟩ = some (.int .i64 3) ∧ w'.cell? ⟨w.heap.size, 1, none⟩ = some (.int .i64 ar) ∧ w'.cell? ⟨w.heap.size, 2, none⟩ = some (.slice ao l.length c))) (by kernel_rfl) (by exact hS0) (fun hHeld => ?_)
  try dsimp only at hHeld
  refine take_op (i := 1) (d := 5) (OP := Op.fieldAddr 50 (Operand.tmp 3) 0) (T := 0) (v := ?vq49x) rfl rfl rfl rfl (by kernel_rfl) (by kernel_rfl) (by kernel_rfl) (fun _ _ _ h => h) (by rfl) ?hq49x hHeld ?rq49x
  case hq49x => (intro w' hSw; (try dsimp only at hSw); go_simp <;> with_reducible rfl)
  try simp only [Act.put, List.setIfInBounds_toArray, List.set_cons_zero, List.set_cons_succ]
  refine take_op (i := 2) (d := 6) (OP := Op.load 48 (Operand.tmp 5)) (T := 48) (v := ?vq50x) rfl rfl rfl rfl (by kernel_rfl) (by kernel_rfl) (by kernel_rfl) (fun _ _ _ h => h) (by rfl) ?hq50x hHeld ?rq50x
  case hq50x => (intro w' hSw; (try dsimp only at hSw); go_simp <;> with_reducible rfl)
  try simp only [Act.put, List.setIfInBounds_toArray, List.set_cons_zero, List.set_cons_succ]
  refine take_op (i := 4) (d := 8) (OP := Op.move (Operand.tmp 0)) (T := 28) (v := ?vq51x) rfl rfl rfl rfl (by kernel_rfl) (by kernel_rfl) (by kernel_rfl) (fun _ _ _ h => h) (by rfl) ?hq51x hHeld ?rq51x
  case hq51x => (intro w' hSw; (try dsimp only at hSw); go_simp <;> with_reducible rfl)
  try simp only [Act.put, List.setIfInBounds_toArray, List.set_cons_zero, List.set_cons_succ]
  refine take_op (i := 5) (d := 9) (OP := Op.nilCheck (Operand.tmp 8)) (T := 0) (v := ?vq52x) rfl rfl rfl rfl (by kernel_rfl) (by kernel_rfl) (by kernel_rfl) (fun _ _ _ h => h) (by rfl) ?hq52x hHeld ?rq52x
  case hq52x => (intro w' hSw; (try dsimp only at hSw); go_simp <;> with_reducible rfl)
  try simp only [Act.put, List.setIfInBounds_toArray, List.set_cons_zero, List.set_cons_succ]
  refine take_op (i := 6) (d := 10) (OP := Op.fieldAddr 60 (Operand.tmp 9) 2) (T := 0) (v := ?vq53x) rfl rfl rfl rfl (by kernel_rfl) (by kernel_rfl) (by kernel_rfl) (fun _ _ _ h => h) (by rfl) ?hq53x hHeld ?rq53x
  case hq53x => (intro w' hSw; (try dsimp only at hSw); go_simp <;> with_reducible rfl)
  try simp only [Act.put, List.setIfInBounds_toArray, List.set_cons_zero, List.set_cons_succ]
  refine take_op (i := 7) (d := 11) (OP := Op.load 50 (Operand.tmp 3)) (T := 50) (v := ?vq54x) rfl rfl rfl rfl (by kernel_rfl) (by kernel_rfl) (by kernel_rfl) (fun _ _ _ h => h) (by rfl) ?hq54x hHeld ?rq54x
  case hq54x => (intro w' hSw; (try dsimp only at hSw); go_simp <;> with_reducible rfl)
  try simp only [Act.put, List.setIfInBounds_toArray, List.set_cons_zero, List.set_cons_succ]
  refine call_op (i := 0) (d := 4) (OP := Op.call { callee := Callee.value (Operand.func 43), args := #[], argTypes := #[] }) (T := 81) (f := 43) (args := #[]) rfl rfl rfl rfl (by kernel_rfl) (by rfl) (by go_simp) ?_
  refine (doers_any _).mono ?_
  rintro e w1 ⟨rfl, hb1⟩
  have hS1 : w1.cell? ⟨w.heap.size, 0, none⟩ = some (.int .i64 3) ∧ w1.cell? ⟨w.heap.size, 1, none⟩ = some (.int .i64 ar) ∧ w1.cell? ⟨w.heap.size, 2, none⟩ = some (.slice ao l.length c) := ⟨(hb1.cell (by simp)).trans hS0.1, (hb1.cell (by simp)).trans hS0.2.1, (hb1.cell (by simp)).trans hS0.2.2⟩
  have hbw : Below w.heap.size w w1 := hb0.trans (hb1.mono (by simp))
  have hD1 := HD.out.below hbw
  have hix : (Instr.index 81 (.agg #[.nilFunc, .func (.func 44) #[] #[], .func (.func 45) #[] #[], .func (.func 46) #[] #[]]) (.int .i64 3)).run Try.prog w1 = .ok (.func (.func 46) #[] #[]) w1 := by kernel_rfl
  refine ⟨_, rfl, hS1, ?_⟩
  replace hHeld := hS1
  try simp only [Act.put, List.setIfInBounds_toArray, List.set_cons_zero, List.set_cons_succ]
  refine alone_op (i := 3) (d := 7) (OP := Op.index 81 (Operand.tmp 4) (Operand.tmp 6)) (T := 80) (v := ?vq56x) rfl rfl rfl rfl (by kernel_rfl) (by rfl) ?hq56x hHeld ?rq56x
  case hq56x => (go_simp <;> with_reducible rfl)
  try simp only [Act.put, List.setIfInBounds_toArray, List.set_cons_zero, List.set_cons_succ]
  refine call_op (i := 8) (d := 12) (OP := Op.call { callee := Callee.value (Operand.tmp 7), args := #[Operand.tmp 10, Operand.tmp 11], argTypes := #[83, 50] }) (T := 0) (f := 46) (args := #[.pointer (some ⟨R, 4, none⟩), .agg #[.int .i64 3, .int .i64 ar, .slice ao l.length c]]) rfl rfl rfl rfl (by kernel_rfl) (by rfl) (by go_simp) ?_
  refine (turn_any 3 ar ao l.length c hD1 hu).mono ?_
  rintro e w2 ⟨⟨v, rfl⟩, F1, hE1, hon1, hgr1⟩
  have hnb : ¬ F w.heap.size := fun e => by have := HD.out.uF _ e; omega
  have hS2 : w2.cell? ⟨w.heap.size, 0, none⟩ = some (.int .i64 3) ∧ w2.cell? ⟨w.heap.size, 1, none⟩ = some (.int .i64 ar) ∧ w2.cell? ⟨w.heap.size, 2, none⟩ = some (.slice ao l.length c) := ⟨hon1.cell hS1.1 hnb, hon1.cell hS1.2.1 hnb, hon1.cell hS1.2.2 hnb⟩
  refine ⟨_, rfl, hS2, ?_⟩
  replace hHeld := hS2
  try simp only [Act.put, List.setIfInBounds_toArray, List.set_cons_zero, List.set_cons_succ]
  refine wpAnyH_done (by kernel_rfl) ?_ _
  clear hD1
  go_wp2
  obtain ⟨y0, d0, y1, d1, ua, ub, ul, ys, hE⟩ := hE1
  have hsz2 : w.heap.size + 1 ≤ w2.heap.size := by have h1 := hb1.size; have h2 := hon1.size; simp at h1; omega
  have hltE : R < w2.heap.size := by omega
  have hbE : Below w2.heap.size w2 (w2.drew.alloc (.cells #[.int .i64 3, .int .i64 ar, .slice ao l.length c] 50)) := ((Below.refl _ w2).drew).alloc (Nat.le_refl _) _
  have hEB := hE.below hbE
  have hcE : w2.drew.cell? ⟨R, 7, none⟩ = some ul := by rw [cell_of_row w2.drew R 7 _ 60 (0, 0) hE.cells]; rfl
  have hcB : (w2.drew.alloc (.cells #[.int .i64 3, .int .i64 ar, .slice ao l.length c] 50)).cell? ⟨R, 7, none⟩ = some ul := by rw [cell_of_row _ R 7 _ 60 (0, 0) hEB.cells]; rfl
  have hS3 : (w2.drew.alloc (.cells #[.int .i64 3, .int .i64 ar, .slice ao l.length c] 50)).cell? ⟨w.heap.size, 0, none⟩ = some (.int .i64 3) ∧ (w2.drew.alloc (.cells #[.int .i64 3, .int .i64 ar, .slice ao l.length c] 50)).cell? ⟨w.heap.size, 1, none⟩ = some (.int .i64 ar) ∧ (w2.drew.alloc (.cells #[.int .i64 3, .int .i64 ar, .slice ao l.length c] 50)).cell? ⟨w.heap.size, 2, none⟩ = some (.slice ao l.length c) := ⟨(hbE.cell (by simp; omega)).trans hS2.1, (hbE.cell (by simp; omega)).trans hS2.2.1, (hbE.cell (by simp; omega)).trans hS2.2.2⟩
  obtain ⟨q0, q1, q2, _⟩ := blk3 (w := (w2.drew.alloc (.cells #[.int .i64 3, .int .i64 ar, .slice ao l.length c] 50))) (R := w2.heap.size) (heap_alloc_new w2.drew _)
  obtain ⟨v3, w3, hr3, ho3, hg3, hw3⟩ := append_where (P := Try.prog) (w2.drew.alloc (.cells #[.int .i64 3, .int .i64 ar, .slice ao l.length c] 50)) 58 58 50 i50 _ 3 40 Try.underlying58 hi hz0 hz1 hz2 rfl (by decide) ul _ _ hEB.ol ⟨w2.heap.size, 0, none⟩ 1 1 [.int .i64 3, .int .i64 ar, .slice ao l.length c] rfl (by
    intro j u hj
    rw [add_lit]
    match j, hj with
    | 0, hj => cases hj; exact q0
    | 1, hj => cases hj; exact q1
    | 2, hj => cases hj; exact q2) (by simp [Value.oneCell']) (by unfold maxLen; omega) (by omega)
  obtain ⟨a3, n3, cp3, hv3⟩ : ∃ a n c, v3 = .slice a n c := by
    rcases ho3.2 with ⟨h, _⟩ | ⟨_, _, _, h, _⟩
    · exact ⟨_, _, _, h⟩
    · exact ⟨_, _, _, h⟩
  have hcE2 : w2.cell? ⟨R, 7, none⟩ = some ul := hcE
  have hne : some R ≠ ul.ownBlock := fun e => (hE.fl R e.symm).2.1 rfl
  have hc3 := (hg3.block R (by simp; omega) hne).trans hEB.cells
  have hcs : w3.cell? ⟨R, 7, none⟩ = some ul := by rw [cell_of_row _ R 7 _ 60 (0, 0) hc3]; rfl
  have hfs : w3.frozen? ⟨R, 7, none⟩ = false := frozen_of_row _ R 7 _ 60 hc3
  have hnl : some w.heap.size ≠ ul.ownBlock := fun e => by
    rcases hgr1 _ (hE.fl _ e.symm).1 with q | q
    · have := HD.out.uF _ q; omega
    · have h1 := hb1.size; simp at h1; omega
  have hS4 : w3.cell? ⟨w.heap.size, 0, none⟩ = some (.int .i64 3) ∧ w3.cell? ⟨w.heap.size, 1, none⟩ = some (.int .i64 ar) ∧ w3.cell? ⟨w.heap.size, 2, none⟩ = some (.slice ao l.length c) := ⟨hg3.cell hS3.1 hnl, hg3.cell hS3.2.1 hnl, hg3.cell hS3.2.2 hnl⟩
  have hS5 : (w3.setCell ⟨R, 7, none⟩ v3).cell? ⟨w.heap.size, 0, none⟩ = some (.int .i64 3) ∧ (w3.setCell ⟨R, 7, none⟩ v3).cell? ⟨w.heap.size, 1, none⟩ = some (.int .i64 ar) ∧ (w3.setCell ⟨R, 7, none⟩ v3).cell? ⟨w.heap.size, 2, none⟩ = some (.slice ao l.length c) := by
    have hq := grown_setCell w3 ⟨R, 7, none⟩ v3
    have hq2 : some w.heap.size ≠ some R := by simp; omega
    exact ⟨hq.cell hS4.1 hq2, hq.cell hS4.2.1 hq2, hq.cell hS4.2.2 hq2⟩
  have hfin : (∃ v, Ending.returned (.tuple #[]) = .returned v) ∧ ∃ F', Disk progL 60 F' G (w3.setCell ⟨R, 7, none⟩ v3) R cap beg ({ now with u := 1 - now.u }) (log ++ [⟨3, ar, l⟩]) ∧ Only F w (w3.setCell ⟨R, 7, none⟩ v3) ∧ Grown F F' w := by
    have hset := Only.ofGrown (grown_setCell w3 ⟨R, 7, none⟩ v3)
    have hgr := Only.ofGrown hg3
    have hon : Only F1 w2 (w3.setCell ⟨R, 7, none⟩ v3) := (((Only.ofBelow hbE).mono (D := F1) (fun _ _ h => h.elim)).trans hgr (fun j _ hj => (hE.fl j hj).1)).setCell ⟨R, 7, none⟩ v3 (fun _ => hE.fR)
    have hwv : Where w2 ul v3 := fun j hj => by
      rcases hw3 j hj with q | q
      · exact .inl q
      · simp at q; exact .inr (by omega)
    have hR3 : ∀ j, v3.ownBlock = some j → ¬ (some R = some j) := fun j hj e => by
      cases e
      rcases hwv R hj with q | q
      · exact hne q.symm
      · omega
    have hGd : RdG w2 G ao c l := (hG.only (Only.ofBelow hbw) (fun _ d => d.elim)).only hon1 HD.out.apart
    have hon0 : Only F w w2 := (((Only.ofBelow hbw).mono (D := F) (fun _ _ h => h.elim)).trans hon1 (fun j _ hj => hj))
    obtain ⟨r1, r2⟩ := hE.turn (now' := { now with u := 1 - now.u }) (log' := log ++ [⟨3, ar, l⟩]) (va' := ua) (vb' := ub) (vl' := v3) (xs' := ys ++ [.int .i64 3, .int .i64 ar, .slice ao l.length c]) hon (by rw [heap_setCell_same _ _ _ _ 60 _ hc3]; simp [progL])
      (hset.own (hgr.own hEB.o0 (fun j hj e => (hE.fl j e).2.2.1 hj)) (fun j hj e => (hE.f0 j hj).2 (by cases e; rfl))) (hset.own (hgr.own hEB.o1 (fun j hj e => (hE.fl j e).2.2.2 hj)) (fun j hj e => (hE.f1 j hj).2.1 (by cases e; rfl)))
      (by rw [List.length_append]; exact hset.row ho3 hR3) (Items.snoc (x := ⟨3, ar, l⟩) (hGd.only hon hE.apart) (hE.it.only hon hE.apart))
      (fun j hj => .inl hj) (fun j hj => .inl hj) hwv
      (fun j hj e e2 => by have := hE.uF j (hE.f1 j e2).1; omega) (fun j hj e e2 => by have := hE.uF j (hE.f0 j e).1; omega) (fun j hj e e2 => by have := hE.uF j (hE.f1 j e).1; omega)
    refine ⟨⟨_, rfl⟩, _, ⟨_, _, _, _, _, _, _, _, r1⟩, hon0.trans hon (fun j hj hF1 => ?_), ?_⟩
    · rcases hgr1 j hF1 with q | q
      · exact q
      · have := hbw.size; omega
    · exact (fun j hj => by
        rcases r2 j hj with q | q
        · rcases hgr1 j q with p | p
          · exact .inl p
          · exact .inr (Nat.le_trans hbw.size p)
        · exact .inr (by omega))
  have HX := hide (And.intro hE (And.intro hEB (And.intro ho3 (And.intro hg3 (And.intro hw3 hc3)))))
  clear hE hEB ho3 hg3 hw3 hc3 hgr1 hon1 hb1
  refine wp_region_held_drew (S := (fun w' => w'.cell? ⟨w.heap.size, 0, none⟩ = some (.int .i64 3) ∧ w'.cell? ⟨w.heap.size, 1, none⟩ = some (.int .i64 ar) ∧ w'.cell? ⟨w.heap.size, 2, none⟩ = some (.slice ao l.length c))) (by kernel_rfl) (by exact hS2) (fun hHeld => ?_)
  try dsimp only at hHeld
  refine take_op (i := 0) (d := 13) (OP := Op.move (Operand.tmp 0)) (T := 28) (v := ?vq58x) rfl rfl rfl rfl (by kernel_rfl) (by kernel_rfl) (by kernel_rfl) (fun _ _ _ h => h) (by rfl) ?hq58x hHeld ?rq58x
  case hq58x => (intro w' hSw; (try dsimp only at hSw); go_simp <;> with_reducible rfl)
  try simp only [Act.put, List.setIfInBounds_toArray, List.set_cons_zero, List.set_cons_succ]
  refine take_op (i := 1) (d := 14) (OP := Op.move (Operand.tmp 0)) (T := 28) (v := ?vq59x) rfl rfl rfl rfl (by kernel_rfl) (by kernel_rfl) (by kernel_rfl) (fun _ _ _ h => h) (by rfl) ?hq59x hHeld ?rq59x
  case hq59x => (intro w' hSw; (try dsimp only at hSw); go_simp <;> with_reducible rfl)
  try simp only [Act.put, List.setIfInBounds_toArray, List.set_cons_zero, List.set_cons_succ]
  refine take_op (i := 2) (d := 15) (OP := Op.nilCheck (Operand.tmp 14)) (T := 0) (v := ?vq60x) rfl rfl rfl rfl (by kernel_rfl) (by kernel_rfl) (by kernel_rfl) (fun _ _ _ h => h) (by rfl) ?hq60x hHeld ?rq60x
  case hq60x => (intro w' hSw; (try dsimp only at hSw); go_simp <;> with_reducible rfl)
  try simp only [Act.put, List.setIfInBounds_toArray, List.set_cons_zero, List.set_cons_succ]
  refine take_op (i := 3) (d := 16) (OP := Op.fieldAddr 60 (Operand.tmp 15) 3) (T := 0) (v := ?vq61x) rfl rfl rfl rfl (by kernel_rfl) (by kernel_rfl) (by kernel_rfl) (fun _ _ _ h => h) (by rfl) ?hq61x hHeld ?rq61x
  case hq61x => (intro w' hSw; (try dsimp only at hSw); go_simp <;> with_reducible rfl)
  try simp only [Act.put, List.setIfInBounds_toArray, List.set_cons_zero, List.set_cons_succ]
  refine take_op (i := 5) (d := 18) (OP := Op.load 50 (Operand.tmp 3)) (T := 50) (v := ?vq62x) rfl rfl rfl rfl (by kernel_rfl) (by kernel_rfl) (by kernel_rfl) (fun _ _ _ h => h) (by rfl) ?hq62x hHeld ?rq62x
  case hq62x => (intro w' hSw; (try dsimp only at hSw); go_simp <;> with_reducible rfl)
  try simp only [Act.put, List.setIfInBounds_toArray, List.set_cons_zero, List.set_cons_succ]
  refine two_op (i := 4) (j := 6) (di := 17) (dj := 19) (OPi := Op.load 58 (Operand.tmp 16)) (OPj := Op.buildSlice 58 1 #[(0, Operand.tmp 18)]) (Ti := 58) (Tj := 58) (v := ul) (u := .slice (some ⟨w2.heap.size, 0, none⟩) 1 1) (w' := (w2.drew.alloc (.cells #[.int .i64 3, .int .i64 ar, .slice ao l.length c] 50))) rfl rfl rfl rfl rfl rfl rfl rfl (by kernel_rfl) (by rfl) (by rfl) ?ei ?ej hHeld hS3 ?bi ?bj
  case ei => go_simp <;> with_reducible rfl
  case ej => go_simp <;> with_reducible rfl
  case bi =>
    try simp only [Act.put, List.setIfInBounds_toArray, List.set_cons_zero, List.set_cons_succ]
    refine turn_op (i := 6) (d := 19) (OP := Op.buildSlice 58 1 #[(0, Operand.tmp 18)]) (T := 58) (v := (.slice (some ⟨w2.heap.size, 0, none⟩) 1 1)) (w' := (w2.drew.alloc (.cells #[.int .i64 3, .int .i64 ar, .slice ao l.length c] 50))) rfl rfl rfl rfl (by kernel_rfl) (by rfl) (by go_simp) hS3 ?_
    replace hHeld := hS3
    try simp only [Act.put, List.setIfInBounds_toArray, List.set_cons_zero, List.set_cons_succ]
    refine turn_op (i := 7) (d := 20) (OP := Op.call { callee := Callee.builtin Builtin.append, args := #[Operand.tmp 17, Operand.tmp 19], argTypes := #[58, 58] }) (T := 58) (v := v3) (w' := w3) rfl rfl rfl rfl (by kernel_rfl) (by rfl) (exec_append rfl rfl hr3) hS4 ?_
    replace hHeld := hS4
    try simp only [Act.put, List.setIfInBounds_toArray, List.set_cons_zero, List.set_cons_succ]
    refine take_op (i := 8) (d := 21) (OP := Op.nilCheck (Operand.tmp 13)) (T := 0) (v := ?vq65x) rfl rfl rfl rfl (by kernel_rfl) (by kernel_rfl) (by kernel_rfl) (fun _ _ _ h => h) (by rfl) ?hq65x hHeld ?rq65x
    case hq65x => (intro w' hSw; (try dsimp only at hSw); go_simp <;> with_reducible rfl)
    try simp only [Act.put, List.setIfInBounds_toArray, List.set_cons_zero, List.set_cons_succ]
    refine take_op (i := 9) (d := 22) (OP := Op.fieldAddr 60 (Operand.tmp 21) 3) (T := 0) (v := ?vq66x) rfl rfl rfl rfl (by kernel_rfl) (by kernel_rfl) (by kernel_rfl) (fun _ _ _ h => h) (by rfl) ?hq66x hHeld ?rq66x
    case hq66x => (intro w' hSw; (try dsimp only at hSw); go_simp <;> with_reducible rfl)
    try simp only [Act.put, List.setIfInBounds_toArray, List.set_cons_zero, List.set_cons_succ]
    refine skip_op (i := 10) (OP := Op.store 58 (Operand.tmp 22) (Operand.tmp 20)) (T := 0) (w' := w3.setCell ⟨R, 7, none⟩ v3) rfl rfl rfl rfl (by kernel_rfl) (by rfl) (by go_simp) ⟨hS5, ?_⟩
    replace hHeld := hS5
    refine wpAnyH_done (by kernel_rfl) ?_ _
    go_wp2
    go_end0
    first | exact hfin | (rw [hv3] at hfin; exact hfin)
  case bj =>
    replace hHeld := hS3
    try simp only [Act.put, List.setIfInBounds_toArray, List.set_cons_zero, List.set_cons_succ]
    refine alone_op (i := 4) (d := 17) (OP := Op.load 58 (Operand.tmp 16)) (T := 58) (v := ?vq68x) rfl rfl rfl rfl (by kernel_rfl) (by rfl) ?hq68x hHeld ?rq68x
    case hq68x => (go_simp <;> with_reducible rfl)
    try simp only [Act.put, List.setIfInBounds_toArray, List.set_cons_zero, List.set_cons_succ]
    refine turn_op (i := 7) (d := 20) (OP := Op.call { callee := Callee.builtin Builtin.append, args := #[Operand.tmp 17, Operand.tmp 19], argTypes := #[58, 58] }) (T := 58) (v := v3) (w' := w3) rfl rfl rfl rfl (by kernel_rfl) (by rfl) (exec_append rfl rfl hr3) hS4 ?_
    replace hHeld := hS4
    try simp only [Act.put, List.setIfInBounds_toArray, List.set_cons_zero, List.set_cons_succ]
    refine take_op (i := 8) (d := 21) (OP := Op.nilCheck (Operand.tmp 13)) (T := 0) (v := ?vq70x) rfl rfl rfl rfl (by kernel_rfl) (by kernel_rfl) (by kernel_rfl) (fun _ _ _ h => h) (by rfl) ?hq70x hHeld ?rq70x
    case hq70x => (intro w' hSw; (try dsimp only at hSw); go_simp <;> with_reducible rfl)
    try simp only [Act.put, List.setIfInBounds_toArray, List.set_cons_zero, List.set_cons_succ]
    refine take_op (i := 9) (d := 22) (OP := Op.fieldAddr 60 (Operand.tmp 21) 3) (T := 0) (v := ?vq71x) rfl rfl rfl rfl (by kernel_rfl) (by kernel_rfl) (by kernel_rfl) (fun _ _ _ h => h) (by rfl) ?hq71x hHeld ?rq71x
    case hq71x => (intro w' hSw; (try dsimp only at hSw); go_simp <;> with_reducible rfl)
    try simp only [Act.put, List.setIfInBounds_toArray, List.set_cons_zero, List.set_cons_succ]
    refine skip_op (i := 10) (OP := Op.store 58 (Operand.tmp 22) (Operand.tmp 20)) (T := 0) (w' := w3.setCell ⟨R, 7, none⟩ v3) rfl rfl rfl rfl (by kernel_rfl) (by rfl) (by go_simp) ⟨hS5, ?_⟩
    replace hHeld := hS5
    refine wpAnyH_done (by kernel_rfl) ?_ _
    go_wp2
    go_end0
    first | exact hfin | (rw [hv3] at hfin; exact hfin)

/-- A raw write is done and kept. -/
theorem do_any (x : Wr) (ao : Option Addr) (c : Nat) (hD : Rep progL 60 F G w R cap beg now log x0 c0 x1 c1 va vb vl xs) (hx : Ok x) (hG : RdG w G ao c x.data) (hlen : x.kind = 1 → (now.at x.area).length + x.data.length ≤ 140737488355328) (hu : now.u = 0 ∨ now.u = 1) (hlog : log.length < 1000000) :
    Calls Try.prog 37 #[.pointer (some ⟨R, 0, none⟩), wrv x.kind x.area ao x.data.length c] w fun e w' => (∃ v, e = .returned v) ∧ ∃ F', Disk progL 60 F' G w' R cap beg (play now x) (log ++ [x]) ∧ Only F w w' ∧ Grown F F' w := by
  obtain ⟨k, a, l⟩ := x
  rcases hx.kind with h | h | h
  · simp only at h; subst h
    exact do1 a ao c l hD hx.area hG (hlen rfl) hlog
  · simp only at h; subst h
    exact do2 a ao c l hD hx.area hG hlog
  · simp only at h; subst h
    exact do3 a ao c l hD hx.area hG hu hlog

end
end Go.Proofs.Ytfaceimamipbpaa
