/-
  queue: Three (67), where each key has one text; what two pops and a push make of it.
  register: the walk of RegisterWrites (6).
  The law QueuePops (10), walked.
  queue: a queue tells just these elements (stands 61).
  The law QueueMaps (11), walked.
-/
import Derived.Test.YtkkpdgfllnbigaaGreatQuK
import Derived.Test.YtkkpdgfllnbigaaGreatMg13
import Derived.Test.YtkkpdgfllnbigaaGreatMg18
import Derived.Test.YtkkpdgfllnbigaaGreatMg17
import Derived.Deep.DeepCutAuto
import Derived.Deep.CutBlock
import Derived.BigCall
import Derived.BigGuard
import Derived.BigGuardPart
import Derived.BigRegion
namespace Go.Proofs.YtkkpdgfllnbigaaGreat.Qu
open Go.RowKit Go.Shelf
set_option linter.unusedSimpArgs false
attribute [local go_sem] Oper.semAt_some

end Go.Proofs.YtkkpdgfllnbigaaGreat.Qu
namespace Go.Proofs.YtkkpdgfllnbigaaGreat
open Go.RowKit Go.Shelf
set_option linter.unusedSimpArgs false
attribute [local go_sem] Oper.semAt_some

theorem encE_np (x : El) (j : Nat) (u : Value) (h : (encE x)[j]? = some u) : ∀ p, u ≠ .pointer p := fun p e => by
  have hm := List.mem_of_getElem? h
  rw [e] at hm
  simp [encE] at hm
theorem flatE_np (l : List El) (j : Nat) (u : Value) (h : (flatE l)[j]? = some u) : ∀ p, u ≠ .pointer p := fun p e => by
  have hm := List.mem_of_getElem? h
  unfold flatE at hm
  obtain ⟨x, -, hx⟩ := List.mem_flatMap.1 hm
  obtain ⟨k, hk⟩ := List.mem_iff_getElem?.1 hx
  exact encE_np x k u hk p e
/-- Rows of elements do not lie in a map's box. -/
theorem Re.aside {w w' : World} {B : Nat} {p : Option Addr} {ao : Option Addr} {l : List El} (h : Re w ao l) (hw : w.heap[B]? = some (.cells #[.pointer p] 27 (0, 0))) (ho : Only (fun j => j = B) w w') : Re w' ao l := ⟨h.1, fun a ha j u hj => by
  have hc := h.2 a ha j u hj
  generalize a.add j = A at hc ⊢
  by_cases hb : A.block = B
  · exfalso
    have hsp := World.cell?_spot hc
    obtain ⟨bb, oo, sp⟩ := A
    simp only at hb hsp
    subst hb hsp
    rw [cell_of_row _ _ oo _ 27 (0, 0) hw] at hc
    have hm : u = .pointer p := by
      have := Array.mem_of_getElem? hc
      simpa using this
    exact flatE_np l j u hj p hm
  · exact ho.cell hc hb⟩
theorem Boxd.aside {w w' : World} {B C : Nat} {pt p : Option Addr} {t : Pm.T} (h : Boxd w B pt t) (hw : w.heap[C]? = some (.cells #[.pointer p] 27 (0, 0))) (ho : Only (fun j => j = C) w w') (hne : B ≠ C) : Boxd w' B pt t := ⟨(ho.block _ (Array.getElem?_eq_some_iff.1 h.1).1 hne).trans h.1, h.2.1, h.2.2.aside hw ho⟩
theorem lenP {w : World} {t : Pm.T} {pt : Option Addr} (h : Mg w t) (hp : t.ptr = .pointer pt) : Calls Tryz.prog 21 #[.agg #[.pointer pt]] w fun e w' => e = .returned (.int .i64 (t.n : Nat)) ∧ Below w.heap.size w w' := by
  have := Pm.mLen_any t w h.inn
  unfold Pm.mv at this
  rw [hp] at this
  exact this
end Go.Proofs.YtkkpdgfllnbigaaGreat
namespace Go.Proofs.YtkkpdgfllnbigaaGreat.Qu
open Go.RowKit Go.Shelf
set_option linter.unusedSimpArgs false
set_option linter.unusedVariables false
attribute [local go_sem] Oper.semAt_some

set_option maxHeartbeats 4000000 in
set_option maxRecDepth 100000 in
theorem behind13 {w : World} {ao : Option Addr} {c : Nat} (l' : List El) (s : St) (h : Re w ao l') (hl : l'.length ≤ 100000) (hs : ∀ x ∈ l', x.1.2.2.1.size ≤ 9223372036854775807) : Calls Tryz.prog 68 #[.slice ao l'.length c, svT s] w fun e w' => e = .returned (.bool (behB l' s)) ∧ Below w.heap.size w w' := by
  obtain ⟨g, r, l, n, x⟩ := s
  obtain ⟨w0, hw0⟩ : ∃ q, q = w.alloc (.cells #[.int .i64 g, .int .i64 r, .string l, .int .i64 n, .int .i64 x] 43) := ⟨_, rfl⟩
  have m := heap_alloc_new w (.cells #[.int .i64 g, .int .i64 r, .string l, .int .i64 n, .int .i64 x] 43)
  have b0 : Below w.heap.size w (w.alloc (.cells #[.int .i64 g, .int .i64 r, .string l, .int .i64 n, .int .i64 x] 43)) := (Below.refl _ w).alloc (Nat.le_refl _) _
  rw [← hw0] at m b0
  have HB := hide b0
  have HW0 := hide hw0
  obtain ⟨B0, hB0⟩ : ∃ q, q = w.heap.size := ⟨_, rfl⟩
  have HB0 := hide hB0
  rw [← hB0] at m
  dsimp only [svT, sv]
  cases hg : l'.getLast? with
  | none =>
    have he : l' = [] := List.getLast?_eq_none_iff.1 hg
    subst he
    have hR : behB [] (g, r, l, n, x) = true := rfl
    rw [hR]
    clear hg hw0 m b0 hB0 hs h
    go_enter Tryz.func68, Tryz.ntmps68
    go_upto_region 1 with fail
    rw [← HW0.out]
    go_quiet (fail)
    have HQ := hide (HB.out.trans ((below_drew w0 nq).mono HB.out.size))
    go_wp2
    go_ret
    exact ⟨rfl, HQ.out⟩
  | some q =>
    obtain ⟨R, hR⟩ : ∃ R, R = behB l' (g, r, l, n, x) := ⟨_, rfl⟩
    rw [← hR]
    have hR2 : R = decide (cmpT q.1 (g, r, l, n, x) = -1) := by rw [hR]; unfold behB; rw [hg]
    have hq : l'[l'.length - 1]? = some q := by rw [← hg, List.getLast?_eq_getElem?]
    obtain ⟨N, hN⟩ : ∃ N, N = l'.length := ⟨_, rfl⟩
    have hN0 : 0 < N := by rw [hN]; exact List.length_pos_of_mem (List.mem_of_getElem? hq)
    rw [← hN] at hq hl ⊢
    have hsz := hs q (List.mem_of_getElem? hq)
    obtain ⟨b, off, hao, e0, e1, e2, e3, e4, -⟩ := (h.below b0).cells hq
    subst hao
    have hcall := cmpR_any q.1 (g, r, l, n, x) hsz
    obtain ⟨⟨g', r', l'', n', x'⟩, y⟩ := q
    dsimp only at e0 e1 e2 e3 e4 hcall hR2
    obtain ⟨cv, hcv⟩ : ∃ cv, cv = cmpT (g', r', l'', n', x') (g, r, l, n, x) := ⟨_, rfl⟩
    have hcr := ord_T.range (g', r', l'', n', x') (g, r, l, n, x)
    rw [← hcv] at hcall hR2 hcr
    have hS : ∀ W', Below w0.heap.size w0 W' → W'.cell? ⟨b, off + (N - 1) * 6, none⟩ = some ((.int .i64 g')) ∧ W'.cell? ⟨b, off + (N - 1) * 6 + 1, none⟩ = some ((.int .i64 r')) ∧ W'.cell? ⟨b, off + (N - 1) * 6 + 2, none⟩ = some ((.string l'')) ∧ W'.cell? ⟨b, off + (N - 1) * 6 + 3, none⟩ = some ((.int .i64 n')) ∧ W'.cell? ⟨b, off + (N - 1) * 6 + 4, none⟩ = some ((.int .i64 x')) ∧ W'.cell? ⟨B0, 0, none⟩ = some ((.int .i64 g)) ∧ W'.cell? ⟨B0, 1, none⟩ = some ((.int .i64 r)) ∧ W'.cell? ⟨B0, 2, none⟩ = some ((.string l)) ∧ W'.cell? ⟨B0, 3, none⟩ = some ((.int .i64 n)) ∧ W'.cell? ⟨B0, 4, none⟩ = some ((.int .i64 x)) := fun W' hW => ⟨cell_stays e0 hW, cell_stays e1 hW, cell_stays e2 hW, cell_stays e3 hW, cell_stays e4 hW, cell_stays ((cell_of_row _ _ 0 _ 43 (0, 0) m).trans rfl) hW, cell_stays ((cell_of_row _ _ 1 _ 43 (0, 0) m).trans rfl) hW, cell_stays ((cell_of_row _ _ 2 _ 43 (0, 0) m).trans rfl) hW, cell_stays ((cell_of_row _ _ 3 _ 43 (0, 0) m).trans rfl) hW, cell_stays ((cell_of_row _ _ 4 _ 43 (0, 0) m).trans rfl) hW⟩
    have HS := hide hS
    have hlt : decide (cv < 0) = R := by rw [hR2, decide_eq_decide]; omega
    have HLT := hide hlt
    have hN1 : IntKind.i64.wrap ((N : Int) - 1) = ((N - 1 : Nat) : Int) := by rw [IntKind.wrap_i64]; omega
    have z1 : ¬ (N : Int) = 0 := by omega
    have z2 : ((N - 1 : Nat) : Int) < (N : Int) := by omega
    have z3 : ¬ N = 0 := by omega
    have z4 : N - 1 < N := by omega
    clear hg hw0 m b0 hB0 hs h hR hR2 hN hq hsz e0 e1 e2 e3 e4 hcv hS hcr hlt hl hN0
    dsimp only [svT, sv] at hcall
    go_enter Tryz.func68, Tryz.ntmps68
    go_upto_region 1 with fail
    rw [← HW0.out, ← HB0.out]
    refine wp_region_held_drew (S := (fun w' => w'.cell? ⟨b, off + (N - 1) * 6, none⟩ = some ((.int .i64 g')) ∧ w'.cell? ⟨b, off + (N - 1) * 6 + 1, none⟩ = some ((.int .i64 r')) ∧ w'.cell? ⟨b, off + (N - 1) * 6 + 2, none⟩ = some ((.string l'')) ∧ w'.cell? ⟨b, off + (N - 1) * 6 + 3, none⟩ = some ((.int .i64 n')) ∧ w'.cell? ⟨b, off + (N - 1) * 6 + 4, none⟩ = some ((.int .i64 x')) ∧ w'.cell? ⟨B0, 0, none⟩ = some ((.int .i64 g)) ∧ w'.cell? ⟨B0, 1, none⟩ = some ((.int .i64 r)) ∧ w'.cell? ⟨B0, 2, none⟩ = some ((.string l)) ∧ w'.cell? ⟨B0, 3, none⟩ = some ((.int .i64 n)) ∧ w'.cell? ⟨B0, 4, none⟩ = some ((.int .i64 x)))) (by kernel_rfl) (by exact HS.out _ (drew_below w0)) (fun hHeld => ?_)
    try dsimp only at hHeld
    refine take_op (i := 0) (d := 5) (OP := Op.move (Operand.tmp 0)) (T := 22) (v := ?vzz1) rfl rfl rfl rfl (by kernel_rfl) (by kernel_rfl) (by kernel_rfl) (fun _ _ _ h => h) (by rfl) ?hzz1 hHeld ?rzz1
    case hzz1 => (intro w' hSw; (try dsimp only at hSw); go_simp <;> with_reducible rfl)
    try simp only [Act.put, List.setIfInBounds_toArray, List.set_cons_zero, List.set_cons_succ]
    refine take_op (i := 1) (d := 6) (OP := Op.call { callee := Callee.builtin Builtin.len, args := #[Operand.tmp 5], argTypes := #[22] }) (T := 3) (v := ?vzz2) rfl rfl rfl rfl (by kernel_rfl) (by kernel_rfl) (by kernel_rfl) (fun _ _ _ h => h) (by rfl) ?hzz2 hHeld ?rzz2
    case hzz2 => (intro w' hSw; (try dsimp only at hSw); go_simp <;> with_reducible rfl)
    try simp only [Act.put, List.setIfInBounds_toArray, List.set_cons_zero, List.set_cons_succ]
    refine take_op (i := 2) (d := 7) (OP := Op.binOp BinOp.eql 3 (Operand.tmp 6) (Operand.const (Value.int IntKind.i64 0)) 3) (T := 4) (v := .bool false) rfl rfl rfl rfl (by kernel_rfl) (by kernel_rfl) (by kernel_rfl) (fun _ _ _ h => h) (by rfl) ?hzz3 hHeld ?rzz3
    case hzz3 => (intro w' hSw; (try dsimp only at hSw); go_simp <;> (first | with_reducible rfl | (simp; done) | (simp; omega) | omega))
    try simp only [Act.put, List.setIfInBounds_toArray, List.set_cons_zero, List.set_cons_succ]
    refine take_op (i := 3) (d := 8) (OP := Op.move (Operand.tmp 7)) (T := 4) (v := ?vzz4) rfl rfl rfl rfl (by kernel_rfl) (by kernel_rfl) (by kernel_rfl) (fun _ _ _ h => h) (by rfl) ?hzz4 hHeld ?rzz4
    case hzz4 => (intro w' hSw; (try dsimp only at hSw); go_simp <;> with_reducible rfl)
    try simp only [Act.put, List.setIfInBounds_toArray, List.set_cons_zero, List.set_cons_succ]
    refine take_op (i := 4) (d := 9) (OP := Op.move (Operand.tmp 0)) (T := 22) (v := ?vzz5) rfl rfl rfl rfl (by kernel_rfl) (by kernel_rfl) (by kernel_rfl) (fun _ _ _ h => h) (by rfl) ?hzz5 hHeld ?rzz5
    case hzz5 => (intro w' hSw; (try dsimp only at hSw); go_simp <;> with_reducible rfl)
    try simp only [Act.put, List.setIfInBounds_toArray, List.set_cons_zero, List.set_cons_succ]
    refine take_op (i := 5) (d := 10) (OP := Op.move (Operand.tmp 0)) (T := 22) (v := ?vzz6) rfl rfl rfl rfl (by kernel_rfl) (by kernel_rfl) (by kernel_rfl) (fun _ _ _ h => h) (by rfl) ?hzz6 hHeld ?rzz6
    case hzz6 => (intro w' hSw; (try dsimp only at hSw); go_simp <;> with_reducible rfl)
    try simp only [Act.put, List.setIfInBounds_toArray, List.set_cons_zero, List.set_cons_succ]
    refine take_op (i := 6) (d := 11) (OP := Op.call { callee := Callee.builtin Builtin.len, args := #[Operand.tmp 10], argTypes := #[22] }) (T := 3) (v := ?vzz7) rfl rfl rfl rfl (by kernel_rfl) (by kernel_rfl) (by kernel_rfl) (fun _ _ _ h => h) (by rfl) ?hzz7 hHeld ?rzz7
    case hzz7 => (intro w' hSw; (try dsimp only at hSw); go_simp <;> with_reducible rfl)
    try simp only [Act.put, List.setIfInBounds_toArray, List.set_cons_zero, List.set_cons_succ]
    refine take_op (i := 7) (d := 12) (OP := Op.binOp BinOp.sub 3 (Operand.tmp 11) (Operand.const (Value.int IntKind.i64 1)) 3) (T := 3) (v := .int .i64 ((N - 1 : Nat) : Int)) rfl rfl rfl rfl (by kernel_rfl) (by kernel_rfl) (by kernel_rfl) (fun _ _ _ h => h) (by rfl) ?hzz8 hHeld ?rzz8
    case hzz8 => (intro w' hSw; (try dsimp only at hSw); go_simp <;> (first | with_reducible rfl | exact hN1))
    try simp only [Act.put, List.setIfInBounds_toArray, List.set_cons_zero, List.set_cons_succ]
    refine take_op (i := 8) (d := 13) (OP := Op.indexAddr 22 (Operand.tmp 9) (Operand.tmp 12)) (T := 0) (v := ?vzz9) rfl rfl rfl rfl (by kernel_rfl) (by kernel_rfl) (by kernel_rfl) (fun _ _ _ h => h) (by rfl) ?hzz9 hHeld ?rzz9
    case hzz9 => (intro w' hSw; (try dsimp only at hSw); go_simp <;> with_reducible rfl)
    try simp only [Act.put, List.setIfInBounds_toArray, List.set_cons_zero, List.set_cons_succ]
    refine take_op (i := 9) (d := 14) (OP := Op.fieldAddr 53 (Operand.tmp 13) 0) (T := 0) (v := ?vzz10) rfl rfl rfl rfl (by kernel_rfl) (by kernel_rfl) (by kernel_rfl) (fun _ _ _ h => h) (by rfl) ?hzz10 hHeld ?rzz10
    case hzz10 => (intro w' hSw; (try dsimp only at hSw); go_simp <;> with_reducible rfl)
    try simp only [Act.put, List.setIfInBounds_toArray, List.set_cons_zero, List.set_cons_succ]
    refine take_op (i := 10) (d := 15) (OP := Op.load 43 (Operand.tmp 14)) (T := 43) (v := ?vzz11) rfl rfl rfl rfl (by kernel_rfl) (by kernel_rfl) (by kernel_rfl) (fun _ _ _ h => h) (by rfl) ?hzz11 hHeld ?rzz11
    case hzz11 => (intro w' hSw; (try dsimp only at hSw); go_simp <;> with_reducible rfl)
    try simp only [Act.put, List.setIfInBounds_toArray, List.set_cons_zero, List.set_cons_succ]
    refine take_op (i := 11) (d := 16) (OP := Op.load 43 (Operand.tmp 3)) (T := 43) (v := ?vzz12) rfl rfl rfl rfl (by kernel_rfl) (by kernel_rfl) (by kernel_rfl) (fun _ _ _ h => h) (by rfl) ?hzz12 hHeld ?rzz12
    case hzz12 => (intro w' hSw; (try dsimp only at hSw); go_simp <;> with_reducible rfl)
    try simp only [Act.put, List.setIfInBounds_toArray, List.set_cons_zero, List.set_cons_succ]
    refine call_op (i := 12) (d := 17) (OP := Op.call { callee := Callee.value (Operand.func 114), args := #[Operand.tmp 15, Operand.tmp 16], argTypes := #[43, 43] }) (T := 3) (f := 114) (args := #[.agg #[.int .i64 g', .int .i64 r', .string l'', .int .i64 n', .int .i64 x'], .agg #[.int .i64 g, .int .i64 r, .string l, .int .i64 n, .int .i64 x]]) rfl rfl rfl rfl (by kernel_rfl) (by rfl) (by go_simp) ?_
    refine (hcall _).mono ?_
    rintro e w5 ⟨rfl, b5⟩
    have bb5 := (drew_below w0).trans (b5.mono (drew_below w0).size)
    have q5 := HS.out w5 bb5
    have HW5 := hide (HB.out.trans (bb5.mono HB.out.size))
    clear b5 bb5
    refine ⟨_, rfl, q5, ?_⟩
    replace hHeld := q5
    try simp only [Act.put, List.setIfInBounds_toArray, List.set_cons_zero, List.set_cons_succ]
    refine take_op (i := 13) (d := 18) (OP := Op.binOp BinOp.lss 3 (Operand.tmp 17) (Operand.const (Value.int IntKind.i64 0)) 3) (T := 4) (v := ?vzz13) rfl rfl rfl rfl (by kernel_rfl) (by kernel_rfl) (by kernel_rfl) (fun _ _ _ h => h) (by rfl) ?hzz13 hHeld ?rzz13
    case hzz13 => (intro w' hSw; (try dsimp only at hSw); go_simp <;> with_reducible rfl)
    try simp only [Act.put, List.setIfInBounds_toArray, List.set_cons_zero, List.set_cons_succ]
    refine take_op (i := 14) (d := 19) (OP := Op.pick (Operand.tmp 8) (Operand.const (Value.bool true)) (Operand.tmp 18)) (T := 4) (v := ?vzz14) rfl rfl rfl rfl (by kernel_rfl) (by kernel_rfl) (by kernel_rfl) (fun _ _ _ h => h) (by rfl) ?hzz14 hHeld ?rzz14
    case hzz14 => (intro w' hSw; (try dsimp only at hSw); go_simp <;> with_reducible rfl)
    try simp only [Act.put, List.setIfInBounds_toArray, List.set_cons_zero, List.set_cons_succ]
    refine take_op (i := 15) (d := 4) (OP := Op.assign (Operand.tmp 19)) (T := 4) (v := ?vzz15) rfl rfl rfl rfl (by kernel_rfl) (by kernel_rfl) (by kernel_rfl) (fun _ _ _ h => h) (by rfl) ?hzz15 hHeld ?rzz15
    case hzz15 => (intro w' hSw; (try dsimp only at hSw); go_simp <;> with_reducible rfl)
    try simp only [Act.put, List.setIfInBounds_toArray, List.set_cons_zero, List.set_cons_succ]
    refine wpAnyH_done (by kernel_rfl) ?_ _
    clear HS hcall
    go_wp2
    go_ret
    exact ⟨by rw [← HLT.out]; rfl, HW5.out⟩
set_option maxHeartbeats 1000000 in
theorem refMay13 {w : World} {ao : Option Addr} {c : Nat} (l : List El) (h : Re w ao l) (hl : l.length ≤ 100000) (hs : ∀ x ∈ l, x.1.2.2.1.size ≤ 9223372036854775807) : Calls Tryz.prog 62 #[.slice ao l.length c] w fun e w' => e = .returned (.bool (mayE l)) ∧ Below w.heap.size w w' := by
  have hm := refMay11 (c := c) l h hl hs
  obtain ⟨N, hN⟩ : ∃ N, N = l.length := ⟨_, rfl⟩
  rw [← hN] at hm ⊢
  clear hN hl
  go_enter Tryz.func62, Tryz.ntmps62
  go_wp2_with (go_at_call 19; refine hm.mono ?_; rintro e w1 ⟨rfl, b1⟩; have H1 := hide b1; clear b1; dsimp only)
  go_ret
  exact ⟨rfl, H1.out⟩
set_option maxHeartbeats 1000000 in
theorem refSorted13 {w : World} {ao : Option Addr} {c : Nat} (l : List El) (h : Re w ao l) (hl : l.length ≤ 100000) (hm : mayE l = true) : Calls Tryz.prog 64 #[.slice ao l.length c] w fun e w' => ∃ ao' c', e = .returned (.slice ao' l.length c') ∧ Oe w' w.heap.size (.slice ao' l.length c') (srtE l) ∧ Below w.heap.size w w' := by
  have hm := refSorted18 (c := c) l h hl hm
  have hlen := srtE_len l
  obtain ⟨S, hS⟩ : ∃ S, S = srtE l := ⟨_, rfl⟩
  rw [← hS] at hm hlen ⊢
  obtain ⟨N, hN⟩ : ∃ N, N = l.length := ⟨_, rfl⟩
  rw [← hN] at hm hlen ⊢
  have HL := hide hlen
  clear hN hl hS hlen
  go_enter Tryz.func64, Tryz.ntmps64
  go_wp2_with (go_at_call 22; refine hm.mono ?_; rintro e w1 ⟨v, rfl, o1, b1⟩; obtain ⟨ao', c', e1, -⟩ := o1.form; rw [HL.out] at e1; subst e1; have H1 := hide (And.intro o1 b1); clear o1 b1; dsimp only)
  go_ret
  exact ⟨_, _, rfl, H1.out.1, H1.out.2⟩

end Go.Proofs.YtkkpdgfllnbigaaGreat.Qu
namespace Go.Proofs.YtkkpdgfllnbigaaGreat.Qu
open Go.RowKit Go.Shelf
set_option linter.unusedSimpArgs false
set_option linter.unusedVariables false
attribute [local go_sem] Oper.semAt_some

set_option maxHeartbeats 8000000 in
set_option maxRecDepth 100000 in
theorem stands61 {w : World} {t : Pm.T} {pm : Option Addr} {ao : Option Addr} {c : Nat} {l : List El} (h : Mg w t) (hp : t.ptr = .pointer pm) (hm : mayL t.list = true) (hl : l = elsL t.list) (hre : Re w ao l) : Calls Tryz.prog 65 #[.agg #[.pointer pm], .slice ao l.length c] w fun e w' => e = .returned (.bool true) ∧ Below w.heap.size w w' := by
  have hlen : l.length = t.list.length := by rw [hl, elsL, if_pos hm]; simp [elsM]
  have hl4 : l.length ≤ 400 := by rw [hlen, Pm.T.n_eq]; exact h.few
  obtain ⟨w0, hw0⟩ : ∃ q, q = w.alloc (.cells #[.pointer pm] 27) := ⟨_, rfl⟩
  have m := heap_alloc_new w (.cells #[.pointer pm] 27)
  have b0 : Below w.heap.size w (w.alloc (.cells #[.pointer pm] 27)) := (Below.refl _ w).alloc (Nat.le_refl _) _
  rw [← hw0] at m b0
  obtain ⟨N, hN⟩ : ∃ N, N = l.length := ⟨_, rfl⟩
  obtain ⟨TL, hTL⟩ : ∃ q, q = l.map Prod.snd := ⟨_, rfl⟩
  have hTN : TL.length = N := by rw [hTL, List.length_map, hN]
  have kE : ∀ W, Below w0.heap.size w0 W → Calls Tryz.prog 72 #[.agg #[.pointer pm]] W fun e w' => ∃ ao c, e = .returned (.tuple #[.slice ao N c, .int .i64 0]) ∧ Re w' ao l ∧ Below W.heap.size W w' := fun W hW => (elementsQ (h.below (b0.trans (hW.mono b0.size))) hp).mono (fun e w' ⟨ao, c, he, ho, hb⟩ => by rw [← hl, hm, ← hN] at he; rw [← hl] at ho; exact ⟨ao, c, he, ho.re, hb⟩)
  have kT : ∀ W, Below w0.heap.size w0 W → Calls Tryz.prog 75 #[.agg #[.pointer pm]] W fun e w' => ∃ ao c, e = .returned (.tuple #[.slice ao N c, .int .i64 0]) ∧ Rs w' ao TL ∧ Below W.heap.size W w' := fun W hW => (textsQ (h.below (b0.trans (hW.mono b0.size))) hp).mono (fun e w' ⟨ao, c, he, ho, hb⟩ => by rw [← hl, hm, ← hTL, hTN] at he; rw [← hl, ← hTL] at ho; exact ⟨ao, c, he, ho.rs, hb⟩)
  have kO : ∀ W, Below w0.heap.size w0 W → Calls Tryz.prog 77 #[.agg #[.pointer pm]] W fun e w' => e = .returned (.tuple #[ev (firstE l).1, .bool (firstE l).2]) ∧ Below W.heap.size W w' := fun W hW => by
    have := qFirstP (h.below (b0.trans (hW.mono b0.size))) hp
    rw [← hl] at this
    exact this
  have kS : ∀ W a1 c1, Below w0.heap.size w0 W → Re W a1 l → Calls Tryz.prog 39 #[.slice a1 N c1, .slice ao N c] W fun e w' => e = .returned (.bool true) ∧ Below W.heap.size W w' := fun W a1 c1 hW hr => by
    have := sameEls_any (c := c1) (d := c) hr ((hre.below b0).below hW) (by omega) (by omega)
    rw [← hN] at this
    exact this.mono (fun e w' ⟨he, n, hn⟩ => ⟨by rw [he]; simp, by rw [hn]; exact below_drew _ _⟩)
  have kX : ∀ W, Below w0.heap.size w0 W → Calls Tryz.prog 149 #[.slice ao N c] W fun e w' => ∃ ao c, e = .returned (.slice ao N c) ∧ Rs w' ao TL ∧ Below W.heap.size W w' := fun W hW => by
    have := texts82 (c := c) l ((hre.below b0).below hW) (by omega)
    rw [← hN] at this
    refine this.mono (fun e w' ⟨v, he, ho, hb⟩ => ?_)
    rw [← hTL] at ho
    obtain ⟨a', c', hv, -⟩ := row_form ho
    rw [hTN] at hv
    subst hv
    exact ⟨a', c', he, ho.rs, hb⟩
  have kU : ∀ W a1 c1 a2 c2, Rs W a1 TL → Rs W a2 TL → Calls Tryz.prog 108 #[.slice a1 N c1, .slice a2 N c2] W fun e w' => e = .returned (.bool true) ∧ Below W.heap.size W w' := fun W a1 c1 a2 c2 h1 h2 => by
    have := sameTexts_any (c := c1) (d := c2) h1 h2 (by omega) (by omega)
    rw [hTN] at this
    exact this.mono (fun e w' ⟨he, n, hn⟩ => ⟨by rw [he]; simp, by rw [hn]; exact below_drew _ _⟩)
  have kM : ∀ W, Below w0.heap.size w0 W → Calls Tryz.prog 74 #[.agg #[.pointer pm]] W fun e w' => e = .returned (.bool true) ∧ Below W.heap.size W w' := fun W hW => by
    have := mayP h hp W (b0.trans (hW.mono b0.size))
    rw [hm] at this
    exact this
  have kA : ∀ W, Below w0.heap.size w0 W → Calls Tryz.prog 81 #[.agg #[.pointer pm]] W fun e w' => ∃ L, e = .returned (.func (.func 154) #[] #[.pointer (some ⟨L, 0, none⟩)]) ∧ w'.cell? ⟨L, 0, none⟩ = some (.pointer pm) ∧ Below W.heap.size W w' := fun W hW => (allP W hp).mono (fun e w' ⟨he, hw⟩ => ⟨_, he, by rw [hw]; exact (cell_of_row _ _ 0 _ 27 (0, 0) (heap_alloc_new W _)).trans rfl, by rw [hw]; exact (Below.refl _ W).alloc (Nat.le_refl _) _⟩)
  have kG : ∀ W L lv, Below w0.heap.size w0 W → W.cell? ⟨L, 0, none⟩ = some (.pointer pm) → Calls Tryz.prog 80 #[.func (.func 154) #[] #[.pointer (some ⟨L, 0, none⟩)], .slice ao N c, .int .i64 lv] W fun e w' => e = .returned (.bool true) ∧ Below W.heap.size W w' := fun W L lv hW hL => by
    have := goes_all (c := c) (lv := lv) (h.below (b0.trans (hW.mono b0.size))) hl (by omega) (by rw [hp]; exact hL) (World.block_lt_of_cell? _ _ hL) ((hre.below b0).below hW)
    rw [← hN] at this
    exact this
  have HK := hide (And.intro kE (And.intro kT (And.intro kO (And.intro kS (And.intro kX (And.intro kU (And.intro kM (And.intro kA kG))))))))
  have HC : Hid (∀ W, Below w0.heap.size w0 W → W.cell? ⟨w.heap.size, 0, none⟩ = some (.pointer pm) ∧ Below w.heap.size w W) := hide (fun W hW => ⟨cell_stays ((cell_of_row _ _ 0 _ 27 (0, 0) m).trans rfl) hW, b0.trans (hW.mono b0.size)⟩)
  have HW0 := hide hw0
  have HRE := hide (hre.below b0)
  have HN := hide hN
  obtain ⟨c0, -⟩ := HC.out w0 (Below.refl _ _)
  rw [← hN]
  by_cases h1 : N = 0
  · have hnil : l = [] := List.length_eq_zero_iff.1 (by rw [← hN]; exact h1)
    have hfe : firstE l = (zE, false) := by rw [hnil]; rfl
    rw [hfe] at HK
    dsimp only [ev, zE] at HK
    have d1 : ¬ (0 : Int) < (N : Int) := by omega
    have d2 : decide (0 < N) = false := by simp; omega
    have d3 : ¬ 0 < N := by omega
    have heq := fun W => run_eq77 zE zE W
    rw [decide_eq_true rfl] at heq
    dsimp only [ev, zE] at heq
    clear kE kT kO kS kX kU kM kA kG hw0 m b0 hN hTL hTN h hp hm hl hre hlen hl4 hnil hfe h1
    go_enter Tryz.func65, Tryz.ntmps65
    go_upto_region 1 with fail
    rw [← HW0.out]
    have tk1 : True := trivial
    have tk2 : True := trivial
    go_upto_region 5 with (first
      | (go_at_call 72; refine (HK.out.1 _ (Below.refl _ _)).mono ?_; rintro e w1 ⟨aE, cE, rfl, rE, b1⟩; have x1 := (HC.out w1 b1).1; have H1 := hide (And.intro rE b1); clear rE b1; dsimp only)
      | (go_at_call 75; refine (HK.out.2.1 _ H1.out.2).mono ?_; rintro e w2 ⟨aT, cT, rfl, rT, b2⟩; have bb := H1.out.2.trans (b2.mono H1.out.2.size); have x2 := (HC.out w2 bb).1; have H2 := hide (And.intro (H1.out.1.below b2) (And.intro rT bb)); clear rT b2 bb H1; dsimp only)
      | (go_at_call 77; refine (HK.out.2.2.1 _ H2.out.2.2).mono ?_; rintro e w3 ⟨rfl, b3⟩; have bb := H2.out.2.2.trans (b3.mono H2.out.2.2.size); have x3 := (HC.out w3 bb).1; have H3 := hide (And.intro (H2.out.1.below b3) (And.intro (H2.out.2.1.below b3) bb)); clear b3 bb H2; dsimp only))
    obtain ⟨F9, hF9⟩ : ∃ q, q = w3.heap.size := ⟨_, rfl⟩
    obtain ⟨F11, hF11⟩ : ∃ q, q = w3.heap.size + 1 := ⟨_, rfl⟩
    obtain ⟨W5, hW5⟩ : ∃ q, q = (w3.alloc (.cells #[.int .i64 0, .int .i64 0, .string ⟨#[]⟩, .int .i64 0, .int .i64 0, .string ⟨#[]⟩] 53)).alloc (.cells #[.int .i64 0, .int .i64 0, .string ⟨#[]⟩, .int .i64 0, .int .i64 0, .string ⟨#[]⟩] 53) := ⟨_, rfl⟩
    obtain ⟨n0, n1⟩ := new2 w3 (.cells #[.int .i64 0, .int .i64 0, .string ⟨#[]⟩, .int .i64 0, .int .i64 0, .string ⟨#[]⟩] 53) (.cells #[.int .i64 0, .int .i64 0, .string ⟨#[]⟩, .int .i64 0, .int .i64 0, .string ⟨#[]⟩] 53)
    have b35 : Below w3.heap.size w3 W5 := by rw [hW5]; exact ((Below.refl _ w3).alloc (Nat.le_refl _) _).alloc (by simp) _
    rw [← hW5] at n0 n1
    rw [← hF9] at n0
    rw [← hF11] at n1
    have bb5 := H3.out.2.2.trans (b35.mono H3.out.2.2.size)
    have H6 := hide (And.intro (H3.out.1.below b35) (And.intro (H3.out.2.1.below b35) (And.intro bb5 (And.intro n0 n1))))
    have hF : w3.heap.size + 1 = F11 := hF11.symm
    rw [← hW5]
    rw [hF, ← hF9]
    clear hF9 hF11 hW5 n0 n1 b35 bb5 hF H3 x3
    go_upto_region 7 with fail
    obtain ⟨W6, hW6⟩ : ∃ q, W5 = q := ⟨_, rfl⟩
    rw [hW6] at H6 ⊢
    clear hW6
    go_wp2_with (first
      | (go_at_call 39; refine (HK.out.2.2.2.1 _ _ _ H6.out.2.2.1 H6.out.1).mono ?_; rintro e w4 ⟨rfl, b4⟩; replace H6 := hide (And.intro (H6.out.1.below b4) (And.intro (H6.out.2.1.below b4) (And.intro (H6.out.2.2.1.trans (b4.mono H6.out.2.2.1.size)) (And.intro ((b4.block _ (Array.getElem?_eq_some_iff.1 H6.out.2.2.2.1).1).trans H6.out.2.2.2.1) ((b4.block _ (Array.getElem?_eq_some_iff.1 H6.out.2.2.2.2).1).trans H6.out.2.2.2.2))))); clear b4; dsimp only)
      | (go_at_call 149; refine (HK.out.2.2.2.2.1 _ H6.out.2.2.1).mono ?_; rintro e w5 ⟨aX, cX, rfl, rX, b5⟩; replace H6 := hide (And.intro (H6.out.1.below b5) (And.intro (H6.out.2.1.below b5) (And.intro (H6.out.2.2.1.trans (b5.mono H6.out.2.2.1.size)) (And.intro ((b5.block _ (Array.getElem?_eq_some_iff.1 H6.out.2.2.2.1).1).trans H6.out.2.2.2.1) ((b5.block _ (Array.getElem?_eq_some_iff.1 H6.out.2.2.2.2).1).trans H6.out.2.2.2.2))))); have HRX := hide rX; clear rX b5; dsimp only)
      | (go_at_call 108; refine (HK.out.2.2.2.2.2.1 _ _ _ _ _ H6.out.2.1 HRX.out).mono ?_; rintro e w6 ⟨rfl, b6⟩; replace H6 := hide (And.intro (H6.out.1.below b6) (And.intro (H6.out.2.1.below b6) (And.intro (H6.out.2.2.1.trans (b6.mono H6.out.2.2.1.size)) (And.intro ((b6.block _ (Array.getElem?_eq_some_iff.1 H6.out.2.2.2.1).1).trans H6.out.2.2.2.1) ((b6.block _ (Array.getElem?_eq_some_iff.1 H6.out.2.2.2.2).1).trans H6.out.2.2.2.2))))); obtain ⟨xa0, xa1, xa2, xa3, xa4, xa5⟩ := cells_of_enc H6.out.2.2.2.1; obtain ⟨ya0, ya1, ya2, ya3, ya4, ya5⟩ := cells_of_enc H6.out.2.2.2.2; have x6 := (HC.out w6 H6.out.2.2.1).1; replace H6 := hide H6.out.2.2.1; clear b6 HRX; dsimp only)
      | (go_at_call 63; refine (num35 _ _).mono ?_; rintro e wn ⟨rfl, rfl⟩; dsimp only)
      | (go_at_call 74; refine (HK.out.2.2.2.2.2.2.1 _ H6.out).mono ?_; rintro e w7 ⟨rfl, b7⟩; have bb := H6.out.trans (b7.mono H6.out.size); have x7 := (HC.out w7 bb).1; have H7 := hide bb; clear b7 bb H6 xa0 xa1 xa2 xa3 xa4 xa5 ya0 ya1 ya2 ya3 ya4 ya5; dsimp only)
      | (go_at_call 81; clear tk1; refine (HK.out.2.2.2.2.2.2.2.1 _ H7.out).mono ?_; rintro e w8 ⟨L8, rfl, c8, b8⟩; have bb := H7.out.trans (b8.mono H7.out.size); have H8 := hide (And.intro c8 bb); clear c8 b8 bb H7; dsimp only)
      | (go_at_call 80; clear tk2; refine (HK.out.2.2.2.2.2.2.2.2 _ _ _ H8.out.2 H8.out.1).mono ?_; rintro e w9 ⟨rfl, b9⟩; have bb := H8.out.2.trans (b9.mono H8.out.2.size); have x9 := (HC.out w9 bb).1; have H9 := hide bb; clear b9 bb H8; dsimp only)
      | (go_at_call 81; refine (HK.out.2.2.2.2.2.2.2.1 _ H9.out).mono ?_; rintro e w10 ⟨L10, rfl, c10, b10⟩; have bb := H9.out.trans (b10.mono H9.out.size); have H10 := hide (And.intro c10 bb); clear c10 b10 bb H9; dsimp only)
      | (go_at_call 80; refine (HK.out.2.2.2.2.2.2.2.2 _ _ _ H10.out.2 H10.out.1).mono ?_; rintro e w11 ⟨rfl, b11⟩; have bb := H10.out.2.trans (b11.mono H10.out.2.size); have H11 := hide bb; clear b11 bb H10; dsimp only))
    go_ret
    exact ⟨rfl, (HC.out _ H11.out).2⟩
  · obtain ⟨x, hx⟩ : ∃ x, l[0]? = some x := ⟨_, List.getElem?_eq_getElem (by rw [← hN]; omega)⟩
    have hfe : firstE l = (x, true) := by
      cases l with
      | nil => cases hx
      | cons y m => simp at hx; rw [hx]; rfl
    rw [hfe] at HK
    obtain ⟨bl, off, hao, -⟩ := hre.cells hx
    have HLC : Hid (∀ W, Below w0.heap.size w0 W → W.cell? ⟨bl, off, none⟩ = some (.int .i64 x.1.1) ∧ W.cell? ⟨bl, off + 1, none⟩ = some (.int .i64 x.1.2.1) ∧ W.cell? ⟨bl, off + 2, none⟩ = some (.string x.1.2.2.1) ∧ W.cell? ⟨bl, off + 3, none⟩ = some (.int .i64 x.1.2.2.2.1) ∧ W.cell? ⟨bl, off + 4, none⟩ = some (.int .i64 x.1.2.2.2.2) ∧ W.cell? ⟨bl, off + 5, none⟩ = some (.string x.2)) := hide (fun W hW => by
      obtain ⟨b', off', e, q0, q1, q2, q3, q4, q5⟩ := (HRE.out.below hW).cells hx
      rw [hao] at e
      injection e with e
      injection e with e1 e2
      subst e1 e2
      simp only [Nat.zero_mul, Nat.add_zero] at q0 q1 q2 q3 q4 q5
      exact ⟨q0, q1, q2, q3, q4, q5⟩)
    have HAO := hide hao
    have HRR := hide hre
    rw [hao] at HK HRE
    clear hre
    subst hao
    obtain ⟨⟨g, r, lb, n, ix⟩, X⟩ := x
    dsimp only [ev] at HK
    dsimp only at HLC
    have d1 : (0 : Int) < (N : Int) := by omega
    have d2 : decide (0 < N) = true := by simp; omega
    have d3 : 0 < N := by omega
    have heq := fun W => run_eq77 ((g, r, lb, n, ix), X) ((g, r, lb, n, ix), X) W
    rw [decide_eq_true rfl] at heq
    dsimp only [ev] at heq
    clear kE kT kO kS kX kU kM kA kG hw0 m b0 hN hTL hTN h hp hm hl hlen hl4 hfe h1 hx
    go_enter Tryz.func65, Tryz.ntmps65
    go_upto_region 1 with fail
    rw [← HW0.out]
    have tk1 : True := trivial
    have tk2 : True := trivial
    go_upto_region 5 with (first
      | (go_at_call 72; refine (HK.out.1 _ (Below.refl _ _)).mono ?_; rintro e w1 ⟨aE, cE, rfl, rE, b1⟩; have x1 := (HC.out w1 b1).1; have H1 := hide (And.intro rE b1); clear rE b1; dsimp only)
      | (go_at_call 75; refine (HK.out.2.1 _ H1.out.2).mono ?_; rintro e w2 ⟨aT, cT, rfl, rT, b2⟩; have bb := H1.out.2.trans (b2.mono H1.out.2.size); have x2 := (HC.out w2 bb).1; have H2 := hide (And.intro (H1.out.1.below b2) (And.intro rT bb)); clear rT b2 bb H1; dsimp only)
      | (go_at_call 77; refine (HK.out.2.2.1 _ H2.out.2.2).mono ?_; rintro e w3 ⟨rfl, b3⟩; have bb := H2.out.2.2.trans (b3.mono H2.out.2.2.size); have x3 := (HC.out w3 bb).1; have H3 := hide (And.intro (H2.out.1.below b3) (And.intro (H2.out.2.1.below b3) bb)); clear b3 bb H2; dsimp only))
    obtain ⟨F9, hF9⟩ : ∃ q, q = w3.heap.size := ⟨_, rfl⟩
    obtain ⟨F11, hF11⟩ : ∃ q, q = w3.heap.size + 1 := ⟨_, rfl⟩
    obtain ⟨W5, hW5⟩ : ∃ q, q = (w3.alloc (.cells #[.int .i64 g, .int .i64 r, .string lb, .int .i64 n, .int .i64 ix, .string X] 53)).alloc (.cells #[.int .i64 0, .int .i64 0, .string ⟨#[]⟩, .int .i64 0, .int .i64 0, .string ⟨#[]⟩] 53) := ⟨_, rfl⟩
    obtain ⟨n0, n1⟩ := new2 w3 (.cells #[.int .i64 g, .int .i64 r, .string lb, .int .i64 n, .int .i64 ix, .string X] 53) (.cells #[.int .i64 0, .int .i64 0, .string ⟨#[]⟩, .int .i64 0, .int .i64 0, .string ⟨#[]⟩] 53)
    have b35 : Below w3.heap.size w3 W5 := by rw [hW5]; exact ((Below.refl _ w3).alloc (Nat.le_refl _) _).alloc (by simp) _
    rw [← hW5] at n0 n1
    rw [← hF9] at n0
    rw [← hF11] at n1
    have bb5 := H3.out.2.2.trans (b35.mono H3.out.2.2.size)
    obtain ⟨u6, o6⟩ := set6 (.int .i64 g) (.int .i64 r) (.string lb) (.int .i64 n) (.int .i64 ix) (.string X) n1
    have hne : F9 ≠ F11 := by omega
    have hz0 : w0.heap.size ≤ F11 := by have := H3.out.2.2.size; omega
    have b56 : Below w3.heap.size w3 ((((((W5.setCell ⟨F11, 0, none⟩ (.int .i64 g)).setCell ⟨F11, 1, none⟩ (.int .i64 r)).setCell ⟨F11, 2, none⟩ (.string lb)).setCell ⟨F11, 3, none⟩ (.int .i64 n)).setCell ⟨F11, 4, none⟩ (.int .i64 ix)).setCell ⟨F11, 5, none⟩ (.string X)) := Below.only b35 o6 b35.size (fun j e => by have e' : j = F11 := e; omega)
    have H6 : Hid (Re ((((((W5.setCell ⟨F11, 0, none⟩ (.int .i64 g)).setCell ⟨F11, 1, none⟩ (.int .i64 r)).setCell ⟨F11, 2, none⟩ (.string lb)).setCell ⟨F11, 3, none⟩ (.int .i64 n)).setCell ⟨F11, 4, none⟩ (.int .i64 ix)).setCell ⟨F11, 5, none⟩ (.string X)) aE l ∧ Rs ((((((W5.setCell ⟨F11, 0, none⟩ (.int .i64 g)).setCell ⟨F11, 1, none⟩ (.int .i64 r)).setCell ⟨F11, 2, none⟩ (.string lb)).setCell ⟨F11, 3, none⟩ (.int .i64 n)).setCell ⟨F11, 4, none⟩ (.int .i64 ix)).setCell ⟨F11, 5, none⟩ (.string X)) aT TL ∧ Below w0.heap.size w0 ((((((W5.setCell ⟨F11, 0, none⟩ (.int .i64 g)).setCell ⟨F11, 1, none⟩ (.int .i64 r)).setCell ⟨F11, 2, none⟩ (.string lb)).setCell ⟨F11, 3, none⟩ (.int .i64 n)).setCell ⟨F11, 4, none⟩ (.int .i64 ix)).setCell ⟨F11, 5, none⟩ (.string X)) ∧ ((((((W5.setCell ⟨F11, 0, none⟩ (.int .i64 g)).setCell ⟨F11, 1, none⟩ (.int .i64 r)).setCell ⟨F11, 2, none⟩ (.string lb)).setCell ⟨F11, 3, none⟩ (.int .i64 n)).setCell ⟨F11, 4, none⟩ (.int .i64 ix)).setCell ⟨F11, 5, none⟩ (.string X)).heap[F9]? = some (.cells #[.int .i64 g, .int .i64 r, .string lb, .int .i64 n, .int .i64 ix, .string X] 53 (0, 0)) ∧ ((((((W5.setCell ⟨F11, 0, none⟩ (.int .i64 g)).setCell ⟨F11, 1, none⟩ (.int .i64 r)).setCell ⟨F11, 2, none⟩ (.string lb)).setCell ⟨F11, 3, none⟩ (.int .i64 n)).setCell ⟨F11, 4, none⟩ (.int .i64 ix)).setCell ⟨F11, 5, none⟩ (.string X)).heap[F11]? = some (.cells #[.int .i64 g, .int .i64 r, .string lb, .int .i64 n, .int .i64 ix, .string X] 53 (0, 0))) := hide ⟨H3.out.1.below b56, H3.out.2.1.below b56, H3.out.2.2.trans (b56.mono H3.out.2.2.size), (o6.block _ (Array.getElem?_eq_some_iff.1 n0).1 hne).trans n0, u6⟩
    obtain ⟨k0, k1, k2, k3, k4, k5⟩ := HLC.out W5 bb5
    obtain ⟨e0, e1, e2, e3, e4, e5⟩ := cells_of_enc n1
    have g0 := frozen_of_row W5 F11 0 _ 53 n1
    have g1 := frozen_of_row W5 F11 1 _ 53 n1
    have g2 := frozen_of_row W5 F11 2 _ 53 n1
    have g3 := frozen_of_row W5 F11 3 _ 53 n1
    have g4 := frozen_of_row W5 F11 4 _ 53 n1
    have g5 := frozen_of_row W5 F11 5 _ 53 n1
    have hF : w3.heap.size + 1 = F11 := hF11.symm
    rw [← hW5]
    rw [hF, ← hF9]
    clear hF9 hF11 hW5 n0 n1 b35 bb5 hF H3 x3 u6 o6 hne hz0 b56
    go_upto_region 7 with fail
    clear k0 k1 k2 k3 k4 k5 e0 e1 e2 e3 e4 e5 g0 g1 g2 g3 g4 g5
    obtain ⟨W6, hW6⟩ : ∃ q, ((((((W5.setCell ⟨F11, 0, none⟩ (.int .i64 g)).setCell ⟨F11, 1, none⟩ (.int .i64 r)).setCell ⟨F11, 2, none⟩ (.string lb)).setCell ⟨F11, 3, none⟩ (.int .i64 n)).setCell ⟨F11, 4, none⟩ (.int .i64 ix)).setCell ⟨F11, 5, none⟩ (.string X)) = q := ⟨_, rfl⟩
    rw [hW6] at H6 ⊢
    clear hW6
    go_wp2_with (first
      | (go_at_call 39; refine (HK.out.2.2.2.1 _ _ _ H6.out.2.2.1 H6.out.1).mono ?_; rintro e w4 ⟨rfl, b4⟩; replace H6 := hide (And.intro (H6.out.1.below b4) (And.intro (H6.out.2.1.below b4) (And.intro (H6.out.2.2.1.trans (b4.mono H6.out.2.2.1.size)) (And.intro ((b4.block _ (Array.getElem?_eq_some_iff.1 H6.out.2.2.2.1).1).trans H6.out.2.2.2.1) ((b4.block _ (Array.getElem?_eq_some_iff.1 H6.out.2.2.2.2).1).trans H6.out.2.2.2.2))))); clear b4; dsimp only)
      | (go_at_call 149; refine (HK.out.2.2.2.2.1 _ H6.out.2.2.1).mono ?_; rintro e w5 ⟨aX, cX, rfl, rX, b5⟩; replace H6 := hide (And.intro (H6.out.1.below b5) (And.intro (H6.out.2.1.below b5) (And.intro (H6.out.2.2.1.trans (b5.mono H6.out.2.2.1.size)) (And.intro ((b5.block _ (Array.getElem?_eq_some_iff.1 H6.out.2.2.2.1).1).trans H6.out.2.2.2.1) ((b5.block _ (Array.getElem?_eq_some_iff.1 H6.out.2.2.2.2).1).trans H6.out.2.2.2.2))))); have HRX := hide rX; clear rX b5; dsimp only)
      | (go_at_call 108; refine (HK.out.2.2.2.2.2.1 _ _ _ _ _ H6.out.2.1 HRX.out).mono ?_; rintro e w6 ⟨rfl, b6⟩; replace H6 := hide (And.intro (H6.out.1.below b6) (And.intro (H6.out.2.1.below b6) (And.intro (H6.out.2.2.1.trans (b6.mono H6.out.2.2.1.size)) (And.intro ((b6.block _ (Array.getElem?_eq_some_iff.1 H6.out.2.2.2.1).1).trans H6.out.2.2.2.1) ((b6.block _ (Array.getElem?_eq_some_iff.1 H6.out.2.2.2.2).1).trans H6.out.2.2.2.2))))); obtain ⟨xa0, xa1, xa2, xa3, xa4, xa5⟩ := cells_of_enc H6.out.2.2.2.1; obtain ⟨ya0, ya1, ya2, ya3, ya4, ya5⟩ := cells_of_enc H6.out.2.2.2.2; have x6 := (HC.out w6 H6.out.2.2.1).1; replace H6 := hide H6.out.2.2.1; clear b6 HRX; dsimp only)
      | (go_at_call 63; refine (num35 _ _).mono ?_; rintro e wn ⟨rfl, rfl⟩; dsimp only)
      | (go_at_call 74; refine (HK.out.2.2.2.2.2.2.1 _ H6.out).mono ?_; rintro e w7 ⟨rfl, b7⟩; have bb := H6.out.trans (b7.mono H6.out.size); have x7 := (HC.out w7 bb).1; have H7 := hide bb; clear b7 bb H6 xa0 xa1 xa2 xa3 xa4 xa5 ya0 ya1 ya2 ya3 ya4 ya5; dsimp only)
      | (go_at_call 81; clear tk1; refine (HK.out.2.2.2.2.2.2.2.1 _ H7.out).mono ?_; rintro e w8 ⟨L8, rfl, c8, b8⟩; have bb := H7.out.trans (b8.mono H7.out.size); have H8 := hide (And.intro c8 bb); clear c8 b8 bb H7; dsimp only)
      | (go_at_call 80; clear tk2; refine (HK.out.2.2.2.2.2.2.2.2 _ _ _ H8.out.2 H8.out.1).mono ?_; rintro e w9 ⟨rfl, b9⟩; have bb := H8.out.2.trans (b9.mono H8.out.2.size); have x9 := (HC.out w9 bb).1; have H9 := hide bb; clear b9 bb H8; dsimp only)
      | (go_at_call 81; refine (HK.out.2.2.2.2.2.2.2.1 _ H9.out).mono ?_; rintro e w10 ⟨L10, rfl, c10, b10⟩; have bb := H9.out.trans (b10.mono H9.out.size); have H10 := hide (And.intro c10 bb); clear c10 b10 bb H9; dsimp only)
      | (go_at_call 80; refine (HK.out.2.2.2.2.2.2.2.2 _ _ _ H10.out.2 H10.out.1).mono ?_; rintro e w11 ⟨rfl, b11⟩; have bb := H10.out.2.trans (b11.mono H10.out.2.size); have H11 := hide bb; clear b11 bb H10; dsimp only))
    go_ret
    exact ⟨rfl, (HC.out _ H11.out).2⟩
end Go.Proofs.YtkkpdgfllnbigaaGreat.Qu
namespace Go.Proofs.YtkkpdgfllnbigaaGreat.Qu
open Go.RowKit Go.Shelf
set_option linter.unusedSimpArgs false
attribute [local go_sem] Oper.semAt_some

theorem sameSelf {w : World} {t : Pm.T} {pm : Option Addr} (h : Mg w t) (hp : t.ptr = .pointer pm) : Calls Tryz.prog 79 #[.agg #[.pointer pm], .agg #[.pointer pm]] w fun e w' => e = .returned (.bool true) ∧ Below w.heap.size w w' := by
  have := Pm.mSame_any t t w h.inn h.inn
  unfold Pm.mv at this
  rw [hp, decide_eq_true rfl] at this
  exact this
end Go.Proofs.YtkkpdgfllnbigaaGreat.Qu
