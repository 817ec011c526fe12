/-
  The law QueuePops (10), walked.
-/
import Derived.Test.YtkeldhohilmdcaaGreatQuT
import Derived.Test.YtkeldhohilmdcaaGreatWritesW
namespace Go.Proofs.YtkeldhohilmdcaaGreat.Qu
open Go.RowKit Go.Shelf
set_option linter.unusedSimpArgs false
set_option linter.unusedVariables false
attribute [local go_sem] Oper.semAt_some

set_option maxHeartbeats 4000000 in
set_option maxRecDepth 100000 in
theorem behind13 {w : World} {ao : Option Addr} {c : Nat} (l' : List El) (s : St) (h : Re w ao l') (hl : l'.length ≤ 100000) (hs : ∀ x ∈ l', x.1.2.2.1.size ≤ 9223372036854775807) : Calls Tryz.prog 64 #[.slice ao l'.length c, svT s] w fun e w' => e = .returned (.bool (behB l' s)) ∧ Below w.heap.size w w' := by
  obtain ⟨g, r, l, n, x⟩ := s
  obtain ⟨w0, hw0⟩ : ∃ q, q = w.alloc (.cells #[.int .i64 g, .int .i64 r, .string l, .int .i64 n, .int .i64 x] 43) := ⟨_, rfl⟩
  have m := heap_alloc_new w (.cells #[.int .i64 g, .int .i64 r, .string l, .int .i64 n, .int .i64 x] 43)
  have b0 : Below w.heap.size w (w.alloc (.cells #[.int .i64 g, .int .i64 r, .string l, .int .i64 n, .int .i64 x] 43)) := (Below.refl _ w).alloc (Nat.le_refl _) _
  rw [← hw0] at m b0
  have HB := hide b0
  have HW0 := hide hw0
  obtain ⟨B0, hB0⟩ : ∃ q, q = w.heap.size := ⟨_, rfl⟩
  have HB0 := hide hB0
  rw [← hB0] at m
  dsimp only [svT, sv]
  cases hg : l'.getLast? with
  | none =>
    have he : l' = [] := List.getLast?_eq_none_iff.1 hg
    subst he
    have hR : behB [] (g, r, l, n, x) = true := rfl
    rw [hR]
    clear hg hw0 m b0 hB0 hs h
    go_enter Tryz.func64, Tryz.ntmps64
    go_upto_region 1 with fail
    rw [← HW0.out]
    go_quiet (fail)
    have HQ := hide (HB.out.trans ((below_drew w0 nq).mono HB.out.size))
    go_wp2
    go_ret
    exact ⟨rfl, HQ.out⟩
  | some q =>
    obtain ⟨R, hR⟩ : ∃ R, R = behB l' (g, r, l, n, x) := ⟨_, rfl⟩
    rw [← hR]
    have hR2 : R = decide (cmpT q.1 (g, r, l, n, x) = -1) := by rw [hR]; unfold behB; rw [hg]
    have hq : l'[l'.length - 1]? = some q := by rw [← hg, List.getLast?_eq_getElem?]
    obtain ⟨N, hN⟩ : ∃ N, N = l'.length := ⟨_, rfl⟩
    have hN0 : 0 < N := by rw [hN]; exact List.length_pos_of_mem (List.mem_of_getElem? hq)
    rw [← hN] at hq hl ⊢
    have hsz := hs q (List.mem_of_getElem? hq)
    obtain ⟨b, off, hao, e0, e1, e2, e3, e4, -⟩ := (h.below b0).cells hq
    subst hao
    have hcall := cmpR_any q.1 (g, r, l, n, x) hsz
    obtain ⟨⟨g', r', l'', n', x'⟩, y⟩ := q
    dsimp only at e0 e1 e2 e3 e4 hcall hR2
    obtain ⟨cv, hcv⟩ : ∃ cv, cv = cmpT (g', r', l'', n', x') (g, r, l, n, x) := ⟨_, rfl⟩
    have hcr := ord_T.range (g', r', l'', n', x') (g, r, l, n, x)
    rw [← hcv] at hcall hR2 hcr
    have hS : ∀ W', Below w0.heap.size w0 W' → W'.cell? ⟨b, off + (N - 1) * 6, none⟩ = some ((.int .i64 g')) ∧ W'.cell? ⟨b, off + (N - 1) * 6 + 1, none⟩ = some ((.int .i64 r')) ∧ W'.cell? ⟨b, off + (N - 1) * 6 + 2, none⟩ = some ((.string l'')) ∧ W'.cell? ⟨b, off + (N - 1) * 6 + 3, none⟩ = some ((.int .i64 n')) ∧ W'.cell? ⟨b, off + (N - 1) * 6 + 4, none⟩ = some ((.int .i64 x')) ∧ W'.cell? ⟨B0, 0, none⟩ = some ((.int .i64 g)) ∧ W'.cell? ⟨B0, 1, none⟩ = some ((.int .i64 r)) ∧ W'.cell? ⟨B0, 2, none⟩ = some ((.string l)) ∧ W'.cell? ⟨B0, 3, none⟩ = some ((.int .i64 n)) ∧ W'.cell? ⟨B0, 4, none⟩ = some ((.int .i64 x)) := fun W' hW => ⟨cell_stays e0 hW, cell_stays e1 hW, cell_stays e2 hW, cell_stays e3 hW, cell_stays e4 hW, cell_stays ((cell_of_row _ _ 0 _ 43 (0, 0) m).trans rfl) hW, cell_stays ((cell_of_row _ _ 1 _ 43 (0, 0) m).trans rfl) hW, cell_stays ((cell_of_row _ _ 2 _ 43 (0, 0) m).trans rfl) hW, cell_stays ((cell_of_row _ _ 3 _ 43 (0, 0) m).trans rfl) hW, cell_stays ((cell_of_row _ _ 4 _ 43 (0, 0) m).trans rfl) hW⟩
    have HS := hide hS
    have hlt : decide (cv < 0) = R := by rw [hR2, decide_eq_decide]; omega
    have HLT := hide hlt
    have hN1 : IntKind.i64.wrap ((N : Int) - 1) = ((N - 1 : Nat) : Int) := by rw [IntKind.wrap_i64]; omega
    have z1 : ¬ (N : Int) = 0 := by omega
    have z2 : ((N - 1 : Nat) : Int) < (N : Int) := by omega
    have z3 : ¬ N = 0 := by omega
    have z4 : N - 1 < N := by omega
    clear hg hw0 m b0 hB0 hs h hR hR2 hN hq hsz e0 e1 e2 e3 e4 hcv hS hcr hlt hl hN0
    dsimp only [svT, sv] at hcall
    go_enter Tryz.func64, Tryz.ntmps64
    go_upto_region 1 with fail
    rw [← HW0.out, ← HB0.out]
    refine wp_region_held_drew (S := (fun w' => w'.cell? ⟨b, off + (N - 1) * 6, none⟩ = some ((.int .i64 g')) ∧ w'.cell? ⟨b, off + (N - 1) * 6 + 1, none⟩ = some ((.int .i64 r')) ∧ w'.cell? ⟨b, off + (N - 1) * 6 + 2, none⟩ = some ((.string l'')) ∧ w'.cell? ⟨b, off + (N - 1) * 6 + 3, none⟩ = some ((.int .i64 n')) ∧ w'.cell? ⟨b, off + (N - 1) * 6 + 4, none⟩ = some ((.int .i64 x')) ∧ w'.cell? ⟨B0, 0, none⟩ = some ((.int .i64 g)) ∧ w'.cell? ⟨B0, 1, none⟩ = some ((.int .i64 r)) ∧ w'.cell? ⟨B0, 2, none⟩ = some ((.string l)) ∧ w'.cell? ⟨B0, 3, none⟩ = some ((.int .i64 n)) ∧ w'.cell? ⟨B0, 4, none⟩ = some ((.int .i64 x)))) (by kernel_rfl) (by exact HS.out _ (drew_below w0)) (fun hHeld => ?_)
    try dsimp only at hHeld
    refine take_op (i := 0) (d := 5) (OP := Op.move (Operand.tmp 0)) (T := 22) (v := ?vzz1) rfl rfl rfl rfl (by kernel_rfl) (by kernel_rfl) (by kernel_rfl) (fun _ _ _ h => h) (by rfl) ?hzz1 hHeld ?rzz1
    case hzz1 => (intro w' hSw; (try dsimp only at hSw); go_simp <;> with_reducible rfl)
    try simp only [Act.put, List.setIfInBounds_toArray, List.set_cons_zero, List.set_cons_succ]
    refine take_op (i := 1) (d := 6) (OP := Op.call { callee := Callee.builtin Builtin.len, args := #[Operand.tmp 5], argTypes := #[22] }) (T := 3) (v := ?vzz2) rfl rfl rfl rfl (by kernel_rfl) (by kernel_rfl) (by kernel_rfl) (fun _ _ _ h => h) (by rfl) ?hzz2 hHeld ?rzz2
    case hzz2 => (intro w' hSw; (try dsimp only at hSw); go_simp <;> with_reducible rfl)
    try simp only [Act.put, List.setIfInBounds_toArray, List.set_cons_zero, List.set_cons_succ]
    refine take_op (i := 2) (d := 7) (OP := Op.binOp BinOp.eql 3 (Operand.tmp 6) (Operand.const (Value.int IntKind.i64 0)) 3) (T := 4) (v := .bool false) rfl rfl rfl rfl (by kernel_rfl) (by kernel_rfl) (by kernel_rfl) (fun _ _ _ h => h) (by rfl) ?hzz3 hHeld ?rzz3
    case hzz3 => (intro w' hSw; (try dsimp only at hSw); go_simp <;> (first | with_reducible rfl | (simp; done) | (simp; omega) | omega))
    try simp only [Act.put, List.setIfInBounds_toArray, List.set_cons_zero, List.set_cons_succ]
    refine take_op (i := 3) (d := 8) (OP := Op.move (Operand.tmp 7)) (T := 4) (v := ?vzz4) rfl rfl rfl rfl (by kernel_rfl) (by kernel_rfl) (by kernel_rfl) (fun _ _ _ h => h) (by rfl) ?hzz4 hHeld ?rzz4
    case hzz4 => (intro w' hSw; (try dsimp only at hSw); go_simp <;> with_reducible rfl)
    try simp only [Act.put, List.setIfInBounds_toArray, List.set_cons_zero, List.set_cons_succ]
    refine take_op (i := 4) (d := 9) (OP := Op.move (Operand.tmp 0)) (T := 22) (v := ?vzz5) rfl rfl rfl rfl (by kernel_rfl) (by kernel_rfl) (by kernel_rfl) (fun _ _ _ h => h) (by rfl) ?hzz5 hHeld ?rzz5
    case hzz5 => (intro w' hSw; (try dsimp only at hSw); go_simp <;> with_reducible rfl)
    try simp only [Act.put, List.setIfInBounds_toArray, List.set_cons_zero, List.set_cons_succ]
    refine take_op (i := 5) (d := 10) (OP := Op.move (Operand.tmp 0)) (T := 22) (v := ?vzz6) rfl rfl rfl rfl (by kernel_rfl) (by kernel_rfl) (by kernel_rfl) (fun _ _ _ h => h) (by rfl) ?hzz6 hHeld ?rzz6
    case hzz6 => (intro w' hSw; (try dsimp only at hSw); go_simp <;> with_reducible rfl)
    try simp only [Act.put, List.setIfInBounds_toArray, List.set_cons_zero, List.set_cons_succ]
    refine take_op (i := 6) (d := 11) (OP := Op.call { callee := Callee.builtin Builtin.len, args := #[Operand.tmp 10], argTypes := #[22] }) (T := 3) (v := ?vzz7) rfl rfl rfl rfl (by kernel_rfl) (by kernel_rfl) (by kernel_rfl) (fun _ _ _ h => h) (by rfl) ?hzz7 hHeld ?rzz7
    case hzz7 => (intro w' hSw; (try dsimp only at hSw); go_simp <;> with_reducible rfl)
    try simp only [Act.put, List.setIfInBounds_toArray, List.set_cons_zero, List.set_cons_succ]
    refine take_op (i := 7) (d := 12) (OP := Op.binOp BinOp.sub 3 (Operand.tmp 11) (Operand.const (Value.int IntKind.i64 1)) 3) (T := 3) (v := .int .i64 ((N - 1 : Nat) : Int)) rfl rfl rfl rfl (by kernel_rfl) (by kernel_rfl) (by kernel_rfl) (fun _ _ _ h => h) (by rfl) ?hzz8 hHeld ?rzz8
    case hzz8 => (intro w' hSw; (try dsimp only at hSw); go_simp <;> (first | with_reducible rfl | exact hN1))
    try simp only [Act.put, List.setIfInBounds_toArray, List.set_cons_zero, List.set_cons_succ]
    refine take_op (i := 8) (d := 13) (OP := Op.indexAddr 22 (Operand.tmp 9) (Operand.tmp 12)) (T := 0) (v := ?vzz9) rfl rfl rfl rfl (by kernel_rfl) (by kernel_rfl) (by kernel_rfl) (fun _ _ _ h => h) (by rfl) ?hzz9 hHeld ?rzz9
    case hzz9 => (intro w' hSw; (try dsimp only at hSw); go_simp <;> with_reducible rfl)
    try simp only [Act.put, List.setIfInBounds_toArray, List.set_cons_zero, List.set_cons_succ]
    refine take_op (i := 9) (d := 14) (OP := Op.fieldAddr 53 (Operand.tmp 13) 0) (T := 0) (v := ?vzz10) rfl rfl rfl rfl (by kernel_rfl) (by kernel_rfl) (by kernel_rfl) (fun _ _ _ h => h) (by rfl) ?hzz10 hHeld ?rzz10
    case hzz10 => (intro w' hSw; (try dsimp only at hSw); go_simp <;> with_reducible rfl)
    try simp only [Act.put, List.setIfInBounds_toArray, List.set_cons_zero, List.set_cons_succ]
    refine take_op (i := 10) (d := 15) (OP := Op.load 43 (Operand.tmp 14)) (T := 43) (v := ?vzz11) rfl rfl rfl rfl (by kernel_rfl) (by kernel_rfl) (by kernel_rfl) (fun _ _ _ h => h) (by rfl) ?hzz11 hHeld ?rzz11
    case hzz11 => (intro w' hSw; (try dsimp only at hSw); go_simp <;> with_reducible rfl)
    try simp only [Act.put, List.setIfInBounds_toArray, List.set_cons_zero, List.set_cons_succ]
    refine take_op (i := 11) (d := 16) (OP := Op.load 43 (Operand.tmp 3)) (T := 43) (v := ?vzz12) rfl rfl rfl rfl (by kernel_rfl) (by kernel_rfl) (by kernel_rfl) (fun _ _ _ h => h) (by rfl) ?hzz12 hHeld ?rzz12
    case hzz12 => (intro w' hSw; (try dsimp only at hSw); go_simp <;> with_reducible rfl)
    try simp only [Act.put, List.setIfInBounds_toArray, List.set_cons_zero, List.set_cons_succ]
    refine call_op (i := 12) (d := 17) (OP := Op.call { callee := Callee.value (Operand.func 86), args := #[Operand.tmp 15, Operand.tmp 16], argTypes := #[43, 43] }) (T := 3) (f := 86) (args := #[.agg #[.int .i64 g', .int .i64 r', .string l'', .int .i64 n', .int .i64 x'], .agg #[.int .i64 g, .int .i64 r, .string l, .int .i64 n, .int .i64 x]]) rfl rfl rfl rfl (by kernel_rfl) (by rfl) (by go_simp) ?_
    refine (hcall _).mono ?_
    rintro e w5 ⟨rfl, b5⟩
    have bb5 := (drew_below w0).trans (b5.mono (drew_below w0).size)
    have q5 := HS.out w5 bb5
    have HW5 := hide (HB.out.trans (bb5.mono HB.out.size))
    clear b5 bb5
    refine ⟨_, rfl, q5, ?_⟩
    replace hHeld := q5
    try simp only [Act.put, List.setIfInBounds_toArray, List.set_cons_zero, List.set_cons_succ]
    refine take_op (i := 13) (d := 18) (OP := Op.binOp BinOp.lss 3 (Operand.tmp 17) (Operand.const (Value.int IntKind.i64 0)) 3) (T := 4) (v := ?vzz13) rfl rfl rfl rfl (by kernel_rfl) (by kernel_rfl) (by kernel_rfl) (fun _ _ _ h => h) (by rfl) ?hzz13 hHeld ?rzz13
    case hzz13 => (intro w' hSw; (try dsimp only at hSw); go_simp <;> with_reducible rfl)
    try simp only [Act.put, List.setIfInBounds_toArray, List.set_cons_zero, List.set_cons_succ]
    refine take_op (i := 14) (d := 19) (OP := Op.pick (Operand.tmp 8) (Operand.const (Value.bool true)) (Operand.tmp 18)) (T := 4) (v := ?vzz14) rfl rfl rfl rfl (by kernel_rfl) (by kernel_rfl) (by kernel_rfl) (fun _ _ _ h => h) (by rfl) ?hzz14 hHeld ?rzz14
    case hzz14 => (intro w' hSw; (try dsimp only at hSw); go_simp <;> with_reducible rfl)
    try simp only [Act.put, List.setIfInBounds_toArray, List.set_cons_zero, List.set_cons_succ]
    refine take_op (i := 15) (d := 4) (OP := Op.assign (Operand.tmp 19)) (T := 4) (v := ?vzz15) rfl rfl rfl rfl (by kernel_rfl) (by kernel_rfl) (by kernel_rfl) (fun _ _ _ h => h) (by rfl) ?hzz15 hHeld ?rzz15
    case hzz15 => (intro w' hSw; (try dsimp only at hSw); go_simp <;> with_reducible rfl)
    try simp only [Act.put, List.setIfInBounds_toArray, List.set_cons_zero, List.set_cons_succ]
    refine wpAnyH_done (by kernel_rfl) ?_ _
    clear HS hcall
    go_wp2
    go_ret
    exact ⟨by rw [← HLT.out]; rfl, HW5.out⟩
set_option maxHeartbeats 1000000 in
theorem refMay13 {w : World} {ao : Option Addr} {c : Nat} (l : List El) (h : Re w ao l) (hl : l.length ≤ 100000) (hs : ∀ x ∈ l, x.1.2.2.1.size ≤ 9223372036854775807) : Calls Tryz.prog 58 #[.slice ao l.length c] w fun e w' => e = .returned (.bool (mayE l)) ∧ Below w.heap.size w w' := by
  have hm := refMay11 (c := c) l h hl hs
  obtain ⟨N, hN⟩ : ∃ N, N = l.length := ⟨_, rfl⟩
  rw [← hN] at hm ⊢
  clear hN hl
  go_enter Tryz.func58, Tryz.ntmps58
  go_wp2_with (go_at_call 15; refine hm.mono ?_; rintro e w1 ⟨rfl, b1⟩; have H1 := hide b1; clear b1; dsimp only)
  go_ret
  exact ⟨rfl, H1.out⟩
set_option maxHeartbeats 1000000 in
theorem refSorted13 {w : World} {ao : Option Addr} {c : Nat} (l : List El) (h : Re w ao l) (hl : l.length ≤ 100000) (hm : mayE l = true) : Calls Tryz.prog 60 #[.slice ao l.length c] w fun e w' => ∃ ao' c', e = .returned (.slice ao' l.length c') ∧ Oe w' w.heap.size (.slice ao' l.length c') (srtE l) ∧ Below w.heap.size w w' := by
  have hm := refSorted18 (c := c) l h hl hm
  have hlen := srtE_len l
  obtain ⟨S, hS⟩ : ∃ S, S = srtE l := ⟨_, rfl⟩
  rw [← hS] at hm hlen ⊢
  obtain ⟨N, hN⟩ : ∃ N, N = l.length := ⟨_, rfl⟩
  rw [← hN] at hm hlen ⊢
  have HL := hide hlen
  clear hN hl hS hlen
  go_enter Tryz.func60, Tryz.ntmps60
  go_wp2_with (go_at_call 18; refine hm.mono ?_; rintro e w1 ⟨v, rfl, o1, b1⟩; obtain ⟨ao', c', e1, -⟩ := o1.form; rw [HL.out] at e1; subst e1; have H1 := hide (And.intro o1 b1); clear o1 b1; dsimp only)
  go_ret
  exact ⟨_, _, rfl, H1.out.1, H1.out.2⟩

theorem tail_last {l : List Kv} (hs : Pm.Srt l) (hm : mayL l = true) {s : St} (hv : stV s = true) (hb : behB (elsL l) s = true) : ∀ y ∈ l, Pm.cmpB y.1 (keyT s) = -1 := fun y hy => by
  have hg : (elsL l).getLast? = l.getLast?.map (fun x => ((ofT x.1, x.2) : El)) := by rw [elsL, if_pos hm]; unfold elsM; rw [List.getLast?_map]
  unfold behB at hb
  rw [hg] at hb
  cases hl : l.getLast? with
  | none => rw [List.getLast?_eq_none_iff.1 hl] at hy; cases hy
  | some z =>
    rw [hl] at hb
    have h1 := okV_of (okKv_el (may_mem hm (List.mem_of_getLast? hl))).1
    have h3 := cmp_keys h1.2 hv
    rw [h1.1] at h3
    have hz : Pm.cmpB z.1 (keyT s) = -1 := h3.trans (of_decide_eq_true hb)
    obtain ⟨ys, rfl⟩ := List.getLast?_eq_some_iff.1 hl
    rcases List.mem_append.1 hy with h1 | h1
    · exact Pm.ord_B.trans _ _ _ ((List.pairwise_append.1 hs).2.2 y h1 z (by simp)) hz
    · rw [List.mem_singleton.1 h1]; exact hz
theorem may_tail {l : List Kv} (hm : mayL l = true) : mayL l.tail = true := List.all_eq_true.2 (fun y hy => may_mem hm (List.mem_of_mem_tail hy))
theorem okWr_tail {l : List Kv} (hm : mayL l = true) {s : St} {X : ByteArray} (hv : stV s = true) (hx : txtB X = true) (hl : ∀ y ∈ l, Pm.cmpB y.1 (keyT s) = -1) : okWr l.tail s X = true := by
  unfold okWr
  rw [hv, hx, may_tail hm]
  simp only [Bool.true_and, Bool.and_true, decide_eq_true_eq]
  cases h : l.tail.getLast? with
  | none => exact keyT_ahead
  | some z => exact hl z (List.mem_of_mem_tail (List.mem_of_getLast? h))
theorem srt_push {l : List Kv} {K X : ByteArray} (hs : Pm.Srt l) (hl : ∀ y ∈ l, Pm.cmpB y.1 K = -1) : Pm.Srt (l ++ [(K, X)]) := by
  unfold Pm.Srt
  rw [List.pairwise_append]
  exact ⟨hs, by simp, fun y hy z hz => by rw [List.mem_singleton.1 hz]; exact hl y hy⟩
theorem els_push {l : List Kv} (hm : mayL l = true) {s : St} {X : ByteArray} (hv : stV s = true) (hx : txtB X = true) : mayL (l.tail ++ [(keyT s, X)]) = true ∧ elsL (l.tail ++ [(keyT s, X)]) = (elsL l).tail ++ [(s, X)] := by
  have h1 : mayL (l.tail ++ [(keyT s, X)]) = true := by
    have := may_tail hm
    unfold mayL at this ⊢
    rw [List.all_append, this]
    simp [okKv, okV_key hv, hx]
  refine ⟨h1, ?_⟩
  rw [elsL, if_pos h1, elsL, if_pos hm]
  unfold elsM
  rw [List.map_append, List.map_tail]
  simp [ofT_key hv]
theorem first_tail {l : List Kv} : (firstE (elsL l)).2 = decide (0 < (elsL l).length) := by
  cases elsL l with
  | nil => rfl
  | cons x m => simp [firstE]
set_option maxHeartbeats 16000000 in
set_option maxRecDepth 100000 in
theorem pops10 {w : World} {ao : Option Addr} {c : Nat} (l : List El) (s : St) (X : ByteArray) (h : Re w ao l) (hs : ∀ x ∈ l, x.1.2.2.1.size ≤ 9223372036854775807) (hss : s.2.2.1.size ≤ 9223372036854775807) : Calls Tryz.prog 10 #[.slice ao l.length c, svT s, .string X] w fun e w' => e = .returned (.bool true) ∧ Below w.heap.size w w' := by
  obtain ⟨g, r, lb, n, ix⟩ := s
  obtain ⟨N, hN⟩ : ∃ N, N = l.length := ⟨_, rfl⟩
  obtain ⟨w0, hw0⟩ : ∃ q, q = w.alloc (.cells #[.int .i64 g, .int .i64 r, .string lb, .int .i64 n, .int .i64 ix] 43) := ⟨_, rfl⟩
  have m := heap_alloc_new w (.cells #[.int .i64 g, .int .i64 r, .string lb, .int .i64 n, .int .i64 ix] 43)
  have b0 : Below w.heap.size w (w.alloc (.cells #[.int .i64 g, .int .i64 r, .string lb, .int .i64 n, .int .i64 ix] 43)) := (Below.refl _ w).alloc (Nat.le_refl _) _
  rw [← hw0] at m b0
  obtain ⟨Sb, hSb⟩ : ∃ q, q = w.heap.size := ⟨_, rfl⟩
  rw [← hSb] at m
  have HC0 : Hid (∀ W, Below w0.heap.size w0 W → Below w.heap.size w W) := hide (fun W hW => b0.trans (hW.mono b0.size))
  have HS0 : Hid (∀ W, Below w0.heap.size w0 W → W.cell? ⟨Sb, 0, none⟩ = some (.int .i64 g) ∧ W.cell? ⟨Sb, 1, none⟩ = some (.int .i64 r) ∧ W.cell? ⟨Sb, 2, none⟩ = some (.string lb) ∧ W.cell? ⟨Sb, 3, none⟩ = some (.int .i64 n) ∧ W.cell? ⟨Sb, 4, none⟩ = some (.int .i64 ix) ∧ Hid (Below w0.heap.size w0 W)) := hide (fun W hW => ⟨cell_stays ((cell_of_row _ _ 0 _ 43 (0, 0) m).trans rfl) hW, cell_stays ((cell_of_row _ _ 1 _ 43 (0, 0) m).trans rfl) hW, cell_stays ((cell_of_row _ _ 2 _ 43 (0, 0) m).trans rfl) hW, cell_stays ((cell_of_row _ _ 3 _ 43 (0, 0) m).trans rfl) hW, cell_stays ((cell_of_row _ _ 4 _ 43 (0, 0) m).trans rfl) hW, hide hW⟩)
  have HW0 := hide (And.intro hw0 hSb)
  rw [← hN]
  dsimp only [svT, sv]
  have hft : ∀ W, Calls Tryz.prog 63 #[.agg #[.int .i64 g, .int .i64 r, .string lb, .int .i64 n, .int .i64 ix], .string X] W fun e w' => e = .returned (.bool (stV (g, r, lb, n, ix) && txtB X)) ∧ Below W.heap.size W w' := fun W => fits39 (g, r, lb, n, ix) X W hss
  have hgm := mayE_good l
  have HL := hide (And.intro hN (And.intro h (And.intro hs hgm)))
  obtain ⟨FT, hFT⟩ : ∃ q, q = (stV (g, r, lb, n, ix) && txtB X) := ⟨_, rfl⟩
  rw [← hFT] at hft
  have HFT := hide hFT
  have hkn : ∀ W, Below w0.heap.size w0 W → Calls Tryz.prog 56 #[] W fun e w' => e = .returned (.bool true) ∧ Below W.heap.size W w' := fun W _ => known56 W
  clear hFT hgm hN hw0 m b0 hSb hss
  by_cases h60 : 60 < N
  · have z1 : (60 : Int) < (N : Int) := by omega
    have z2 : decide (60 < N) = true := by simpa using h60
    clear h hs
    go_enter Tryz.func10, Tryz.ntmps10
    go_upto_region 1 with fail
    rw [← HW0.out.1, ← HW0.out.2]
    go_upto_region 3 with (go_at_call 56; refine (hkn w0 (Below.refl _ _)).mono ?_; rintro e w1 ⟨rfl, b1⟩; have H1 := hide b1; clear b1; dsimp only)
    refine wp_region_held_drew (S := fun w' => w'.cell? ⟨Sb, 0, none⟩ = some (.int .i64 g) ∧ w'.cell? ⟨Sb, 1, none⟩ = some (.int .i64 r) ∧ w'.cell? ⟨Sb, 2, none⟩ = some (.string lb) ∧ w'.cell? ⟨Sb, 3, none⟩ = some (.int .i64 n) ∧ w'.cell? ⟨Sb, 4, none⟩ = some (.int .i64 ix) ∧ Hid (Below w0.heap.size w0 w')) (by kernel_rfl) (by exact HS0.out _ (H1.out.trans ((drew_below w1).mono H1.out.size))) (fun hHeld => ?_)
    try dsimp only at hHeld
    refine take_op (i := 0) (d := 24) (OP := Op.move (Operand.tmp 0)) (T := 22) (v := ?vzz28) rfl rfl rfl rfl (by kernel_rfl) (by kernel_rfl) (by kernel_rfl) (fun _ _ _ h => h) (by rfl) ?hzz28 hHeld ?rzz28
    case hzz28 => (intro w' hSw; (try dsimp only at hSw); go_simp <;> with_reducible rfl)
    try simp only [Act.put, List.setIfInBounds_toArray, List.set_cons_zero, List.set_cons_succ]
    refine take_op (i := 1) (d := 25) (OP := Op.call { callee := Callee.builtin Builtin.len, args := #[Operand.tmp 24], argTypes := #[22] }) (T := 3) (v := ?vzz29) rfl rfl rfl rfl (by kernel_rfl) (by kernel_rfl) (by kernel_rfl) (fun _ _ _ h => h) (by rfl) ?hzz29 hHeld ?rzz29
    case hzz29 => (intro w' hSw; (try dsimp only at hSw); go_simp <;> with_reducible rfl)
    try simp only [Act.put, List.setIfInBounds_toArray, List.set_cons_zero, List.set_cons_succ]
    refine take_op (i := 2) (d := 26) (OP := Op.binOp BinOp.gtr 3 (Operand.tmp 25) (Operand.const (Value.int IntKind.i64 60)) 3) (T := 4) (v := ?vzz30) rfl rfl rfl rfl (by kernel_rfl) (by kernel_rfl) (by kernel_rfl) (fun _ _ _ h => h) (by rfl) ?hzz30 hHeld ?rzz30
    case hzz30 => (intro w' hSw; (try dsimp only at hSw); go_simp <;> with_reducible rfl)
    try simp only [Act.put, List.setIfInBounds_toArray, List.set_cons_zero, List.set_cons_succ]
    refine take_op (i := 3) (d := 27) (OP := Op.move (Operand.tmp 26)) (T := 4) (v := ?vzz31) rfl rfl rfl rfl (by kernel_rfl) (by kernel_rfl) (by kernel_rfl) (fun _ _ _ h => h) (by rfl) ?hzz31 hHeld ?rzz31
    case hzz31 => (intro w' hSw; (try dsimp only at hSw); go_simp <;> with_reducible rfl)
    try simp only [Act.put, List.setIfInBounds_toArray, List.set_cons_zero, List.set_cons_succ]
    refine pass_op (i := 4) (d := 28) rfl rfl (by kernel_rfl) (by kernel_rfl) (by kernel_rfl) (fun _ _ _ h => h) (by rfl) hHeld ?_
    try simp only [Act.put, List.setIfInBounds_toArray, List.set_cons_zero, List.set_cons_succ]
    refine pass_op (i := 5) (d := 29) rfl rfl (by kernel_rfl) (by kernel_rfl) (by kernel_rfl) (fun _ _ _ h => h) (by rfl) hHeld ?_
    try simp only [Act.put, List.setIfInBounds_toArray, List.set_cons_zero, List.set_cons_succ]
    refine pass_op (i := 6) (d := 30) rfl rfl (by kernel_rfl) (by kernel_rfl) (by kernel_rfl) (fun _ _ _ h => h) (by rfl) hHeld ?_
    try simp only [Act.put, List.setIfInBounds_toArray, List.set_cons_zero, List.set_cons_succ]
    refine take_op (i := 7) (d := 31) (OP := Op.pick (Operand.tmp 27) (Operand.const (Value.bool true)) (Operand.tmp 30)) (T := 4) (v := ?vzz32) rfl rfl rfl rfl (by kernel_rfl) (by kernel_rfl) (by kernel_rfl) (fun _ _ _ h => h) (by rfl) ?hzz32 hHeld ?rzz32
    case hzz32 => (intro w' hSw; (try dsimp only at hSw); go_simp <;> with_reducible rfl)
    try simp only [Act.put, List.setIfInBounds_toArray, List.set_cons_zero, List.set_cons_succ]
    refine take_op (i := 8) (d := 32) (OP := Op.move (Operand.tmp 31)) (T := 4) (v := ?vzz33) rfl rfl rfl rfl (by kernel_rfl) (by kernel_rfl) (by kernel_rfl) (fun _ _ _ h => h) (by rfl) ?hzz33 hHeld ?rzz33
    case hzz33 => (intro w' hSw; (try dsimp only at hSw); go_simp <;> with_reducible rfl)
    try simp only [Act.put, List.setIfInBounds_toArray, List.set_cons_zero, List.set_cons_succ]
    refine pass_op (i := 9) (d := 33) rfl rfl (by kernel_rfl) (by kernel_rfl) (by kernel_rfl) (fun _ _ _ h => h) (by rfl) hHeld ?_
    try simp only [Act.put, List.setIfInBounds_toArray, List.set_cons_zero, List.set_cons_succ]
    refine pass_op (i := 10) (d := 34) rfl rfl (by kernel_rfl) (by kernel_rfl) (by kernel_rfl) (fun _ _ _ h => h) (by rfl) hHeld ?_
    try simp only [Act.put, List.setIfInBounds_toArray, List.set_cons_zero, List.set_cons_succ]
    refine pass_op (i := 11) (d := 35) rfl rfl (by kernel_rfl) (by kernel_rfl) (by kernel_rfl) (fun _ _ _ h => h) (by rfl) hHeld ?_
    try simp only [Act.put, List.setIfInBounds_toArray, List.set_cons_zero, List.set_cons_succ]
    refine pass_op (i := 12) (d := 36) rfl rfl (by kernel_rfl) (by kernel_rfl) (by kernel_rfl) (fun _ _ _ h => h) (by rfl) hHeld ?_
    try simp only [Act.put, List.setIfInBounds_toArray, List.set_cons_zero, List.set_cons_succ]
    refine take_op (i := 13) (d := 37) (OP := Op.pick (Operand.tmp 32) (Operand.const (Value.bool true)) (Operand.tmp 36)) (T := 4) (v := ?vzz34) rfl rfl rfl rfl (by kernel_rfl) (by kernel_rfl) (by kernel_rfl) (fun _ _ _ h => h) (by rfl) ?hzz34 hHeld ?rzz34
    case hzz34 => (intro w' hSw; (try dsimp only at hSw); go_simp <;> with_reducible rfl)
    try simp only [Act.put, List.setIfInBounds_toArray, List.set_cons_zero, List.set_cons_succ]
    refine take_op (i := 14) (d := 38) (OP := Op.move (Operand.tmp 37)) (T := 4) (v := ?vzz35) rfl rfl rfl rfl (by kernel_rfl) (by kernel_rfl) (by kernel_rfl) (fun _ _ _ h => h) (by rfl) ?hzz35 hHeld ?rzz35
    case hzz35 => (intro w' hSw; (try dsimp only at hSw); go_simp <;> with_reducible rfl)
    try simp only [Act.put, List.setIfInBounds_toArray, List.set_cons_zero, List.set_cons_succ]
    refine pass_op (i := 15) (d := 39) rfl rfl (by kernel_rfl) (by kernel_rfl) (by kernel_rfl) (fun _ _ _ h => h) (by rfl) hHeld ?_
    try simp only [Act.put, List.setIfInBounds_toArray, List.set_cons_zero, List.set_cons_succ]
    refine pass_op (i := 16) (d := 40) rfl rfl (by kernel_rfl) (by kernel_rfl) (by kernel_rfl) (fun _ _ _ h => h) (by rfl) hHeld ?_
    try simp only [Act.put, List.setIfInBounds_toArray, List.set_cons_zero, List.set_cons_succ]
    refine pass_op (i := 17) (d := 41) rfl rfl (by kernel_rfl) (by kernel_rfl) (by kernel_rfl) (fun _ _ _ h => h) (by rfl) hHeld ?_
    try simp only [Act.put, List.setIfInBounds_toArray, List.set_cons_zero, List.set_cons_succ]
    refine pass_op (i := 18) (d := 42) rfl rfl (by kernel_rfl) (by kernel_rfl) (by kernel_rfl) (fun _ _ _ h => h) (by rfl) hHeld ?_
    try simp only [Act.put, List.setIfInBounds_toArray, List.set_cons_zero, List.set_cons_succ]
    refine pass_op (i := 19) (d := 43) rfl rfl (by kernel_rfl) (by kernel_rfl) (by kernel_rfl) (fun _ _ _ h => h) (by rfl) hHeld ?_
    try simp only [Act.put, List.setIfInBounds_toArray, List.set_cons_zero, List.set_cons_succ]
    refine take_op (i := 20) (d := 44) (OP := Op.pick (Operand.tmp 38) (Operand.const (Value.bool true)) (Operand.tmp 43)) (T := 4) (v := ?vzz36) rfl rfl rfl rfl (by kernel_rfl) (by kernel_rfl) (by kernel_rfl) (fun _ _ _ h => h) (by rfl) ?hzz36 hHeld ?rzz36
    case hzz36 => (intro w' hSw; (try dsimp only at hSw); go_simp <;> with_reducible rfl)
    try simp only [Act.put, List.setIfInBounds_toArray, List.set_cons_zero, List.set_cons_succ]
    refine wpAnyH_done (by kernel_rfl) ?_ _
    have HFIN := hide (HC0.out _ hHeld.2.2.2.2.2.out)
    clear hHeld 
    go_wp2
    go_ret
    exact ⟨rfl, HFIN.out⟩
  · have z1 : ¬ (60 : Int) < (N : Int) := by omega
    have z2 : decide (60 < N) = false := by simpa using h60
    have hmy0 : ∀ W, Below w0.heap.size w0 W → Calls Tryz.prog 58 #[.slice ao N c] W fun e w' => e = .returned (.bool (goodL l)) ∧ Below W.heap.size W w' := fun W hW => by
      have := refMay13 (c := c) l (h.below (HC0.out W hW)) (by have := HL.out.1; omega) hs
      rw [HL.out.2.2.2, ← HL.out.1] at this
      exact this
    cases hg : goodL l with
    | false =>
      rw [hg] at hmy0
      have hmy := hmy0
      clear h hs hmy0 hg
      go_enter Tryz.func10, Tryz.ntmps10
      go_upto_region 1 with fail
      rw [← HW0.out.1, ← HW0.out.2]
      go_upto_region 3 with (go_at_call 56; refine (hkn w0 (Below.refl _ _)).mono ?_; rintro e w1 ⟨rfl, b1⟩; have H1 := hide b1; clear b1; dsimp only)
      refine wp_region_held_drew (S := fun w' => w'.cell? ⟨Sb, 0, none⟩ = some (.int .i64 g) ∧ w'.cell? ⟨Sb, 1, none⟩ = some (.int .i64 r) ∧ w'.cell? ⟨Sb, 2, none⟩ = some (.string lb) ∧ w'.cell? ⟨Sb, 3, none⟩ = some (.int .i64 n) ∧ w'.cell? ⟨Sb, 4, none⟩ = some (.int .i64 ix) ∧ Hid (Below w0.heap.size w0 w')) (by kernel_rfl) (by exact HS0.out _ (H1.out.trans ((drew_below w1).mono H1.out.size))) (fun hHeld => ?_)
      try dsimp only at hHeld
      refine take_op (i := 0) (d := 24) (OP := Op.move (Operand.tmp 0)) (T := 22) (v := ?vzz37) rfl rfl rfl rfl (by kernel_rfl) (by kernel_rfl) (by kernel_rfl) (fun _ _ _ h => h) (by rfl) ?hzz37 hHeld ?rzz37
      case hzz37 => (intro w' hSw; (try dsimp only at hSw); go_simp <;> with_reducible rfl)
      try simp only [Act.put, List.setIfInBounds_toArray, List.set_cons_zero, List.set_cons_succ]
      refine take_op (i := 1) (d := 25) (OP := Op.call { callee := Callee.builtin Builtin.len, args := #[Operand.tmp 24], argTypes := #[22] }) (T := 3) (v := ?vzz38) rfl rfl rfl rfl (by kernel_rfl) (by kernel_rfl) (by kernel_rfl) (fun _ _ _ h => h) (by rfl) ?hzz38 hHeld ?rzz38
      case hzz38 => (intro w' hSw; (try dsimp only at hSw); go_simp <;> with_reducible rfl)
      try simp only [Act.put, List.setIfInBounds_toArray, List.set_cons_zero, List.set_cons_succ]
      refine take_op (i := 2) (d := 26) (OP := Op.binOp BinOp.gtr 3 (Operand.tmp 25) (Operand.const (Value.int IntKind.i64 60)) 3) (T := 4) (v := ?vzz39) rfl rfl rfl rfl (by kernel_rfl) (by kernel_rfl) (by kernel_rfl) (fun _ _ _ h => h) (by rfl) ?hzz39 hHeld ?rzz39
      case hzz39 => (intro w' hSw; (try dsimp only at hSw); go_simp <;> with_reducible rfl)
      try simp only [Act.put, List.setIfInBounds_toArray, List.set_cons_zero, List.set_cons_succ]
      refine take_op (i := 3) (d := 27) (OP := Op.move (Operand.tmp 26)) (T := 4) (v := ?vzz40) rfl rfl rfl rfl (by kernel_rfl) (by kernel_rfl) (by kernel_rfl) (fun _ _ _ h => h) (by rfl) ?hzz40 hHeld ?rzz40
      case hzz40 => (intro w' hSw; (try dsimp only at hSw); go_simp <;> with_reducible rfl)
      try simp only [Act.put, List.setIfInBounds_toArray, List.set_cons_zero, List.set_cons_succ]
      refine take_op (i := 4) (d := 28) (OP := Op.move (Operand.tmp 0)) (T := 22) (v := ?vzz41) rfl rfl rfl rfl (by kernel_rfl) (by kernel_rfl) (by kernel_rfl) (fun _ _ _ h => h) (by rfl) ?hzz41 hHeld ?rzz41
      case hzz41 => (intro w' hSw; (try dsimp only at hSw); go_simp <;> with_reducible rfl)
      try simp only [Act.put, List.setIfInBounds_toArray, List.set_cons_zero, List.set_cons_succ]
      refine call_op (i := 5) (d := 29) (OP := Op.call { callee := Callee.value (Operand.func 58), args := #[Operand.tmp 28], argTypes := #[22] }) (T := 4) (f := 58) (args := #[.slice ao N c]) rfl rfl rfl rfl (by kernel_rfl) (by rfl) (by go_simp) ?_
      refine (hmy _ hHeld.2.2.2.2.2.out).mono ?_
      rintro e za ⟨rfl, bza⟩
      have qza : za.cell? ⟨Sb, 0, none⟩ = some (.int .i64 g) ∧ za.cell? ⟨Sb, 1, none⟩ = some (.int .i64 r) ∧ za.cell? ⟨Sb, 2, none⟩ = some (.string lb) ∧ za.cell? ⟨Sb, 3, none⟩ = some (.int .i64 n) ∧ za.cell? ⟨Sb, 4, none⟩ = some (.int .i64 ix) ∧ Hid (Below w0.heap.size w0 za) := ⟨cell_stays hHeld.1 bza, cell_stays hHeld.2.1 bza, cell_stays hHeld.2.2.1 bza, cell_stays hHeld.2.2.2.1 bza, cell_stays hHeld.2.2.2.2.1 bza, hide (hHeld.2.2.2.2.2.out.trans (bza.mono hHeld.2.2.2.2.2.out.size))⟩
      refine ⟨_, rfl, qza, ?_⟩
      replace hHeld := qza
      clear qza bza
      try simp only [Act.put, List.setIfInBounds_toArray, List.set_cons_zero, List.set_cons_succ]
      refine take_op (i := 6) (d := 30) (OP := Op.unOp UnOp.not 4 (Operand.tmp 29)) (T := 4) (v := ?vzz42) rfl rfl rfl rfl (by kernel_rfl) (by kernel_rfl) (by kernel_rfl) (fun _ _ _ h => h) (by rfl) ?hzz42 hHeld ?rzz42
      case hzz42 => (intro w' hSw; (try dsimp only at hSw); go_simp <;> with_reducible rfl)
      try simp only [Act.put, List.setIfInBounds_toArray, List.set_cons_zero, List.set_cons_succ]
      refine take_op (i := 7) (d := 31) (OP := Op.pick (Operand.tmp 27) (Operand.const (Value.bool true)) (Operand.tmp 30)) (T := 4) (v := ?vzz43) rfl rfl rfl rfl (by kernel_rfl) (by kernel_rfl) (by kernel_rfl) (fun _ _ _ h => h) (by rfl) ?hzz43 hHeld ?rzz43
      case hzz43 => (intro w' hSw; (try dsimp only at hSw); go_simp <;> with_reducible rfl)
      try simp only [Act.put, List.setIfInBounds_toArray, List.set_cons_zero, List.set_cons_succ]
      refine take_op (i := 8) (d := 32) (OP := Op.move (Operand.tmp 31)) (T := 4) (v := ?vzz44) rfl rfl rfl rfl (by kernel_rfl) (by kernel_rfl) (by kernel_rfl) (fun _ _ _ h => h) (by rfl) ?hzz44 hHeld ?rzz44
      case hzz44 => (intro w' hSw; (try dsimp only at hSw); go_simp <;> with_reducible rfl)
      try simp only [Act.put, List.setIfInBounds_toArray, List.set_cons_zero, List.set_cons_succ]
      refine pass_op (i := 9) (d := 33) rfl rfl (by kernel_rfl) (by kernel_rfl) (by kernel_rfl) (fun _ _ _ h => h) (by rfl) hHeld ?_
      try simp only [Act.put, List.setIfInBounds_toArray, List.set_cons_zero, List.set_cons_succ]
      refine pass_op (i := 10) (d := 34) rfl rfl (by kernel_rfl) (by kernel_rfl) (by kernel_rfl) (fun _ _ _ h => h) (by rfl) hHeld ?_
      try simp only [Act.put, List.setIfInBounds_toArray, List.set_cons_zero, List.set_cons_succ]
      refine pass_op (i := 11) (d := 35) rfl rfl (by kernel_rfl) (by kernel_rfl) (by kernel_rfl) (fun _ _ _ h => h) (by rfl) hHeld ?_
      try simp only [Act.put, List.setIfInBounds_toArray, List.set_cons_zero, List.set_cons_succ]
      refine pass_op (i := 12) (d := 36) rfl rfl (by kernel_rfl) (by kernel_rfl) (by kernel_rfl) (fun _ _ _ h => h) (by rfl) hHeld ?_
      try simp only [Act.put, List.setIfInBounds_toArray, List.set_cons_zero, List.set_cons_succ]
      refine take_op (i := 13) (d := 37) (OP := Op.pick (Operand.tmp 32) (Operand.const (Value.bool true)) (Operand.tmp 36)) (T := 4) (v := ?vzz45) rfl rfl rfl rfl (by kernel_rfl) (by kernel_rfl) (by kernel_rfl) (fun _ _ _ h => h) (by rfl) ?hzz45 hHeld ?rzz45
      case hzz45 => (intro w' hSw; (try dsimp only at hSw); go_simp <;> with_reducible rfl)
      try simp only [Act.put, List.setIfInBounds_toArray, List.set_cons_zero, List.set_cons_succ]
      refine take_op (i := 14) (d := 38) (OP := Op.move (Operand.tmp 37)) (T := 4) (v := ?vzz46) rfl rfl rfl rfl (by kernel_rfl) (by kernel_rfl) (by kernel_rfl) (fun _ _ _ h => h) (by rfl) ?hzz46 hHeld ?rzz46
      case hzz46 => (intro w' hSw; (try dsimp only at hSw); go_simp <;> with_reducible rfl)
      try simp only [Act.put, List.setIfInBounds_toArray, List.set_cons_zero, List.set_cons_succ]
      refine pass_op (i := 15) (d := 39) rfl rfl (by kernel_rfl) (by kernel_rfl) (by kernel_rfl) (fun _ _ _ h => h) (by rfl) hHeld ?_
      try simp only [Act.put, List.setIfInBounds_toArray, List.set_cons_zero, List.set_cons_succ]
      refine pass_op (i := 16) (d := 40) rfl rfl (by kernel_rfl) (by kernel_rfl) (by kernel_rfl) (fun _ _ _ h => h) (by rfl) hHeld ?_
      try simp only [Act.put, List.setIfInBounds_toArray, List.set_cons_zero, List.set_cons_succ]
      refine pass_op (i := 17) (d := 41) rfl rfl (by kernel_rfl) (by kernel_rfl) (by kernel_rfl) (fun _ _ _ h => h) (by rfl) hHeld ?_
      try simp only [Act.put, List.setIfInBounds_toArray, List.set_cons_zero, List.set_cons_succ]
      refine pass_op (i := 18) (d := 42) rfl rfl (by kernel_rfl) (by kernel_rfl) (by kernel_rfl) (fun _ _ _ h => h) (by rfl) hHeld ?_
      try simp only [Act.put, List.setIfInBounds_toArray, List.set_cons_zero, List.set_cons_succ]
      refine pass_op (i := 19) (d := 43) rfl rfl (by kernel_rfl) (by kernel_rfl) (by kernel_rfl) (fun _ _ _ h => h) (by rfl) hHeld ?_
      try simp only [Act.put, List.setIfInBounds_toArray, List.set_cons_zero, List.set_cons_succ]
      refine take_op (i := 20) (d := 44) (OP := Op.pick (Operand.tmp 38) (Operand.const (Value.bool true)) (Operand.tmp 43)) (T := 4) (v := ?vzz47) rfl rfl rfl rfl (by kernel_rfl) (by kernel_rfl) (by kernel_rfl) (fun _ _ _ h => h) (by rfl) ?hzz47 hHeld ?rzz47
      case hzz47 => (intro w' hSw; (try dsimp only at hSw); go_simp <;> with_reducible rfl)
      try simp only [Act.put, List.setIfInBounds_toArray, List.set_cons_zero, List.set_cons_succ]
      refine wpAnyH_done (by kernel_rfl) ?_ _
      have HFIN := hide (HC0.out _ hHeld.2.2.2.2.2.out)
      clear hHeld 
      go_wp2
      go_ret
      exact ⟨rfl, HFIN.out⟩
    | true =>
      rw [hg] at hmy0
      have hmy := hmy0
      have HG := hide hg
      cases FT with
      | false =>
        clear h hs hmy0 hg
        go_enter Tryz.func10, Tryz.ntmps10
        go_upto_region 1 with fail
        rw [← HW0.out.1, ← HW0.out.2]
        go_upto_region 3 with (go_at_call 56; refine (hkn w0 (Below.refl _ _)).mono ?_; rintro e w1 ⟨rfl, b1⟩; have H1 := hide b1; clear b1; dsimp only)
        refine wp_region_held_drew (S := fun w' => w'.cell? ⟨Sb, 0, none⟩ = some (.int .i64 g) ∧ w'.cell? ⟨Sb, 1, none⟩ = some (.int .i64 r) ∧ w'.cell? ⟨Sb, 2, none⟩ = some (.string lb) ∧ w'.cell? ⟨Sb, 3, none⟩ = some (.int .i64 n) ∧ w'.cell? ⟨Sb, 4, none⟩ = some (.int .i64 ix) ∧ Hid (Below w0.heap.size w0 w')) (by kernel_rfl) (by exact HS0.out _ (H1.out.trans ((drew_below w1).mono H1.out.size))) (fun hHeld => ?_)
        try dsimp only at hHeld
        refine take_op (i := 0) (d := 24) (OP := Op.move (Operand.tmp 0)) (T := 22) (v := ?vzz48) rfl rfl rfl rfl (by kernel_rfl) (by kernel_rfl) (by kernel_rfl) (fun _ _ _ h => h) (by rfl) ?hzz48 hHeld ?rzz48
        case hzz48 => (intro w' hSw; (try dsimp only at hSw); go_simp <;> with_reducible rfl)
        try simp only [Act.put, List.setIfInBounds_toArray, List.set_cons_zero, List.set_cons_succ]
        refine take_op (i := 1) (d := 25) (OP := Op.call { callee := Callee.builtin Builtin.len, args := #[Operand.tmp 24], argTypes := #[22] }) (T := 3) (v := ?vzz49) rfl rfl rfl rfl (by kernel_rfl) (by kernel_rfl) (by kernel_rfl) (fun _ _ _ h => h) (by rfl) ?hzz49 hHeld ?rzz49
        case hzz49 => (intro w' hSw; (try dsimp only at hSw); go_simp <;> with_reducible rfl)
        try simp only [Act.put, List.setIfInBounds_toArray, List.set_cons_zero, List.set_cons_succ]
        refine take_op (i := 2) (d := 26) (OP := Op.binOp BinOp.gtr 3 (Operand.tmp 25) (Operand.const (Value.int IntKind.i64 60)) 3) (T := 4) (v := ?vzz50) rfl rfl rfl rfl (by kernel_rfl) (by kernel_rfl) (by kernel_rfl) (fun _ _ _ h => h) (by rfl) ?hzz50 hHeld ?rzz50
        case hzz50 => (intro w' hSw; (try dsimp only at hSw); go_simp <;> with_reducible rfl)
        try simp only [Act.put, List.setIfInBounds_toArray, List.set_cons_zero, List.set_cons_succ]
        refine take_op (i := 3) (d := 27) (OP := Op.move (Operand.tmp 26)) (T := 4) (v := ?vzz51) rfl rfl rfl rfl (by kernel_rfl) (by kernel_rfl) (by kernel_rfl) (fun _ _ _ h => h) (by rfl) ?hzz51 hHeld ?rzz51
        case hzz51 => (intro w' hSw; (try dsimp only at hSw); go_simp <;> with_reducible rfl)
        try simp only [Act.put, List.setIfInBounds_toArray, List.set_cons_zero, List.set_cons_succ]
        refine take_op (i := 4) (d := 28) (OP := Op.move (Operand.tmp 0)) (T := 22) (v := ?vzz52) rfl rfl rfl rfl (by kernel_rfl) (by kernel_rfl) (by kernel_rfl) (fun _ _ _ h => h) (by rfl) ?hzz52 hHeld ?rzz52
        case hzz52 => (intro w' hSw; (try dsimp only at hSw); go_simp <;> with_reducible rfl)
        try simp only [Act.put, List.setIfInBounds_toArray, List.set_cons_zero, List.set_cons_succ]
        refine call_op (i := 5) (d := 29) (OP := Op.call { callee := Callee.value (Operand.func 58), args := #[Operand.tmp 28], argTypes := #[22] }) (T := 4) (f := 58) (args := #[.slice ao N c]) rfl rfl rfl rfl (by kernel_rfl) (by rfl) (by go_simp) ?_
        refine (hmy _ hHeld.2.2.2.2.2.out).mono ?_
        rintro e za ⟨rfl, bza⟩
        have qza : za.cell? ⟨Sb, 0, none⟩ = some (.int .i64 g) ∧ za.cell? ⟨Sb, 1, none⟩ = some (.int .i64 r) ∧ za.cell? ⟨Sb, 2, none⟩ = some (.string lb) ∧ za.cell? ⟨Sb, 3, none⟩ = some (.int .i64 n) ∧ za.cell? ⟨Sb, 4, none⟩ = some (.int .i64 ix) ∧ Hid (Below w0.heap.size w0 za) := ⟨cell_stays hHeld.1 bza, cell_stays hHeld.2.1 bza, cell_stays hHeld.2.2.1 bza, cell_stays hHeld.2.2.2.1 bza, cell_stays hHeld.2.2.2.2.1 bza, hide (hHeld.2.2.2.2.2.out.trans (bza.mono hHeld.2.2.2.2.2.out.size))⟩
        refine ⟨_, rfl, qza, ?_⟩
        replace hHeld := qza
        clear qza bza
        try simp only [Act.put, List.setIfInBounds_toArray, List.set_cons_zero, List.set_cons_succ]
        refine take_op (i := 6) (d := 30) (OP := Op.unOp UnOp.not 4 (Operand.tmp 29)) (T := 4) (v := ?vzz53) rfl rfl rfl rfl (by kernel_rfl) (by kernel_rfl) (by kernel_rfl) (fun _ _ _ h => h) (by rfl) ?hzz53 hHeld ?rzz53
        case hzz53 => (intro w' hSw; (try dsimp only at hSw); go_simp <;> with_reducible rfl)
        try simp only [Act.put, List.setIfInBounds_toArray, List.set_cons_zero, List.set_cons_succ]
        refine take_op (i := 7) (d := 31) (OP := Op.pick (Operand.tmp 27) (Operand.const (Value.bool true)) (Operand.tmp 30)) (T := 4) (v := ?vzz54) rfl rfl rfl rfl (by kernel_rfl) (by kernel_rfl) (by kernel_rfl) (fun _ _ _ h => h) (by rfl) ?hzz54 hHeld ?rzz54
        case hzz54 => (intro w' hSw; (try dsimp only at hSw); go_simp <;> with_reducible rfl)
        try simp only [Act.put, List.setIfInBounds_toArray, List.set_cons_zero, List.set_cons_succ]
        refine take_op (i := 8) (d := 32) (OP := Op.move (Operand.tmp 31)) (T := 4) (v := ?vzz55) rfl rfl rfl rfl (by kernel_rfl) (by kernel_rfl) (by kernel_rfl) (fun _ _ _ h => h) (by rfl) ?hzz55 hHeld ?rzz55
        case hzz55 => (intro w' hSw; (try dsimp only at hSw); go_simp <;> with_reducible rfl)
        try simp only [Act.put, List.setIfInBounds_toArray, List.set_cons_zero, List.set_cons_succ]
        refine take_op (i := 9) (d := 33) (OP := Op.load 43 (Operand.tmp 4)) (T := 43) (v := ?vzz56) rfl rfl rfl rfl (by kernel_rfl) (by kernel_rfl) (by kernel_rfl) (fun _ _ _ h => h) (by rfl) ?hzz56 hHeld ?rzz56
        case hzz56 => (intro w' hSw; (try dsimp only at hSw); go_simp <;> with_reducible rfl)
        try simp only [Act.put, List.setIfInBounds_toArray, List.set_cons_zero, List.set_cons_succ]
        refine take_op (i := 10) (d := 34) (OP := Op.move (Operand.tmp 2)) (T := 9) (v := ?vzz57) rfl rfl rfl rfl (by kernel_rfl) (by kernel_rfl) (by kernel_rfl) (fun _ _ _ h => h) (by rfl) ?hzz57 hHeld ?rzz57
        case hzz57 => (intro w' hSw; (try dsimp only at hSw); go_simp <;> with_reducible rfl)
        try simp only [Act.put, List.setIfInBounds_toArray, List.set_cons_zero, List.set_cons_succ]
        refine call_op (i := 11) (d := 35) (OP := Op.call { callee := Callee.value (Operand.func 63), args := #[Operand.tmp 33, Operand.tmp 34], argTypes := #[43, 9] }) (T := 4) (f := 63) (args := #[.agg #[.int .i64 g, .int .i64 r, .string lb, .int .i64 n, .int .i64 ix], .string X]) rfl rfl rfl rfl (by kernel_rfl) (by rfl) (by go_simp) ?_
        refine (hft _).mono ?_
        rintro e zb ⟨rfl, bzb⟩
        have qzb : zb.cell? ⟨Sb, 0, none⟩ = some (.int .i64 g) ∧ zb.cell? ⟨Sb, 1, none⟩ = some (.int .i64 r) ∧ zb.cell? ⟨Sb, 2, none⟩ = some (.string lb) ∧ zb.cell? ⟨Sb, 3, none⟩ = some (.int .i64 n) ∧ zb.cell? ⟨Sb, 4, none⟩ = some (.int .i64 ix) ∧ Hid (Below w0.heap.size w0 zb) := ⟨cell_stays hHeld.1 bzb, cell_stays hHeld.2.1 bzb, cell_stays hHeld.2.2.1 bzb, cell_stays hHeld.2.2.2.1 bzb, cell_stays hHeld.2.2.2.2.1 bzb, hide (hHeld.2.2.2.2.2.out.trans (bzb.mono hHeld.2.2.2.2.2.out.size))⟩
        refine ⟨_, rfl, qzb, ?_⟩
        replace hHeld := qzb
        clear qzb bzb
        try simp only [Act.put, List.setIfInBounds_toArray, List.set_cons_zero, List.set_cons_succ]
        refine take_op (i := 12) (d := 36) (OP := Op.unOp UnOp.not 4 (Operand.tmp 35)) (T := 4) (v := ?vzz58) rfl rfl rfl rfl (by kernel_rfl) (by kernel_rfl) (by kernel_rfl) (fun _ _ _ h => h) (by rfl) ?hzz58 hHeld ?rzz58
        case hzz58 => (intro w' hSw; (try dsimp only at hSw); go_simp <;> with_reducible rfl)
        try simp only [Act.put, List.setIfInBounds_toArray, List.set_cons_zero, List.set_cons_succ]
        refine take_op (i := 13) (d := 37) (OP := Op.pick (Operand.tmp 32) (Operand.const (Value.bool true)) (Operand.tmp 36)) (T := 4) (v := ?vzz59) rfl rfl rfl rfl (by kernel_rfl) (by kernel_rfl) (by kernel_rfl) (fun _ _ _ h => h) (by rfl) ?hzz59 hHeld ?rzz59
        case hzz59 => (intro w' hSw; (try dsimp only at hSw); go_simp <;> with_reducible rfl)
        try simp only [Act.put, List.setIfInBounds_toArray, List.set_cons_zero, List.set_cons_succ]
        refine take_op (i := 14) (d := 38) (OP := Op.move (Operand.tmp 37)) (T := 4) (v := ?vzz60) rfl rfl rfl rfl (by kernel_rfl) (by kernel_rfl) (by kernel_rfl) (fun _ _ _ h => h) (by rfl) ?hzz60 hHeld ?rzz60
        case hzz60 => (intro w' hSw; (try dsimp only at hSw); go_simp <;> with_reducible rfl)
        try simp only [Act.put, List.setIfInBounds_toArray, List.set_cons_zero, List.set_cons_succ]
        refine pass_op (i := 15) (d := 39) rfl rfl (by kernel_rfl) (by kernel_rfl) (by kernel_rfl) (fun _ _ _ h => h) (by rfl) hHeld ?_
        try simp only [Act.put, List.setIfInBounds_toArray, List.set_cons_zero, List.set_cons_succ]
        refine pass_op (i := 16) (d := 40) rfl rfl (by kernel_rfl) (by kernel_rfl) (by kernel_rfl) (fun _ _ _ h => h) (by rfl) hHeld ?_
        try simp only [Act.put, List.setIfInBounds_toArray, List.set_cons_zero, List.set_cons_succ]
        refine pass_op (i := 17) (d := 41) rfl rfl (by kernel_rfl) (by kernel_rfl) (by kernel_rfl) (fun _ _ _ h => h) (by rfl) hHeld ?_
        try simp only [Act.put, List.setIfInBounds_toArray, List.set_cons_zero, List.set_cons_succ]
        refine pass_op (i := 18) (d := 42) rfl rfl (by kernel_rfl) (by kernel_rfl) (by kernel_rfl) (fun _ _ _ h => h) (by rfl) hHeld ?_
        try simp only [Act.put, List.setIfInBounds_toArray, List.set_cons_zero, List.set_cons_succ]
        refine pass_op (i := 19) (d := 43) rfl rfl (by kernel_rfl) (by kernel_rfl) (by kernel_rfl) (fun _ _ _ h => h) (by rfl) hHeld ?_
        try simp only [Act.put, List.setIfInBounds_toArray, List.set_cons_zero, List.set_cons_succ]
        refine take_op (i := 20) (d := 44) (OP := Op.pick (Operand.tmp 38) (Operand.const (Value.bool true)) (Operand.tmp 43)) (T := 4) (v := ?vzz61) rfl rfl rfl rfl (by kernel_rfl) (by kernel_rfl) (by kernel_rfl) (fun _ _ _ h => h) (by rfl) ?hzz61 hHeld ?rzz61
        case hzz61 => (intro w' hSw; (try dsimp only at hSw); go_simp <;> with_reducible rfl)
        try simp only [Act.put, List.setIfInBounds_toArray, List.set_cons_zero, List.set_cons_succ]
        refine wpAnyH_done (by kernel_rfl) ?_ _
        have HFIN := hide (HC0.out _ hHeld.2.2.2.2.2.out)
        clear hHeld 
        go_wp2
        go_ret
        exact ⟨rfl, HFIN.out⟩
      | true =>
        have hso : ∀ W, Below w0.heap.size w0 W → Calls Tryz.prog 60 #[.slice ao N c] W fun e w' => ∃ a8 c8, e = .returned (.slice a8 N c8) ∧ Oe w' W.heap.size (.slice a8 N c8) (srtE l) ∧ Below W.heap.size W w' := fun W hW => by
          have := refSorted13 (c := c) l (h.below (HC0.out W hW)) (by have := HL.out.1; omega) (by rw [HL.out.2.2.2]; exact hg)
          rw [← HL.out.1] at this
          exact this
        have hlen := srtE_len l
        have hbh0 : ∀ W a8 c8, Re W a8 (srtE l) → Calls Tryz.prog 64 #[.slice a8 N c8, .agg #[.int .i64 g, .int .i64 r, .string lb, .int .i64 n, .int .i64 ix]] W fun e w' => e = .returned (.bool (behB (srtE l) (g, r, lb, n, ix))) ∧ Below W.heap.size W w' := fun W a8 c8 hr => by
          have := behind13 (c := c8) (srtE l) (g, r, lb, n, ix) hr (by rw [hlen]; have := HL.out.1; omega) (fun x hx => hs x ((srtE_perm l).subset hx))
          rw [hlen, ← HL.out.1] at this
          exact this
        cases hb : behB (srtE l) (g, r, lb, n, ix) with
        | false =>
          rw [hb] at hbh0
          have hbh := hbh0
          clear h hs hmy0 hg hbh0 hb hlen
          go_enter Tryz.func10, Tryz.ntmps10
          go_upto_region 1 with fail
          rw [← HW0.out.1, ← HW0.out.2]
          go_upto_region 3 with (go_at_call 56; refine (hkn w0 (Below.refl _ _)).mono ?_; rintro e w1 ⟨rfl, b1⟩; have H1 := hide b1; clear b1; dsimp only)
          refine wp_region_held_drew (S := fun w' => w'.cell? ⟨Sb, 0, none⟩ = some (.int .i64 g) ∧ w'.cell? ⟨Sb, 1, none⟩ = some (.int .i64 r) ∧ w'.cell? ⟨Sb, 2, none⟩ = some (.string lb) ∧ w'.cell? ⟨Sb, 3, none⟩ = some (.int .i64 n) ∧ w'.cell? ⟨Sb, 4, none⟩ = some (.int .i64 ix) ∧ Hid (Below w0.heap.size w0 w')) (by kernel_rfl) (by exact HS0.out _ (H1.out.trans ((drew_below w1).mono H1.out.size))) (fun hHeld => ?_)
          try dsimp only at hHeld
          refine take_op (i := 0) (d := 24) (OP := Op.move (Operand.tmp 0)) (T := 22) (v := ?vzz62) rfl rfl rfl rfl (by kernel_rfl) (by kernel_rfl) (by kernel_rfl) (fun _ _ _ h => h) (by rfl) ?hzz62 hHeld ?rzz62
          case hzz62 => (intro w' hSw; (try dsimp only at hSw); go_simp <;> with_reducible rfl)
          try simp only [Act.put, List.setIfInBounds_toArray, List.set_cons_zero, List.set_cons_succ]
          refine take_op (i := 1) (d := 25) (OP := Op.call { callee := Callee.builtin Builtin.len, args := #[Operand.tmp 24], argTypes := #[22] }) (T := 3) (v := ?vzz63) rfl rfl rfl rfl (by kernel_rfl) (by kernel_rfl) (by kernel_rfl) (fun _ _ _ h => h) (by rfl) ?hzz63 hHeld ?rzz63
          case hzz63 => (intro w' hSw; (try dsimp only at hSw); go_simp <;> with_reducible rfl)
          try simp only [Act.put, List.setIfInBounds_toArray, List.set_cons_zero, List.set_cons_succ]
          refine take_op (i := 2) (d := 26) (OP := Op.binOp BinOp.gtr 3 (Operand.tmp 25) (Operand.const (Value.int IntKind.i64 60)) 3) (T := 4) (v := ?vzz64) rfl rfl rfl rfl (by kernel_rfl) (by kernel_rfl) (by kernel_rfl) (fun _ _ _ h => h) (by rfl) ?hzz64 hHeld ?rzz64
          case hzz64 => (intro w' hSw; (try dsimp only at hSw); go_simp <;> with_reducible rfl)
          try simp only [Act.put, List.setIfInBounds_toArray, List.set_cons_zero, List.set_cons_succ]
          refine take_op (i := 3) (d := 27) (OP := Op.move (Operand.tmp 26)) (T := 4) (v := ?vzz65) rfl rfl rfl rfl (by kernel_rfl) (by kernel_rfl) (by kernel_rfl) (fun _ _ _ h => h) (by rfl) ?hzz65 hHeld ?rzz65
          case hzz65 => (intro w' hSw; (try dsimp only at hSw); go_simp <;> with_reducible rfl)
          try simp only [Act.put, List.setIfInBounds_toArray, List.set_cons_zero, List.set_cons_succ]
          refine take_op (i := 4) (d := 28) (OP := Op.move (Operand.tmp 0)) (T := 22) (v := ?vzz66) rfl rfl rfl rfl (by kernel_rfl) (by kernel_rfl) (by kernel_rfl) (fun _ _ _ h => h) (by rfl) ?hzz66 hHeld ?rzz66
          case hzz66 => (intro w' hSw; (try dsimp only at hSw); go_simp <;> with_reducible rfl)
          try simp only [Act.put, List.setIfInBounds_toArray, List.set_cons_zero, List.set_cons_succ]
          refine call_op (i := 5) (d := 29) (OP := Op.call { callee := Callee.value (Operand.func 58), args := #[Operand.tmp 28], argTypes := #[22] }) (T := 4) (f := 58) (args := #[.slice ao N c]) rfl rfl rfl rfl (by kernel_rfl) (by rfl) (by go_simp) ?_
          refine (hmy _ hHeld.2.2.2.2.2.out).mono ?_
          rintro e za ⟨rfl, bza⟩
          have qza : za.cell? ⟨Sb, 0, none⟩ = some (.int .i64 g) ∧ za.cell? ⟨Sb, 1, none⟩ = some (.int .i64 r) ∧ za.cell? ⟨Sb, 2, none⟩ = some (.string lb) ∧ za.cell? ⟨Sb, 3, none⟩ = some (.int .i64 n) ∧ za.cell? ⟨Sb, 4, none⟩ = some (.int .i64 ix) ∧ Hid (Below w0.heap.size w0 za) := ⟨cell_stays hHeld.1 bza, cell_stays hHeld.2.1 bza, cell_stays hHeld.2.2.1 bza, cell_stays hHeld.2.2.2.1 bza, cell_stays hHeld.2.2.2.2.1 bza, hide (hHeld.2.2.2.2.2.out.trans (bza.mono hHeld.2.2.2.2.2.out.size))⟩
          refine ⟨_, rfl, qza, ?_⟩
          replace hHeld := qza
          clear qza bza
          try simp only [Act.put, List.setIfInBounds_toArray, List.set_cons_zero, List.set_cons_succ]
          refine take_op (i := 6) (d := 30) (OP := Op.unOp UnOp.not 4 (Operand.tmp 29)) (T := 4) (v := ?vzz67) rfl rfl rfl rfl (by kernel_rfl) (by kernel_rfl) (by kernel_rfl) (fun _ _ _ h => h) (by rfl) ?hzz67 hHeld ?rzz67
          case hzz67 => (intro w' hSw; (try dsimp only at hSw); go_simp <;> with_reducible rfl)
          try simp only [Act.put, List.setIfInBounds_toArray, List.set_cons_zero, List.set_cons_succ]
          refine take_op (i := 7) (d := 31) (OP := Op.pick (Operand.tmp 27) (Operand.const (Value.bool true)) (Operand.tmp 30)) (T := 4) (v := ?vzz68) rfl rfl rfl rfl (by kernel_rfl) (by kernel_rfl) (by kernel_rfl) (fun _ _ _ h => h) (by rfl) ?hzz68 hHeld ?rzz68
          case hzz68 => (intro w' hSw; (try dsimp only at hSw); go_simp <;> with_reducible rfl)
          try simp only [Act.put, List.setIfInBounds_toArray, List.set_cons_zero, List.set_cons_succ]
          refine take_op (i := 8) (d := 32) (OP := Op.move (Operand.tmp 31)) (T := 4) (v := ?vzz69) rfl rfl rfl rfl (by kernel_rfl) (by kernel_rfl) (by kernel_rfl) (fun _ _ _ h => h) (by rfl) ?hzz69 hHeld ?rzz69
          case hzz69 => (intro w' hSw; (try dsimp only at hSw); go_simp <;> with_reducible rfl)
          try simp only [Act.put, List.setIfInBounds_toArray, List.set_cons_zero, List.set_cons_succ]
          refine take_op (i := 9) (d := 33) (OP := Op.load 43 (Operand.tmp 4)) (T := 43) (v := ?vzz70) rfl rfl rfl rfl (by kernel_rfl) (by kernel_rfl) (by kernel_rfl) (fun _ _ _ h => h) (by rfl) ?hzz70 hHeld ?rzz70
          case hzz70 => (intro w' hSw; (try dsimp only at hSw); go_simp <;> with_reducible rfl)
          try simp only [Act.put, List.setIfInBounds_toArray, List.set_cons_zero, List.set_cons_succ]
          refine take_op (i := 10) (d := 34) (OP := Op.move (Operand.tmp 2)) (T := 9) (v := ?vzz71) rfl rfl rfl rfl (by kernel_rfl) (by kernel_rfl) (by kernel_rfl) (fun _ _ _ h => h) (by rfl) ?hzz71 hHeld ?rzz71
          case hzz71 => (intro w' hSw; (try dsimp only at hSw); go_simp <;> with_reducible rfl)
          try simp only [Act.put, List.setIfInBounds_toArray, List.set_cons_zero, List.set_cons_succ]
          refine call_op (i := 11) (d := 35) (OP := Op.call { callee := Callee.value (Operand.func 63), args := #[Operand.tmp 33, Operand.tmp 34], argTypes := #[43, 9] }) (T := 4) (f := 63) (args := #[.agg #[.int .i64 g, .int .i64 r, .string lb, .int .i64 n, .int .i64 ix], .string X]) rfl rfl rfl rfl (by kernel_rfl) (by rfl) (by go_simp) ?_
          refine (hft _).mono ?_
          rintro e zb ⟨rfl, bzb⟩
          have qzb : zb.cell? ⟨Sb, 0, none⟩ = some (.int .i64 g) ∧ zb.cell? ⟨Sb, 1, none⟩ = some (.int .i64 r) ∧ zb.cell? ⟨Sb, 2, none⟩ = some (.string lb) ∧ zb.cell? ⟨Sb, 3, none⟩ = some (.int .i64 n) ∧ zb.cell? ⟨Sb, 4, none⟩ = some (.int .i64 ix) ∧ Hid (Below w0.heap.size w0 zb) := ⟨cell_stays hHeld.1 bzb, cell_stays hHeld.2.1 bzb, cell_stays hHeld.2.2.1 bzb, cell_stays hHeld.2.2.2.1 bzb, cell_stays hHeld.2.2.2.2.1 bzb, hide (hHeld.2.2.2.2.2.out.trans (bzb.mono hHeld.2.2.2.2.2.out.size))⟩
          refine ⟨_, rfl, qzb, ?_⟩
          replace hHeld := qzb
          clear qzb bzb
          try simp only [Act.put, List.setIfInBounds_toArray, List.set_cons_zero, List.set_cons_succ]
          refine take_op (i := 12) (d := 36) (OP := Op.unOp UnOp.not 4 (Operand.tmp 35)) (T := 4) (v := ?vzz72) rfl rfl rfl rfl (by kernel_rfl) (by kernel_rfl) (by kernel_rfl) (fun _ _ _ h => h) (by rfl) ?hzz72 hHeld ?rzz72
          case hzz72 => (intro w' hSw; (try dsimp only at hSw); go_simp <;> with_reducible rfl)
          try simp only [Act.put, List.setIfInBounds_toArray, List.set_cons_zero, List.set_cons_succ]
          refine take_op (i := 13) (d := 37) (OP := Op.pick (Operand.tmp 32) (Operand.const (Value.bool true)) (Operand.tmp 36)) (T := 4) (v := ?vzz73) rfl rfl rfl rfl (by kernel_rfl) (by kernel_rfl) (by kernel_rfl) (fun _ _ _ h => h) (by rfl) ?hzz73 hHeld ?rzz73
          case hzz73 => (intro w' hSw; (try dsimp only at hSw); go_simp <;> with_reducible rfl)
          try simp only [Act.put, List.setIfInBounds_toArray, List.set_cons_zero, List.set_cons_succ]
          refine take_op (i := 14) (d := 38) (OP := Op.move (Operand.tmp 37)) (T := 4) (v := ?vzz74) rfl rfl rfl rfl (by kernel_rfl) (by kernel_rfl) (by kernel_rfl) (fun _ _ _ h => h) (by rfl) ?hzz74 hHeld ?rzz74
          case hzz74 => (intro w' hSw; (try dsimp only at hSw); go_simp <;> with_reducible rfl)
          try simp only [Act.put, List.setIfInBounds_toArray, List.set_cons_zero, List.set_cons_succ]
          refine take_op (i := 15) (d := 39) (OP := Op.move (Operand.tmp 0)) (T := 22) (v := ?vzz75) rfl rfl rfl rfl (by kernel_rfl) (by kernel_rfl) (by kernel_rfl) (fun _ _ _ h => h) (by rfl) ?hzz75 hHeld ?rzz75
          case hzz75 => (intro w' hSw; (try dsimp only at hSw); go_simp <;> with_reducible rfl)
          try simp only [Act.put, List.setIfInBounds_toArray, List.set_cons_zero, List.set_cons_succ]
          refine take_op (i := 17) (d := 41) (OP := Op.load 43 (Operand.tmp 4)) (T := 43) (v := ?vzz76) rfl rfl rfl rfl (by kernel_rfl) (by kernel_rfl) (by kernel_rfl) (fun _ _ _ h => h) (by rfl) ?hzz76 hHeld ?rzz76
          case hzz76 => (intro w' hSw; (try dsimp only at hSw); go_simp <;> with_reducible rfl)
          try simp only [Act.put, List.setIfInBounds_toArray, List.set_cons_zero, List.set_cons_succ]
          refine call_op (i := 16) (d := 40) (OP := Op.call { callee := Callee.value (Operand.func 60), args := #[Operand.tmp 39], argTypes := #[22] }) (T := 22) (f := 60) (args := #[.slice ao N c]) rfl rfl rfl rfl (by kernel_rfl) (by rfl) (by go_simp) ?_
          refine (hso _ hHeld.2.2.2.2.2.out).mono ?_
          rintro e zc ⟨a8, c8, rfl, oe8, bzc⟩
          have re8 := oe8.re
          clear oe8
          have qzc : zc.cell? ⟨Sb, 0, none⟩ = some (.int .i64 g) ∧ zc.cell? ⟨Sb, 1, none⟩ = some (.int .i64 r) ∧ zc.cell? ⟨Sb, 2, none⟩ = some (.string lb) ∧ zc.cell? ⟨Sb, 3, none⟩ = some (.int .i64 n) ∧ zc.cell? ⟨Sb, 4, none⟩ = some (.int .i64 ix) ∧ Hid (Below w0.heap.size w0 zc) := ⟨cell_stays hHeld.1 bzc, cell_stays hHeld.2.1 bzc, cell_stays hHeld.2.2.1 bzc, cell_stays hHeld.2.2.2.1 bzc, cell_stays hHeld.2.2.2.2.1 bzc, hide (hHeld.2.2.2.2.2.out.trans (bzc.mono hHeld.2.2.2.2.2.out.size))⟩
          refine ⟨_, rfl, qzc, ?_⟩
          replace hHeld := qzc
          clear qzc bzc
          try simp only [Act.put, List.setIfInBounds_toArray, List.set_cons_zero, List.set_cons_succ]
          refine call_op (i := 18) (d := 42) (OP := Op.call { callee := Callee.value (Operand.func 64), args := #[Operand.tmp 40, Operand.tmp 41], argTypes := #[22, 43] }) (T := 4) (f := 64) (args := #[.slice a8 N c8, .agg #[.int .i64 g, .int .i64 r, .string lb, .int .i64 n, .int .i64 ix]]) rfl rfl rfl rfl (by kernel_rfl) (by rfl) (by go_simp) ?_
          refine (hbh _ _ _ re8).mono ?_
          rintro e zd ⟨rfl, bzd⟩
          have qzd : zd.cell? ⟨Sb, 0, none⟩ = some (.int .i64 g) ∧ zd.cell? ⟨Sb, 1, none⟩ = some (.int .i64 r) ∧ zd.cell? ⟨Sb, 2, none⟩ = some (.string lb) ∧ zd.cell? ⟨Sb, 3, none⟩ = some (.int .i64 n) ∧ zd.cell? ⟨Sb, 4, none⟩ = some (.int .i64 ix) ∧ Hid (Below w0.heap.size w0 zd) := ⟨cell_stays hHeld.1 bzd, cell_stays hHeld.2.1 bzd, cell_stays hHeld.2.2.1 bzd, cell_stays hHeld.2.2.2.1 bzd, cell_stays hHeld.2.2.2.2.1 bzd, hide (hHeld.2.2.2.2.2.out.trans (bzd.mono hHeld.2.2.2.2.2.out.size))⟩
          refine ⟨_, rfl, qzd, ?_⟩
          replace hHeld := qzd
          clear qzd bzd
          try simp only [Act.put, List.setIfInBounds_toArray, List.set_cons_zero, List.set_cons_succ]
          refine take_op (i := 19) (d := 43) (OP := Op.unOp UnOp.not 4 (Operand.tmp 42)) (T := 4) (v := ?vzz77) rfl rfl rfl rfl (by kernel_rfl) (by kernel_rfl) (by kernel_rfl) (fun _ _ _ h => h) (by rfl) ?hzz77 hHeld ?rzz77
          case hzz77 => (intro w' hSw; (try dsimp only at hSw); go_simp <;> with_reducible rfl)
          try simp only [Act.put, List.setIfInBounds_toArray, List.set_cons_zero, List.set_cons_succ]
          refine take_op (i := 20) (d := 44) (OP := Op.pick (Operand.tmp 38) (Operand.const (Value.bool true)) (Operand.tmp 43)) (T := 4) (v := ?vzz78) rfl rfl rfl rfl (by kernel_rfl) (by kernel_rfl) (by kernel_rfl) (fun _ _ _ h => h) (by rfl) ?hzz78 hHeld ?rzz78
          case hzz78 => (intro w' hSw; (try dsimp only at hSw); go_simp <;> with_reducible rfl)
          try simp only [Act.put, List.setIfInBounds_toArray, List.set_cons_zero, List.set_cons_succ]
          refine wpAnyH_done (by kernel_rfl) ?_ _
          have HFIN := hide (HC0.out _ hHeld.2.2.2.2.2.out)
          clear hHeld 
          go_wp2
          go_ret
          exact ⟨rfl, HFIN.out⟩
        | true =>
          rw [hb] at hbh0
          have hbh := hbh0
          have HBH := hide hb
          have hof : ∀ W, Below w0.heap.size w0 W → Calls Tryz.prog 57 #[.slice ao N c] W fun e w' => ∃ t pt, t.ptr = .pointer pt ∧ e = .returned (.tuple #[.agg #[.pointer pt], .int .i64 0]) ∧ Mg w' t ∧ mayL t.list = true ∧ elsL t.list = srtE l ∧ t.n ≤ 60 ∧ Below W.heap.size W w' := fun W hW => by
            have := ofP (c := c) l (h.below (HC0.out W hW)) (by have := HL.out.1; omega)
            rw [← HL.out.1] at this
            refine this.mono fun e w' hh => ?_
            obtain ⟨t, pt, hpt, he, mg, h1, -, hb'⟩ := hh
            rw [if_pos hg] at he
            obtain ⟨e1, e2⟩ := els_srt hg (h1 hg) mg.srt
            refine ⟨t, pt, hpt, he, mg, e1, e2, ?_, hb'⟩
            have := (h1 hg).length_eq
            rw [Pm.T.n_eq, List.length_map] at this
            have := HL.out.1
            omega
          clear h hs hmy0 hg hbh0 hb hlen
          go_enter Tryz.func10, Tryz.ntmps10
          go_upto_region 1 with fail
          rw [← HW0.out.1, ← HW0.out.2]
          go_upto_region 3 with (go_at_call 56; refine (hkn w0 (Below.refl _ _)).mono ?_; rintro e w1 ⟨rfl, b1⟩; have H1 := hide b1; clear b1; dsimp only)
          refine wp_region_held_drew (S := fun w' => w'.cell? ⟨Sb, 0, none⟩ = some (.int .i64 g) ∧ w'.cell? ⟨Sb, 1, none⟩ = some (.int .i64 r) ∧ w'.cell? ⟨Sb, 2, none⟩ = some (.string lb) ∧ w'.cell? ⟨Sb, 3, none⟩ = some (.int .i64 n) ∧ w'.cell? ⟨Sb, 4, none⟩ = some (.int .i64 ix) ∧ Hid (Below w0.heap.size w0 w')) (by kernel_rfl) (by exact HS0.out _ (H1.out.trans ((drew_below w1).mono H1.out.size))) (fun hHeld => ?_)
          try dsimp only at hHeld
          refine take_op (i := 0) (d := 24) (OP := Op.move (Operand.tmp 0)) (T := 22) (v := ?vzz79) rfl rfl rfl rfl (by kernel_rfl) (by kernel_rfl) (by kernel_rfl) (fun _ _ _ h => h) (by rfl) ?hzz79 hHeld ?rzz79
          case hzz79 => (intro w' hSw; (try dsimp only at hSw); go_simp <;> with_reducible rfl)
          try simp only [Act.put, List.setIfInBounds_toArray, List.set_cons_zero, List.set_cons_succ]
          refine take_op (i := 1) (d := 25) (OP := Op.call { callee := Callee.builtin Builtin.len, args := #[Operand.tmp 24], argTypes := #[22] }) (T := 3) (v := ?vzz80) rfl rfl rfl rfl (by kernel_rfl) (by kernel_rfl) (by kernel_rfl) (fun _ _ _ h => h) (by rfl) ?hzz80 hHeld ?rzz80
          case hzz80 => (intro w' hSw; (try dsimp only at hSw); go_simp <;> with_reducible rfl)
          try simp only [Act.put, List.setIfInBounds_toArray, List.set_cons_zero, List.set_cons_succ]
          refine take_op (i := 2) (d := 26) (OP := Op.binOp BinOp.gtr 3 (Operand.tmp 25) (Operand.const (Value.int IntKind.i64 60)) 3) (T := 4) (v := ?vzz81) rfl rfl rfl rfl (by kernel_rfl) (by kernel_rfl) (by kernel_rfl) (fun _ _ _ h => h) (by rfl) ?hzz81 hHeld ?rzz81
          case hzz81 => (intro w' hSw; (try dsimp only at hSw); go_simp <;> with_reducible rfl)
          try simp only [Act.put, List.setIfInBounds_toArray, List.set_cons_zero, List.set_cons_succ]
          refine take_op (i := 3) (d := 27) (OP := Op.move (Operand.tmp 26)) (T := 4) (v := ?vzz82) rfl rfl rfl rfl (by kernel_rfl) (by kernel_rfl) (by kernel_rfl) (fun _ _ _ h => h) (by rfl) ?hzz82 hHeld ?rzz82
          case hzz82 => (intro w' hSw; (try dsimp only at hSw); go_simp <;> with_reducible rfl)
          try simp only [Act.put, List.setIfInBounds_toArray, List.set_cons_zero, List.set_cons_succ]
          refine take_op (i := 4) (d := 28) (OP := Op.move (Operand.tmp 0)) (T := 22) (v := ?vzz83) rfl rfl rfl rfl (by kernel_rfl) (by kernel_rfl) (by kernel_rfl) (fun _ _ _ h => h) (by rfl) ?hzz83 hHeld ?rzz83
          case hzz83 => (intro w' hSw; (try dsimp only at hSw); go_simp <;> with_reducible rfl)
          try simp only [Act.put, List.setIfInBounds_toArray, List.set_cons_zero, List.set_cons_succ]
          refine call_op (i := 5) (d := 29) (OP := Op.call { callee := Callee.value (Operand.func 58), args := #[Operand.tmp 28], argTypes := #[22] }) (T := 4) (f := 58) (args := #[.slice ao N c]) rfl rfl rfl rfl (by kernel_rfl) (by rfl) (by go_simp) ?_
          refine (hmy _ hHeld.2.2.2.2.2.out).mono ?_
          rintro e za ⟨rfl, bza⟩
          have qza : za.cell? ⟨Sb, 0, none⟩ = some (.int .i64 g) ∧ za.cell? ⟨Sb, 1, none⟩ = some (.int .i64 r) ∧ za.cell? ⟨Sb, 2, none⟩ = some (.string lb) ∧ za.cell? ⟨Sb, 3, none⟩ = some (.int .i64 n) ∧ za.cell? ⟨Sb, 4, none⟩ = some (.int .i64 ix) ∧ Hid (Below w0.heap.size w0 za) := ⟨cell_stays hHeld.1 bza, cell_stays hHeld.2.1 bza, cell_stays hHeld.2.2.1 bza, cell_stays hHeld.2.2.2.1 bza, cell_stays hHeld.2.2.2.2.1 bza, hide (hHeld.2.2.2.2.2.out.trans (bza.mono hHeld.2.2.2.2.2.out.size))⟩
          refine ⟨_, rfl, qza, ?_⟩
          replace hHeld := qza
          clear qza bza
          try simp only [Act.put, List.setIfInBounds_toArray, List.set_cons_zero, List.set_cons_succ]
          refine take_op (i := 6) (d := 30) (OP := Op.unOp UnOp.not 4 (Operand.tmp 29)) (T := 4) (v := ?vzz84) rfl rfl rfl rfl (by kernel_rfl) (by kernel_rfl) (by kernel_rfl) (fun _ _ _ h => h) (by rfl) ?hzz84 hHeld ?rzz84
          case hzz84 => (intro w' hSw; (try dsimp only at hSw); go_simp <;> with_reducible rfl)
          try simp only [Act.put, List.setIfInBounds_toArray, List.set_cons_zero, List.set_cons_succ]
          refine take_op (i := 7) (d := 31) (OP := Op.pick (Operand.tmp 27) (Operand.const (Value.bool true)) (Operand.tmp 30)) (T := 4) (v := ?vzz85) rfl rfl rfl rfl (by kernel_rfl) (by kernel_rfl) (by kernel_rfl) (fun _ _ _ h => h) (by rfl) ?hzz85 hHeld ?rzz85
          case hzz85 => (intro w' hSw; (try dsimp only at hSw); go_simp <;> with_reducible rfl)
          try simp only [Act.put, List.setIfInBounds_toArray, List.set_cons_zero, List.set_cons_succ]
          refine take_op (i := 8) (d := 32) (OP := Op.move (Operand.tmp 31)) (T := 4) (v := ?vzz86) rfl rfl rfl rfl (by kernel_rfl) (by kernel_rfl) (by kernel_rfl) (fun _ _ _ h => h) (by rfl) ?hzz86 hHeld ?rzz86
          case hzz86 => (intro w' hSw; (try dsimp only at hSw); go_simp <;> with_reducible rfl)
          try simp only [Act.put, List.setIfInBounds_toArray, List.set_cons_zero, List.set_cons_succ]
          refine take_op (i := 9) (d := 33) (OP := Op.load 43 (Operand.tmp 4)) (T := 43) (v := ?vzz87) rfl rfl rfl rfl (by kernel_rfl) (by kernel_rfl) (by kernel_rfl) (fun _ _ _ h => h) (by rfl) ?hzz87 hHeld ?rzz87
          case hzz87 => (intro w' hSw; (try dsimp only at hSw); go_simp <;> with_reducible rfl)
          try simp only [Act.put, List.setIfInBounds_toArray, List.set_cons_zero, List.set_cons_succ]
          refine take_op (i := 10) (d := 34) (OP := Op.move (Operand.tmp 2)) (T := 9) (v := ?vzz88) rfl rfl rfl rfl (by kernel_rfl) (by kernel_rfl) (by kernel_rfl) (fun _ _ _ h => h) (by rfl) ?hzz88 hHeld ?rzz88
          case hzz88 => (intro w' hSw; (try dsimp only at hSw); go_simp <;> with_reducible rfl)
          try simp only [Act.put, List.setIfInBounds_toArray, List.set_cons_zero, List.set_cons_succ]
          refine call_op (i := 11) (d := 35) (OP := Op.call { callee := Callee.value (Operand.func 63), args := #[Operand.tmp 33, Operand.tmp 34], argTypes := #[43, 9] }) (T := 4) (f := 63) (args := #[.agg #[.int .i64 g, .int .i64 r, .string lb, .int .i64 n, .int .i64 ix], .string X]) rfl rfl rfl rfl (by kernel_rfl) (by rfl) (by go_simp) ?_
          refine (hft _).mono ?_
          rintro e zb ⟨rfl, bzb⟩
          have qzb : zb.cell? ⟨Sb, 0, none⟩ = some (.int .i64 g) ∧ zb.cell? ⟨Sb, 1, none⟩ = some (.int .i64 r) ∧ zb.cell? ⟨Sb, 2, none⟩ = some (.string lb) ∧ zb.cell? ⟨Sb, 3, none⟩ = some (.int .i64 n) ∧ zb.cell? ⟨Sb, 4, none⟩ = some (.int .i64 ix) ∧ Hid (Below w0.heap.size w0 zb) := ⟨cell_stays hHeld.1 bzb, cell_stays hHeld.2.1 bzb, cell_stays hHeld.2.2.1 bzb, cell_stays hHeld.2.2.2.1 bzb, cell_stays hHeld.2.2.2.2.1 bzb, hide (hHeld.2.2.2.2.2.out.trans (bzb.mono hHeld.2.2.2.2.2.out.size))⟩
          refine ⟨_, rfl, qzb, ?_⟩
          replace hHeld := qzb
          clear qzb bzb
          try simp only [Act.put, List.setIfInBounds_toArray, List.set_cons_zero, List.set_cons_succ]
          refine take_op (i := 12) (d := 36) (OP := Op.unOp UnOp.not 4 (Operand.tmp 35)) (T := 4) (v := ?vzz89) rfl rfl rfl rfl (by kernel_rfl) (by kernel_rfl) (by kernel_rfl) (fun _ _ _ h => h) (by rfl) ?hzz89 hHeld ?rzz89
          case hzz89 => (intro w' hSw; (try dsimp only at hSw); go_simp <;> with_reducible rfl)
          try simp only [Act.put, List.setIfInBounds_toArray, List.set_cons_zero, List.set_cons_succ]
          refine take_op (i := 13) (d := 37) (OP := Op.pick (Operand.tmp 32) (Operand.const (Value.bool true)) (Operand.tmp 36)) (T := 4) (v := ?vzz90) rfl rfl rfl rfl (by kernel_rfl) (by kernel_rfl) (by kernel_rfl) (fun _ _ _ h => h) (by rfl) ?hzz90 hHeld ?rzz90
          case hzz90 => (intro w' hSw; (try dsimp only at hSw); go_simp <;> with_reducible rfl)
          try simp only [Act.put, List.setIfInBounds_toArray, List.set_cons_zero, List.set_cons_succ]
          refine take_op (i := 14) (d := 38) (OP := Op.move (Operand.tmp 37)) (T := 4) (v := ?vzz91) rfl rfl rfl rfl (by kernel_rfl) (by kernel_rfl) (by kernel_rfl) (fun _ _ _ h => h) (by rfl) ?hzz91 hHeld ?rzz91
          case hzz91 => (intro w' hSw; (try dsimp only at hSw); go_simp <;> with_reducible rfl)
          try simp only [Act.put, List.setIfInBounds_toArray, List.set_cons_zero, List.set_cons_succ]
          refine take_op (i := 15) (d := 39) (OP := Op.move (Operand.tmp 0)) (T := 22) (v := ?vzz92) rfl rfl rfl rfl (by kernel_rfl) (by kernel_rfl) (by kernel_rfl) (fun _ _ _ h => h) (by rfl) ?hzz92 hHeld ?rzz92
          case hzz92 => (intro w' hSw; (try dsimp only at hSw); go_simp <;> with_reducible rfl)
          try simp only [Act.put, List.setIfInBounds_toArray, List.set_cons_zero, List.set_cons_succ]
          refine take_op (i := 17) (d := 41) (OP := Op.load 43 (Operand.tmp 4)) (T := 43) (v := ?vzz93) rfl rfl rfl rfl (by kernel_rfl) (by kernel_rfl) (by kernel_rfl) (fun _ _ _ h => h) (by rfl) ?hzz93 hHeld ?rzz93
          case hzz93 => (intro w' hSw; (try dsimp only at hSw); go_simp <;> with_reducible rfl)
          try simp only [Act.put, List.setIfInBounds_toArray, List.set_cons_zero, List.set_cons_succ]
          refine call_op (i := 16) (d := 40) (OP := Op.call { callee := Callee.value (Operand.func 60), args := #[Operand.tmp 39], argTypes := #[22] }) (T := 22) (f := 60) (args := #[.slice ao N c]) rfl rfl rfl rfl (by kernel_rfl) (by rfl) (by go_simp) ?_
          refine (hso _ hHeld.2.2.2.2.2.out).mono ?_
          rintro e zc ⟨a8, c8, rfl, oe8, bzc⟩
          have re8 := oe8.re
          clear oe8
          have qzc : zc.cell? ⟨Sb, 0, none⟩ = some (.int .i64 g) ∧ zc.cell? ⟨Sb, 1, none⟩ = some (.int .i64 r) ∧ zc.cell? ⟨Sb, 2, none⟩ = some (.string lb) ∧ zc.cell? ⟨Sb, 3, none⟩ = some (.int .i64 n) ∧ zc.cell? ⟨Sb, 4, none⟩ = some (.int .i64 ix) ∧ Hid (Below w0.heap.size w0 zc) := ⟨cell_stays hHeld.1 bzc, cell_stays hHeld.2.1 bzc, cell_stays hHeld.2.2.1 bzc, cell_stays hHeld.2.2.2.1 bzc, cell_stays hHeld.2.2.2.2.1 bzc, hide (hHeld.2.2.2.2.2.out.trans (bzc.mono hHeld.2.2.2.2.2.out.size))⟩
          refine ⟨_, rfl, qzc, ?_⟩
          replace hHeld := qzc
          clear qzc bzc
          try simp only [Act.put, List.setIfInBounds_toArray, List.set_cons_zero, List.set_cons_succ]
          refine call_op (i := 18) (d := 42) (OP := Op.call { callee := Callee.value (Operand.func 64), args := #[Operand.tmp 40, Operand.tmp 41], argTypes := #[22, 43] }) (T := 4) (f := 64) (args := #[.slice a8 N c8, .agg #[.int .i64 g, .int .i64 r, .string lb, .int .i64 n, .int .i64 ix]]) rfl rfl rfl rfl (by kernel_rfl) (by rfl) (by go_simp) ?_
          refine (hbh _ _ _ re8).mono ?_
          rintro e zd ⟨rfl, bzd⟩
          have qzd : zd.cell? ⟨Sb, 0, none⟩ = some (.int .i64 g) ∧ zd.cell? ⟨Sb, 1, none⟩ = some (.int .i64 r) ∧ zd.cell? ⟨Sb, 2, none⟩ = some (.string lb) ∧ zd.cell? ⟨Sb, 3, none⟩ = some (.int .i64 n) ∧ zd.cell? ⟨Sb, 4, none⟩ = some (.int .i64 ix) ∧ Hid (Below w0.heap.size w0 zd) := ⟨cell_stays hHeld.1 bzd, cell_stays hHeld.2.1 bzd, cell_stays hHeld.2.2.1 bzd, cell_stays hHeld.2.2.2.1 bzd, cell_stays hHeld.2.2.2.2.1 bzd, hide (hHeld.2.2.2.2.2.out.trans (bzd.mono hHeld.2.2.2.2.2.out.size))⟩
          refine ⟨_, rfl, qzd, ?_⟩
          replace hHeld := qzd
          clear qzd bzd
          try simp only [Act.put, List.setIfInBounds_toArray, List.set_cons_zero, List.set_cons_succ]
          refine take_op (i := 19) (d := 43) (OP := Op.unOp UnOp.not 4 (Operand.tmp 42)) (T := 4) (v := ?vzz94) rfl rfl rfl rfl (by kernel_rfl) (by kernel_rfl) (by kernel_rfl) (fun _ _ _ h => h) (by rfl) ?hzz94 hHeld ?rzz94
          case hzz94 => (intro w' hSw; (try dsimp only at hSw); go_simp <;> with_reducible rfl)
          try simp only [Act.put, List.setIfInBounds_toArray, List.set_cons_zero, List.set_cons_succ]
          refine take_op (i := 20) (d := 44) (OP := Op.pick (Operand.tmp 38) (Operand.const (Value.bool true)) (Operand.tmp 43)) (T := 4) (v := ?vzz95) rfl rfl rfl rfl (by kernel_rfl) (by kernel_rfl) (by kernel_rfl) (fun _ _ _ h => h) (by rfl) ?hzz95 hHeld ?rzz95
          case hzz95 => (intro w' hSw; (try dsimp only at hSw); go_simp <;> with_reducible rfl)
          try simp only [Act.put, List.setIfInBounds_toArray, List.set_cons_zero, List.set_cons_succ]
          refine wpAnyH_done (by kernel_rfl) ?_ _
          have H2 := hide hHeld.2.2.2.2.2.out
          clear hHeld hmy hbh re8
          go_upto_region 6 with (first
            | fail
            | (go_at_call 57; refine (hof _ H2.out).mono ?_; rintro e w4 ⟨t, pt, hpt, rfl, mg, hmay, hels, hn60, b4⟩; have H4 := hide (And.intro hpt (And.intro mg (And.intro hmay (And.intro hels (And.intro hn60 (H2.out.trans (b4.mono H2.out.size))))))); clear hpt mg hmay hels hn60 b4; dsimp only))
          obtain ⟨hpt, mg, hmay, hels, hn60, bb4⟩ := H4.out
          obtain ⟨Mb, hMb⟩ : ∃ q, q = w4.heap.size := ⟨_, rfl⟩
          obtain ⟨W4, hW4⟩ : ∃ q, q = w4.alloc (.cells #[.pointer pt] 27) := ⟨_, rfl⟩
          have b44 : Below w4.heap.size w4 W4 := by rw [hW4]; exact (Below.refl _ w4).alloc (Nat.le_refl _) _
          have BXm : Boxd W4 Mb pt t := ⟨by rw [hW4, hMb]; exact heap_alloc_new w4 _, hpt, mg.below b44⟩
          have bb44 := bb4.trans (b44.mono bb4.size)
          rw [← hW4, ← hMb]
          have hv : stV (g, r, lb, n, ix) = true ∧ txtB X = true := Bool.and_eq_true _ _ ▸ HFT.out.symm
          have hlast := tail_last mg.srt hmay hv.1 (by rw [hels]; exact HBH.out)
          have hwr := okWr_tail hmay hv.1 hv.2 hlast
          have hepu := els_push hmay hv.1 hv.2
          have HT : Hid (mayL t.list = true ∧ elsL t.list = srtE l ∧ t.n ≤ 60 ∧ Pm.Srt t.list ∧ (∀ y ∈ t.list, Pm.cmpB y.1 (keyT (g, r, lb, n, ix)) = -1) ∧ okWr t.list.tail (g, r, lb, n, ix) X = true ∧ (mayL (t.list.tail ++ [(keyT (g, r, lb, n, ix), X)]) = true ∧ elsL (t.list.tail ++ [(keyT (g, r, lb, n, ix), X)]) = (elsL t.list).tail ++ [((g, r, lb, n, ix), X)])) := hide ⟨hmay, hels, hn60, mg.srt, hlast, hwr, hepu⟩
          have HBM := hide (And.intro BXm bb44)
          have hpo := fun W (hW : Mg W t) => qPop_any hW hpt
          obtain ⟨fe, fb, hfe⟩ : ∃ fe fb, firstE (elsL t.list) = (fe, fb) := ⟨_, _, rfl⟩
          have hpop : ∀ W, Mg W t → Calls Tryz.prog 65 #[.agg #[.pointer pt]] W fun e w' => ∃ t1 p1, t1.ptr = .pointer p1 ∧ e = .returned (.tuple #[.agg #[.pointer p1], ev fe, .bool fb]) ∧ Mg w' t1 ∧ t1.list = t.list.tail ∧ Below W.heap.size W w' := fun W hW => (hpo W hW).mono (fun e w' hh => by
            obtain ⟨t1, p1, h1, h2, h3, h4, -, h5⟩ := hh
            rw [hfe] at h2
            rw [if_pos hmay] at h4
            exact ⟨t1, p1, h1, h2, h3, h4, h5⟩)
          have hfb : fb = decide (0 < N) := by
            have h1 := first_tail (l := t.list)
            rw [hfe, hels, srtE_len, ← HL.out.1] at h1
            exact h1
          have HFB := hide hfb
          have HPOP := hide hpop
          clear H4 hpt mg hmay hels hn60 bb4 hMb hW4 b44 BXm bb44 hv hlast hwr hepu hpo hfe hpop hof hfb
          obtain ⟨⟨fg, fr, fl, fn, fx⟩, ft⟩ := fe
          have cM := HBM.out.1.cell
          dsimp only [ev] at HPOP
          go_upto_region 7 with (go_at_call 65; refine (HPOP.out _ HBM.out.1.2.2).mono ?_; rintro e w5 ⟨t1, p1, hp1, rfl, mg1, hl1, b5⟩; have H5 := hide (And.intro hp1 (And.intro mg1 (And.intro hl1 b5))); clear hp1 mg1 hl1 b5; dsimp only)
          obtain ⟨hp1, mg1, hl1, b5⟩ := H5.out
          obtain ⟨Ab, hAb⟩ : ∃ q, q = w5.heap.size := ⟨_, rfl⟩
          obtain ⟨Xb, hXb⟩ : ∃ q, q = w5.heap.size + 1 := ⟨_, rfl⟩
          obtain ⟨W5, hW5⟩ : ∃ q, q = (w5.alloc (.cells #[.pointer p1] 27)).alloc (.cells #[.int .i64 fg, .int .i64 fr, .string fl, .int .i64 fn, .int .i64 fx, .string ft] 53) := ⟨_, rfl⟩
          obtain ⟨n0, n1⟩ := new2 w5 (.cells #[.pointer p1] 27) (.cells #[.int .i64 fg, .int .i64 fr, .string fl, .int .i64 fn, .int .i64 fx, .string ft] 53)
          have b55 : Below w5.heap.size w5 W5 := by rw [hW5]; exact ((Below.refl _ w5).alloc (Nat.le_refl _) _).alloc (by simp) _
          rw [← hW5] at n0 n1
          rw [← hAb] at n0
          rw [← hXb] at n1
          have b4' := b5.trans (b55.mono b5.size)
          replace HBM := hide (And.intro (HBM.out.1.below b4') (HBM.out.2.trans (b4'.mono HBM.out.2.size)))
          have HA : Hid (Boxd W5 Ab p1 t1 ∧ t1.list = t.list.tail) := hide ⟨⟨n0, hp1, mg1.below b55⟩, hl1⟩
          have HX : Hid (W5.heap[Xb]? = some (.cells #[.int .i64 fg, .int .i64 fr, .string fl, .int .i64 fn, .int .i64 fx, .string ft] 53 (0, 0))) := hide n1
          have hAX : w5.heap.size + 1 = Xb := hXb.symm
          rw [← hW5]
          rw [hAX, ← hAb]
          clear H5 hp1 mg1 hl1 b5 hAb hXb hW5 n0 n1 b55 b4' hAX cM
          have cM := HBM.out.1.cell
          go_upto_region 8 with (go_at_call 65; refine (HPOP.out _ HBM.out.1.2.2).mono ?_; rintro e w6 ⟨t2, p2, hp2, rfl, mg2, hl2, b6⟩; have H6 := hide (And.intro hp2 (And.intro mg2 (And.intro hl2 b6))); clear hp2 mg2 hl2 b6; dsimp only)
          obtain ⟨hp2, mg2, hl2, b6⟩ := H6.out
          obtain ⟨Bb, hBb⟩ : ∃ q, q = w6.heap.size := ⟨_, rfl⟩
          obtain ⟨Yb, hYb⟩ : ∃ q, q = w6.heap.size + 1 := ⟨_, rfl⟩
          obtain ⟨W6, hW6⟩ : ∃ q, q = (w6.alloc (.cells #[.pointer p2] 27)).alloc (.cells #[.int .i64 fg, .int .i64 fr, .string fl, .int .i64 fn, .int .i64 fx, .string ft] 53) := ⟨_, rfl⟩
          obtain ⟨n0, n1⟩ := new2 w6 (.cells #[.pointer p2] 27) (.cells #[.int .i64 fg, .int .i64 fr, .string fl, .int .i64 fn, .int .i64 fx, .string ft] 53)
          have b66 : Below w6.heap.size w6 W6 := by rw [hW6]; exact ((Below.refl _ w6).alloc (Nat.le_refl _) _).alloc (by simp) _
          rw [← hW6] at n0 n1
          rw [← hBb] at n0
          rw [← hYb] at n1
          have b5' := b6.trans (b66.mono b6.size)
          replace HBM := hide (And.intro (HBM.out.1.below b5') (HBM.out.2.trans (b5'.mono HBM.out.2.size)))
          replace HA := hide (And.intro (HA.out.1.below b5') HA.out.2)
          replace HX := hide ((b5'.block _ (Array.getElem?_eq_some_iff.1 HX.out).1).trans HX.out)
          have HB2 : Hid (Boxd W6 Bb p2 t2 ∧ t2.list = t.list.tail) := hide ⟨⟨n0, hp2, mg2.below b66⟩, hl2⟩
          have HY : Hid (W6.heap[Yb]? = some (.cells #[.int .i64 fg, .int .i64 fr, .string fl, .int .i64 fn, .int .i64 fx, .string ft] 53 (0, 0))) := hide n1
          have hBY : w6.heap.size + 1 = Yb := hYb.symm
          rw [← hW6]
          rw [hBY, ← hBb]
          clear H6 hp2 mg2 hl2 b6 hBb hYb hW6 n0 n1 b66 b5' hBY cM HPOP
          have cB := HB2.out.1.cell
          obtain ⟨s0, s1, s2, s3, s4, -⟩ := HS0.out W6 HBM.out.2
          have hpsh : Calls Tryz.prog 66 #[.agg #[.pointer p2], .agg #[.int .i64 g, .int .i64 r, .string lb, .int .i64 n, .int .i64 ix], .string X] W6 fun e w' => ∃ t3 p3, t3.ptr = .pointer p3 ∧ e = .returned (.tuple #[.agg #[.pointer p3], .int .i64 0]) ∧ Mg w' t3 ∧ t3.list = t.list.tail ++ [(keyT (g, r, lb, n, ix), X)] ∧ Below W6.heap.size W6 w' := (pushP (g, r, lb, n, ix) X HB2.out.1.2.2 (by
              have h1 := congrArg List.length HB2.out.2
              rw [Pm.T.n_eq, List.length_tail, Pm.T.n_eq] at h1
              have := HT.out.2.2.1
              omega) HB2.out.1.2.1).mono (fun e w' hh => by
            obtain ⟨t3, p3, h1, h2, h3, h4, h5⟩ := hh
            rw [HB2.out.2, HT.out.2.2.2.2.2.1, if_pos rfl] at h2 h4
            exact ⟨t3, p3, h1, h2, h3, h4, h5⟩)
          go_upto_region 9 with (go_at_call 66; refine hpsh.mono ?_; rintro e w7 ⟨t3, p3, hp3, rfl, mg3, hl3, b7⟩; have H7 := hide (And.intro hp3 (And.intro mg3 (And.intro hl3 b7))); clear hp3 mg3 hl3 b7; dsimp only)
          obtain ⟨hp3, mg3, hl3, b7⟩ := H7.out
          obtain ⟨Cb, hCb⟩ : ∃ q, q = w7.heap.size := ⟨_, rfl⟩
          obtain ⟨W7, hW7⟩ : ∃ q, q = w7.alloc (.cells #[.pointer p3] 27) := ⟨_, rfl⟩
          have b77 : Below w7.heap.size w7 W7 := by rw [hW7]; exact (Below.refl _ w7).alloc (Nat.le_refl _) _
          have n0 : W7.heap[Cb]? = some (.cells #[.pointer p3] 27 (0, 0)) := by rw [hW7, hCb]; exact heap_alloc_new w7 _
          have b6' := b7.trans (b77.mono b7.size)
          replace HBM := hide (And.intro (HBM.out.1.below b6') (HBM.out.2.trans (b6'.mono HBM.out.2.size)))
          replace HA := hide (And.intro (HA.out.1.below b6') HA.out.2)
          replace HX := hide ((b6'.block _ (Array.getElem?_eq_some_iff.1 HX.out).1).trans HX.out)
          replace HY := hide ((b6'.block _ (Array.getElem?_eq_some_iff.1 HY.out).1).trans HY.out)
          have HCc : Hid (Boxd W7 Cb p3 t3 ∧ t3.list = t.list.tail ++ [(keyT (g, r, lb, n, ix), X)]) := hide ⟨⟨n0, hp3, mg3.below b77⟩, hl3⟩
          rw [← hW7, ← hCb]
          clear H7 hp3 mg3 hl3 b7 hCb hW7 n0 b77 b6' cB hpsh s0 s1 s2 s3 s4 HB2
          have cM := HBM.out.1.cell
          have cA := HA.out.1.cell
          have cC := HCc.out.1.cell
          have hth : Calls Tryz.prog 67 #[.agg #[.pointer pt], .agg #[.pointer p1], .agg #[.pointer p3]] W7 fun e w' => ∃ t4 p4, t4.ptr = .pointer p4 ∧ e = .returned (.tuple #[.agg #[.pointer p4], .int .i64 0]) ∧ Mg w' t4 ∧ t4.list = t.list.tail ++ [(keyT (g, r, lb, n, ix), X)] ∧ Below W7.heap.size W7 w' := by
            have hsp := srt_push (X := X) HT.out.2.2.2.1 HT.out.2.2.2.2.1
            have hst : Pm.Srt t.list.tail := by have h0 := HT.out.2.2.2.1; exact h0.sublist (List.tail_sublist _)
            have hsp2 := srt_push (X := X) hst (fun y hy => HT.out.2.2.2.2.1 y (List.mem_of_mem_tail hy))
            have hnn : t1.n + t3.n ≤ 400 := by
              have h1 := congrArg List.length HA.out.2
              have h3 := congrArg List.length HCc.out.2
              rw [Pm.T.n_eq, List.length_tail, Pm.T.n_eq] at h1
              rw [Pm.T.n_eq, List.length_append, List.length_tail, Pm.T.n_eq] at h3
              have := HT.out.2.2.1
              simp at h3
              omega
            refine (three_good (fun k => (Pm.look k (t.list ++ [(keyT (g, r, lb, n, ix), X)])).1) HBM.out.1.2.2 HBM.out.1.2.1 HA.out.1.2.2 HA.out.1.2.1 HCc.out.1.2.2 HCc.out.1.2.1 HT.out.1 (by rw [HA.out.2]; exact may_tail HT.out.1) (by rw [HCc.out.2]; exact HT.out.2.2.2.2.2.2.1) (told_sub hsp (fun y hy => List.mem_append_left _ hy)) (by rw [HA.out.2]; exact told_sub hsp (fun y hy => List.mem_append_left _ (List.mem_of_mem_tail hy))) (by rw [HCc.out.2]; exact told_sub hsp (fun y hy => (List.mem_append.1 hy).elim (fun hy => List.mem_append_left _ (List.mem_of_mem_tail hy)) (fun hy => List.mem_append_right _ hy))) hnn).mono (fun e w' hh => ?_)
            obtain ⟨t4, p4, h1, h2, h3, h4, h5⟩ := hh
            refine ⟨t4, p4, h1, h2, h3, look_eq h3.srt hsp2 (fun k => ?_), h5⟩
            rw [h4 k, HA.out.2, HCc.out.2]
            exact pops_keep HT.out.2.2.2.1 HT.out.2.2.2.2.1 k
          go_upto_region 10 with (go_at_call 67; refine hth.mono ?_; rintro e w8 ⟨t4, p4, hp4, rfl, mg4, hl4, b8⟩; have H8 := hide (And.intro hp4 (And.intro mg4 (And.intro hl4 b8))); clear hp4 mg4 hl4 b8; dsimp only)
          obtain ⟨hp4, mg4, hl4, b8⟩ := H8.out
          obtain ⟨Nb, hNb⟩ : ∃ q, q = w8.heap.size := ⟨_, rfl⟩
          obtain ⟨W8, hW8⟩ : ∃ q, q = w8.alloc (.cells #[.pointer p4] 27) := ⟨_, rfl⟩
          have b88 : Below w8.heap.size w8 W8 := by rw [hW8]; exact (Below.refl _ w8).alloc (Nat.le_refl _) _
          have n0 : W8.heap[Nb]? = some (.cells #[.pointer p4] 27 (0, 0)) := by rw [hW8, hNb]; exact heap_alloc_new w8 _
          have b7' := b8.trans (b88.mono b8.size)
          have HM8 := hide (HBM.out.2.trans (b7'.mono HBM.out.2.size))
          replace HX := hide ((b7'.block _ (Array.getElem?_eq_some_iff.1 HX.out).1).trans HX.out)
          replace HY := hide ((b7'.block _ (Array.getElem?_eq_some_iff.1 HY.out).1).trans HY.out)
          have BN : Boxd W8 Nb p4 t4 := ⟨n0, hp4, mg4.below b88⟩
          have hel := elementsQ BN.2.2 BN.2.1
          rw [hl4, HT.out.2.2.2.2.2.2.1, HT.out.2.2.2.2.2.2.2, HT.out.2.1, if_pos rfl] at hel
          obtain ⟨WL, hWL⟩ : ∃ WL, WL = (srtE l).tail ++ [((g, r, lb, n, ix), X)] := ⟨_, rfl⟩
          rw [← hWL] at hel
          obtain ⟨M, hM⟩ : ∃ M, M = WL.length := ⟨_, rfl⟩
          rw [← hM] at hel
          have hML : M = N - 1 + 1 := by rw [hM, hWL, List.length_append, List.length_tail, srtE_len, ← HL.out.1]; rfl
          have cN := BN.cell
          have HW := hide (And.intro hWL (And.intro hM hML))
          rw [← hW8, ← hNb]
          clear H8 hp4 mg4 hl4 b8 hNb hW8 n0 b88 b7' BN hth cM cA cC HBM HA HCc hWL hM hML
          go_upto_region 11 with (go_at_call 68; refine hel.mono ?_; rintro e w9 ⟨a9, c9, rfl, ho9, b9⟩; have H9 := hide (And.intro ho9.re (And.intro b9 (HM8.out.trans (b9.mono HM8.out.size)))); clear ho9 b9; dsimp only)
          replace HX := hide ((H9.out.2.1.block _ (Array.getElem?_eq_some_iff.1 HX.out).1).trans HX.out)
          replace HY := hide ((H9.out.2.1.block _ (Array.getElem?_eq_some_iff.1 HY.out).1).trans HY.out)
          clear hel cN HM8
          go_upto_region 12 with (go_at_call 60; refine (hso _ H9.out.2.2).mono ?_; rintro e w10 ⟨a10, c10, rfl, oe10, b10⟩; have H10 := hide (And.intro oe10 (And.intro b10 (H9.out.2.2.trans (b10.mono H9.out.2.2.size)))); clear oe10 b10; dsimp only)
          replace HX := hide ((H10.out.2.1.block _ (Array.getElem?_eq_some_iff.1 HX.out).1).trans HX.out)
          replace HY := hide ((H10.out.2.1.block _ (Array.getElem?_eq_some_iff.1 HY.out).1).trans HY.out)
          have HR9 := hide (H9.out.1.below H10.out.2.1)
          clear hso hkn hft z1 z2
          obtain ⟨hre, hsp, hzc⟩ := H10.out.1.reo
          have hcap : N ≤ c10 := by
            obtain ⟨a', c', e, h1, h2, h3, -⟩ := H10.out.1.form
            injection e with e1 e2 e3
            rw [e3, e2]
            exact h3
          have hlen : (srtE l).length = N := by rw [srtE_len]; exact HL.out.1.symm
          have hcl : ∀ x, x ∈ (srtE l).tail → True := fun _ _ => trivial
          clear hcl
          by_cases hN0 : N = 0
          · have hnil : srtE l = [] := List.length_eq_zero_iff.1 (by rw [hlen]; exact hN0)
            have HWW : Hid (Re w10 a10 (srtE l).tail ∧ (a10 = none → c10 = 0) ∧ (srtE l).tail.length = N) := hide ⟨by rw [hnil]; exact Re.nil _ _, hzc, by rw [hnil, hN0]; rfl⟩
            have dn : ¬ (0 : Int) < (N : Int) := by omega
            have dn2 : decide (0 < N) = false := by simp; omega
            have dn3 : ¬ 0 < N := by omega
            obtain rfl : fb = false := by rw [HFB.out]; exact dn2
            have HN60 := hide h60
            clear hre hsp hzc hcap hlen hnil h60 hN0
            go_upto_region 14 with fail
            obtain ⟨hW1, hW2, hW3⟩ := HWW.out
            obtain ⟨s0, s1, s2, s3, s4, -⟩ := HS0.out w10 H10.out.2.2
            have HAP : Hid (∀ W, Below w10.heap.size w10 W → ∃ v9 w9, (Builtin.append_ #[22, 22] 22 #[.slice none 0 0, .slice a10 N c10]).run Tryz.prog W = .ok v9 w9 ∧ Oe w9 w10.heap.size v9 (srtE l).tail ∧ Below W.heap.size W w9) := hide (fun W hW => by
              obtain ⟨a', c', w', h1, h2, h3⟩ := app_elems (Oe.nil W W.heap.size) hW2 (hW1.below hW) (by rw [hW3]; have := HN60.out; simp; omega) (Nat.le_refl _)
              rw [hW3] at h1
              exact ⟨_, w', h1, h2.lift hW.size, h3⟩)
            have HAP2 : Hid (∀ (W : World) (v : Value) (R : Nat), Below w10.heap.size w10 W → Oe W w10.heap.size v (srtE l).tail → Re W (some ⟨R, 0, none⟩) [((g, r, lb, n, ix), X)] → ∃ v9 w9, (Builtin.append_ #[22, 22] 22 #[v, .slice (some ⟨R, 0, none⟩) 1 1]).run Tryz.prog W = .ok v9 w9 ∧ Oe w9 w10.heap.size v9 ((srtE l).tail ++ [((g, r, lb, n, ix), X)]) ∧ Below w10.heap.size W w9) := hide (fun W v R hW ho hr => by
              obtain ⟨a', c', w', h1, h2, h3⟩ := app_elems (c := 1) ho (by simp) hr (by rw [hW3]; have := HN60.out; simp; omega) hW.size
              exact ⟨_, w', h1, h2, h3⟩)
            have HLW : Hid (((srtE l).tail ++ [((g, r, lb, n, ix), X)]).length = M) := hide (by rw [← HW.out.1]; exact HW.out.2.1.symm)
            clear hW1 hW2 hW3 HWW
            go_cut [21] (fun v21 wc => ∃ aw cw, v21 = .slice aw M cw ∧ Hid (Re wc aw ((srtE l).tail ++ [((g, r, lb, n, ix), X)]) ∧ Below w10.heap.size w10 wc))
            case first =>
              refine wp_region_held_drew (S := fun w' => Below w10.heap.size w10 w') (by kernel_rfl) (by exact drew_below w10) (fun hHeld => ?_)
              try dsimp only at hHeld
              generalize w10.drew = Wd at hHeld ⊢
              refine take_op (i := 0) (d := 88) (OP := Op.move (Operand.tmp 21)) (T := 22) (v := ?vzx16) rfl rfl rfl rfl (by kernel_rfl) (by kernel_rfl) (by kernel_rfl) (fun _ _ _ h => h) (by rfl) ?hzx16 hHeld ?rzx16
              case hzx16 => (intro w' hSw; (try dsimp only at hSw); go_simp <;> with_reducible rfl)
              try simp only [Act.put, List.setIfInBounds_toArray, List.set_cons_zero, List.set_cons_succ]
              refine take_op (i := 2) (d := 90) (OP := Op.load 43 (Operand.tmp 4)) (T := 43) (v := .agg #[.int .i64 g, .int .i64 r, .string lb, .int .i64 n, .int .i64 ix]) rfl rfl rfl rfl (by kernel_rfl) (by kernel_rfl) (by kernel_rfl) (fun _ _ _ h => h) (by rfl) ?hzx17 hHeld ?rzx17
              case hzx17 => (intro w' hSw; (try dsimp only at hSw); have k0 := cell_stays s0 hSw; have k1 := cell_stays s1 hSw; have k2 := cell_stays s2 hSw; have k3 := cell_stays s3 hSw; have k4 := cell_stays s4 hSw; go_simp)
              try simp only [Act.put, List.setIfInBounds_toArray, List.set_cons_zero, List.set_cons_succ]
              refine take_op (i := 3) (d := 91) (OP := Op.move (Operand.tmp 2)) (T := 9) (v := ?vzx18) rfl rfl rfl rfl (by kernel_rfl) (by kernel_rfl) (by kernel_rfl) (fun _ _ _ h => h) (by rfl) ?hzx18 hHeld ?rzx18
              case hzx18 => (intro w' hSw; (try dsimp only at hSw); go_simp <;> with_reducible rfl)
              try simp only [Act.put, List.setIfInBounds_toArray, List.set_cons_zero, List.set_cons_succ]
              refine take_op (i := 4) (d := 92) (OP := Op.build 53 #[(0, Operand.tmp 90), (1, Operand.tmp 91)]) (T := 53) (v := ev ((g, r, lb, n, ix), X)) rfl rfl rfl rfl (by kernel_rfl) (by kernel_rfl) (by kernel_rfl) (fun _ _ _ h => h) (by rfl) ?hzx19 hHeld ?rzx19
              case hzx19 => (intro w' hSw; exact exec_bd53 rfl rfl)
              try simp only [Act.put, List.setIfInBounds_toArray, List.set_cons_zero, List.set_cons_succ]
              obtain ⟨v9, w9, run9, hO9, b9⟩ := HAP.out Wd hHeld
              have hS9 := hHeld.trans (b9.mono hHeld.size)
              have hSl : Below w10.heap.size w10 (Wd.alloc (.cells (encE ((g, r, lb, n, ix), X)).toArray 53)) := hHeld.alloc hHeld.size _
              refine turn2_op (i := 1) (di := 89) (OPi := Op.call { callee := Callee.builtin Builtin.append, args := #[Operand.const (Value.slice none 0 0), Operand.tmp 88], argTypes := #[22, 22] }) (Ti := 22) (j := 5) (dj := 93) (OPj := Op.buildSlice 22 1 #[(0, Operand.tmp 92)]) (Tj := 22) (v := v9) (wi := w9) (u := .slice (some ⟨Wd.heap.size, 0, none⟩) 1 1) (wj := Wd.alloc (.cells (encE ((g, r, lb, n, ix), X)).toArray 53)) rfl rfl rfl rfl rfl rfl rfl rfl (by kernel_rfl) (by rfl) (by rfl) (exec_append rfl rfl run9) (exec_bs53 rfl) hS9 hSl ?_ ?_
              · try simp only [Act.put, List.setIfInBounds_toArray, List.set_cons_zero, List.set_cons_succ]
                replace hHeld := hS9
                have hS8 : Below w10.heap.size w10 (w9.alloc (.cells (encE ((g, r, lb, n, ix), X)).toArray 53)) := hHeld.alloc hHeld.size _
                refine turn_op (i := 5) (d := 93) (OP := Op.buildSlice 22 1 #[(0, Operand.tmp 92)]) (T := 22) (v := .slice (some ⟨w9.heap.size, 0, none⟩) 1 1) (w' := w9.alloc (.cells (encE ((g, r, lb, n, ix), X)).toArray 53)) rfl rfl rfl rfl (by kernel_rfl) (by rfl) (exec_bs53 rfl) hS8 ?_
                replace hHeld := hS8
                try simp only [Act.put, List.setIfInBounds_toArray, List.set_cons_zero, List.set_cons_succ]
                obtain ⟨v10, w10, run10, hO10, b10⟩ := HAP2.out (w9.alloc (.cells (encE ((g, r, lb, n, ix), X)).toArray 53)) _ w9.heap.size hHeld (hO9.alloc (.cells (encE ((g, r, lb, n, ix), X)).toArray 53)) (one_re w9 ((g, r, lb, n, ix), X))
                have hS10 := hHeld.trans b10
                refine turn_op (i := 6) (d := 94) (OP := Op.call { callee := Callee.builtin Builtin.append, args := #[Operand.tmp 89, Operand.tmp 93], argTypes := #[22, 22] }) (T := 22) (v := v10) (w' := w10) rfl rfl rfl rfl (by kernel_rfl) (by rfl) (exec_append rfl rfl run10) hS10 ?_
                replace hHeld := hS10
                try simp only [Act.put, List.setIfInBounds_toArray, List.set_cons_zero, List.set_cons_succ]
                refine take_op (i := 7) (d := 21) (OP := Op.assign (Operand.tmp 94)) (T := 22) (v := ?vzx20) rfl rfl rfl rfl (by kernel_rfl) (by kernel_rfl) (by kernel_rfl) (fun _ _ _ h => h) (by rfl) ?hzx20 hHeld ?rzx20
                case hzx20 => (intro w' hSw; (try dsimp only at hSw); go_simp <;> with_reducible rfl)
                try simp only [Act.put, List.setIfInBounds_toArray, List.set_cons_zero, List.set_cons_succ]
                refine wpAnyH_done (by kernel_rfl) ?_ _
                obtain ⟨aw, cw, ev10, -⟩ := row_form hO10
                rw [HLW.out] at ev10
                subst ev10
                have HE := hide (And.intro hO10.re hS10)
                clear run9 hO9 b9 run10 hO10 b10 hS10 hHeld hS9 hSl
                go_wp2
                go_meet
                exact ⟨aw, cw, rfl, HE⟩
              · try simp only [Act.put, List.setIfInBounds_toArray, List.set_cons_zero, List.set_cons_succ]
                clear run9 hO9 b9 hS9 v9 w9
                replace hHeld := hSl
                obtain ⟨v9, w9, run9, hO9, b9⟩ := HAP.out _ hHeld
                have hS9 := hHeld.trans (b9.mono hHeld.size)
                refine turn_op (i := 1) (d := 89) (OP := Op.call { callee := Callee.builtin Builtin.append, args := #[Operand.const (Value.slice none 0 0), Operand.tmp 88], argTypes := #[22, 22] }) (T := 22) (v := v9) (w' := w9) rfl rfl rfl rfl (by kernel_rfl) (by rfl) (exec_append rfl rfl run9) hS9 ?_
                replace hHeld := hS9
                try simp only [Act.put, List.setIfInBounds_toArray, List.set_cons_zero, List.set_cons_succ]
                obtain ⟨v10, w10, run10, hO10, b10⟩ := HAP2.out w9 _ Wd.heap.size hHeld hO9 ((one_re Wd ((g, r, lb, n, ix), X)).below b9)
                have hS10 := hHeld.trans b10
                refine turn_op (i := 6) (d := 94) (OP := Op.call { callee := Callee.builtin Builtin.append, args := #[Operand.tmp 89, Operand.tmp 93], argTypes := #[22, 22] }) (T := 22) (v := v10) (w' := w10) rfl rfl rfl rfl (by kernel_rfl) (by rfl) (exec_append rfl rfl run10) hS10 ?_
                replace hHeld := hS10
                try simp only [Act.put, List.setIfInBounds_toArray, List.set_cons_zero, List.set_cons_succ]
                refine take_op (i := 7) (d := 21) (OP := Op.assign (Operand.tmp 94)) (T := 22) (v := ?vzx21) rfl rfl rfl rfl (by kernel_rfl) (by kernel_rfl) (by kernel_rfl) (fun _ _ _ h => h) (by rfl) ?hzx21 hHeld ?rzx21
                case hzx21 => (intro w' hSw; (try dsimp only at hSw); go_simp <;> with_reducible rfl)
                try simp only [Act.put, List.setIfInBounds_toArray, List.set_cons_zero, List.set_cons_succ]
                refine wpAnyH_done (by kernel_rfl) ?_ _
                obtain ⟨aw, cw, ev10, -⟩ := row_form hO10
                rw [HLW.out] at ev10
                subst ev10
                have HE := hide (And.intro hO10.re hS10)
                clear run9 hO9 b9 run10 hO10 b10 hS10 hHeld hS9 hSl
                go_wp2
                go_meet
                exact ⟨aw, cw, rfl, HE⟩
            case rest =>
              obtain ⟨aw, cw, rfl, HE⟩ := hcut
              obtain ⟨xa0, xa1, xa2, xa3, xa4, xa5⟩ := cells_of_enc ((HE.out.2.block _ (Array.getElem?_eq_some_iff.1 HX.out).1).trans HX.out)
              obtain ⟨ya0, ya1, ya2, ya3, ya4, ya5⟩ := cells_of_enc ((HE.out.2.block _ (Array.getElem?_eq_some_iff.1 HY.out).1).trans HY.out)
              have heq := fun W => run_eq77 ((fg, fr, fl, fn, fx), ft) ((fg, fr, fl, fn, fx), ft) W
              rw [decide_eq_true rfl] at heq
              dsimp only [ev] at heq
              have hnm := fun (n : Int) W => num35 n W
              have hsm : Calls Tryz.prog 35 #[.slice a9 M c9, .slice aw M cw] wc fun e w' => e = .returned (.bool true) ∧ Below wc.heap.size wc w' := by
                have h1 := HR9.out.below HE.out.2
                rw [HW.out.1] at h1
                have hM4 : ((srtE l).tail ++ [((g, r, lb, n, ix), X)]).length ≤ 1000000 := by rw [HLW.out]; have := HW.out.2.2; have := HN60.out; omega
                have := sameEls_any (c := c9) (d := cw) h1 HE.out.1 hM4 hM4
                rw [HLW.out] at this
                exact this.mono (fun e w' ⟨he, n, hn⟩ => ⟨by rw [he]; simp, by rw [hn]; exact below_drew _ _⟩)
              have HFIN := hide (HC0.out _ (H10.out.2.2.trans (HE.out.2.mono H10.out.2.2.size)))
              clear HAP HAP2 s0 s1 s2 s3 s4
              go_wp2_with (first
                | (go_at_call 59; refine (hnm _ _).mono ?_; rintro e wz ⟨rfl, rfl⟩; dsimp only)
                | (go_at_call 35; refine hsm.mono ?_; rintro e w11 ⟨rfl, b11⟩; replace HFIN := hide (HFIN.out.trans (b11.mono HFIN.out.size)); clear b11; dsimp only))
              go_ret
              exact ⟨rfl, HFIN.out⟩
          · have dn : (0 : Int) < (N : Int) := by omega
            have dn2 : decide (0 < N) = true := by simp; omega
            have dn3 : 0 < N := by omega
            obtain ⟨A2, hA2⟩ : ∃ A2, A2 = (if c10 = 1 then a10 else Option.map (fun x => ({ block := x.block, off := x.off + 6 } : Addr)) a10) := ⟨_, rfl⟩
            have HWW : Hid (Re w10 A2 (srtE l).tail ∧ (A2 = none → c10 - 1 = 0) ∧ (srtE l).tail.length = N - 1) := hide (by
              have hl1 : (srtE l).tail.length = N - 1 := by rw [List.length_tail, hlen]
              refine ⟨?_, ?_, hl1⟩
              · by_cases hc1 : c10 = 1
                · have : (srtE l).tail = [] := List.length_eq_zero_iff.1 (by omega)
                  rw [this]; exact Re.nil _ _
                · rw [hA2, if_neg hc1]
                  cases a10 with
                  | none => rw [hre.1 rfl]; exact Re.nil _ _
                  | some a =>
                    obtain ⟨b, o, sp⟩ := a
                    have h0 := hsp _ rfl
                    simp only at h0
                    subst h0
                    have h1 := hre.drop 1 (by rw [hlen]; omega)
                    rw [Nat.one_mul, List.drop_one] at h1
                    exact h1
              · intro e
                rw [hA2] at e
                split at e
                · rename_i hc1; omega
                · have : a10 = none := by cases a10 with
                    | none => rfl
                    | some a => cases e
                  rw [hzc this])
            obtain rfl : fb = true := by rw [HFB.out]; exact dn2
            have HN60 := hide h60
            have HA2 := hide hA2
            clear hre hsp hzc hcap hlen h60 hN0 hA2
            go_upto_region 14 with fail
            rw [← HA2.out]
            obtain ⟨hW1, hW2, hW3⟩ := HWW.out
            obtain ⟨s0, s1, s2, s3, s4, -⟩ := HS0.out w10 H10.out.2.2
            have HAP : Hid (∀ W, Below w10.heap.size w10 W → ∃ v9 w9, (Builtin.append_ #[22, 22] 22 #[.slice none 0 0, .slice A2 (N - 1) (c10 - 1)]).run Tryz.prog W = .ok v9 w9 ∧ Oe w9 w10.heap.size v9 (srtE l).tail ∧ Below W.heap.size W w9) := hide (fun W hW => by
              obtain ⟨a', c', w', h1, h2, h3⟩ := app_elems (Oe.nil W W.heap.size) hW2 (hW1.below hW) (by rw [hW3]; have := HN60.out; simp; omega) (Nat.le_refl _)
              rw [hW3] at h1
              exact ⟨_, w', h1, h2.lift hW.size, h3⟩)
            have HAP2 : Hid (∀ (W : World) (v : Value) (R : Nat), Below w10.heap.size w10 W → Oe W w10.heap.size v (srtE l).tail → Re W (some ⟨R, 0, none⟩) [((g, r, lb, n, ix), X)] → ∃ v9 w9, (Builtin.append_ #[22, 22] 22 #[v, .slice (some ⟨R, 0, none⟩) 1 1]).run Tryz.prog W = .ok v9 w9 ∧ Oe w9 w10.heap.size v9 ((srtE l).tail ++ [((g, r, lb, n, ix), X)]) ∧ Below w10.heap.size W w9) := hide (fun W v R hW ho hr => by
              obtain ⟨a', c', w', h1, h2, h3⟩ := app_elems (c := 1) ho (by simp) hr (by rw [hW3]; have := HN60.out; simp; omega) hW.size
              exact ⟨_, w', h1, h2, h3⟩)
            have HLW : Hid (((srtE l).tail ++ [((g, r, lb, n, ix), X)]).length = M) := hide (by rw [← HW.out.1]; exact HW.out.2.1.symm)
            clear hW1 hW2 hW3 HWW
            go_cut [21] (fun v21 wc => ∃ aw cw, v21 = .slice aw M cw ∧ Hid (Re wc aw ((srtE l).tail ++ [((g, r, lb, n, ix), X)]) ∧ Below w10.heap.size w10 wc))
            case first =>
              refine wp_region_held_drew (S := fun w' => Below w10.heap.size w10 w') (by kernel_rfl) (by exact drew_below w10) (fun hHeld => ?_)
              try dsimp only at hHeld
              generalize w10.drew = Wd at hHeld ⊢
              refine take_op (i := 0) (d := 88) (OP := Op.move (Operand.tmp 21)) (T := 22) (v := ?vzx22) rfl rfl rfl rfl (by kernel_rfl) (by kernel_rfl) (by kernel_rfl) (fun _ _ _ h => h) (by rfl) ?hzx22 hHeld ?rzx22
              case hzx22 => (intro w' hSw; (try dsimp only at hSw); go_simp <;> with_reducible rfl)
              try simp only [Act.put, List.setIfInBounds_toArray, List.set_cons_zero, List.set_cons_succ]
              refine take_op (i := 2) (d := 90) (OP := Op.load 43 (Operand.tmp 4)) (T := 43) (v := .agg #[.int .i64 g, .int .i64 r, .string lb, .int .i64 n, .int .i64 ix]) rfl rfl rfl rfl (by kernel_rfl) (by kernel_rfl) (by kernel_rfl) (fun _ _ _ h => h) (by rfl) ?hzx23 hHeld ?rzx23
              case hzx23 => (intro w' hSw; (try dsimp only at hSw); have k0 := cell_stays s0 hSw; have k1 := cell_stays s1 hSw; have k2 := cell_stays s2 hSw; have k3 := cell_stays s3 hSw; have k4 := cell_stays s4 hSw; go_simp)
              try simp only [Act.put, List.setIfInBounds_toArray, List.set_cons_zero, List.set_cons_succ]
              refine take_op (i := 3) (d := 91) (OP := Op.move (Operand.tmp 2)) (T := 9) (v := ?vzx24) rfl rfl rfl rfl (by kernel_rfl) (by kernel_rfl) (by kernel_rfl) (fun _ _ _ h => h) (by rfl) ?hzx24 hHeld ?rzx24
              case hzx24 => (intro w' hSw; (try dsimp only at hSw); go_simp <;> with_reducible rfl)
              try simp only [Act.put, List.setIfInBounds_toArray, List.set_cons_zero, List.set_cons_succ]
              refine take_op (i := 4) (d := 92) (OP := Op.build 53 #[(0, Operand.tmp 90), (1, Operand.tmp 91)]) (T := 53) (v := ev ((g, r, lb, n, ix), X)) rfl rfl rfl rfl (by kernel_rfl) (by kernel_rfl) (by kernel_rfl) (fun _ _ _ h => h) (by rfl) ?hzx25 hHeld ?rzx25
              case hzx25 => (intro w' hSw; exact exec_bd53 rfl rfl)
              try simp only [Act.put, List.setIfInBounds_toArray, List.set_cons_zero, List.set_cons_succ]
              obtain ⟨v9, w9, run9, hO9, b9⟩ := HAP.out Wd hHeld
              have hS9 := hHeld.trans (b9.mono hHeld.size)
              have hSl : Below w10.heap.size w10 (Wd.alloc (.cells (encE ((g, r, lb, n, ix), X)).toArray 53)) := hHeld.alloc hHeld.size _
              refine turn2_op (i := 1) (di := 89) (OPi := Op.call { callee := Callee.builtin Builtin.append, args := #[Operand.const (Value.slice none 0 0), Operand.tmp 88], argTypes := #[22, 22] }) (Ti := 22) (j := 5) (dj := 93) (OPj := Op.buildSlice 22 1 #[(0, Operand.tmp 92)]) (Tj := 22) (v := v9) (wi := w9) (u := .slice (some ⟨Wd.heap.size, 0, none⟩) 1 1) (wj := Wd.alloc (.cells (encE ((g, r, lb, n, ix), X)).toArray 53)) rfl rfl rfl rfl rfl rfl rfl rfl (by kernel_rfl) (by rfl) (by rfl) (exec_append rfl rfl run9) (exec_bs53 rfl) hS9 hSl ?_ ?_
              · try simp only [Act.put, List.setIfInBounds_toArray, List.set_cons_zero, List.set_cons_succ]
                replace hHeld := hS9
                have hS8 : Below w10.heap.size w10 (w9.alloc (.cells (encE ((g, r, lb, n, ix), X)).toArray 53)) := hHeld.alloc hHeld.size _
                refine turn_op (i := 5) (d := 93) (OP := Op.buildSlice 22 1 #[(0, Operand.tmp 92)]) (T := 22) (v := .slice (some ⟨w9.heap.size, 0, none⟩) 1 1) (w' := w9.alloc (.cells (encE ((g, r, lb, n, ix), X)).toArray 53)) rfl rfl rfl rfl (by kernel_rfl) (by rfl) (exec_bs53 rfl) hS8 ?_
                replace hHeld := hS8
                try simp only [Act.put, List.setIfInBounds_toArray, List.set_cons_zero, List.set_cons_succ]
                obtain ⟨v10, w10, run10, hO10, b10⟩ := HAP2.out (w9.alloc (.cells (encE ((g, r, lb, n, ix), X)).toArray 53)) _ w9.heap.size hHeld (hO9.alloc (.cells (encE ((g, r, lb, n, ix), X)).toArray 53)) (one_re w9 ((g, r, lb, n, ix), X))
                have hS10 := hHeld.trans b10
                refine turn_op (i := 6) (d := 94) (OP := Op.call { callee := Callee.builtin Builtin.append, args := #[Operand.tmp 89, Operand.tmp 93], argTypes := #[22, 22] }) (T := 22) (v := v10) (w' := w10) rfl rfl rfl rfl (by kernel_rfl) (by rfl) (exec_append rfl rfl run10) hS10 ?_
                replace hHeld := hS10
                try simp only [Act.put, List.setIfInBounds_toArray, List.set_cons_zero, List.set_cons_succ]
                refine take_op (i := 7) (d := 21) (OP := Op.assign (Operand.tmp 94)) (T := 22) (v := ?vzx26) rfl rfl rfl rfl (by kernel_rfl) (by kernel_rfl) (by kernel_rfl) (fun _ _ _ h => h) (by rfl) ?hzx26 hHeld ?rzx26
                case hzx26 => (intro w' hSw; (try dsimp only at hSw); go_simp <;> with_reducible rfl)
                try simp only [Act.put, List.setIfInBounds_toArray, List.set_cons_zero, List.set_cons_succ]
                refine wpAnyH_done (by kernel_rfl) ?_ _
                obtain ⟨aw, cw, ev10, -⟩ := row_form hO10
                rw [HLW.out] at ev10
                subst ev10
                have HE := hide (And.intro hO10.re hS10)
                clear run9 hO9 b9 run10 hO10 b10 hS10 hHeld hS9 hSl
                go_wp2
                go_meet
                exact ⟨aw, cw, rfl, HE⟩
              · try simp only [Act.put, List.setIfInBounds_toArray, List.set_cons_zero, List.set_cons_succ]
                clear run9 hO9 b9 hS9 v9 w9
                replace hHeld := hSl
                obtain ⟨v9, w9, run9, hO9, b9⟩ := HAP.out _ hHeld
                have hS9 := hHeld.trans (b9.mono hHeld.size)
                refine turn_op (i := 1) (d := 89) (OP := Op.call { callee := Callee.builtin Builtin.append, args := #[Operand.const (Value.slice none 0 0), Operand.tmp 88], argTypes := #[22, 22] }) (T := 22) (v := v9) (w' := w9) rfl rfl rfl rfl (by kernel_rfl) (by rfl) (exec_append rfl rfl run9) hS9 ?_
                replace hHeld := hS9
                try simp only [Act.put, List.setIfInBounds_toArray, List.set_cons_zero, List.set_cons_succ]
                obtain ⟨v10, w10, run10, hO10, b10⟩ := HAP2.out w9 _ Wd.heap.size hHeld hO9 ((one_re Wd ((g, r, lb, n, ix), X)).below b9)
                have hS10 := hHeld.trans b10
                refine turn_op (i := 6) (d := 94) (OP := Op.call { callee := Callee.builtin Builtin.append, args := #[Operand.tmp 89, Operand.tmp 93], argTypes := #[22, 22] }) (T := 22) (v := v10) (w' := w10) rfl rfl rfl rfl (by kernel_rfl) (by rfl) (exec_append rfl rfl run10) hS10 ?_
                replace hHeld := hS10
                try simp only [Act.put, List.setIfInBounds_toArray, List.set_cons_zero, List.set_cons_succ]
                refine take_op (i := 7) (d := 21) (OP := Op.assign (Operand.tmp 94)) (T := 22) (v := ?vzx27) rfl rfl rfl rfl (by kernel_rfl) (by kernel_rfl) (by kernel_rfl) (fun _ _ _ h => h) (by rfl) ?hzx27 hHeld ?rzx27
                case hzx27 => (intro w' hSw; (try dsimp only at hSw); go_simp <;> with_reducible rfl)
                try simp only [Act.put, List.setIfInBounds_toArray, List.set_cons_zero, List.set_cons_succ]
                refine wpAnyH_done (by kernel_rfl) ?_ _
                obtain ⟨aw, cw, ev10, -⟩ := row_form hO10
                rw [HLW.out] at ev10
                subst ev10
                have HE := hide (And.intro hO10.re hS10)
                clear run9 hO9 b9 run10 hO10 b10 hS10 hHeld hS9 hSl
                go_wp2
                go_meet
                exact ⟨aw, cw, rfl, HE⟩
            case rest =>
              obtain ⟨aw, cw, rfl, HE⟩ := hcut
              obtain ⟨xa0, xa1, xa2, xa3, xa4, xa5⟩ := cells_of_enc ((HE.out.2.block _ (Array.getElem?_eq_some_iff.1 HX.out).1).trans HX.out)
              obtain ⟨ya0, ya1, ya2, ya3, ya4, ya5⟩ := cells_of_enc ((HE.out.2.block _ (Array.getElem?_eq_some_iff.1 HY.out).1).trans HY.out)
              have heq := fun W => run_eq77 ((fg, fr, fl, fn, fx), ft) ((fg, fr, fl, fn, fx), ft) W
              rw [decide_eq_true rfl] at heq
              dsimp only [ev] at heq
              have hnm := fun (n : Int) W => num35 n W
              have hsm : Calls Tryz.prog 35 #[.slice a9 M c9, .slice aw M cw] wc fun e w' => e = .returned (.bool true) ∧ Below wc.heap.size wc w' := by
                have h1 := HR9.out.below HE.out.2
                rw [HW.out.1] at h1
                have hM4 : ((srtE l).tail ++ [((g, r, lb, n, ix), X)]).length ≤ 1000000 := by rw [HLW.out]; have := HW.out.2.2; have := HN60.out; omega
                have := sameEls_any (c := c9) (d := cw) h1 HE.out.1 hM4 hM4
                rw [HLW.out] at this
                exact this.mono (fun e w' ⟨he, n, hn⟩ => ⟨by rw [he]; simp, by rw [hn]; exact below_drew _ _⟩)
              have HFIN := hide (HC0.out _ (H10.out.2.2.trans (HE.out.2.mono H10.out.2.2.size)))
              clear HAP HAP2 s0 s1 s2 s3 s4
              go_wp2_with (first
                | (go_at_call 59; refine (hnm _ _).mono ?_; rintro e wz ⟨rfl, rfl⟩; dsimp only)
                | (go_at_call 35; refine hsm.mono ?_; rintro e w11 ⟨rfl, b11⟩; replace HFIN := hide (HFIN.out.trans (b11.mono HFIN.out.size)); clear b11; dsimp only))
              go_ret
              exact ⟨rfl, HFIN.out⟩
end Go.Proofs.YtkeldhohilmdcaaGreat.Qu
