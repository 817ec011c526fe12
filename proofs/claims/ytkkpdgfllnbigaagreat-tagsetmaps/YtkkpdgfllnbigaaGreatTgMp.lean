/-
  The law TagsetMaps (4), walked.
-/
import Derived.Test.YtkkpdgfllnbigaaGreatMg26
import Derived.Test.YtkkpdgfllnbigaaGreatMg25
namespace Go.Proofs.YtkkpdgfllnbigaaGreat.Tg
open Go.RowKit Go.Shelf
set_option linter.unusedSimpArgs false
set_option linter.unusedVariables false
attribute [local go_sem] Oper.semAt_some

theorem fn_nil68 (f : Fn) (x y : Array Value) (w : World) : (binOp .eql 68 (.func f x y) .nilFunc).run Tryz.prog w = .ok (.bool false) w := by kernel_rfl
theorem leave_cell1 {fn : Func} {tmps : Array Value} {p : Tmp} (c : Nat) {x : Bool} {R : Ending → World → Prop} {W : World} (h : fn.results = #[.cell p 4]) (hp : tmps.getD p undef = .pointer (some ⟨c, 0, none⟩)) (hc : W.cell? ⟨c, 0, none⟩ = some (.bool x)) (hR : R (.returned (.bool x)) W) : LeavesInM Fence.wide 6 Tryz.prog fn tmps R [] .returning W := by
  refine leave_none (v := .bool x) ?_ hR
  have h2 : (loadVar 4 ⟨c, 0, none⟩).run Tryz.prog W = .ok (.bool x) W := by go_simp
  have hp' : tmps[p]?.getD undef = .pointer (some ⟨c, 0, none⟩) := by simpa using hp
  simp [results, h, hp', asAddr, Sem.run_bind, Result.andThen, h2]
set_option maxHeartbeats 8000000 in
set_option maxRecDepth 100000 in
theorem maps4 (l : List Kv) (X : ByteArray) (ao : Option Addr) (c : Nat) (w : World) (h : Rp w ao l) (hs : ∀ x ∈ l, x.1.size ≤ 140737488355328) : Calls Tryz.prog 4 #[.slice ao l.length c, .string X] w fun e w' => e = .returned (.bool true) ∧ Below w.heap.size w w' := by
  obtain ⟨N, hN⟩ : ∃ N, N = l.length := ⟨_, rfl⟩
  rw [← hN]
  have H := hide (And.intro hN (And.intro h hs))
  clear hN h hs
  have hkn := known17
  obtain ⟨wR, hwR⟩ : ∃ q, q = w.alloc (.cells #[.bool false] 4) := ⟨_, rfl⟩
  have mR := heap_alloc_new w (.cells #[.bool false] 4)
  have bR : Below w.heap.size w wR := by rw [hwR]; exact (Below.refl _ w).alloc (Nat.le_refl _) _
  have sR : wR.heap.size = w.heap.size + 1 := by rw [hwR]; simp
  rw [← hwR] at mR
  obtain ⟨Rb, hRb⟩ : ∃ q, q = w.heap.size := ⟨_, rfl⟩
  rw [← hRb] at mR
  have HF : Hid (∀ W, Below wR.heap.size wR W → W.cell? ⟨Rb, 0, none⟩ = some (.bool false) ∧ W.frozen? ⟨Rb, 0, none⟩ = false ∧ ∀ b, Hid ((W.setCell ⟨Rb, 0, none⟩ (.bool b)).cell? ⟨Rb, 0, none⟩ = some (.bool b) ∧ Below w.heap.size w (W.setCell ⟨Rb, 0, none⟩ (.bool b)) ∧ Only (fun j => j = Rb) W (W.setCell ⟨Rb, 0, none⟩ (.bool b)))) := hide (fun W hW => by
    have q := (hW.block _ (gI mR).1).trans mR
    have bw := bR.trans (hW.mono bR.size)
    refine ⟨(cell_of_row _ _ 0 _ 4 (0, 0) q).trans rfl, frozen_of_row _ _ 0 _ 4 q, fun b => ?_⟩
    obtain ⟨u, o⟩ := set_one (i := 0) (.bool b) q
    exact hide ⟨(cell_of_row _ _ 0 _ 4 (0, 0) u).trans rfl, Below.only bw o bw.size (fun j e => by have e' : j = Rb := e; omega), o⟩)
  have HW := hide (And.intro hwR (And.intro hRb (And.intro sR (And.intro mR bR))))
  by_cases hbig : N > 60
  · have z : (60 : Int) < (N : Int) := by omega
    have d : decide ((60 : Int) < (N : Int)) = true := by simpa using z
    clear hbig hwR hRb sR mR bR
    refine calls_marks Tryz.func4 rfl ?_
    simp only [Tryz.ntmps4, List.size_toArray, List.length_cons, List.length_nil, Nat.reduceAdd, Nat.reduceSub, Array.replicate_succ, Array.replicate_zero, List.push_toArray, List.append_toArray, List.nil_append, List.cons_append]
    go_upto_region 1 with fail
    rw [← HW.out.1, ← HW.out.2.1]
    go_wp2_with (go_at_call 17; refine (hkn _).mono ?_; rintro e w1 ⟨rfl, b1⟩; obtain ⟨x1, x2, x3⟩ := HF.out w1 b1; have H3 := hide (x3 true); clear b1 x3; dsimp only)
    refine ret_lv ?_
    dsimp only
    refine leave_cell1 Rb rfl rfl H3.out.out.1 ?_
    exact ⟨rfl, H3.out.out.2.1⟩
  · have z : ¬ (60 : Int) < (N : Int) := by omega
    have d : decide ((60 : Int) < (N : Int)) = false := by simpa using z
    have hNb : N ≤ 60 := by omega
    clear hbig hwR hRb sR mR bR
    refine calls_marks Tryz.func4 rfl ?_
    simp only [Tryz.ntmps4, List.size_toArray, List.length_cons, List.length_nil, Nat.reduceAdd, Nat.reduceSub, Array.replicate_succ, Array.replicate_zero, List.push_toArray, List.append_toArray, List.nil_append, List.cons_append]
    go_upto_region 1 with fail
    rw [← HW.out.1, ← HW.out.2.1]
    go_upto_region 5 with fail
    obtain ⟨Mb, hMb⟩ : ∃ q, q = wR.heap.size := ⟨_, rfl⟩
    obtain ⟨w0, hw0⟩ : ∃ q, q = wR.alloc (.cells #[.pointer none] 27) := ⟨_, rfl⟩
    have r0 := heap_alloc_new wR (.cells #[.pointer none] 27)
    have b0 : Below wR.heap.size wR (wR.alloc (.cells #[.pointer none] 27)) := (Below.refl _ wR).alloc (Nat.le_refl _) _
    rw [← hw0] at r0 b0
    rw [← hMb] at r0
    rw [← hw0, ← hMb]
    have HR0 := hide (And.intro r0 b0)
    have HMb := hide hMb
    clear r0 b0 hw0 hMb z d
    go_wp2
    go_loopw [7] (fun iv wr => ∃ (i : Nat) (t : Pm.T) (p : Option Addr), i ≤ N ∧ iv = .int .i64 i ∧ Hid (Boxd wr Mb p t ∧ t.n ≤ i ∧ KeysOf t (l.take i) ∧ Below wR.heap.size wR wr)) (fun iv _ => N - (intOf iv).toNat)
    case atStart => exact ⟨0, .nil, none, by omega, rfl, hide ⟨⟨HR0.out.1, rfl, Mg.nil _⟩, Nat.zero_le _, fun k => by simp [Pm.T.list], HR0.out.2⟩⟩
    case round =>
      obtain ⟨i, t, p, hi, rfl, HI⟩ := hrel
      by_cases h1 : i < N
      · have z1 : (i : Int) < (N : Int) := by omega
        have d1 : decide (i < N) = true := by simpa using h1
        obtain ⟨x, hx⟩ : ∃ x, l[i]? = some x := ⟨_, List.getElem?_eq_getElem (by rw [← H.out.1]; exact h1)⟩
        obtain ⟨ab, off, hao, y0, y1⟩ := H.out.2.1 _ _ hx
        have h9 : ab < w.heap.size := World.block_lt_of_cell? _ _ y0
        have hab : ab < Mb := by have := HMb.out; have := HW.out.2.2.1; omega
        have HAB := hide hab
        have q0 := cell_stays (cell_stays y0 HW.out.2.2.2.2) HI.out.2.2.2
        have q1 := cell_stays (cell_stays y1 HW.out.2.2.2.2) HI.out.2.2.2
        obtain ⟨key, val⟩ := x
        dsimp only at q0 q1
        subst hao
        have hput : ∀ W, Below wr.heap.size wr W → Calls Tryz.prog 25 #[.agg #[.pointer p], .string key, .string val] W fun e w' => ∃ t' p', t'.ptr = .pointer p' ∧ e = .returned (.agg #[.pointer p']) ∧ Pm.In w' t' ∧ Pm.Puts W.heap.size key val t t' ∧ Below W.heap.size W w' := fun W hW => by
          have := Pm.mPut_any t key val W (Pm.In.below hW HI.out.1.2.2.inn) (by have := HI.out.1.2.2.few; omega)
          unfold Pm.mv at this
          rw [HI.out.1.2.1] at this
          refine this.mono fun e w' hh => ?_
          obtain ⟨t', he, h2, h3, h4⟩ := hh
          obtain ⟨p', hp'⟩ := t'.ptr_shape
          exact ⟨t', p', hp', by rw [he, hp'], h2, h3, h4⟩
        have HX := hide (And.intro hx (H.out.2.2 _ (List.mem_of_getElem? hx)))
        clear hx y0 y1 hab h9
        go_upto_region 8 with fail
        have qd : wr.drew.cell? ⟨ab, off + i * 2, none⟩ = some (.string key) ∧ wr.drew.cell? ⟨ab, off + i * 2 + 1, none⟩ = some (.string val) := ⟨q0, q1⟩
        have b0 : Below wr.heap.size wr wr.drew := drew_below wr
        refine wp_region_held_drew (S := fun w' => w'.cell? ⟨ab, off + i * 2, none⟩ = some (.string key) ∧ w'.cell? ⟨ab, off + i * 2 + 1, none⟩ = some (.string val)) (by kernel_rfl) qd (fun hHeld => ?_)
        clear qd
        obtain ⟨Wd, hWd⟩ : ∃ Wd, Wd = wr.drew := ⟨_, rfl⟩
        rw [← hWd] at hHeld b0 ⊢
        clear hWd
        have lc : Wd.cell? ⟨Mb, 0, none⟩ = some (.pointer p) := cell_stays HI.out.1.cell b0
        refine take_op (i := 1) (d := 39) (OP := Op.move (Operand.tmp 0)) (T := 47) (v := ?v17) rfl rfl rfl rfl (by kernel_rfl) (by kernel_rfl) (by kernel_rfl) (fun _ _ _ h => h) (by rfl) ?h17 hHeld ?r17
        case h17 => (intro w' hSw; (try dsimp only at hSw); go_simp <;> with_reducible rfl)
        try simp only [Act.put, sI, sZ, sS]
        refine take_op (i := 2) (d := 40) (OP := Op.move (Operand.tmp 7)) (T := 3) (v := ?v18) rfl rfl rfl rfl (by kernel_rfl) (by kernel_rfl) (by kernel_rfl) (fun _ _ _ h => h) (by rfl) ?h18 hHeld ?r18
        case h18 => (intro w' hSw; (try dsimp only at hSw); go_simp <;> with_reducible rfl)
        try simp only [Act.put, sI, sZ, sS]
        refine take_op (i := 3) (d := 41) (OP := Op.indexAddr 47 (Operand.tmp 39) (Operand.tmp 40)) (T := 0) (v := ?v19) rfl rfl rfl rfl (by kernel_rfl) (by kernel_rfl) (by kernel_rfl) (fun _ _ _ h => h) (by rfl) ?h19 hHeld ?r19
        case h19 => (intro w' hSw; (try dsimp only at hSw); go_simp <;> with_reducible rfl)
        try simp only [Act.put, sI, sZ, sS]
        refine take_op (i := 4) (d := 42) (OP := Op.indexAddr 49 (Operand.tmp 41) (Operand.const (Value.int IntKind.i64 0))) (T := 0) (v := ?v20) rfl rfl rfl rfl (by kernel_rfl) (by kernel_rfl) (by kernel_rfl) (fun _ _ _ h => h) (by rfl) ?h20 hHeld ?r20
        case h20 => (intro w' hSw; (try dsimp only at hSw); go_simp <;> with_reducible rfl)
        try simp only [Act.put, sI, sZ, sS]
        refine take_op (i := 5) (d := 43) (OP := Op.load 9 (Operand.tmp 42)) (T := 9) (v := ?v21) rfl rfl rfl rfl (by kernel_rfl) (by kernel_rfl) (by kernel_rfl) (fun _ _ _ h => h) (by rfl) ?h21 hHeld ?r21
        case h21 => (intro w' hSw; (try dsimp only at hSw); go_simp <;> with_reducible rfl)
        try simp only [Act.put, sI, sZ, sS]
        refine take_op (i := 6) (d := 44) (OP := Op.move (Operand.tmp 0)) (T := 47) (v := ?v22) rfl rfl rfl rfl (by kernel_rfl) (by kernel_rfl) (by kernel_rfl) (fun _ _ _ h => h) (by rfl) ?h22 hHeld ?r22
        case h22 => (intro w' hSw; (try dsimp only at hSw); go_simp <;> with_reducible rfl)
        try simp only [Act.put, sI, sZ, sS]
        refine take_op (i := 7) (d := 45) (OP := Op.move (Operand.tmp 7)) (T := 3) (v := ?v23) rfl rfl rfl rfl (by kernel_rfl) (by kernel_rfl) (by kernel_rfl) (fun _ _ _ h => h) (by rfl) ?h23 hHeld ?r23
        case h23 => (intro w' hSw; (try dsimp only at hSw); go_simp <;> with_reducible rfl)
        try simp only [Act.put, sI, sZ, sS]
        refine take_op (i := 8) (d := 46) (OP := Op.indexAddr 47 (Operand.tmp 44) (Operand.tmp 45)) (T := 0) (v := ?v24) rfl rfl rfl rfl (by kernel_rfl) (by kernel_rfl) (by kernel_rfl) (fun _ _ _ h => h) (by rfl) ?h24 hHeld ?r24
        case h24 => (intro w' hSw; (try dsimp only at hSw); go_simp <;> with_reducible rfl)
        try simp only [Act.put, sI, sZ, sS]
        refine take_op (i := 9) (d := 47) (OP := Op.indexAddr 49 (Operand.tmp 46) (Operand.const (Value.int IntKind.i64 1))) (T := 0) (v := ?v25) rfl rfl rfl rfl (by kernel_rfl) (by kernel_rfl) (by kernel_rfl) (fun _ _ _ h => h) (by rfl) ?h25 hHeld ?r25
        case h25 => (intro w' hSw; (try dsimp only at hSw); go_simp <;> with_reducible rfl)
        try simp only [Act.put, sI, sZ, sS]
        refine take_op (i := 10) (d := 48) (OP := Op.load 9 (Operand.tmp 47)) (T := 9) (v := ?v26) rfl rfl rfl rfl (by kernel_rfl) (by kernel_rfl) (by kernel_rfl) (fun _ _ _ h => h) (by rfl) ?h26 hHeld ?r26
        case h26 => (intro w' hSw; (try dsimp only at hSw); go_simp <;> with_reducible rfl)
        try simp only [Act.put, sI, sZ, sS]
        refine turn_op (i := 0) (d := 38) (OP := Op.load 27 (Operand.tmp 5)) (T := 27) (v := .agg #[.pointer p]) (w' := Wd) rfl rfl rfl rfl (by kernel_rfl) (by rfl) (by go_simp) hHeld ?_
        try simp only [Act.put, sI, sZ, sS]
        refine call_op (i := 11) (d := 49) (OP := Op.call { callee := Callee.value (Operand.func 25), args := #[Operand.tmp 38, Operand.tmp 43, Operand.tmp 48], argTypes := #[27, 9, 9] }) (T := 27) (f := 25) (args := #[.agg #[.pointer p], .string key, .string val]) rfl rfl rfl rfl (by kernel_rfl) (by rfl) (by go_simp) ?_
        refine (hput _ b0).mono ?_
        rintro e z1 ⟨t', p', hp', rfl, hi', hpu, bz⟩
        have hz : z1.cell? ⟨ab, off + i * 2, none⟩ = some (.string key) ∧ z1.cell? ⟨ab, off + i * 2 + 1, none⟩ = some (.string val) := ⟨cell_stays hHeld.1 bz, cell_stays hHeld.2 bz⟩
        have bb := b0.trans (bz.mono b0.size)
        refine ⟨_, rfl, hz, ?_⟩
        try simp only [Act.put, sI, sZ, sS]
        have rz := (bb.block _ (gI HI.out.1.1).1).trans HI.out.1.1
        obtain ⟨u9, o9⟩ := set_one (i := 0) (.pointer p') rz
        refine skip_op (i := 12) (OP := Op.store 27 (Operand.tmp 5) (Operand.tmp 49)) (T := 0) (w' := z1.setCell ⟨Mb, 0, none⟩ (.pointer p')) rfl rfl rfl rfl (by kernel_rfl) (by rfl) (exec_st27 rfl rfl ((cell_of_row _ _ 0 _ 27 (0, 0) rz).trans rfl) (frozen_of_row _ _ 0 _ 27 rz)) ⟨⟨o9.cell hz.1 (by simp only; have := HAB.out; omega), o9.cell hz.2 (by simp only; have := HAB.out; omega)⟩, ?_⟩
        try simp only [Act.put, sI, sZ, sS]
        refine wpAnyH_done (by kernel_rfl) ?_ _
        have HE := hide (And.intro u9 (And.intro o9 (And.intro hp' (And.intro hi' (And.intro hpu (And.intro bb (And.intro b0 bz)))))))
        have HRZ := hide rz
        clear u9 o9 hp' hi' hpu bb bz b0 hz rz lc hHeld
        go_wp2
        go_roundw
        case rel =>
          obtain ⟨u9, o9, hp', hi', hpu, bb, b0, bz⟩ := HE.out
          have hmW : Mg Wd t := HI.out.1.2.2.below b0
          have hmz : Mg z1 t' := hmW.put hpu hi' (by have := HI.out.2.1; omega) (by have := HX.out.2; dsimp only at this; omega)
          refine ⟨i + 1, t', p', by omega, by go_num, hide ⟨⟨by simpa using u9, hp', hmz.aside HRZ.out o9⟩, ?_, ?_, ?_⟩⟩
          · have := HI.out.1.2.2.put_n hpu; have := HI.out.2.1; omega
          · rw [List.take_add_one, HX.out.1]; exact HI.out.2.2.1.put HI.out.1.2.2 hpu
          · have bw := HI.out.2.2.2.trans (bb.mono HI.out.2.2.2.size)
            exact Below.only bw o9 bw.size (fun k e => by have e' : k = Mb := e; have := HMb.out; omega)
        case measure => simp [intOf]; omega
      · obtain rfl : N = i := by omega
        have d1 : decide (N < N) = false := by simp
        have z1 : ¬ (N : Int) < (N : Int) := by omega
        obtain ⟨bx, htn, hks, bw⟩ := HI.out
        have HTN := hide htn
        clear htn
        rw [H.out.1, List.take_length] at hks
        have HKS := hide hks
        have HBX := hide bx
        have HBW := hide bw
        clear bx bw hks h1 HI
        go_wp2
        clear z1 d1
        obtain ⟨w1, rfl⟩ : ∃ q, q = wr := ⟨_, rfl⟩
        go_loopw [6, 8] (fun mv iv wq => ∃ j : Nat, j ≤ N ∧ iv = .int .i64 j ∧ mv = .bool ((l.take j).all (mayK t)) ∧ Hid (Below w1.heap.size w1 wq)) (fun _ iv _ => N - (intOf iv).toNat)
        case atStart => exact ⟨0, by omega, rfl, rfl, hide (Below.refl _ _)⟩
        case round =>
          obtain ⟨j, hj, rfl, rfl, HI⟩ := hrel
          obtain ⟨wq, rfl⟩ : ∃ q, q = wr := ⟨_, rfl⟩
          by_cases h1 : j < N
          · have z1 : (j : Int) < (N : Int) := by omega
            have d1 : decide (j < N) = true := by simpa using h1
            obtain ⟨x, hx⟩ : ∃ x, l[j]? = some x := ⟨_, List.getElem?_eq_getElem (by rw [← H.out.1]; exact h1)⟩
            have bq : Below wR.heap.size wR wq := HBW.out.trans (HI.out.mono HBW.out.size)
            obtain ⟨ab, off, hao, y0, -⟩ := H.out.2.1 _ _ hx
            have q0 := cell_stays (cell_stays y0 HW.out.2.2.2.2) bq
            have qm : wq.cell? ⟨Mb, 0, none⟩ = some (.pointer p) := cell_stays HBX.out.cell HI.out
            have hks := H.out.2.2 _ (List.mem_of_getElem? hx)
            have hall : (l.take (j + 1)).all (mayK t) = ((l.take j).all (mayK t) && mayK t x) := by
              rw [List.take_add_one, hx]
              simp only [Option.toList, List.all_append, List.all_cons, List.all_nil, Bool.and_true]
            obtain ⟨key, val⟩ := x
            dsimp only at q0 hks
            subst hao
            obtain ⟨V, hV⟩ : ∃ V, V = (t.find key).val := ⟨_, rfl⟩
            have hget : ∀ W, Below wq.heap.size wq W → Calls Tryz.prog 26 #[.agg #[.pointer p], .string key] W fun e w' => e = .returned (.tuple #[.string V, .bool (t.find key).isSome]) ∧ Below W.heap.size W w' := fun W hW => by
              have hlow := HI.out.trans (hW.mono HI.out.size)
              have := Pm.get_any t key W (Pm.In.below hlow HBX.out.2.2.inn)
              unfold Pm.mv at this
              rw [HBX.out.2.1, ← hV] at this
              exact this
            generalize (t.find key).isSome = FS at hget
            have hof := fun W => ofKey27 key W hks
            obtain ⟨OK, hOK⟩ : ∃ q, q = ofK key := ⟨_, rfl⟩
            rw [← hOK] at hof
            rw [show mayK t (key, val) = (OK.2 && decide (OK.1.2 = V)) by rw [hOK, hV]; rfl] at hall
            obtain ⟨BB, hBB⟩ : ∃ q, q = (l.take j).all (mayK t) := ⟨_, rfl⟩
            rw [← hBB] at hall ⊢
            have HALL := hide hall
            obtain ⟨⟨⟨g, r, lb, n, ix⟩, xt⟩, OB⟩ := OK
            dsimp only [ev] at hof
            clear hx y0 bq hV hall hBB hOK hks
            go_upto_region 12 with fail
            have qd : wq.drew.cell? ⟨Mb, 0, none⟩ = some (.pointer p) ∧ wq.drew.cell? ⟨ab, off + j * 2, none⟩ = some (.string key) := ⟨qm, q0⟩
            have b0 : Below wq.heap.size wq wq.drew := drew_below wq
            refine wp_region_held_drew (S := fun w' => w'.cell? ⟨Mb, 0, none⟩ = some (.pointer p) ∧ w'.cell? ⟨ab, off + j * 2, none⟩ = some (.string key)) (by kernel_rfl) qd (fun hHeld => ?_)
            clear qd
            obtain ⟨Wd, hWd⟩ : ∃ Wd, Wd = wq.drew := ⟨_, rfl⟩
            rw [← hWd] at hHeld b0 ⊢
            clear hWd
            refine take_op (i := 0) (d := 57) (OP := Op.load 27 (Operand.tmp 5)) (T := 27) (v := ?v27) rfl rfl rfl rfl (by kernel_rfl) (by kernel_rfl) (by kernel_rfl) (fun _ _ _ h => h) (by rfl) ?h27 hHeld ?r27
            case h27 => (intro w' hSw; (try dsimp only at hSw); go_simp <;> with_reducible rfl)
            try simp only [Act.put, sI, sZ, sS]
            refine take_op (i := 1) (d := 58) (OP := Op.move (Operand.tmp 0)) (T := 47) (v := ?v28) rfl rfl rfl rfl (by kernel_rfl) (by kernel_rfl) (by kernel_rfl) (fun _ _ _ h => h) (by rfl) ?h28 hHeld ?r28
            case h28 => (intro w' hSw; (try dsimp only at hSw); go_simp <;> with_reducible rfl)
            try simp only [Act.put, sI, sZ, sS]
            refine take_op (i := 2) (d := 59) (OP := Op.move (Operand.tmp 8)) (T := 3) (v := ?v29) rfl rfl rfl rfl (by kernel_rfl) (by kernel_rfl) (by kernel_rfl) (fun _ _ _ h => h) (by rfl) ?h29 hHeld ?r29
            case h29 => (intro w' hSw; (try dsimp only at hSw); go_simp <;> with_reducible rfl)
            try simp only [Act.put, sI, sZ, sS]
            refine take_op (i := 3) (d := 60) (OP := Op.indexAddr 47 (Operand.tmp 58) (Operand.tmp 59)) (T := 0) (v := ?v30) rfl rfl rfl rfl (by kernel_rfl) (by kernel_rfl) (by kernel_rfl) (fun _ _ _ h => h) (by rfl) ?h30 hHeld ?r30
            case h30 => (intro w' hSw; (try dsimp only at hSw); go_simp <;> with_reducible rfl)
            try simp only [Act.put, sI, sZ, sS]
            refine take_op (i := 4) (d := 61) (OP := Op.indexAddr 49 (Operand.tmp 60) (Operand.const (Value.int IntKind.i64 0))) (T := 0) (v := ?v31) rfl rfl rfl rfl (by kernel_rfl) (by kernel_rfl) (by kernel_rfl) (fun _ _ _ h => h) (by rfl) ?h31 hHeld ?r31
            case h31 => (intro w' hSw; (try dsimp only at hSw); go_simp <;> with_reducible rfl)
            try simp only [Act.put, sI, sZ, sS]
            refine take_op (i := 5) (d := 62) (OP := Op.load 9 (Operand.tmp 61)) (T := 9) (v := ?v32) rfl rfl rfl rfl (by kernel_rfl) (by kernel_rfl) (by kernel_rfl) (fun _ _ _ h => h) (by rfl) ?h32 hHeld ?r32
            case h32 => (intro w' hSw; (try dsimp only at hSw); go_simp <;> with_reducible rfl)
            try simp only [Act.put, sI, sZ, sS]
            refine call_op (i := 6) (d := 63) (OP := Op.call { callee := Callee.value (Operand.func 26), args := #[Operand.tmp 57, Operand.tmp 62], argTypes := #[27, 9] }) (T := 50) (f := 26) (args := #[.agg #[.pointer p], .string key]) rfl rfl rfl rfl (by kernel_rfl) (by rfl) (by go_simp) ?_
            refine (hget _ b0).mono ?_
            rintro e z1 ⟨rfl, bz⟩
            have hz : z1.cell? ⟨Mb, 0, none⟩ = some (.pointer p) ∧ z1.cell? ⟨ab, off + j * 2, none⟩ = some (.string key) := ⟨cell_stays hHeld.1 bz, cell_stays hHeld.2 bz⟩
            have bb := b0.trans (bz.mono b0.size)
            refine ⟨_, rfl, hz, ?_⟩
            try simp only [Act.put, sI, sZ, sS]
            refine take_op (i := 7) (d := 56) (OP := Op.move (Operand.tmp 63)) (T := 50) (v := ?v33) rfl rfl rfl rfl (by kernel_rfl) (by kernel_rfl) (by kernel_rfl) (fun _ _ _ h => h) (by rfl) ?h33 hz ?r33
            case h33 => (intro w' hSw; (try dsimp only at hSw); go_simp <;> with_reducible rfl)
            try simp only [Act.put, sI, sZ, sS]
            refine take_op (i := 8) (d := 64) (OP := Op.extract (Operand.tmp 56) 0) (T := 9) (v := ?v34) rfl rfl rfl rfl (by kernel_rfl) (by kernel_rfl) (by kernel_rfl) (fun _ _ _ h => h) (by rfl) ?h34 hz ?r34
            case h34 => (intro w' hSw; (try dsimp only at hSw); go_simp <;> with_reducible rfl)
            try simp only [Act.put, sI, sZ, sS]
            refine take_op (i := 9) (d := 65) (OP := Op.extract (Operand.tmp 56) 1) (T := 4) (v := ?v35) rfl rfl rfl rfl (by kernel_rfl) (by kernel_rfl) (by kernel_rfl) (fun _ _ _ h => h) (by rfl) ?h35 hz ?r35
            case h35 => (intro w' hSw; (try dsimp only at hSw); go_simp <;> with_reducible rfl)
            try simp only [Act.put, sI, sZ, sS]
            refine take_op (i := 10) (d := 9) (OP := Op.assign (Operand.tmp 64)) (T := 9) (v := ?v36) rfl rfl rfl rfl (by kernel_rfl) (by kernel_rfl) (by kernel_rfl) (fun _ _ _ h => h) (by rfl) ?h36 hz ?r36
            case h36 => (intro w' hSw; (try dsimp only at hSw); go_simp <;> with_reducible rfl)
            try simp only [Act.put, sI, sZ, sS]
            refine take_op (i := 11) (d := 10) (OP := Op.assign (Operand.tmp 65)) (T := 4) (v := ?v37) rfl rfl rfl rfl (by kernel_rfl) (by kernel_rfl) (by kernel_rfl) (fun _ _ _ h => h) (by rfl) ?h37 hz ?r37
            case h37 => (intro w' hSw; (try dsimp only at hSw); go_simp <;> with_reducible rfl)
            try simp only [Act.put, sI, sZ, sS]
            refine wpAnyH_done (by kernel_rfl) ?_ _
            have HZ := hide bb
            have cz := hz.2
            clear hz bb bz b0 hHeld qm q0 hget
            go_upto_region 14 with (go_at_call 27; refine (hof _).mono ?_; rintro e w2 ⟨rfl, b2⟩; have H2 := hide (HZ.out.trans (b2.mono HZ.out.size)); clear b2; dsimp only)
            obtain ⟨W6, hW6⟩ : ∃ q, q = w2.alloc (.cells #[.int .i64 g, .int .i64 r, .string lb, .int .i64 n, .int .i64 ix, .string xt] 53) := ⟨_, rfl⟩
            have m6 := heap_alloc_new w2 (.cells #[.int .i64 g, .int .i64 r, .string lb, .int .i64 n, .int .i64 ix, .string xt] 53)
            have d6 : Below w2.heap.size w2 W6 := by rw [hW6]; exact (Below.refl _ w2).alloc (Nat.le_refl _) _
            obtain ⟨Eb, hEb⟩ : ∃ q, q = w2.heap.size := ⟨_, rfl⟩
            rw [← hW6, ← hEb] at m6
            rw [← hW6, ← hEb]
            have H6 : Hid (Below w1.heap.size w1 W6) := hide (HI.out.trans ((H2.out.trans (d6.mono H2.out.size)).mono HI.out.size))
            have c6 : W6.cell? ⟨Eb, 5, none⟩ = some (.string xt) := (cell_of_row _ _ 5 _ 53 (0, 0) m6).trans rfl
            clear hW6 m6 d6 hEb cz hof H2 HZ
            cases BB with
            | false =>
              go_wp2
              go_roundw
              case rel => exact ⟨j + 1, by omega, by go_num, by rw [HALL.out]; rfl, hide H6.out⟩
              case measure => simp [intOf]; omega
            | true =>
              cases OB with
              | false =>
                go_wp2
                go_roundw
                case rel => exact ⟨j + 1, by omega, by go_num, by rw [HALL.out]; rfl, hide H6.out⟩
                case measure => simp [intOf]; omega
              | true =>
                by_cases hxV : xt = V
                · have bq : (xt.toList == V.toList) = true := by rw [bytes_same]; exact hxV
                  have HXV := hide hxV
                  clear hxV
                  go_wp2
                  go_roundw
                  case rel => exact ⟨j + 1, by omega, by go_num, by rw [HALL.out, decide_eq_true HXV.out]; rfl, hide H6.out⟩
                  case measure => simp [intOf]; omega
                · have bq : (xt.toList == V.toList) = false := by rw [Bool.eq_false_iff, Ne, bytes_same]; exact hxV
                  have HXV := hide hxV
                  clear hxV
                  go_wp2
                  go_roundw
                  case rel => exact ⟨j + 1, by omega, by go_num, by rw [HALL.out, decide_eq_false HXV.out]; rfl, hide H6.out⟩
                  case measure => simp [intOf]; omega
          · obtain rfl : N = j := by omega
            have d1 : decide (N < N) = false := by simp
            have z1 : ¬ (N : Int) < (N : Int) := by omega
            have hMB : (l.take N).all (mayK t) = mayT t.list := by rw [H.out.1, List.take_length]; exact keys_may HKS.out HBX.out.2.2.srt
            rw [hMB]
            obtain ⟨MB, hM2⟩ : ∃ q, q = mayT t.list := ⟨_, rfl⟩
            rw [← hM2]
            have bx : Boxd wq Mb p t := HBX.out.below HI.out
            have bq : Below wR.heap.size wR wq := HBW.out.trans (HI.out.mono HBW.out.size)
            have qm := bx.cell
            have hmay := may28 bx.2.2 bx.2.1
            rw [← hM2] at hmay
            have HM := hide (And.intro bx (And.intro bq hM2))
            clear HI HKS HBX HBW bx bq hM2 hMB h1
            cases MB with
            | true =>
              go_wp2_with (first
                | (go_at_call 28; refine hmay.mono ?_; rintro e w3 ⟨rfl, b3⟩; have H3 := hide (HM.out.2.1.trans (b3.mono HM.out.2.1.size)); clear b3; dsimp only)
                | (go_at_call 17; refine (hkn _).mono ?_; rintro e w4 ⟨rfl, b4⟩; obtain ⟨x1, x2, x3⟩ := HF.out w4 (H3.out.trans (b4.mono H3.out.size)); have H4 := hide (x3 true); clear b4 x3; dsimp only))
              refine ret_lv ?_
              dsimp only
              refine leave_cell1 Rb rfl rfl H4.out.out.1 ?_
              exact ⟨rfl, H4.out.out.2.1⟩
            | false =>
              obtain ⟨bx, bq, hMB⟩ := HM.out
              have hel := fun W (hW : Below wq.heap.size wq W) => elNo (bx.2.2.below hW) bx.2.1 hMB.symm
              have htx := fun W (hW : Below wq.heap.size wq W) => txNo (bx.2.2.below hW) bx.2.1 hMB.symm
              have hrm := fun W (hW : Below wq.heap.size wq W) => remNo X (bx.2.2.below hW) bx.2.1 hMB.symm
              have hhs := fun W (hW : Below wq.heap.size wq W) => hasNo X (bx.2.2.below hW) bx.2.1 hMB.symm
              have htg := fun W (hW : Below wq.heap.size wq W) => tgNo X (bx.2.2.below hW) bx.2.1 hMB.symm
              have hal := fun W (hW : Below wq.heap.size wq W) => allNo (bx.2.2.below hW) bx.2.1 hMB.symm
              have hin : ∀ W, Below wq.heap.size wq W → Calls Tryz.prog 30 #[.agg #[.pointer p], .agg #[.int .i64 1, .int .i64 0, .string ⟨#[97]⟩, .int .i64 1, .int .i64 0], .string X] W _ := fun W hW => insNo (atS 1) X (bx.2.2.below hW) bx.2.1 (by have := HTN.out; omega) hMB.symm
              have ht1 := fun W (hW : Below wq.heap.size wq W) => three34_bad (Mg.nil W) (px := none) rfl (Mg.nil W) (py := none) rfl (bx.2.2.below hW) bx.2.1 (by rw [← hMB, Bool.and_false])
              have ht2 := fun W (hW : Below wq.heap.size wq W) => three34_bad (bx.2.2.below hW) bx.2.1 (Mg.nil W) (py := none) rfl (Mg.nil W) (pz := none) rfl (by rw [← hMB]; rfl)
              have hnm := fun (n : Int) W => num20 n W
              have HBX := hide bx
              have HBQ := hide bq
              clear bx bq hMB HM
              go_upto_region 19 with (go_at_call 28; refine hmay.mono ?_; rintro e w3 ⟨rfl, b3⟩; have H3 := hide b3; clear b3; dsimp only)
              go_upto_region 20 with fail
              obtain ⟨Zb, hZb⟩ : ∃ q, q = w3.heap.size := ⟨_, rfl⟩
              obtain ⟨W4, hW4⟩ : ∃ q, q = w3.alloc (.cells #[.pointer none] 27) := ⟨_, rfl⟩
              have cZ : W4.cell? ⟨Zb, 0, none⟩ = some (.pointer none) := by rw [hW4, hZb]; exact (cell_of_row _ _ 0 _ 27 (0, 0) (heap_alloc_new w3 _)).trans rfl
              have b34 : Below w3.heap.size w3 W4 := by rw [hW4]; exact (Below.refl _ w3).alloc (Nat.le_refl _) _
              have HB : Hid (Below wq.heap.size wq W4) := hide (H3.out.trans (b34.mono H3.out.size))
              have cM : W4.cell? ⟨Mb, 0, none⟩ = some (.pointer p) := cell_stays qm HB.out
              rw [← hW4, ← hZb]
              clear hW4 hZb b34 H3 qm hmay z1 d1
              go_upto_region 21 with (go_at_call 29; refine (hel _ HB.out).mono ?_; rintro e w5 ⟨a5, n5, c5, rfl, b5⟩; replace HB := hide (HB.out.trans (b5.mono HB.out.size)); replace cM := cell_stays cM b5; replace cZ := cell_stays cZ b5; clear b5; dsimp only)
              clear hel
              replace HBX := hide (HBX.out.below HB.out)
              obtain ⟨W5, hW5⟩ : ∃ q, q = w5 := ⟨_, rfl⟩
              rw [← hW5] at HB HBX cM cZ ⊢
              clear hW5
              have HLT : Hid (Mb < W5.heap.size) := hide (gI HBX.out.1).1
              go_cut [16, 17] from 96 to 104 (fun v16 v17 wz => ∃ (Nb : Nat) (pt : Option Addr) (t' : Pm.T), v16 = .pointer (some ⟨Nb, 0, none⟩) ∧ v17 = .int .i64 2 ∧ Hid (Boxd wz Nb pt t' ∧ t'.list = [] ∧ Below W5.heap.size W5 wz))
              case first =>
                as_aux_lemma =>
                  have hW : ∀ W', Below W5.heap.size W5 W' → Calls Tryz.prog 30 #[.agg #[.pointer p], .agg #[.int .i64 1, .int .i64 0, .string ⟨#[97]⟩, .int .i64 1, .int .i64 0], .string X] W' _ := fun W' hb => hin W' (HB.out.trans (hb.mono HB.out.size))
                  clear hin htx hrm hhs htg hal ht1 ht2 hkn hnm cM cZ
                  have qd : W5.drew.cell? ⟨Mb, 0, none⟩ = some (.pointer p) := HBX.out.cell
                  have b0 : Below W5.heap.size W5 W5.drew := drew_below W5
                  refine wp_region_held_drew (S := fun w' => w'.cell? ⟨Mb, 0, none⟩ = some (.pointer p)) (by kernel_rfl) qd (fun hHeld => ?_)
                  clear qd
                  obtain ⟨Wd, hWd⟩ : ∃ Wd, Wd = W5.drew := ⟨_, rfl⟩
                  rw [← hWd] at hHeld b0 ⊢
                  clear hWd
                  refine take_op (i := 0) (d := 97) (OP := Op.load 27 (Operand.tmp 5)) (T := 27) (v := ?v1) rfl rfl rfl rfl (by kernel_rfl) (by kernel_rfl) (by kernel_rfl) (fun _ _ _ h => h) (by rfl) ?h1 hHeld ?r1
                  case h1 => (intro w' hSw; (try dsimp only at hSw); go_simp <;> with_reducible rfl)
                  try simp only [Act.put, sI, sZ, sS]
                  refine take_op (i := 3) (d := 100) (OP := Op.move (Operand.tmp 1)) (T := 9) (v := ?v2) rfl rfl rfl rfl (by kernel_rfl) (by kernel_rfl) (by kernel_rfl) (fun _ _ _ h => h) (by rfl) ?h2 hHeld ?r2
                  case h2 => (intro w' hSw; (try dsimp only at hSw); go_simp <;> with_reducible rfl)
                  try simp only [Act.put, sI, sZ, sS]
                  obtain ⟨y1, ey1⟩ : ∃ q, q = Wd.alloc (.cells #[.pointer none] 27) := ⟨_, rfl⟩
                  have ry1 : y1.heap[Wd.heap.size]? = some (.cells #[.pointer none] 27 (0, 0)) := by rw [ey1]; exact heap_alloc_new Wd _
                  have by1 : Below Wd.heap.size Wd y1 := by rw [ey1]; exact (Below.refl _ Wd).alloc (Nat.le_refl _) _
                  have hy1 : y1.cell? ⟨Mb, 0, none⟩ = some (.pointer p) := cell_stays hHeld by1
                  have bby1 := b0.trans (by1.mono b0.size)
                  refine call_turn_op (i := 1) (di := 98) (OPi := Op.call { callee := Callee.value (Operand.func 31), args := #[Operand.const (Value.int IntKind.i64 1), Operand.const (Value.string { data := #[] })], argTypes := #[2, 9] }) (Ti := 53) (j := 8) (dj := 16) (OPj := Op.alloc 27) (Tj := 0) (f := 31) (args := #[.int .i64 1, .string ⟨#[]⟩]) (u := .pointer (some ⟨Wd.heap.size, 0, none⟩)) (w' := y1) rfl rfl rfl rfl rfl rfl rfl rfl (by kernel_rfl) (by rfl) (by rfl) (by go_simp) (by rw [ey1]; exact exec_al27 Wd) hy1 ?_ ?_
                  · refine (at31 1 ⟨#[]⟩ _).mono ?_
                    rintro e z1 ⟨rfl, bz1⟩
                    have hz1 : z1.cell? ⟨Mb, 0, none⟩ = some (.pointer p) := cell_stays hHeld bz1
                    have bbz1 := b0.trans (bz1.mono b0.size)
                    refine ⟨_, rfl, hz1, ?_⟩
                    try simp only [Act.put, sI, sZ, sS]
                    refine take_op (i := 2) (d := 99) (OP := Op.field 53 (Operand.tmp 98) 0) (T := 43) (v := .agg #[.int .i64 1, .int .i64 0, .string ⟨#[97]⟩, .int .i64 1, .int .i64 0]) rfl rfl rfl rfl (by kernel_rfl) (by kernel_rfl) (by kernel_rfl) (fun _ _ _ h => h) (by rfl) ?h3 hz1 ?r3
                    case h3 => (intro w' hSw; exact exec_fld53 rfl)
                    try simp only [Act.put, sI, sZ, sS]
                    obtain ⟨y2, ey2⟩ : ∃ q, q = z1.alloc (.cells #[.pointer none] 27) := ⟨_, rfl⟩
                    have ry2 : y2.heap[z1.heap.size]? = some (.cells #[.pointer none] 27 (0, 0)) := by rw [ey2]; exact heap_alloc_new z1 _
                    have by2 : Below z1.heap.size z1 y2 := by rw [ey2]; exact (Below.refl _ z1).alloc (Nat.le_refl _) _
                    have hy2 : y2.cell? ⟨Mb, 0, none⟩ = some (.pointer p) := cell_stays hz1 by2
                    have bby2 := bbz1.trans (by2.mono bbz1.size)
                    refine call_turn_op (i := 4) (di := 101) (OPi := Op.call { callee := Callee.value (Operand.func 30), args := #[Operand.tmp 97, Operand.tmp 99, Operand.tmp 100], argTypes := #[27, 43, 9] }) (Ti := 29) (j := 8) (dj := 16) (OPj := Op.alloc 27) (Tj := 0) (f := 30) (args := #[.agg #[.pointer p], .agg #[.int .i64 1, .int .i64 0, .string ⟨#[97]⟩, .int .i64 1, .int .i64 0], .string X]) (u := .pointer (some ⟨z1.heap.size, 0, none⟩)) (w' := y2) rfl rfl rfl rfl rfl rfl rfl rfl (by kernel_rfl) (by rfl) (by rfl) (by go_simp) (by rw [ey2]; exact exec_al27 z1) hy2 ?_ ?_
                    · refine (hW  _ bbz1).mono ?_
                      rintro e z2 ⟨t', pt, hpt, rfl, mg', hl', bz2⟩
                      have hz2 : z2.cell? ⟨Mb, 0, none⟩ = some (.pointer p) := cell_stays hz1 bz2
                      have bbz2 := bbz1.trans (bz2.mono bbz1.size)
                      refine ⟨_, rfl, hz2, ?_⟩
                      try simp only [Act.put, sI, sZ, sS]
                      refine take_op (i := 5) (d := 96) (OP := Op.move (Operand.tmp 101)) (T := 29) (v := ?v4) rfl rfl rfl rfl (by kernel_rfl) (by kernel_rfl) (by kernel_rfl) (fun _ _ _ h => h) (by rfl) ?h4 hz2 ?r4
                      case h4 => (intro w' hSw; (try dsimp only at hSw); go_simp <;> with_reducible rfl)
                      try simp only [Act.put, sI, sZ, sS]
                      refine take_op (i := 6) (d := 102) (OP := Op.extract (Operand.tmp 96) 0) (T := 27) (v := ?v5) rfl rfl rfl rfl (by kernel_rfl) (by kernel_rfl) (by kernel_rfl) (fun _ _ _ h => h) (by rfl) ?h5 hz2 ?r5
                      case h5 => (intro w' hSw; (try dsimp only at hSw); go_simp <;> with_reducible rfl)
                      try simp only [Act.put, sI, sZ, sS]
                      refine take_op (i := 7) (d := 103) (OP := Op.extract (Operand.tmp 96) 1) (T := 28) (v := ?v6) rfl rfl rfl rfl (by kernel_rfl) (by kernel_rfl) (by kernel_rfl) (fun _ _ _ h => h) (by rfl) ?h6 hz2 ?r6
                      case h6 => (intro w' hSw; (try dsimp only at hSw); go_simp <;> with_reducible rfl)
                      try simp only [Act.put, sI, sZ, sS]
                      obtain ⟨z3, ez3⟩ : ∃ q, q = z2.alloc (.cells #[.pointer none] 27) := ⟨_, rfl⟩
                      have rz3 : z3.heap[z2.heap.size]? = some (.cells #[.pointer none] 27 (0, 0)) := by rw [ez3]; exact heap_alloc_new z2 _
                      have bz3 : Below z2.heap.size z2 z3 := by rw [ez3]; exact (Below.refl _ z2).alloc (Nat.le_refl _) _
                      have hz3 : z3.cell? ⟨Mb, 0, none⟩ = some (.pointer p) := cell_stays hz2 bz3
                      have bbz3 := bbz2.trans (bz3.mono bbz2.size)
                      refine turn_op (i := 8) (d := 16) (OP := Op.alloc 27) (T := 0) (v := .pointer (some ⟨z2.heap.size, 0, none⟩)) (w' := z3) rfl rfl rfl rfl (by kernel_rfl) (by rfl) (by rw [ez3]; exact exec_al27 z2) hz3 ?_
                      try simp only [Act.put, sI, sZ, sS]
                      obtain ⟨u9, o9⟩ := set_one (i := 0) (.pointer pt) rz3
                      have hM9 : (z3.setCell ⟨z2.heap.size, 0, none⟩ (.pointer pt)).cell? ⟨Mb, 0, none⟩ = some (.pointer p) := o9.cell hz3 (by simp only; have := HLT.out; have := bbz2.size; omega)
                      refine skip_op (i := 9) (OP := Op.store 27 (Operand.tmp 16) (Operand.tmp 102)) (T := 0) (w' := z3.setCell ⟨z2.heap.size, 0, none⟩ (.pointer pt)) rfl rfl rfl rfl (by kernel_rfl) (by rfl) (exec_st27 rfl rfl ((cell_of_row _ _ 0 _ 27 (0, 0) rz3).trans rfl) (frozen_of_row _ _ 0 _ 27 rz3)) ⟨hM9, ?_⟩
                      try simp only [Act.put, sI, sZ, sS]
                      refine take_op (i := 10) (d := 17) (OP := Op.assign (Operand.tmp 103)) (T := 28) (v := ?v7) rfl rfl rfl rfl (by kernel_rfl) (by kernel_rfl) (by kernel_rfl) (fun _ _ _ h => h) (by rfl) ?h7 hM9 ?r7
                      case h7 => (intro w' hSw; (try dsimp only at hSw); go_simp <;> with_reducible rfl)
                      try simp only [Act.put, sI, sZ, sS]
                      refine wpAnyH_done (by kernel_rfl) ?_ _
                      have mg9 := (mg'.below bz3).aside rz3 o9
                      have bl9 := Below.only bbz3 o9 bbz3.size (fun k e => by have e' : k = z2.heap.size := e; have := bbz2.size; omega)
                      have HE9 := hide (And.intro u9 (And.intro hpt (And.intro mg9 (And.intro hl' bl9))))
                      clear mg9 bl9 hpt hl' u9 o9
                      go_wp2
                      go_meet
                      obtain ⟨u9, hpt, mg9, hl', bl9⟩ := HE9.out
                      exact ⟨z2.heap.size, pt, t', rfl, rfl, hide ⟨⟨by simpa using u9, hpt, mg9⟩, hl', bl9⟩⟩
                    · try simp only [Act.put, sI, sZ, sS]
                      refine call_op (i := 4) (d := 101) (OP := Op.call { callee := Callee.value (Operand.func 30), args := #[Operand.tmp 97, Operand.tmp 99, Operand.tmp 100], argTypes := #[27, 43, 9] }) (T := 29) (f := 30) (args := #[.agg #[.pointer p], .agg #[.int .i64 1, .int .i64 0, .string ⟨#[97]⟩, .int .i64 1, .int .i64 0], .string X]) rfl rfl rfl rfl (by kernel_rfl) (by rfl) (by go_simp) ?_
                      refine (hW  _ bby2).mono ?_
                      rintro e z4 ⟨t', pt, hpt, rfl, mg', hl', bz4⟩
                      have hz4 : z4.cell? ⟨Mb, 0, none⟩ = some (.pointer p) := cell_stays hy2 bz4
                      have bbz4 := bby2.trans (bz4.mono bby2.size)
                      refine ⟨_, rfl, hz4, ?_⟩
                      try simp only [Act.put, sI, sZ, sS]
                      have rz4 := (bz4.block _ (gI ry2).1).trans ry2
                      refine take_op (i := 5) (d := 96) (OP := Op.move (Operand.tmp 101)) (T := 29) (v := ?v8) rfl rfl rfl rfl (by kernel_rfl) (by kernel_rfl) (by kernel_rfl) (fun _ _ _ h => h) (by rfl) ?h8 hz4 ?r8
                      case h8 => (intro w' hSw; (try dsimp only at hSw); go_simp <;> with_reducible rfl)
                      try simp only [Act.put, sI, sZ, sS]
                      refine take_op (i := 6) (d := 102) (OP := Op.extract (Operand.tmp 96) 0) (T := 27) (v := ?v9) rfl rfl rfl rfl (by kernel_rfl) (by kernel_rfl) (by kernel_rfl) (fun _ _ _ h => h) (by rfl) ?h9 hz4 ?r9
                      case h9 => (intro w' hSw; (try dsimp only at hSw); go_simp <;> with_reducible rfl)
                      try simp only [Act.put, sI, sZ, sS]
                      refine take_op (i := 7) (d := 103) (OP := Op.extract (Operand.tmp 96) 1) (T := 28) (v := ?v10) rfl rfl rfl rfl (by kernel_rfl) (by kernel_rfl) (by kernel_rfl) (fun _ _ _ h => h) (by rfl) ?h10 hz4 ?r10
                      case h10 => (intro w' hSw; (try dsimp only at hSw); go_simp <;> with_reducible rfl)
                      try simp only [Act.put, sI, sZ, sS]
                      obtain ⟨u9, o9⟩ := set_one (i := 0) (.pointer pt) rz4
                      have hM9 : (z4.setCell ⟨z1.heap.size, 0, none⟩ (.pointer pt)).cell? ⟨Mb, 0, none⟩ = some (.pointer p) := o9.cell hz4 (by simp only; have := HLT.out; have := bbz1.size; omega)
                      refine skip_op (i := 9) (OP := Op.store 27 (Operand.tmp 16) (Operand.tmp 102)) (T := 0) (w' := z4.setCell ⟨z1.heap.size, 0, none⟩ (.pointer pt)) rfl rfl rfl rfl (by kernel_rfl) (by rfl) (exec_st27 rfl rfl ((cell_of_row _ _ 0 _ 27 (0, 0) rz4).trans rfl) (frozen_of_row _ _ 0 _ 27 rz4)) ⟨hM9, ?_⟩
                      try simp only [Act.put, sI, sZ, sS]
                      refine take_op (i := 10) (d := 17) (OP := Op.assign (Operand.tmp 103)) (T := 28) (v := ?v11) rfl rfl rfl rfl (by kernel_rfl) (by kernel_rfl) (by kernel_rfl) (fun _ _ _ h => h) (by rfl) ?h11 hM9 ?r11
                      case h11 => (intro w' hSw; (try dsimp only at hSw); go_simp <;> with_reducible rfl)
                      try simp only [Act.put, sI, sZ, sS]
                      refine wpAnyH_done (by kernel_rfl) ?_ _
                      have mg9 := mg'.aside rz4 o9
                      have bl9 := Below.only bbz4 o9 bbz4.size (fun k e => by have e' : k = z1.heap.size := e; have := bbz1.size; omega)
                      have HE9 := hide (And.intro u9 (And.intro hpt (And.intro mg9 (And.intro hl' bl9))))
                      clear mg9 bl9 hpt hl' u9 o9
                      go_wp2
                      go_meet
                      obtain ⟨u9, hpt, mg9, hl', bl9⟩ := HE9.out
                      exact ⟨z1.heap.size, pt, t', rfl, rfl, hide ⟨⟨by simpa using u9, hpt, mg9⟩, hl', bl9⟩⟩
                  · try simp only [Act.put, sI, sZ, sS]
                    refine call_op (i := 1) (d := 98) (OP := Op.call { callee := Callee.value (Operand.func 31), args := #[Operand.const (Value.int IntKind.i64 1), Operand.const (Value.string { data := #[] })], argTypes := #[2, 9] }) (T := 53) (f := 31) (args := #[.int .i64 1, .string ⟨#[]⟩]) rfl rfl rfl rfl (by kernel_rfl) (by rfl) (by go_simp) ?_
                    refine (at31 1 ⟨#[]⟩ _).mono ?_
                    rintro e z5 ⟨rfl, bz5⟩
                    have hz5 : z5.cell? ⟨Mb, 0, none⟩ = some (.pointer p) := cell_stays hy1 bz5
                    have bbz5 := bby1.trans (bz5.mono bby1.size)
                    refine ⟨_, rfl, hz5, ?_⟩
                    try simp only [Act.put, sI, sZ, sS]
                    refine take_op (i := 2) (d := 99) (OP := Op.field 53 (Operand.tmp 98) 0) (T := 43) (v := .agg #[.int .i64 1, .int .i64 0, .string ⟨#[97]⟩, .int .i64 1, .int .i64 0]) rfl rfl rfl rfl (by kernel_rfl) (by kernel_rfl) (by kernel_rfl) (fun _ _ _ h => h) (by rfl) ?h12 hz5 ?r12
                    case h12 => (intro w' hSw; exact exec_fld53 rfl)
                    try simp only [Act.put, sI, sZ, sS]
                    refine call_op (i := 4) (d := 101) (OP := Op.call { callee := Callee.value (Operand.func 30), args := #[Operand.tmp 97, Operand.tmp 99, Operand.tmp 100], argTypes := #[27, 43, 9] }) (T := 29) (f := 30) (args := #[.agg #[.pointer p], .agg #[.int .i64 1, .int .i64 0, .string ⟨#[97]⟩, .int .i64 1, .int .i64 0], .string X]) rfl rfl rfl rfl (by kernel_rfl) (by rfl) (by go_simp) ?_
                    refine (hW  _ bbz5).mono ?_
                    rintro e z6 ⟨t', pt, hpt, rfl, mg', hl', bz6⟩
                    have hz6 : z6.cell? ⟨Mb, 0, none⟩ = some (.pointer p) := cell_stays hz5 bz6
                    have bbz6 := bbz5.trans (bz6.mono bbz5.size)
                    refine ⟨_, rfl, hz6, ?_⟩
                    try simp only [Act.put, sI, sZ, sS]
                    have rz6 := (bz6.block _ (gI ((bz5.block _ (gI ry1).1).trans ry1)).1).trans ((bz5.block _ (gI ry1).1).trans ry1)
                    refine take_op (i := 5) (d := 96) (OP := Op.move (Operand.tmp 101)) (T := 29) (v := ?v13) rfl rfl rfl rfl (by kernel_rfl) (by kernel_rfl) (by kernel_rfl) (fun _ _ _ h => h) (by rfl) ?h13 hz6 ?r13
                    case h13 => (intro w' hSw; (try dsimp only at hSw); go_simp <;> with_reducible rfl)
                    try simp only [Act.put, sI, sZ, sS]
                    refine take_op (i := 6) (d := 102) (OP := Op.extract (Operand.tmp 96) 0) (T := 27) (v := ?v14) rfl rfl rfl rfl (by kernel_rfl) (by kernel_rfl) (by kernel_rfl) (fun _ _ _ h => h) (by rfl) ?h14 hz6 ?r14
                    case h14 => (intro w' hSw; (try dsimp only at hSw); go_simp <;> with_reducible rfl)
                    try simp only [Act.put, sI, sZ, sS]
                    refine take_op (i := 7) (d := 103) (OP := Op.extract (Operand.tmp 96) 1) (T := 28) (v := ?v15) rfl rfl rfl rfl (by kernel_rfl) (by kernel_rfl) (by kernel_rfl) (fun _ _ _ h => h) (by rfl) ?h15 hz6 ?r15
                    case h15 => (intro w' hSw; (try dsimp only at hSw); go_simp <;> with_reducible rfl)
                    try simp only [Act.put, sI, sZ, sS]
                    obtain ⟨u9, o9⟩ := set_one (i := 0) (.pointer pt) rz6
                    have hM9 : (z6.setCell ⟨Wd.heap.size, 0, none⟩ (.pointer pt)).cell? ⟨Mb, 0, none⟩ = some (.pointer p) := o9.cell hz6 (by simp only; have := HLT.out; have := b0.size; omega)
                    refine skip_op (i := 9) (OP := Op.store 27 (Operand.tmp 16) (Operand.tmp 102)) (T := 0) (w' := z6.setCell ⟨Wd.heap.size, 0, none⟩ (.pointer pt)) rfl rfl rfl rfl (by kernel_rfl) (by rfl) (exec_st27 rfl rfl ((cell_of_row _ _ 0 _ 27 (0, 0) rz6).trans rfl) (frozen_of_row _ _ 0 _ 27 rz6)) ⟨hM9, ?_⟩
                    try simp only [Act.put, sI, sZ, sS]
                    refine take_op (i := 10) (d := 17) (OP := Op.assign (Operand.tmp 103)) (T := 28) (v := ?v16) rfl rfl rfl rfl (by kernel_rfl) (by kernel_rfl) (by kernel_rfl) (fun _ _ _ h => h) (by rfl) ?h16 hM9 ?r16
                    case h16 => (intro w' hSw; (try dsimp only at hSw); go_simp <;> with_reducible rfl)
                    try simp only [Act.put, sI, sZ, sS]
                    refine wpAnyH_done (by kernel_rfl) ?_ _
                    have mg9 := mg'.aside rz6 o9
                    have bl9 := Below.only bbz6 o9 bbz6.size (fun k e => by have e' : k = Wd.heap.size := e; have := b0.size; omega)
                    have HE9 := hide (And.intro u9 (And.intro hpt (And.intro mg9 (And.intro hl' bl9))))
                    clear mg9 bl9 hpt hl' u9 o9
                    go_wp2
                    go_meet
                    obtain ⟨u9, hpt, mg9, hl', bl9⟩ := HE9.out
                    exact ⟨Wd.heap.size, pt, t', rfl, rfl, hide ⟨⟨by simpa using u9, hpt, mg9⟩, hl', bl9⟩⟩
              case rest =>
                obtain ⟨_, _, _, rfl, rfl, HQ⟩ := hcut
                have b5c := HQ.out.2.2
                replace HB := hide (HB.out.trans (b5c.mono HB.out.size)); replace cM := cell_stays cM b5c; replace cZ := cell_stays cZ b5c
                clear b5c HLT HQ hin
                have tk : True := trivial
                go_upto_region 26 with (first
                  | (go_at_call 32; refine (hrm _ HB.out).mono ?_; rintro e w6 ⟨p6, rfl, b6⟩; replace b6 := b6.trans (((Below.refl _ w6).alloc (Nat.le_refl _) (.cells #[.pointer p6] 27)).mono b6.size); replace HB := hide (HB.out.trans (b6.mono HB.out.size)); replace cM := cell_stays cM b6; replace cZ := cell_stays cZ b6; clear b6; dsimp only)
                  | (go_at_call 33; refine (htx _ HB.out).mono ?_; rintro e w7 ⟨a7, n7, c7, rfl, b7⟩; replace HB := hide (HB.out.trans (b7.mono HB.out.size)); replace cM := cell_stays cM b7; replace cZ := cell_stays cZ b7; clear b7; dsimp only)
                  | (go_at_call 34; clear tk; refine (ht1 _ HB.out).mono ?_; rintro e w8 ⟨rfl, b8⟩; replace b8 := b8.trans (((Below.refl _ w8).alloc (Nat.le_refl _) (.cells #[.pointer none] 27)).mono b8.size); replace HB := hide (HB.out.trans (b8.mono HB.out.size)); replace cM := cell_stays cM b8; replace cZ := cell_stays cZ b8; clear b8; dsimp only)
                  | (go_at_call 34; refine (ht2 _ HB.out).mono ?_; rintro e w9 ⟨rfl, b9⟩; replace b9 := b9.trans (((Below.refl _ w9).alloc (Nat.le_refl _) (.cells #[.pointer none] 27)).mono b9.size); replace HB := hide (HB.out.trans (b9.mono HB.out.size)); replace cM := cell_stays cM b9; replace cZ := cell_stays cZ b9; clear b9; dsimp only))
                clear hrm htx ht1 ht2 cZ
                obtain ⟨W9, hW9⟩ : ∃ q, q = w9.alloc (.cells #[.pointer none] 27) := ⟨_, rfl⟩
                rw [← hW9] at HB cM ⊢
                clear hW9
                have ha := hal _ HB.out
                unfold AllE at ha
                have hnil := fun (f : Fn) (x y : Array Value) W => fn_nil68 f x y W
                go_wp2_with (go_at_call 35; refine ha.mono ?_; rintro e wA ⟨Lb, a0, cl, rfl, hL, hO, hLb, bA⟩; have HX := hide (And.intro hL (And.intro hO (And.intro hLb bA))); clear hL hO hLb bA; dsimp only)
                clear ha hal hnil
                obtain ⟨hL, hO, hLb, bA⟩ := HX.out
                have hLlt := (gI hL).1
                have hab : ∀ a, a0 = some a → a.block < wA.heap.size := fun a ha => by
                  rcases hO.shape with ⟨e1, -⟩ | ⟨g, cap, e1, h2, h3, -⟩
                  · injection e1 with q1; rw [q1] at ha; cases ha
                  · injection e1 with q1; rw [q1] at ha; injection ha with ha; rw [← ha]; exact h3
                have hit := iterG [] Lb a0 cl wA (by simp) ((cell_of_row _ _ 0 _ 22 (0, 0) hL).trans rfl) hO.re hab
                have hKlt : ∀ j, KG Lb a0 j → j < wA.heap.size := fun j hj => by
                  rcases hj with rfl | ⟨a, ha, rfl⟩
                  · exact hLlt
                  · exact hab a ha
                have HBA := hide (And.intro (HB.out.trans (bA.mono HB.out.size)) (cell_stays cM bA))
                clear hL hO hLb bA hLlt hab HX cM HB
                refine range_ir (Q := _) 133 enters133 _ (gA [] []) EG _ hit rfl (fun B W x args ⟨a, c, e, _⟩ => by rw [e]; rfl) hKlt (fun _ => False) (fun j e => e.elim) (fun j e => e.elim)
                  (fun B k W => Only (fun j => B ≤ j) wA W) (fun _ _ _ => False)
                  (fun B k W W' hB hi ho => hi.trans ho (fun j hj e => by have e' : wA.heap.size + 1 ≤ j ∧ j < B := e; omega)) (fun B c W W' hB hi ho => hi) (fun B W hb hB => below_only hb) ?hround ?hdone (fun B c W hB hi => hi.elim)
                case hround =>
                  rintro B c x args W hB hx
                  simp [gA] at hx
                case hdone =>
                  rintro B W hB hi hlt hk0
                  have bW : Below wA.heap.size wA W := Below.only (Below.refl _ _) hi (Nat.le_refl _) (fun j e => by have e' : B ≤ j := e; omega)
                  have HBW := hide (HBA.out.1.trans (bW.mono HBA.out.1.size))
                  have cMW := cell_stays HBA.out.2 bW
                  have HKK := hide hk0
                  have HSZ := hide (show wR.heap.size ≤ wA.heap.size from Nat.le_trans HBQ.out.size HBA.out.1.size)
                  clear hit hKlt hi hlt hk0 bW HBA hB
                  go_wp2_with (first
                    | (go_at_call 20; refine (hnm _ _).mono ?_; rintro e wz ⟨rfl, rfl⟩; dsimp only)
                    | (go_at_call 36; refine (hhs _ HBW.out).mono ?_; rintro e wb ⟨rfl, bb⟩; have HB2 := hide (HBW.out.trans (bb.mono HBW.out.size)); have cM2 := cell_stays cMW bb; replace HKK := hide ((bb.block _ (gI HKK.out).1).trans HKK.out); clear bb; dsimp only)
                    | (go_at_call 37; refine (htg _ HB2.out).mono ?_; rintro e wc ⟨at9, ct9, rfl, bc⟩; have HB3 := hide (HB2.out.trans (bc.mono HB2.out.size)); replace HKK := hide ((bc.block _ (gI HKK.out).1).trans HKK.out); clear bc; dsimp only)
                    | (go_at_call 17; refine (hkn _).mono ?_; rintro e wd ⟨rfl, bd⟩; have HB4 := hide (HBQ.out.trans ((HB3.out.trans (bd.mono HB3.out.size)).mono HBQ.out.size)); replace HKK := hide ((bd.block _ (gI HKK.out).1).trans HKK.out); obtain ⟨x1, x2, x3⟩ := HF.out wd HB4.out; have H9 := hide (x3 true); clear bd x3; dsimp only))
                  refine ret_lv ?_
                  dsimp only
                  obtain ⟨v1, v2, v3⟩ := H9.out.out
                  have hne : ¬ wA.heap.size = Rb := by have := HSZ.out; have := HW.out.2.1; have := HW.out.2.2.1; omega
                  have hk9 := (v3.block _ (gI HKK.out).1 hne).trans HKK.out
                  have o10 := only_putObj (wd.setCell ⟨Rb, 0, none⟩ (.bool true)) wA.heap.size (.deferred none)
                  refine leave_mark hk9 (leave_cell1 Rb rfl rfl (o10.cell v1 (fun e => hne e.symm)) ?_)
                  exact ⟨rfl, Below.only v2 o10 v2.size (fun j e => by have e' : j = wA.heap.size := e; have := HSZ.out; have := HW.out.2.2.1; omega)⟩
end Go.Proofs.YtkkpdgfllnbigaaGreat.Tg
