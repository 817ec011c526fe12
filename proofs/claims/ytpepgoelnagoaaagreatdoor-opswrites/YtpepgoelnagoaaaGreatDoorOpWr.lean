/-
  OPS: OpsWrites 3, its walk.
-/
import Derived.Test.YtpepgoelnagoaaaGreatDoorMg18
namespace Go.Proofs.YtpepgoelnagoaaaGreatDoor
open Go.RowKit Go.Shelf
set_option linter.unusedSimpArgs false
set_option linter.unusedVariables false
attribute [local go_sem] Oper.semAt_some

theorem SmallL.plen {l : List Od} (h : SmallL l) : ∀ o ∈ l, o.p.length ≤ 1000000 := fun o ho => by have := h.path o ho; omega

set_option maxHeartbeats 16000000 in
set_option maxRecDepth 100000 in
theorem writes_walk {w : World} {ao : Option Addr} {c : Nat} (l : List Od) (h : Rq w ao l) (hn : ∀ o ∈ l, I64 o.n) (hE : EnvO w) : Calls Tryz.prog 3 #[.slice ao l.length c] w fun e w' => e = .returned (.bool true) ∧ Below w.heap.size w w' := by
  have k8 := small8_any ao c l w h
  have k9 : ∀ W, Below w.heap.size w W → Calls Tryz.prog 9 #[] W fun e w' => e = .returned (.bool true) ∧ Below W.heap.size W w' := fun W hW => known9_any (hE.below hW)
  have k14 := fun n W => num14_any n W
  go_enter Tryz.func3, Tryz.ntmps3
  go_upto_region 1 with fail
  go_wp2_with fail
  refine k8.mono ?_
  rintro e w1 ⟨b, rfl, hb, d1⟩
  have D1 := hide d1
  clear d1 k8
  cases b
  · clear hb
    go_wp2_with (go_at_call 9; refine (k9 _ D1.out).mono ?_; rintro e w2 ⟨rfl, d2⟩; have D2 := hide d2; clear d2)
    go_ret
    exact ⟨rfl, up D1.out D2.out⟩
  have hsm := hb rfl
  clear hb
  have k10 := copy10_any ao c l w1 (h.below D1.out) (by have := hsm.len; omega) hsm.plen
  go_upto_region 4 with (go_at_call 10; refine k10.mono ?_; rintro e w2 ⟨v, rfl, xs, hxs, ho, d2⟩; have D2 := hide (up D1.out d2); have HXS := hide (And.intro hxs ho); clear hxs ho d2 k10)
  obtain ⟨a3, c3, rfl, hrq, -, -, -⟩ := HXS.out.2.shape
  rw [HXS.out.1] at hrq
  have hxl : xs.length = l.length := by have := congrArg List.length HXS.out.1; simpa using this
  rw [hxl]
  have HO := hide hrq
  clear hrq hxl HXS D1
  have HSM := hide (And.intro hsm (And.intro h (And.intro hn hE)))
  have hl120 := hsm.len
  clear hsm h hn hE
  go_wp2
  go_loopw [4] (fun v4 wr => ∃ (j : Nat), j ≤ l.length ∧ v4 = .int .i64 (j : Nat) ∧ Hid (Below w2.heap.size w2 wr))
    (fun v4 _ => l.length - (intOf v4).toNat)
  case atStart => exact ⟨0, Nat.zero_le _, rfl, hide (Below.refl _ _)⟩
  case round =>
    obtain ⟨j, hj, rfl, HB⟩ := hrel
    by_cases hlt : j < l.length
    · obtain ⟨x, hx⟩ : ∃ q, l[j]? = some q := ⟨_, List.getElem?_eq_getElem hlt⟩
      have hxn := HSM.out.2.2.1 x (List.mem_of_getElem? hx)
      obtain ⟨ob, oo, oa, oc, rfl, op, o0, o1, o2, o3, o4, o5⟩ := (HO.out.below HB.out) j x hx
      obtain ⟨xb, xo, xa, xc, rfl, xp, x0, x1, x2, x3, x4, x5⟩ := ((HSM.out.2.1.below D2.out).below HB.out) j x hx
      have hEn : EnvO wr := (HSM.out.2.2.2.below D2.out).below HB.out
      have k11 := bytesO_any (pc := oc) x op hxn hEn.tabs
      have k12 := fun W (hW : Below wr.heap.size wr W) => textP_any (pc := oc) x (op.below hW) hxn (hEn.below hW)
      have k13 := fun W (hW : Below wr.heap.size wr W) => refChk_any (pc := xc) x (xp.below hW).rs
      have HRP := hide (And.intro xp (And.intro hEn hxn))
      have k15 : chkO x = 0 → ∀ W, Below wr.heap.size wr W → Calls Tryz.prog 15 #[odv xa x.p.length xc x] W fun e w' => Made 5 W w' e (frO x) := fun h0 W hW => refForm_any x (xp.below hW) (ok_of h0) hxn
      have k16 : chkO x = 0 → ∀ W, Below wr.heap.size wr W → Calls Tryz.prog 16 #[odv xa x.p.length xc x] W fun e w' => e = .returned (.string ⟨(txO x).toArray⟩) ∧ Below W.heap.size W w' := fun h0 W hW => refText16_any x (xp.below hW) (ok_of h0) hxn (hEn.below hW)
      have hfe : Hid (chkO x = 0 → frE x = frO x ∧ txE x = ⟨(txO x).toArray⟩) := hide (fun h0 => ⟨if_pos h0, if_pos h0⟩)
      have hfn : Hid (chkO x ≠ 0 → frE x = [] ∧ txE x = ⟨#[]⟩) := hide (fun h0 => ⟨if_neg h0, if_neg h0⟩)
      obtain ⟨F, hF⟩ : ∃ q, q = frE x := ⟨_, rfl⟩
      obtain ⟨TX, hT⟩ : ∃ q, q = txE x := ⟨_, rfl⟩
      obtain ⟨E, hEE⟩ : ∃ q, q = chkO x := ⟨_, rfl⟩
      obtain ⟨F1, hF1⟩ : ∃ q, q = frO x := ⟨_, rfl⟩
      obtain ⟨T1, hT1⟩ : ∃ q, q = (⟨(txO x).toArray⟩ : ByteArray) := ⟨_, rfl⟩
      rw [← hF, ← hEE] at k11
      simp only [← hT, ← hEE] at k12
      simp only [← hEE] at k13
      rw [← hEE, ← hF1] at k15
      rw [← hEE, ← hT1] at k16
      rw [← hF, ← hT, ← hEE, ← hF1, ← hT1] at hfe
      rw [← hF, ← hT, ← hEE] at hfn
      clear hF hT hEE hF1 hT1 hx hxn op xp hEn HRP
      obtain ⟨xp, xk, xs, xd, xn, xt⟩ := x
      dsimp only at o0 o1 o2 o3 o4 o5 x0 x1 x2 x3 x4 x5 k11 k12 k13 k15 k16
      obtain ⟨xN, hxN⟩ : ∃ q, q = xp.length := ⟨_, rfl⟩
      rw [← hxN] at o0 x0 k11 k15 k16
      simp only [← hxN] at k12 k13
      clear hxN
      have HC0 := hide (And.intro x0 (And.intro x1 (And.intro x2 (And.intro x3 (And.intro x4 x5)))))
      have HO0 := hide (And.intro o0 (And.intro o1 (And.intro o2 (And.intro o3 (And.intro o4 o5)))))
      clear x0 x1 x2 x3 x4 x5
      go_upto_region 8 with (go_at_call 11; refine k11.mono ?_; rintro e w7 ⟨a5, c5, rfl, O5, n5, d7⟩; have D7 := hide d7; have HF0 := hide O5.rd; clear O5 d7 k11 o0 o1 o2 o3 o4 o5)
      obtain ⟨o0, o1, o2, o3, o4, o5⟩ := Ki.keepC6 HO0.out D7.out
      go_upto_region 9 with (go_at_call 12; refine (k12 _ D7.out).mono ?_; rintro e w8 ⟨rfl, d8⟩; have D8 := hide (up D7.out d8); have HF1 := hide (HF0.out.below d8); clear d8 k12 o0 o1 o2 o3 o4 o5 HF0)
      obtain ⟨x0, x1, x2, x3, x4, x5⟩ := Ki.keepC6 HC0.out D8.out
      go_upto_region 10 with (go_at_call 13; refine (k13 _ D8.out).mono ?_; rintro e w9 ⟨rfl, d9⟩; have D9 := hide (up D8.out d9); have HF := hide (HF1.out.below d9); clear d9 k13 x0 x1 x2 x3 x4 x5 HF1)
      have HC := hide (fun W (hW : Below w9.heap.size w9 W) => Ki.keepC6 HC0.out (up D9.out hW))
      clear HC0 HO0 D7 D8
      by_cases h0 : E = 0
      · subst h0
        obtain ⟨e1, e2⟩ := hfe.out rfl
        subst e1
        subst e2
        have k15 := fun W (hW : Below w9.heap.size w9 W) => k15 rfl W (up D9.out hW)
        have k16 := fun W (hW : Below w9.heap.size w9 W) => k16 rfl W (up D9.out hW)
        obtain ⟨X, hX⟩ : ∃ q, q = strOfNums F := ⟨_, rfl⟩
        have HXX := hide hX
        clear hX
        have HS : Hid (∀ W, Below w9.heap.size w9 W → (W.cell? ⟨xb, xo + j * 6, none⟩ = some (.slice xa xN xc) ∧ W.cell? ⟨xb, xo + j * 6 + 1, none⟩ = some (.int .i64 xk) ∧ W.cell? ⟨xb, xo + j * 6 + 2, none⟩ = some (.string xs) ∧ W.cell? ⟨xb, xo + j * 6 + 3, none⟩ = some (.int .i64 xd) ∧ W.cell? ⟨xb, xo + j * 6 + 4, none⟩ = some (.int .i64 xn) ∧ W.cell? ⟨xb, xo + j * 6 + 5, none⟩ = some (.string xt)) ∧ (convert 26 9 (.slice a5 F.length c5)).run Tryz.prog W = .ok (.string X) W) := hide (fun W hW => And.intro (HC.out W hW) (by rw [HXX.out]; exact conv_rd (HF.out.below hW) rfl))
        refine wp_region_held_drew (S := fun w' => (w'.cell? ⟨xb, xo + j * 6, none⟩ = some (.slice xa xN xc) ∧ w'.cell? ⟨xb, xo + j * 6 + 1, none⟩ = some (.int .i64 xk) ∧ w'.cell? ⟨xb, xo + j * 6 + 2, none⟩ = some (.string xs) ∧ w'.cell? ⟨xb, xo + j * 6 + 3, none⟩ = some (.int .i64 xd) ∧ w'.cell? ⟨xb, xo + j * 6 + 4, none⟩ = some (.int .i64 xn) ∧ w'.cell? ⟨xb, xo + j * 6 + 5, none⟩ = some (.string xt)) ∧ (convert 26 9 (.slice a5 F.length c5)).run Tryz.prog w' = .ok (.string X) w') (by kernel_rfl) (HS.out _ (Below.refl _ _).drew) (fun hHeld => ?_)
        obtain ⟨Wd, hWd⟩ : ∃ q, q = w9.drew := ⟨_, rfl⟩
        have b0 : Below w9.heap.size w9 Wd := by rw [hWd]; exact (Below.refl _ _).drew
        rw [← hWd] at hHeld ⊢
        clear hWd
        refine take_op (i := 0) (d := 48) (OP := Op.move (Operand.tmp 6)) (T := 27) (v := ?vog14) rfl rfl rfl rfl (by kernel_rfl) (by kernel_rfl) (by kernel_rfl) (fun _ _ _ h => h) (by rfl) ?hog14 hHeld ?rog14
        case hog14 => (intro w' hSw; (try dsimp only at hSw); go_simp <;> with_reducible rfl)
        try simp only [Act.put, List.setIfInBounds_toArray, List.set_cons_zero, List.set_cons_succ]
        refine take_op (i := 2) (d := 50) (OP := Op.move (Operand.tmp 9)) (T := 3) (v := ?vog15) rfl rfl rfl rfl (by kernel_rfl) (by kernel_rfl) (by kernel_rfl) (fun _ _ _ h => h) (by rfl) ?hog15 hHeld ?rog15
        case hog15 => (intro w' hSw; (try dsimp only at hSw); go_simp <;> with_reducible rfl)
        try simp only [Act.put, List.setIfInBounds_toArray, List.set_cons_zero, List.set_cons_succ]
        refine call_op (i := 1) (d := 49) (OP := Op.call { callee := Callee.value (Operand.func 14), args := #[Operand.tmp 48], argTypes := #[27] }) (T := 3) (f := 14) (args := #[.int .i64 0]) rfl rfl rfl rfl (by kernel_rfl) (by rfl) (by go_simp) ?_
        refine (k14 _ _).mono ?_
        rintro e ww ⟨rfl, hww⟩
        have hww := hww.symm
        subst hww
        refine ⟨_, rfl, hHeld, ?_⟩
        try simp only [Act.put, List.setIfInBounds_toArray, List.set_cons_zero, List.set_cons_succ]
        refine take_op (i := 3) (d := 51) (OP := Op.binOp BinOp.neq 3 (Operand.tmp 49) (Operand.tmp 50) 3) (T := 4) (v := ?vog16) rfl rfl rfl rfl (by kernel_rfl) (by kernel_rfl) (by kernel_rfl) (fun _ _ _ h => h) (by rfl) ?hog16 hHeld ?rog16
        case hog16 => (intro w' hSw; (try dsimp only at hSw); go_simp <;> with_reducible rfl)
        try simp only [Act.put, List.setIfInBounds_toArray, List.set_cons_zero, List.set_cons_succ]
        refine take_op (i := 4) (d := 52) (OP := Op.move (Operand.tmp 51)) (T := 4) (v := ?vog17) rfl rfl rfl rfl (by kernel_rfl) (by kernel_rfl) (by kernel_rfl) (fun _ _ _ h => h) (by rfl) ?hog17 hHeld ?rog17
        case hog17 => (intro w' hSw; (try dsimp only at hSw); go_simp <;> with_reducible rfl)
        try simp only [Act.put, List.setIfInBounds_toArray, List.set_cons_zero, List.set_cons_succ]
        refine take_op (i := 5) (d := 53) (OP := Op.move (Operand.tmp 8)) (T := 27) (v := ?vog18) rfl rfl rfl rfl (by kernel_rfl) (by kernel_rfl) (by kernel_rfl) (fun _ _ _ h => h) (by rfl) ?hog18 hHeld ?rog18
        case hog18 => (intro w' hSw; (try dsimp only at hSw); go_simp <;> with_reducible rfl)
        try simp only [Act.put, List.setIfInBounds_toArray, List.set_cons_zero, List.set_cons_succ]
        refine take_op (i := 7) (d := 55) (OP := Op.move (Operand.tmp 9)) (T := 3) (v := ?vog19) rfl rfl rfl rfl (by kernel_rfl) (by kernel_rfl) (by kernel_rfl) (fun _ _ _ h => h) (by rfl) ?hog19 hHeld ?rog19
        case hog19 => (intro w' hSw; (try dsimp only at hSw); go_simp <;> with_reducible rfl)
        try simp only [Act.put, List.setIfInBounds_toArray, List.set_cons_zero, List.set_cons_succ]
        refine call_op (i := 6) (d := 54) (OP := Op.call { callee := Callee.value (Operand.func 14), args := #[Operand.tmp 53], argTypes := #[27] }) (T := 3) (f := 14) (args := #[.int .i64 0]) rfl rfl rfl rfl (by kernel_rfl) (by rfl) (by go_simp) ?_
        refine (k14 _ _).mono ?_
        rintro e ww ⟨rfl, hww⟩
        have hww := hww.symm
        subst hww
        refine ⟨_, rfl, hHeld, ?_⟩
        try simp only [Act.put, List.setIfInBounds_toArray, List.set_cons_zero, List.set_cons_succ]
        refine take_op (i := 8) (d := 56) (OP := Op.binOp BinOp.neq 3 (Operand.tmp 54) (Operand.tmp 55) 3) (T := 4) (v := ?vog20) rfl rfl rfl rfl (by kernel_rfl) (by kernel_rfl) (by kernel_rfl) (fun _ _ _ h => h) (by rfl) ?hog20 hHeld ?rog20
        case hog20 => (intro w' hSw; (try dsimp only at hSw); go_simp <;> with_reducible rfl)
        try simp only [Act.put, List.setIfInBounds_toArray, List.set_cons_zero, List.set_cons_succ]
        refine take_op (i := 9) (d := 57) (OP := Op.pick (Operand.tmp 52) (Operand.const (Value.bool true)) (Operand.tmp 56)) (T := 4) (v := ?vog21) rfl rfl rfl rfl (by kernel_rfl) (by kernel_rfl) (by kernel_rfl) (fun _ _ _ h => h) (by rfl) ?hog21 hHeld ?rog21
        case hog21 => (intro w' hSw; (try dsimp only at hSw); go_simp <;> with_reducible rfl)
        try simp only [Act.put, List.setIfInBounds_toArray, List.set_cons_zero, List.set_cons_succ]
        refine take_op (i := 10) (d := 58) (OP := Op.move (Operand.tmp 57)) (T := 4) (v := ?vog22) rfl rfl rfl rfl (by kernel_rfl) (by kernel_rfl) (by kernel_rfl) (fun _ _ _ h => h) (by rfl) ?hog22 hHeld ?rog22
        case hog22 => (intro w' hSw; (try dsimp only at hSw); go_simp <;> with_reducible rfl)
        try simp only [Act.put, List.setIfInBounds_toArray, List.set_cons_zero, List.set_cons_succ]
        refine take_op (i := 11) (d := 59) (OP := Op.move (Operand.tmp 9)) (T := 3) (v := ?vog23) rfl rfl rfl rfl (by kernel_rfl) (by kernel_rfl) (by kernel_rfl) (fun _ _ _ h => h) (by rfl) ?hog23 hHeld ?rog23
        case hog23 => (intro w' hSw; (try dsimp only at hSw); go_simp <;> with_reducible rfl)
        try simp only [Act.put, List.setIfInBounds_toArray, List.set_cons_zero, List.set_cons_succ]
        refine take_op (i := 12) (d := 60) (OP := Op.binOp BinOp.eql 3 (Operand.tmp 59) (Operand.const (Value.int IntKind.i64 0)) 3) (T := 4) (v := ?vog24) rfl rfl rfl rfl (by kernel_rfl) (by kernel_rfl) (by kernel_rfl) (fun _ _ _ h => h) (by rfl) ?hog24 hHeld ?rog24
        case hog24 => (intro w' hSw; (try dsimp only at hSw); go_simp <;> with_reducible rfl)
        try simp only [Act.put, List.setIfInBounds_toArray, List.set_cons_zero, List.set_cons_succ]
        refine take_op (i := 13) (d := 61) (OP := Op.move (Operand.tmp 60)) (T := 4) (v := ?vog25) rfl rfl rfl rfl (by kernel_rfl) (by kernel_rfl) (by kernel_rfl) (fun _ _ _ h => h) (by rfl) ?hog25 hHeld ?rog25
        case hog25 => (intro w' hSw; (try dsimp only at hSw); go_simp <;> with_reducible rfl)
        try simp only [Act.put, List.setIfInBounds_toArray, List.set_cons_zero, List.set_cons_succ]
        refine take_op (i := 14) (d := 62) (OP := Op.move (Operand.tmp 5)) (T := 26) (v := ?vog26) rfl rfl rfl rfl (by kernel_rfl) (by kernel_rfl) (by kernel_rfl) (fun _ _ _ h => h) (by rfl) ?hog26 hHeld ?rog26
        case hog26 => (intro w' hSw; (try dsimp only at hSw); go_simp <;> with_reducible rfl)
        try simp only [Act.put, List.setIfInBounds_toArray, List.set_cons_zero, List.set_cons_succ]
        refine take_op (i := 15) (d := 63) (OP := Op.convert 26 9 (Operand.tmp 62)) (T := 9) (v := ?vog27) rfl rfl rfl rfl (by kernel_rfl) (by kernel_rfl) (by kernel_rfl) (fun _ _ _ h => h) (by rfl) ?hog27 hHeld ?rog27
        case hog27 => (intro w' hSw; (try dsimp only at hSw); go_simp <;> with_reducible rfl)
        try simp only [Act.put, List.setIfInBounds_toArray, List.set_cons_zero, List.set_cons_succ]
        refine take_op (i := 16) (d := 64) (OP := Op.move (Operand.tmp 0)) (T := 22) (v := ?vog28) rfl rfl rfl rfl (by kernel_rfl) (by kernel_rfl) (by kernel_rfl) (fun _ _ _ h => h) (by rfl) ?hog28 hHeld ?rog28
        case hog28 => (intro w' hSw; (try dsimp only at hSw); go_simp <;> with_reducible rfl)
        try simp only [Act.put, List.setIfInBounds_toArray, List.set_cons_zero, List.set_cons_succ]
        refine take_op (i := 17) (d := 65) (OP := Op.move (Operand.tmp 4)) (T := 3) (v := ?vog29) rfl rfl rfl rfl (by kernel_rfl) (by kernel_rfl) (by kernel_rfl) (fun _ _ _ h => h) (by rfl) ?hog29 hHeld ?rog29
        case hog29 => (intro w' hSw; (try dsimp only at hSw); go_simp <;> with_reducible rfl)
        try simp only [Act.put, List.setIfInBounds_toArray, List.set_cons_zero, List.set_cons_succ]
        refine take_op (i := 18) (d := 66) (OP := Op.indexAddr 22 (Operand.tmp 64) (Operand.tmp 65)) (T := 0) (v := ?vog30) rfl rfl rfl rfl (by kernel_rfl) (by kernel_rfl) (by kernel_rfl) (fun _ _ _ h => h) (by rfl) ?hog30 hHeld ?rog30
        case hog30 => (intro w' hSw; (try dsimp only at hSw); go_simp <;> with_reducible rfl)
        try simp only [Act.put, List.setIfInBounds_toArray, List.set_cons_zero, List.set_cons_succ]
        refine take_op (i := 19) (d := 67) (OP := Op.load 34 (Operand.tmp 66)) (T := 34) (v := ?vog31) rfl rfl rfl rfl (by kernel_rfl) (by kernel_rfl) (by kernel_rfl) (fun _ _ _ h => h) (by rfl) ?hog31 hHeld ?rog31
        case hog31 => (intro w' hSw; (try dsimp only at hSw); go_simp <;> with_reducible rfl)
        try simp only [Act.put, List.setIfInBounds_toArray, List.set_cons_zero, List.set_cons_succ]
        refine call_op (i := 20) (d := 68) (OP := Op.call { callee := Callee.value (Operand.func 15), args := #[Operand.tmp 67], argTypes := #[34] }) (T := 26) (f := 15) (args := #[.agg #[.slice xa xN xc, .int .i64 xk, .string xs, .int .i64 xd, .int .i64 xn, .string xt]]) rfl rfl rfl rfl (by kernel_rfl) (by rfl) (by go_simp) ?_
        refine (k15 _ b0).mono ?_
        rintro e y1 ⟨a15, c15, rfl, O15, -, dy1⟩
        have by1 := b0.trans (dy1.mono b0.size)
        have sy1 := HS.out y1 by1
        refine ⟨_, rfl, sy1, ?_⟩
        refine wpAnyH_mono (S' := fun w' => ((w'.cell? ⟨xb, xo + j * 6, none⟩ = some (.slice xa xN xc) ∧ w'.cell? ⟨xb, xo + j * 6 + 1, none⟩ = some (.int .i64 xk) ∧ w'.cell? ⟨xb, xo + j * 6 + 2, none⟩ = some (.string xs) ∧ w'.cell? ⟨xb, xo + j * 6 + 3, none⟩ = some (.int .i64 xd) ∧ w'.cell? ⟨xb, xo + j * 6 + 4, none⟩ = some (.int .i64 xn) ∧ w'.cell? ⟨xb, xo + j * 6 + 5, none⟩ = some (.string xt)) ∧ (convert 26 9 (.slice a5 F.length c5)).run Tryz.prog w' = .ok (.string X) w') ∧ (convert 26 9 (.slice a15 F.length c15)).run Tryz.prog w' = .ok (.string X) w') (fun _ h => h.1) ?_
        have HS2 : Hid (∀ W, Below y1.heap.size y1 W → ((W.cell? ⟨xb, xo + j * 6, none⟩ = some (.slice xa xN xc) ∧ W.cell? ⟨xb, xo + j * 6 + 1, none⟩ = some (.int .i64 xk) ∧ W.cell? ⟨xb, xo + j * 6 + 2, none⟩ = some (.string xs) ∧ W.cell? ⟨xb, xo + j * 6 + 3, none⟩ = some (.int .i64 xd) ∧ W.cell? ⟨xb, xo + j * 6 + 4, none⟩ = some (.int .i64 xn) ∧ W.cell? ⟨xb, xo + j * 6 + 5, none⟩ = some (.string xt)) ∧ (convert 26 9 (.slice a5 F.length c5)).run Tryz.prog W = .ok (.string X) W) ∧ (convert 26 9 (.slice a15 F.length c15)).run Tryz.prog W = .ok (.string X) W) := hide (fun W hW => And.intro (HS.out W (by1.trans (hW.mono by1.size))) (by rw [HXX.out]; exact conv_rd (O15.rd.below hW) rfl))
        replace hHeld := HS2.out y1 (Below.refl _ _)
        clear sy1 O15
        try simp only [Act.put, List.setIfInBounds_toArray, List.set_cons_zero, List.set_cons_succ]
        refine take_op (i := 21) (d := 69) (OP := Op.convert 26 9 (Operand.tmp 68)) (T := 9) (v := ?vog32) rfl rfl rfl rfl (by kernel_rfl) (by kernel_rfl) (by kernel_rfl) (fun _ _ _ h => h) (by rfl) ?hog32 hHeld ?rog32
        case hog32 => (intro w' hSw; (try dsimp only at hSw); go_simp <;> with_reducible rfl)
        try simp only [Act.put, List.setIfInBounds_toArray, List.set_cons_zero, List.set_cons_succ]
        refine take_op (i := 22) (d := 70) (OP := Op.binOp BinOp.neq 9 (Operand.tmp 63) (Operand.tmp 69) 9) (T := 4) (v := ?vog33) rfl rfl rfl rfl (by kernel_rfl) (by kernel_rfl) (by kernel_rfl) (fun _ _ _ h => h) (by rfl) ?hog33 hHeld ?rog33
        case hog33 => (intro w' hSw; (try dsimp only at hSw); go_simp <;> with_reducible rfl)
        try simp only [Act.put, List.setIfInBounds_toArray, List.set_cons_zero, List.set_cons_succ]
        refine take_op (i := 23) (d := 71) (OP := Op.move (Operand.tmp 70)) (T := 4) (v := ?vog34) rfl rfl rfl rfl (by kernel_rfl) (by kernel_rfl) (by kernel_rfl) (fun _ _ _ h => h) (by rfl) ?hog34 hHeld ?rog34
        case hog34 => (intro w' hSw; (try dsimp only at hSw); go_simp <;> with_reducible rfl)
        try simp only [Act.put, List.setIfInBounds_toArray, List.set_cons_zero, List.set_cons_succ]
        refine take_op (i := 24) (d := 72) (OP := Op.move (Operand.tmp 7)) (T := 9) (v := ?vog35) rfl rfl rfl rfl (by kernel_rfl) (by kernel_rfl) (by kernel_rfl) (fun _ _ _ h => h) (by rfl) ?hog35 hHeld ?rog35
        case hog35 => (intro w' hSw; (try dsimp only at hSw); go_simp <;> with_reducible rfl)
        try simp only [Act.put, List.setIfInBounds_toArray, List.set_cons_zero, List.set_cons_succ]
        refine take_op (i := 25) (d := 73) (OP := Op.move (Operand.tmp 0)) (T := 22) (v := ?vog36) rfl rfl rfl rfl (by kernel_rfl) (by kernel_rfl) (by kernel_rfl) (fun _ _ _ h => h) (by rfl) ?hog36 hHeld ?rog36
        case hog36 => (intro w' hSw; (try dsimp only at hSw); go_simp <;> with_reducible rfl)
        try simp only [Act.put, List.setIfInBounds_toArray, List.set_cons_zero, List.set_cons_succ]
        refine take_op (i := 26) (d := 74) (OP := Op.move (Operand.tmp 4)) (T := 3) (v := ?vog37) rfl rfl rfl rfl (by kernel_rfl) (by kernel_rfl) (by kernel_rfl) (fun _ _ _ h => h) (by rfl) ?hog37 hHeld ?rog37
        case hog37 => (intro w' hSw; (try dsimp only at hSw); go_simp <;> with_reducible rfl)
        try simp only [Act.put, List.setIfInBounds_toArray, List.set_cons_zero, List.set_cons_succ]
        refine take_op (i := 27) (d := 75) (OP := Op.indexAddr 22 (Operand.tmp 73) (Operand.tmp 74)) (T := 0) (v := ?vog38) rfl rfl rfl rfl (by kernel_rfl) (by kernel_rfl) (by kernel_rfl) (fun _ _ _ h => h) (by rfl) ?hog38 hHeld ?rog38
        case hog38 => (intro w' hSw; (try dsimp only at hSw); go_simp <;> with_reducible rfl)
        try simp only [Act.put, List.setIfInBounds_toArray, List.set_cons_zero, List.set_cons_succ]
        refine take_op (i := 28) (d := 76) (OP := Op.load 34 (Operand.tmp 75)) (T := 34) (v := ?vog39) rfl rfl rfl rfl (by kernel_rfl) (by kernel_rfl) (by kernel_rfl) (fun _ _ _ h => h) (by rfl) ?hog39 hHeld ?rog39
        case hog39 => (intro w' hSw; (try dsimp only at hSw); go_simp <;> with_reducible rfl)
        try simp only [Act.put, List.setIfInBounds_toArray, List.set_cons_zero, List.set_cons_succ]
        refine call_op (i := 29) (d := 77) (OP := Op.call { callee := Callee.value (Operand.func 16), args := #[Operand.tmp 76], argTypes := #[34] }) (T := 9) (f := 16) (args := #[.agg #[.slice xa xN xc, .int .i64 xk, .string xs, .int .i64 xd, .int .i64 xn, .string xt]]) rfl rfl rfl rfl (by kernel_rfl) (by rfl) (by go_simp) ?_
        refine (k16 _ by1).mono ?_
        rintro e y2 ⟨rfl, dy2⟩
        have by2 := by1.trans (dy2.mono by1.size)
        have sy2 := HS2.out y2 dy2
        refine ⟨_, rfl, sy2, ?_⟩
        replace hHeld := sy2
        try simp only [Act.put, List.setIfInBounds_toArray, List.set_cons_zero, List.set_cons_succ]
        refine take_op (i := 30) (d := 78) (OP := Op.binOp BinOp.neq 9 (Operand.tmp 72) (Operand.tmp 77) 9) (T := 4) (v := ?vog40) rfl rfl rfl rfl (by kernel_rfl) (by kernel_rfl) (by kernel_rfl) (fun _ _ _ h => h) (by rfl) ?hog40 hHeld ?rog40
        case hog40 => (intro w' hSw; (try dsimp only at hSw); go_simp <;> with_reducible rfl)
        try simp only [Act.put, List.setIfInBounds_toArray, List.set_cons_zero, List.set_cons_succ]
        refine take_op (i := 31) (d := 79) (OP := Op.pick (Operand.tmp 71) (Operand.const (Value.bool true)) (Operand.tmp 78)) (T := 4) (v := ?vog41) rfl rfl rfl rfl (by kernel_rfl) (by kernel_rfl) (by kernel_rfl) (fun _ _ _ h => h) (by rfl) ?hog41 hHeld ?rog41
        case hog41 => (intro w' hSw; (try dsimp only at hSw); go_simp <;> with_reducible rfl)
        try simp only [Act.put, List.setIfInBounds_toArray, List.set_cons_zero, List.set_cons_succ]
        refine take_op (i := 32) (d := 80) (OP := Op.pick (Operand.tmp 61) (Operand.tmp 79) (Operand.const (Value.bool false))) (T := 4) (v := ?vog42) rfl rfl rfl rfl (by kernel_rfl) (by kernel_rfl) (by kernel_rfl) (fun _ _ _ h => h) (by rfl) ?hog42 hHeld ?rog42
        case hog42 => (intro w' hSw; (try dsimp only at hSw); go_simp <;> with_reducible rfl)
        try simp only [Act.put, List.setIfInBounds_toArray, List.set_cons_zero, List.set_cons_succ]
        refine take_op (i := 33) (d := 81) (OP := Op.pick (Operand.tmp 58) (Operand.const (Value.bool true)) (Operand.tmp 80)) (T := 4) (v := ?vog43) rfl rfl rfl rfl (by kernel_rfl) (by kernel_rfl) (by kernel_rfl) (fun _ _ _ h => h) (by rfl) ?hog43 hHeld ?rog43
        case hog43 => (intro w' hSw; (try dsimp only at hSw); go_simp <;> with_reducible rfl)
        try simp only [Act.put, List.setIfInBounds_toArray, List.set_cons_zero, List.set_cons_succ]
        refine take_op (i := 34) (d := 82) (OP := Op.move (Operand.tmp 81)) (T := 4) (v := ?vog44) rfl rfl rfl rfl (by kernel_rfl) (by kernel_rfl) (by kernel_rfl) (fun _ _ _ h => h) (by rfl) ?hog44 hHeld ?rog44
        case hog44 => (intro w' hSw; (try dsimp only at hSw); go_simp <;> with_reducible rfl)
        try simp only [Act.put, List.setIfInBounds_toArray, List.set_cons_zero, List.set_cons_succ]
        refine take_op (i := 35) (d := 83) (OP := Op.move (Operand.tmp 9)) (T := 3) (v := ?vog45) rfl rfl rfl rfl (by kernel_rfl) (by kernel_rfl) (by kernel_rfl) (fun _ _ _ h => h) (by rfl) ?hog45 hHeld ?rog45
        case hog45 => (intro w' hSw; (try dsimp only at hSw); go_simp <;> with_reducible rfl)
        try simp only [Act.put, List.setIfInBounds_toArray, List.set_cons_zero, List.set_cons_succ]
        refine take_op (i := 36) (d := 84) (OP := Op.binOp BinOp.neq 3 (Operand.tmp 83) (Operand.const (Value.int IntKind.i64 0)) 3) (T := 4) (v := ?vog46) rfl rfl rfl rfl (by kernel_rfl) (by kernel_rfl) (by kernel_rfl) (fun _ _ _ h => h) (by rfl) ?hog46 hHeld ?rog46
        case hog46 => (intro w' hSw; (try dsimp only at hSw); go_simp <;> with_reducible rfl)
        try simp only [Act.put, List.setIfInBounds_toArray, List.set_cons_zero, List.set_cons_succ]
        refine take_op (i := 37) (d := 85) (OP := Op.move (Operand.tmp 84)) (T := 4) (v := ?vog47) rfl rfl rfl rfl (by kernel_rfl) (by kernel_rfl) (by kernel_rfl) (fun _ _ _ h => h) (by rfl) ?hog47 hHeld ?rog47
        case hog47 => (intro w' hSw; (try dsimp only at hSw); go_simp <;> with_reducible rfl)
        try simp only [Act.put, List.setIfInBounds_toArray, List.set_cons_zero, List.set_cons_succ]
        refine pass_op (i := 38) (d := 86) rfl rfl (by kernel_rfl) (by kernel_rfl) (by kernel_rfl) (fun _ _ _ h => h) (by rfl) hHeld ?_
        try simp only [Act.put, List.setIfInBounds_toArray, List.set_cons_zero, List.set_cons_succ]
        refine pass_op (i := 39) (d := 87) rfl rfl (by kernel_rfl) (by kernel_rfl) (by kernel_rfl) (fun _ _ _ h => h) (by rfl) hHeld ?_
        try simp only [Act.put, List.setIfInBounds_toArray, List.set_cons_zero, List.set_cons_succ]
        refine pass_op (i := 40) (d := 88) rfl rfl (by kernel_rfl) (by kernel_rfl) (by kernel_rfl) (fun _ _ _ h => h) (by rfl) hHeld ?_
        try simp only [Act.put, List.setIfInBounds_toArray, List.set_cons_zero, List.set_cons_succ]
        refine pass_op (i := 41) (d := 89) rfl rfl (by kernel_rfl) (by kernel_rfl) (by kernel_rfl) (fun _ _ _ h => h) (by rfl) hHeld ?_
        try simp only [Act.put, List.setIfInBounds_toArray, List.set_cons_zero, List.set_cons_succ]
        refine pass_op (i := 42) (d := 90) rfl rfl (by kernel_rfl) (by kernel_rfl) (by kernel_rfl) (fun _ _ _ h => h) (by rfl) hHeld ?_
        try simp only [Act.put, List.setIfInBounds_toArray, List.set_cons_zero, List.set_cons_succ]
        refine pass_op (i := 43) (d := 91) rfl rfl (by kernel_rfl) (by kernel_rfl) (by kernel_rfl) (fun _ _ _ h => h) (by rfl) hHeld ?_
        try simp only [Act.put, List.setIfInBounds_toArray, List.set_cons_zero, List.set_cons_succ]
        refine pass_op (i := 44) (d := 92) rfl rfl (by kernel_rfl) (by kernel_rfl) (by kernel_rfl) (fun _ _ _ h => h) (by rfl) hHeld ?_
        try simp only [Act.put, List.setIfInBounds_toArray, List.set_cons_zero, List.set_cons_succ]
        refine take_op (i := 45) (d := 93) (OP := Op.pick (Operand.tmp 85) (Operand.tmp 92) (Operand.const (Value.bool false))) (T := 4) (v := ?vog48) rfl rfl rfl rfl (by kernel_rfl) (by kernel_rfl) (by kernel_rfl) (fun _ _ _ h => h) (by rfl) ?hog48 hHeld ?rog48
        case hog48 => (intro w' hSw; (try dsimp only at hSw); go_simp <;> with_reducible rfl)
        try simp only [Act.put, List.setIfInBounds_toArray, List.set_cons_zero, List.set_cons_succ]
        refine take_op (i := 46) (d := 94) (OP := Op.pick (Operand.tmp 82) (Operand.const (Value.bool true)) (Operand.tmp 93)) (T := 4) (v := ?vog49) rfl rfl rfl rfl (by kernel_rfl) (by kernel_rfl) (by kernel_rfl) (fun _ _ _ h => h) (by rfl) ?hog49 hHeld ?rog49
        case hog49 => (intro w' hSw; (try dsimp only at hSw); go_simp <;> with_reducible rfl)
        try simp only [Act.put, List.setIfInBounds_toArray, List.set_cons_zero, List.set_cons_succ]
        refine wpAnyH_done (by kernel_rfl) ?_ _
        clear hHeld sy2 dy1 dy2 HS HS2
        have BY := hide by2
        clear by1 by2 b0 k15 k16 hfe hfn
        go_wp2
        go_roundw
        case rel => exact ⟨j + 1, by omega, by go_num, hide (HB.out.trans ((up D9.out BY.out).mono HB.out.size))⟩
        case measure => simp [intOf]; omega
      · obtain ⟨e1, e2⟩ := hfn.out h0
        subst e1
        subst e2
        have hz1 : (E == 0) = false := by simpa using h0
        have hz2 : (E != 0) = true := by simpa using h0
        clear h0 hfe hfn k15 k16
        have HS : Hid (∀ W, Below w9.heap.size w9 W → W.cell? ⟨xb, xo + j * 6, none⟩ = some (.slice xa xN xc) ∧ W.cell? ⟨xb, xo + j * 6 + 1, none⟩ = some (.int .i64 xk) ∧ W.cell? ⟨xb, xo + j * 6 + 2, none⟩ = some (.string xs) ∧ W.cell? ⟨xb, xo + j * 6 + 3, none⟩ = some (.int .i64 xd) ∧ W.cell? ⟨xb, xo + j * 6 + 4, none⟩ = some (.int .i64 xn) ∧ W.cell? ⟨xb, xo + j * 6 + 5, none⟩ = some (.string xt)) := hide (fun W hW => HC.out W hW)
        refine wp_region_held_drew (S := fun w' => w'.cell? ⟨xb, xo + j * 6, none⟩ = some (.slice xa xN xc) ∧ w'.cell? ⟨xb, xo + j * 6 + 1, none⟩ = some (.int .i64 xk) ∧ w'.cell? ⟨xb, xo + j * 6 + 2, none⟩ = some (.string xs) ∧ w'.cell? ⟨xb, xo + j * 6 + 3, none⟩ = some (.int .i64 xd) ∧ w'.cell? ⟨xb, xo + j * 6 + 4, none⟩ = some (.int .i64 xn) ∧ w'.cell? ⟨xb, xo + j * 6 + 5, none⟩ = some (.string xt)) (by kernel_rfl) (HS.out _ (Below.refl _ _).drew) (fun hHeld => ?_)
        obtain ⟨Wd, hWd⟩ : ∃ q, q = w9.drew := ⟨_, rfl⟩
        have b0 : Below w9.heap.size w9 Wd := by rw [hWd]; exact (Below.refl _ _).drew
        rw [← hWd] at hHeld ⊢
        clear hWd
        refine take_op (i := 0) (d := 48) (OP := Op.move (Operand.tmp 6)) (T := 27) (v := ?vog50) rfl rfl rfl rfl (by kernel_rfl) (by kernel_rfl) (by kernel_rfl) (fun _ _ _ h => h) (by rfl) ?hog50 hHeld ?rog50
        case hog50 => (intro w' hSw; (try dsimp only at hSw); go_simp <;> with_reducible rfl)
        try simp only [Act.put, List.setIfInBounds_toArray, List.set_cons_zero, List.set_cons_succ]
        refine take_op (i := 2) (d := 50) (OP := Op.move (Operand.tmp 9)) (T := 3) (v := ?vog51) rfl rfl rfl rfl (by kernel_rfl) (by kernel_rfl) (by kernel_rfl) (fun _ _ _ h => h) (by rfl) ?hog51 hHeld ?rog51
        case hog51 => (intro w' hSw; (try dsimp only at hSw); go_simp <;> with_reducible rfl)
        try simp only [Act.put, List.setIfInBounds_toArray, List.set_cons_zero, List.set_cons_succ]
        refine call_op (i := 1) (d := 49) (OP := Op.call { callee := Callee.value (Operand.func 14), args := #[Operand.tmp 48], argTypes := #[27] }) (T := 3) (f := 14) (args := #[.int .i64 E]) rfl rfl rfl rfl (by kernel_rfl) (by rfl) (by go_simp) ?_
        refine (k14 _ _).mono ?_
        rintro e ww ⟨rfl, hww⟩
        have hww := hww.symm
        subst hww
        refine ⟨_, rfl, hHeld, ?_⟩
        try simp only [Act.put, List.setIfInBounds_toArray, List.set_cons_zero, List.set_cons_succ]
        refine take_op (i := 3) (d := 51) (OP := Op.binOp BinOp.neq 3 (Operand.tmp 49) (Operand.tmp 50) 3) (T := 4) (v := ?vog52) rfl rfl rfl rfl (by kernel_rfl) (by kernel_rfl) (by kernel_rfl) (fun _ _ _ h => h) (by rfl) ?hog52 hHeld ?rog52
        case hog52 => (intro w' hSw; (try dsimp only at hSw); go_simp <;> with_reducible rfl)
        try simp only [Act.put, List.setIfInBounds_toArray, List.set_cons_zero, List.set_cons_succ]
        refine take_op (i := 4) (d := 52) (OP := Op.move (Operand.tmp 51)) (T := 4) (v := ?vog53) rfl rfl rfl rfl (by kernel_rfl) (by kernel_rfl) (by kernel_rfl) (fun _ _ _ h => h) (by rfl) ?hog53 hHeld ?rog53
        case hog53 => (intro w' hSw; (try dsimp only at hSw); go_simp <;> with_reducible rfl)
        try simp only [Act.put, List.setIfInBounds_toArray, List.set_cons_zero, List.set_cons_succ]
        refine take_op (i := 5) (d := 53) (OP := Op.move (Operand.tmp 8)) (T := 27) (v := ?vog54) rfl rfl rfl rfl (by kernel_rfl) (by kernel_rfl) (by kernel_rfl) (fun _ _ _ h => h) (by rfl) ?hog54 hHeld ?rog54
        case hog54 => (intro w' hSw; (try dsimp only at hSw); go_simp <;> with_reducible rfl)
        try simp only [Act.put, List.setIfInBounds_toArray, List.set_cons_zero, List.set_cons_succ]
        refine take_op (i := 7) (d := 55) (OP := Op.move (Operand.tmp 9)) (T := 3) (v := ?vog55) rfl rfl rfl rfl (by kernel_rfl) (by kernel_rfl) (by kernel_rfl) (fun _ _ _ h => h) (by rfl) ?hog55 hHeld ?rog55
        case hog55 => (intro w' hSw; (try dsimp only at hSw); go_simp <;> with_reducible rfl)
        try simp only [Act.put, List.setIfInBounds_toArray, List.set_cons_zero, List.set_cons_succ]
        refine call_op (i := 6) (d := 54) (OP := Op.call { callee := Callee.value (Operand.func 14), args := #[Operand.tmp 53], argTypes := #[27] }) (T := 3) (f := 14) (args := #[.int .i64 E]) rfl rfl rfl rfl (by kernel_rfl) (by rfl) (by go_simp) ?_
        refine (k14 _ _).mono ?_
        rintro e ww ⟨rfl, hww⟩
        have hww := hww.symm
        subst hww
        refine ⟨_, rfl, hHeld, ?_⟩
        try simp only [Act.put, List.setIfInBounds_toArray, List.set_cons_zero, List.set_cons_succ]
        refine take_op (i := 8) (d := 56) (OP := Op.binOp BinOp.neq 3 (Operand.tmp 54) (Operand.tmp 55) 3) (T := 4) (v := ?vog56) rfl rfl rfl rfl (by kernel_rfl) (by kernel_rfl) (by kernel_rfl) (fun _ _ _ h => h) (by rfl) ?hog56 hHeld ?rog56
        case hog56 => (intro w' hSw; (try dsimp only at hSw); go_simp <;> with_reducible rfl)
        try simp only [Act.put, List.setIfInBounds_toArray, List.set_cons_zero, List.set_cons_succ]
        refine take_op (i := 9) (d := 57) (OP := Op.pick (Operand.tmp 52) (Operand.const (Value.bool true)) (Operand.tmp 56)) (T := 4) (v := ?vog57) rfl rfl rfl rfl (by kernel_rfl) (by kernel_rfl) (by kernel_rfl) (fun _ _ _ h => h) (by rfl) ?hog57 hHeld ?rog57
        case hog57 => (intro w' hSw; (try dsimp only at hSw); go_simp <;> with_reducible rfl)
        try simp only [Act.put, List.setIfInBounds_toArray, List.set_cons_zero, List.set_cons_succ]
        refine take_op (i := 10) (d := 58) (OP := Op.move (Operand.tmp 57)) (T := 4) (v := ?vog58) rfl rfl rfl rfl (by kernel_rfl) (by kernel_rfl) (by kernel_rfl) (fun _ _ _ h => h) (by rfl) ?hog58 hHeld ?rog58
        case hog58 => (intro w' hSw; (try dsimp only at hSw); go_simp <;> with_reducible rfl)
        try simp only [Act.put, List.setIfInBounds_toArray, List.set_cons_zero, List.set_cons_succ]
        refine take_op (i := 11) (d := 59) (OP := Op.move (Operand.tmp 9)) (T := 3) (v := ?vog59) rfl rfl rfl rfl (by kernel_rfl) (by kernel_rfl) (by kernel_rfl) (fun _ _ _ h => h) (by rfl) ?hog59 hHeld ?rog59
        case hog59 => (intro w' hSw; (try dsimp only at hSw); go_simp <;> with_reducible rfl)
        try simp only [Act.put, List.setIfInBounds_toArray, List.set_cons_zero, List.set_cons_succ]
        refine take_op (i := 12) (d := 60) (OP := Op.binOp BinOp.eql 3 (Operand.tmp 59) (Operand.const (Value.int IntKind.i64 0)) 3) (T := 4) (v := ?vog60) rfl rfl rfl rfl (by kernel_rfl) (by kernel_rfl) (by kernel_rfl) (fun _ _ _ h => h) (by rfl) ?hog60 hHeld ?rog60
        case hog60 => (intro w' hSw; (try dsimp only at hSw); go_simp <;> with_reducible rfl)
        try simp only [Act.put, List.setIfInBounds_toArray, List.set_cons_zero, List.set_cons_succ]
        refine take_op (i := 13) (d := 61) (OP := Op.move (Operand.tmp 60)) (T := 4) (v := ?vog61) rfl rfl rfl rfl (by kernel_rfl) (by kernel_rfl) (by kernel_rfl) (fun _ _ _ h => h) (by rfl) ?hog61 hHeld ?rog61
        case hog61 => (intro w' hSw; (try dsimp only at hSw); go_simp <;> with_reducible rfl)
        try simp only [Act.put, List.setIfInBounds_toArray, List.set_cons_zero, List.set_cons_succ]
        refine pass_op (i := 14) (d := 62) rfl rfl (by kernel_rfl) (by kernel_rfl) (by kernel_rfl) (fun _ _ _ h => h) (by rfl) hHeld ?_
        try simp only [Act.put, List.setIfInBounds_toArray, List.set_cons_zero, List.set_cons_succ]
        refine pass_op (i := 15) (d := 63) rfl rfl (by kernel_rfl) (by kernel_rfl) (by kernel_rfl) (fun _ _ _ h => h) (by rfl) hHeld ?_
        try simp only [Act.put, List.setIfInBounds_toArray, List.set_cons_zero, List.set_cons_succ]
        refine pass_op (i := 16) (d := 64) rfl rfl (by kernel_rfl) (by kernel_rfl) (by kernel_rfl) (fun _ _ _ h => h) (by rfl) hHeld ?_
        try simp only [Act.put, List.setIfInBounds_toArray, List.set_cons_zero, List.set_cons_succ]
        refine pass_op (i := 17) (d := 65) rfl rfl (by kernel_rfl) (by kernel_rfl) (by kernel_rfl) (fun _ _ _ h => h) (by rfl) hHeld ?_
        try simp only [Act.put, List.setIfInBounds_toArray, List.set_cons_zero, List.set_cons_succ]
        refine pass_op (i := 18) (d := 66) rfl rfl (by kernel_rfl) (by kernel_rfl) (by kernel_rfl) (fun _ _ _ h => h) (by rfl) hHeld ?_
        try simp only [Act.put, List.setIfInBounds_toArray, List.set_cons_zero, List.set_cons_succ]
        refine pass_op (i := 19) (d := 67) rfl rfl (by kernel_rfl) (by kernel_rfl) (by kernel_rfl) (fun _ _ _ h => h) (by rfl) hHeld ?_
        try simp only [Act.put, List.setIfInBounds_toArray, List.set_cons_zero, List.set_cons_succ]
        refine pass_op (i := 20) (d := 68) rfl rfl (by kernel_rfl) (by kernel_rfl) (by kernel_rfl) (fun _ _ _ h => h) (by rfl) hHeld ?_
        try simp only [Act.put, List.setIfInBounds_toArray, List.set_cons_zero, List.set_cons_succ]
        refine pass_op (i := 21) (d := 69) rfl rfl (by kernel_rfl) (by kernel_rfl) (by kernel_rfl) (fun _ _ _ h => h) (by rfl) hHeld ?_
        try simp only [Act.put, List.setIfInBounds_toArray, List.set_cons_zero, List.set_cons_succ]
        refine pass_op (i := 22) (d := 70) rfl rfl (by kernel_rfl) (by kernel_rfl) (by kernel_rfl) (fun _ _ _ h => h) (by rfl) hHeld ?_
        try simp only [Act.put, List.setIfInBounds_toArray, List.set_cons_zero, List.set_cons_succ]
        refine pass_op (i := 23) (d := 71) rfl rfl (by kernel_rfl) (by kernel_rfl) (by kernel_rfl) (fun _ _ _ h => h) (by rfl) hHeld ?_
        try simp only [Act.put, List.setIfInBounds_toArray, List.set_cons_zero, List.set_cons_succ]
        refine pass_op (i := 24) (d := 72) rfl rfl (by kernel_rfl) (by kernel_rfl) (by kernel_rfl) (fun _ _ _ h => h) (by rfl) hHeld ?_
        try simp only [Act.put, List.setIfInBounds_toArray, List.set_cons_zero, List.set_cons_succ]
        refine pass_op (i := 25) (d := 73) rfl rfl (by kernel_rfl) (by kernel_rfl) (by kernel_rfl) (fun _ _ _ h => h) (by rfl) hHeld ?_
        try simp only [Act.put, List.setIfInBounds_toArray, List.set_cons_zero, List.set_cons_succ]
        refine pass_op (i := 26) (d := 74) rfl rfl (by kernel_rfl) (by kernel_rfl) (by kernel_rfl) (fun _ _ _ h => h) (by rfl) hHeld ?_
        try simp only [Act.put, List.setIfInBounds_toArray, List.set_cons_zero, List.set_cons_succ]
        refine pass_op (i := 27) (d := 75) rfl rfl (by kernel_rfl) (by kernel_rfl) (by kernel_rfl) (fun _ _ _ h => h) (by rfl) hHeld ?_
        try simp only [Act.put, List.setIfInBounds_toArray, List.set_cons_zero, List.set_cons_succ]
        refine pass_op (i := 28) (d := 76) rfl rfl (by kernel_rfl) (by kernel_rfl) (by kernel_rfl) (fun _ _ _ h => h) (by rfl) hHeld ?_
        try simp only [Act.put, List.setIfInBounds_toArray, List.set_cons_zero, List.set_cons_succ]
        refine pass_op (i := 29) (d := 77) rfl rfl (by kernel_rfl) (by kernel_rfl) (by kernel_rfl) (fun _ _ _ h => h) (by rfl) hHeld ?_
        try simp only [Act.put, List.setIfInBounds_toArray, List.set_cons_zero, List.set_cons_succ]
        refine pass_op (i := 30) (d := 78) rfl rfl (by kernel_rfl) (by kernel_rfl) (by kernel_rfl) (fun _ _ _ h => h) (by rfl) hHeld ?_
        try simp only [Act.put, List.setIfInBounds_toArray, List.set_cons_zero, List.set_cons_succ]
        refine pass_op (i := 31) (d := 79) rfl rfl (by kernel_rfl) (by kernel_rfl) (by kernel_rfl) (fun _ _ _ h => h) (by rfl) hHeld ?_
        try simp only [Act.put, List.setIfInBounds_toArray, List.set_cons_zero, List.set_cons_succ]
        refine take_op (i := 32) (d := 80) (OP := Op.pick (Operand.tmp 61) (Operand.tmp 79) (Operand.const (Value.bool false))) (T := 4) (v := ?vog62) rfl rfl rfl rfl (by kernel_rfl) (by kernel_rfl) (by kernel_rfl) (fun _ _ _ h => h) (by rfl) ?hog62 hHeld ?rog62
        case hog62 => (intro w' hSw; (try dsimp only at hSw); go_simp <;> with_reducible rfl)
        try simp only [Act.put, List.setIfInBounds_toArray, List.set_cons_zero, List.set_cons_succ]
        refine take_op (i := 33) (d := 81) (OP := Op.pick (Operand.tmp 58) (Operand.const (Value.bool true)) (Operand.tmp 80)) (T := 4) (v := ?vog63) rfl rfl rfl rfl (by kernel_rfl) (by kernel_rfl) (by kernel_rfl) (fun _ _ _ h => h) (by rfl) ?hog63 hHeld ?rog63
        case hog63 => (intro w' hSw; (try dsimp only at hSw); go_simp <;> with_reducible rfl)
        try simp only [Act.put, List.setIfInBounds_toArray, List.set_cons_zero, List.set_cons_succ]
        refine take_op (i := 34) (d := 82) (OP := Op.move (Operand.tmp 81)) (T := 4) (v := ?vog64) rfl rfl rfl rfl (by kernel_rfl) (by kernel_rfl) (by kernel_rfl) (fun _ _ _ h => h) (by rfl) ?hog64 hHeld ?rog64
        case hog64 => (intro w' hSw; (try dsimp only at hSw); go_simp <;> with_reducible rfl)
        try simp only [Act.put, List.setIfInBounds_toArray, List.set_cons_zero, List.set_cons_succ]
        refine take_op (i := 35) (d := 83) (OP := Op.move (Operand.tmp 9)) (T := 3) (v := ?vog65) rfl rfl rfl rfl (by kernel_rfl) (by kernel_rfl) (by kernel_rfl) (fun _ _ _ h => h) (by rfl) ?hog65 hHeld ?rog65
        case hog65 => (intro w' hSw; (try dsimp only at hSw); go_simp <;> with_reducible rfl)
        try simp only [Act.put, List.setIfInBounds_toArray, List.set_cons_zero, List.set_cons_succ]
        refine take_op (i := 36) (d := 84) (OP := Op.binOp BinOp.neq 3 (Operand.tmp 83) (Operand.const (Value.int IntKind.i64 0)) 3) (T := 4) (v := ?vog66) rfl rfl rfl rfl (by kernel_rfl) (by kernel_rfl) (by kernel_rfl) (fun _ _ _ h => h) (by rfl) ?hog66 hHeld ?rog66
        case hog66 => (intro w' hSw; (try dsimp only at hSw); go_simp <;> with_reducible rfl)
        try simp only [Act.put, List.setIfInBounds_toArray, List.set_cons_zero, List.set_cons_succ]
        refine take_op (i := 37) (d := 85) (OP := Op.move (Operand.tmp 84)) (T := 4) (v := ?vog67) rfl rfl rfl rfl (by kernel_rfl) (by kernel_rfl) (by kernel_rfl) (fun _ _ _ h => h) (by rfl) ?hog67 hHeld ?rog67
        case hog67 => (intro w' hSw; (try dsimp only at hSw); go_simp <;> with_reducible rfl)
        try simp only [Act.put, List.setIfInBounds_toArray, List.set_cons_zero, List.set_cons_succ]
        refine take_op (i := 38) (d := 86) (OP := Op.move (Operand.tmp 5)) (T := 26) (v := ?vog68) rfl rfl rfl rfl (by kernel_rfl) (by kernel_rfl) (by kernel_rfl) (fun _ _ _ h => h) (by rfl) ?hog68 hHeld ?rog68
        case hog68 => (intro w' hSw; (try dsimp only at hSw); go_simp <;> with_reducible rfl)
        try simp only [Act.put, List.setIfInBounds_toArray, List.set_cons_zero, List.set_cons_succ]
        refine take_op (i := 39) (d := 87) (OP := Op.call { callee := Callee.builtin Builtin.len, args := #[Operand.tmp 86], argTypes := #[26] }) (T := 3) (v := ?vog69) rfl rfl rfl rfl (by kernel_rfl) (by kernel_rfl) (by kernel_rfl) (fun _ _ _ h => h) (by rfl) ?hog69 hHeld ?rog69
        case hog69 => (intro w' hSw; (try dsimp only at hSw); go_simp <;> with_reducible rfl)
        try simp only [Act.put, List.setIfInBounds_toArray, List.set_cons_zero, List.set_cons_succ]
        refine take_op (i := 40) (d := 88) (OP := Op.binOp BinOp.neq 3 (Operand.tmp 87) (Operand.const (Value.int IntKind.i64 0)) 3) (T := 4) (v := ?vog70) rfl rfl rfl rfl (by kernel_rfl) (by kernel_rfl) (by kernel_rfl) (fun _ _ _ h => h) (by rfl) ?hog70 hHeld ?rog70
        case hog70 => (intro w' hSw; (try dsimp only at hSw); go_simp <;> with_reducible rfl)
        try simp only [Act.put, List.setIfInBounds_toArray, List.set_cons_zero, List.set_cons_succ]
        refine take_op (i := 41) (d := 89) (OP := Op.move (Operand.tmp 88)) (T := 4) (v := ?vog71) rfl rfl rfl rfl (by kernel_rfl) (by kernel_rfl) (by kernel_rfl) (fun _ _ _ h => h) (by rfl) ?hog71 hHeld ?rog71
        case hog71 => (intro w' hSw; (try dsimp only at hSw); go_simp <;> with_reducible rfl)
        try simp only [Act.put, List.setIfInBounds_toArray, List.set_cons_zero, List.set_cons_succ]
        refine take_op (i := 42) (d := 90) (OP := Op.move (Operand.tmp 7)) (T := 9) (v := ?vog72) rfl rfl rfl rfl (by kernel_rfl) (by kernel_rfl) (by kernel_rfl) (fun _ _ _ h => h) (by rfl) ?hog72 hHeld ?rog72
        case hog72 => (intro w' hSw; (try dsimp only at hSw); go_simp <;> with_reducible rfl)
        try simp only [Act.put, List.setIfInBounds_toArray, List.set_cons_zero, List.set_cons_succ]
        refine take_op (i := 43) (d := 91) (OP := Op.binOp BinOp.neq 9 (Operand.tmp 90) (Operand.const (Value.string { data := #[] })) 9) (T := 4) (v := ?vog73) rfl rfl rfl rfl (by kernel_rfl) (by kernel_rfl) (by kernel_rfl) (fun _ _ _ h => h) (by rfl) ?hog73 hHeld ?rog73
        case hog73 => (intro w' hSw; (try dsimp only at hSw); go_simp <;> with_reducible rfl)
        try simp only [Act.put, List.setIfInBounds_toArray, List.set_cons_zero, List.set_cons_succ]
        refine take_op (i := 44) (d := 92) (OP := Op.pick (Operand.tmp 89) (Operand.const (Value.bool true)) (Operand.tmp 91)) (T := 4) (v := ?vog74) rfl rfl rfl rfl (by kernel_rfl) (by kernel_rfl) (by kernel_rfl) (fun _ _ _ h => h) (by rfl) ?hog74 hHeld ?rog74
        case hog74 => (intro w' hSw; (try dsimp only at hSw); go_simp <;> with_reducible rfl)
        try simp only [Act.put, List.setIfInBounds_toArray, List.set_cons_zero, List.set_cons_succ]
        refine take_op (i := 45) (d := 93) (OP := Op.pick (Operand.tmp 85) (Operand.tmp 92) (Operand.const (Value.bool false))) (T := 4) (v := ?vog75) rfl rfl rfl rfl (by kernel_rfl) (by kernel_rfl) (by kernel_rfl) (fun _ _ _ h => h) (by rfl) ?hog75 hHeld ?rog75
        case hog75 => (intro w' hSw; (try dsimp only at hSw); go_simp <;> with_reducible rfl)
        try simp only [Act.put, List.setIfInBounds_toArray, List.set_cons_zero, List.set_cons_succ]
        refine take_op (i := 46) (d := 94) (OP := Op.pick (Operand.tmp 82) (Operand.const (Value.bool true)) (Operand.tmp 93)) (T := 4) (v := ?vog76) rfl rfl rfl rfl (by kernel_rfl) (by kernel_rfl) (by kernel_rfl) (fun _ _ _ h => h) (by rfl) ?hog76 hHeld ?rog76
        case hog76 => (intro w' hSw; (try dsimp only at hSw); go_simp <;> with_reducible rfl)
        try simp only [Act.put, List.setIfInBounds_toArray, List.set_cons_zero, List.set_cons_succ]
        refine wpAnyH_done (by kernel_rfl) ?_ _
        clear hHeld HS
        have BY := hide b0
        clear b0
        go_wp2
        go_roundw
        case rel => exact ⟨j + 1, by omega, by go_num, hide (HB.out.trans ((up D9.out BY.out).mono HB.out.size))⟩
        case measure => simp [intOf]; omega
    · have hzz : ¬ (j : Int) < (l.length : Int) := by omega
      have hlen : l.length ≤ 100000 := by omega
      have DB := hide (up D2.out HB.out)
      have hEn : EnvO wr := HSM.out.2.2.2.below DB.out
      have k17 := bytesAll_any (c := c3) l (HO.out.below HB.out) HSM.out.2.2.1 hEn.tabs hlen
      have k18 := fun W (hW : Below wr.heap.size wr W) => textAllP_any (c := c3) l ((HO.out.below HB.out).below hW) HSM.out.2.2.1 (hEn.below hW) hlen
      have k19 := fun W (hW : Below wr.heap.size wr W) => wrong19_any ao c l W (HSM.out.2.1.below (up DB.out hW)) (by omega)
      have k20 : ∀ W, Below wr.heap.size wr W → Calls Tryz.prog 20 #[.slice a3 l.length c3, .slice ao l.length c] W fun e w' => e = .returned (.bool true) ∧ Below W.heap.size W w' := fun W hW => by
        have := same20_any (c := c3) (d := c) l l ((HO.out.below HB.out).below hW) (HSM.out.2.1.below (up DB.out hW)) hlen HSM.out.1.plen HSM.out.1.plen
        rw [(sameL_iff _ _).2 rfl] at this
        exact this
      have okl : wrongL l = 0 → OkL l := fun h0 => ⟨fun o ho => ok_of ((wrong_ok h0).1 o ho), HSM.out.2.2.1, hlen⟩
      have k21 : wrongL l = 0 → ∀ W, Below wr.heap.size wr W → Calls Tryz.prog 21 #[.slice ao l.length c] W fun e w' => Made 5 W w' e (frA l) := fun h0 W hW => refFormAll_any ao c l W (HSM.out.2.1.below (up DB.out hW)) (okl h0)
      have k22 : wrongL l = 0 → ∀ W, Below wr.heap.size wr W → Calls Tryz.prog 22 #[.slice ao l.length c] W fun e w' => e = .returned (.string ⟨(txA l).toArray⟩) ∧ Below W.heap.size W w' := fun h0 W hW => refTextAll_any ao c l W (HSM.out.2.1.below (up DB.out hW)) (okl h0) (hEn.below hW)
      have k9 : ∀ W, Below wr.heap.size wr W → Calls Tryz.prog 9 #[] W fun e w' => e = .returned (.bool true) ∧ Below W.heap.size W w' := fun W hW => k9 W (up DB.out hW)
      have hfe : Hid (wrongL l = 0 → frW l = frA l ∧ txW' l = ⟨(txA l).toArray⟩) := hide (fun h0 => ⟨if_pos h0, if_pos h0⟩)
      have hfn : Hid (wrongL l ≠ 0 → frW l = [] ∧ txW' l = ⟨#[]⟩) := hide (fun h0 => ⟨if_neg h0, if_neg h0⟩)
      obtain ⟨FB, hF⟩ : ∃ q, q = frW l := ⟨_, rfl⟩
      obtain ⟨TX, hT⟩ : ∃ q, q = txW' l := ⟨_, rfl⟩
      obtain ⟨E, hEE⟩ : ∃ q, q = wrongL l := ⟨_, rfl⟩
      obtain ⟨F1, hF1⟩ : ∃ q, q = frA l := ⟨_, rfl⟩
      obtain ⟨T1, hT1⟩ : ∃ q, q = (⟨(txA l).toArray⟩ : ByteArray) := ⟨_, rfl⟩
      rw [← hF, ← hEE] at k17
      simp only [← hT, ← hEE] at k18
      simp only [← hEE] at k19
      rw [← hEE, ← hF1] at k21
      rw [← hEE, ← hT1] at k22
      rw [← hF, ← hT, ← hEE, ← hF1, ← hT1] at hfe
      rw [← hF, ← hT, ← hEE] at hfn
      clear hF hT hEE hF1 hT1 okl hEn
      go_upto_region 13 with (go_at_call 17; refine k17.mono ?_; rintro e wA ⟨aB, cB, rfl, OB, nB, dA⟩; have DA := hide dA; have HFA := hide OB.rd; clear OB dA k17)
      go_upto_region 14 with (go_at_call 18; refine (k18 _ DA.out).mono ?_; rintro e wB ⟨rfl, dB⟩; have DB2 := hide (up DA.out dB); have HFB1 := hide (HFA.out.below dB); clear dB k18 HFA DA)
      go_upto_region 15 with (go_at_call 19; refine (k19 _ DB2.out).mono ?_; rintro e wC0 ⟨rfl, dC⟩; have DC0 := hide (up DB2.out dC); have HFB0 := hide (HFB1.out.below dC); clear dC k19 HFB1 DB2)
      have hee : (E == E) = true := by simp
      have hen : (E != E) = false := by simp
      by_cases h0 : E = 0
      · subst h0
        obtain ⟨e1, e2⟩ := hfe.out rfl
        subst e1
        subst e2
        clear hfe hfn hzz hee hen
        go_upto_region 17 with (first
          | (go_at_call 14; refine (k14 _ _).mono ?_; rintro e ww ⟨rfl, hww⟩; have hww := hww.symm; subst hww)
          | (go_at_call 20; refine (k20 _ DC0.out).mono ?_; rintro e wC ⟨rfl, dC⟩; have DC := hide (up DC0.out dC); have HFB := hide (HFB0.out.below dC); clear dC k20 HFB0 DC0))
        have k21 := fun W (hW : Below wC.heap.size wC W) => k21 (by trivial) W (up DC.out hW)
        have k22 := fun W (hW : Below wC.heap.size wC W) => k22 (by trivial) W (up DC.out hW)
        have k9 := fun W (hW : Below wC.heap.size wC W) => k9 W (up DC.out hW)
        obtain ⟨XB, hX⟩ : ∃ q, q = strOfNums FB := ⟨_, rfl⟩
        have HXX := hide hX
        clear hX
        go_upto_region 19 with fail
        have HS : Hid (∀ W, Below wC.heap.size wC W → (convert 26 9 (.slice aB FB.length cB)).run Tryz.prog W = .ok (.string XB) W) := hide (fun W hW => by rw [HXX.out]; exact conv_rd (HFB.out.below hW) rfl)
        refine wp_region_held_drew (S := fun w' => (convert 26 9 (.slice aB FB.length cB)).run Tryz.prog w' = .ok (.string XB) w') (by kernel_rfl) (HS.out _ (Below.refl _ _).drew) (fun hHeld => ?_)
        obtain ⟨Wd, hWd⟩ : ∃ q, q = wC.drew := ⟨_, rfl⟩
        have b0 : Below wC.heap.size wC Wd := by rw [hWd]; exact (Below.refl _ _).drew
        rw [← hWd] at hHeld ⊢
        clear hWd
        refine take_op (i := 0) (d := 135) (OP := Op.move (Operand.tmp 10)) (T := 26) (v := ?vog1) rfl rfl rfl rfl (by kernel_rfl) (by kernel_rfl) (by kernel_rfl) (fun _ _ _ h => h) (by rfl) ?hog1 hHeld ?rog1
        case hog1 => (intro w' hSw; (try dsimp only at hSw); go_simp <;> with_reducible rfl)
        try simp only [Act.put, List.setIfInBounds_toArray, List.set_cons_zero, List.set_cons_succ]
        refine take_op (i := 1) (d := 136) (OP := Op.convert 26 9 (Operand.tmp 135)) (T := 9) (v := ?vog2) rfl rfl rfl rfl (by kernel_rfl) (by kernel_rfl) (by kernel_rfl) (fun _ _ _ h => h) (by rfl) ?hog2 hHeld ?rog2
        case hog2 => (intro w' hSw; (try dsimp only at hSw); go_simp <;> with_reducible rfl)
        try simp only [Act.put, List.setIfInBounds_toArray, List.set_cons_zero, List.set_cons_succ]
        refine take_op (i := 2) (d := 137) (OP := Op.move (Operand.tmp 0)) (T := 22) (v := ?vog3) rfl rfl rfl rfl (by kernel_rfl) (by kernel_rfl) (by kernel_rfl) (fun _ _ _ h => h) (by rfl) ?hog3 hHeld ?rog3
        case hog3 => (intro w' hSw; (try dsimp only at hSw); go_simp <;> with_reducible rfl)
        try simp only [Act.put, List.setIfInBounds_toArray, List.set_cons_zero, List.set_cons_succ]
        refine call_op (i := 3) (d := 138) (OP := Op.call { callee := Callee.value (Operand.func 21), args := #[Operand.tmp 137], argTypes := #[22] }) (T := 26) (f := 21) (args := #[.slice ao l.length c]) rfl rfl rfl rfl (by kernel_rfl) (by rfl) (by go_simp) ?_
        refine (k21 _ b0).mono ?_
        rintro e y1 ⟨a15, c15, rfl, O15, -, dy1⟩
        have by1 := b0.trans (dy1.mono b0.size)
        have sy1 := HS.out y1 by1
        refine ⟨_, rfl, sy1, ?_⟩
        refine wpAnyH_mono (S' := fun w' => ((convert 26 9 (.slice aB FB.length cB)).run Tryz.prog w' = .ok (.string XB) w') ∧ (convert 26 9 (.slice a15 FB.length c15)).run Tryz.prog w' = .ok (.string XB) w') (fun _ h => h.1) ?_
        have HS2 : Hid (∀ W, Below y1.heap.size y1 W → ((convert 26 9 (.slice aB FB.length cB)).run Tryz.prog W = .ok (.string XB) W) ∧ (convert 26 9 (.slice a15 FB.length c15)).run Tryz.prog W = .ok (.string XB) W) := hide (fun W hW => And.intro (HS.out W (by1.trans (hW.mono by1.size))) (by rw [HXX.out]; exact conv_rd (O15.rd.below hW) rfl))
        replace hHeld := HS2.out y1 (Below.refl _ _)
        clear sy1 O15
        try simp only [Act.put, List.setIfInBounds_toArray, List.set_cons_zero, List.set_cons_succ]
        refine take_op (i := 4) (d := 139) (OP := Op.convert 26 9 (Operand.tmp 138)) (T := 9) (v := ?vog4) rfl rfl rfl rfl (by kernel_rfl) (by kernel_rfl) (by kernel_rfl) (fun _ _ _ h => h) (by rfl) ?hog4 hHeld ?rog4
        case hog4 => (intro w' hSw; (try dsimp only at hSw); go_simp <;> with_reducible rfl)
        try simp only [Act.put, List.setIfInBounds_toArray, List.set_cons_zero, List.set_cons_succ]
        refine take_op (i := 5) (d := 140) (OP := Op.binOp BinOp.eql 9 (Operand.tmp 136) (Operand.tmp 139) 9) (T := 4) (v := ?vog5) rfl rfl rfl rfl (by kernel_rfl) (by kernel_rfl) (by kernel_rfl) (fun _ _ _ h => h) (by rfl) ?hog5 hHeld ?rog5
        case hog5 => (intro w' hSw; (try dsimp only at hSw); go_simp <;> with_reducible rfl)
        try simp only [Act.put, List.setIfInBounds_toArray, List.set_cons_zero, List.set_cons_succ]
        refine take_op (i := 6) (d := 141) (OP := Op.move (Operand.tmp 140)) (T := 4) (v := ?vog6) rfl rfl rfl rfl (by kernel_rfl) (by kernel_rfl) (by kernel_rfl) (fun _ _ _ h => h) (by rfl) ?hog6 hHeld ?rog6
        case hog6 => (intro w' hSw; (try dsimp only at hSw); go_simp <;> with_reducible rfl)
        try simp only [Act.put, List.setIfInBounds_toArray, List.set_cons_zero, List.set_cons_succ]
        refine take_op (i := 7) (d := 142) (OP := Op.move (Operand.tmp 12)) (T := 9) (v := ?vog7) rfl rfl rfl rfl (by kernel_rfl) (by kernel_rfl) (by kernel_rfl) (fun _ _ _ h => h) (by rfl) ?hog7 hHeld ?rog7
        case hog7 => (intro w' hSw; (try dsimp only at hSw); go_simp <;> with_reducible rfl)
        try simp only [Act.put, List.setIfInBounds_toArray, List.set_cons_zero, List.set_cons_succ]
        refine take_op (i := 8) (d := 143) (OP := Op.move (Operand.tmp 0)) (T := 22) (v := ?vog8) rfl rfl rfl rfl (by kernel_rfl) (by kernel_rfl) (by kernel_rfl) (fun _ _ _ h => h) (by rfl) ?hog8 hHeld ?rog8
        case hog8 => (intro w' hSw; (try dsimp only at hSw); go_simp <;> with_reducible rfl)
        try simp only [Act.put, List.setIfInBounds_toArray, List.set_cons_zero, List.set_cons_succ]
        refine call_op (i := 9) (d := 144) (OP := Op.call { callee := Callee.value (Operand.func 22), args := #[Operand.tmp 143], argTypes := #[22] }) (T := 9) (f := 22) (args := #[.slice ao l.length c]) rfl rfl rfl rfl (by kernel_rfl) (by rfl) (by go_simp) ?_
        refine (k22 _ by1).mono ?_
        rintro e y2 ⟨rfl, dy2⟩
        have by2 := by1.trans (dy2.mono by1.size)
        have sy2 := HS2.out y2 dy2
        refine ⟨_, rfl, sy2, ?_⟩
        replace hHeld := sy2
        try simp only [Act.put, List.setIfInBounds_toArray, List.set_cons_zero, List.set_cons_succ]
        refine take_op (i := 10) (d := 145) (OP := Op.binOp BinOp.eql 9 (Operand.tmp 142) (Operand.tmp 144) 9) (T := 4) (v := ?vog9) rfl rfl rfl rfl (by kernel_rfl) (by kernel_rfl) (by kernel_rfl) (fun _ _ _ h => h) (by rfl) ?hog9 hHeld ?rog9
        case hog9 => (intro w' hSw; (try dsimp only at hSw); go_simp <;> with_reducible rfl)
        try simp only [Act.put, List.setIfInBounds_toArray, List.set_cons_zero, List.set_cons_succ]
        refine take_op (i := 11) (d := 146) (OP := Op.pick (Operand.tmp 141) (Operand.tmp 145) (Operand.const (Value.bool false))) (T := 4) (v := ?vog10) rfl rfl rfl rfl (by kernel_rfl) (by kernel_rfl) (by kernel_rfl) (fun _ _ _ h => h) (by rfl) ?hog10 hHeld ?rog10
        case hog10 => (intro w' hSw; (try dsimp only at hSw); go_simp <;> with_reducible rfl)
        try simp only [Act.put, List.setIfInBounds_toArray, List.set_cons_zero, List.set_cons_succ]
        refine take_op (i := 12) (d := 147) (OP := Op.move (Operand.tmp 146)) (T := 4) (v := ?vog11) rfl rfl rfl rfl (by kernel_rfl) (by kernel_rfl) (by kernel_rfl) (fun _ _ _ h => h) (by rfl) ?hog11 hHeld ?rog11
        case hog11 => (intro w' hSw; (try dsimp only at hSw); go_simp <;> with_reducible rfl)
        try simp only [Act.put, List.setIfInBounds_toArray, List.set_cons_zero, List.set_cons_succ]
        refine call_op (i := 13) (d := 148) (OP := Op.call { callee := Callee.value (Operand.func 9), args := #[], argTypes := #[] }) (T := 4) (f := 9) (args := #[]) rfl rfl rfl rfl (by kernel_rfl) (by rfl) (by go_simp) ?_
        refine (k9 _ by2).mono ?_
        rintro e y3 ⟨rfl, dy3⟩
        have by3 := by2.trans (dy3.mono by2.size)
        have sy3 := HS2.out y3 (Below.trans dy2 (dy3.mono dy2.size))
        refine ⟨_, rfl, sy3, ?_⟩
        replace hHeld := sy3
        try simp only [Act.put, List.setIfInBounds_toArray, List.set_cons_zero, List.set_cons_succ]
        refine take_op (i := 14) (d := 149) (OP := Op.pick (Operand.tmp 147) (Operand.tmp 148) (Operand.const (Value.bool false))) (T := 4) (v := ?vog12) rfl rfl rfl rfl (by kernel_rfl) (by kernel_rfl) (by kernel_rfl) (fun _ _ _ h => h) (by rfl) ?hog12 hHeld ?rog12
        case hog12 => (intro w' hSw; (try dsimp only at hSw); go_simp <;> with_reducible rfl)
        try simp only [Act.put, List.setIfInBounds_toArray, List.set_cons_zero, List.set_cons_succ]
        refine take_op (i := 15) (d := 2) (OP := Op.assign (Operand.tmp 149)) (T := 4) (v := ?vog13) rfl rfl rfl rfl (by kernel_rfl) (by kernel_rfl) (by kernel_rfl) (fun _ _ _ h => h) (by rfl) ?hog13 hHeld ?rog13
        case hog13 => (intro w' hSw; (try dsimp only at hSw); go_simp <;> with_reducible rfl)
        try simp only [Act.put, List.setIfInBounds_toArray, List.set_cons_zero, List.set_cons_succ]
        refine wpAnyH_done (by kernel_rfl) ?_ _
        have B3 := hide by3
        clear hHeld sy3 sy2 by3 by2 by1 dy1 dy2 dy3 HS HS2 b0
        go_wp2
        go_ret
        exact ⟨rfl, up DB.out (up DC.out B3.out)⟩
      · obtain ⟨e1, e2⟩ := hfn.out h0
        subst e1
        subst e2
        have hz1 : (E == 0) = false := by simpa using h0
        have hz2 : (E != 0) = true := by simpa using h0
        clear h0 hfe hfn k21 k22 hzz
        go_wp2_with (first
          | (go_at_call 9; refine (k9 _ DC.out).mono ?_; rintro e wD ⟨rfl, dD⟩; have DD := hide (up DC.out dD); clear dD)
          | (go_at_call 14; refine (k14 _ _).mono ?_; rintro e ww ⟨rfl, hww⟩; have hww := hww.symm; subst hww)
          | (go_at_call 20; refine (k20 _ DC0.out).mono ?_; rintro e wC ⟨rfl, dC⟩; have DC := hide (up DC0.out dC); clear dC k20 DC0))
        go_ret
        exact ⟨rfl, up DB.out DD.out⟩
end Go.Proofs.YtpepgoelnagoaaaGreatDoor
