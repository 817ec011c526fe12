/-
  The document's Value 30.
  The document's Three 34.
-/
import Derived.Test.YtkdgageljgfgoaaGreatDoorRefEl
import Derived.Test.YtkdgageljgfgoaaGreatDoorKnownB
import Derived.Test.YtkdgageljgfgoaaGreatDoorCmpD
import Derived.Test.YtkdgageljgfgoaaGreatDoorThree
namespace Go.Proofs.YtkdgageljgfgoaaGreatDoor
open Go.RowKit Go.Shelf
set_option linter.unusedSimpArgs false
attribute [local go_sem] Oper.semAt_some

theorem take_last {l : List El} {k : Nat} {y : El} (h : l[k]? = some y) : (l.take (k + 1)).getLast? = some y := by
  have hk := (List.getElem?_eq_some_iff.1 h).1
  rw [List.getLast?_eq_getElem?, List.length_take, show min (k + 1) l.length - 1 = k by omega, List.getElem?_take, if_pos (by omega), h]

set_option maxHeartbeats 8000000 in
set_option maxRecDepth 100000 in
theorem refValue_any {w : World} (kd n : Int) {ao : Option Addr} {c : Nat} {l : List El} (h : Re w ao l) (hl : l.length ≤ 1000000) (hsz : ∀ x ∈ l, x.1.2.2.1.size ≤ 9223372036854775807) : Calls Tryz.prog 30 #[vv kd n ao l.length c] w fun e w' => e = .returned (.bool (valB kd n l)) ∧ Below w.heap.size w w' := by
  obtain ⟨N, hN⟩ : ∃ N, N = l.length := ⟨_, rfl⟩
  obtain ⟨w1, hw1⟩ : ∃ w1, w1 = w.alloc (.cells #[.int .i64 kd, .int .i64 n, .slice ao N c] 46) := ⟨_, rfl⟩
  have b1 : Below w.heap.size w w1 := by rw [hw1]; exact (Below.refl _ w).alloc (Nat.le_refl _) _
  have m0 := heap_alloc_new w (.cells #[.int .i64 kd, .int .i64 n, .slice ao N c] 46)
  rw [← hw1] at m0
  obtain ⟨X, hX⟩ : ∃ X, X = w.heap.size := ⟨_, rfl⟩
  rw [← hX] at m0
  have x0 : w1.cell? ⟨X, 0, none⟩ = some (.int .i64 kd) := (cell_of_row _ _ 0 _ 46 (0, 0) m0).trans rfl
  have x1 : w1.cell? ⟨X, 1, none⟩ = some (.int .i64 n) := (cell_of_row _ _ 1 _ 46 (0, 0) m0).trans rfl
  have x2 : w1.cell? ⟨X, 2, none⟩ = some (.slice ao N c) := (cell_of_row _ _ 2 _ 46 (0, 0) m0).trans rfl
  have hvb : valB kd n l = if kd = 1 then decide (N = 0) else valuedK kd && (n == 0) && mayB l := by rw [hN]; rfl
  have hvk : valuedK kd = (decide (1 ≤ kd) && decide (kd ≤ 5)) := by unfold valuedK; rfl
  have hre := h.below b1
  rw [← hN] at hl ⊢
  rw [hvb]
  clear hvb
  by_cases hk0 : kd < 1
  · have : ¬ kd = 1 := by omega
    have dk : decide (kd < 1) = true := by simpa using hk0
    have e1 : valuedK kd = false := by rw [hvk]; simp; omega
    rw [if_neg this, e1]
    have HW := hide (And.intro hw1 (And.intro hX b1))
    clear hw1 hX b1 hN h hsz m0 hre e1 hvk this
    go_enter Tryz.func30, Tryz.ntmps30
    go_upto_region 1 with fail
    rw [← HW.out.1, ← HW.out.2.1]
    go_wp2
    go_ret
    exact ⟨rfl, HW.out.2.2⟩
  have dk : decide (kd < 1) = false := by simpa using hk0
  by_cases hk5 : 5 < kd
  · have : ¬ kd = 1 := by omega
    have dk5 : decide (5 < kd) = true := by simpa using hk5
    have e1 : valuedK kd = false := by rw [hvk]; simp; omega
    rw [if_neg this, e1]
    have HW := hide (And.intro hw1 (And.intro hX b1))
    clear hw1 hX b1 hN h hsz m0 hre e1 hvk this
    go_enter Tryz.func30, Tryz.ntmps30
    go_upto_region 1 with fail
    rw [← HW.out.1, ← HW.out.2.1]
    go_wp2
    go_ret
    exact ⟨rfl, HW.out.2.2⟩
  have dk5 : decide (5 < kd) = false := by simpa using hk5
  by_cases hk1 : kd = 1
  · subst hk1
    rw [if_pos rfl]
    have HW := hide (And.intro hw1 (And.intro hX b1))
    clear hw1 hX b1 hN h hsz m0 hre hvk dk dk5 hk0 hk5
    by_cases hN0 : N = 0
    · subst hN0
      go_enter Tryz.func30, Tryz.ntmps30
      go_upto_region 1 with fail
      rw [← HW.out.1, ← HW.out.2.1]
      go_wp2
      go_loopw [3] (fun iv wr => iv = .int .i64 0 ∧ wr = w1) (fun _ _ => 0)
      case atStart => exact ⟨rfl, rfl⟩
      case round =>
        obtain ⟨rfl, rfl⟩ := hrel
        go_wp2
        go_ret
        exact ⟨rfl, HW.out.2.2⟩
    · have hp : (0 : Int) < (N : Int) := by omega
      have hp' : decide (0 < N) = true := by simpa using (by omega : 0 < N)
      have hp2 : 0 < N := by omega
      rw [decide_eq_false hN0]
      clear hN0
      go_enter Tryz.func30, Tryz.ntmps30
      go_upto_region 1 with fail
      rw [← HW.out.1, ← HW.out.2.1]
      go_wp2
      go_ret
      exact ⟨rfl, HW.out.2.2⟩
  rw [if_neg hk1]
  have e1 : valuedK kd = true := by rw [hvk]; simp; omega
  have dk1 : decide (kd = 1) = false := by simpa using hk1
  rw [e1]
  by_cases hn0 : n = 0
  rotate_left
  · have dn : decide (n = 0) = false := by simpa using hn0
    have bn : (n == 0) = false := by simpa using hn0
    rw [bn]
    have HW := hide (And.intro hw1 (And.intro hX b1))
    clear hw1 hX b1 hN h hsz m0 hre e1 hvk
    go_enter Tryz.func30, Tryz.ntmps30
    go_upto_region 1 with fail
    rw [← HW.out.1, ← HW.out.2.1]
    go_wp2
    go_ret
    exact ⟨rfl, HW.out.2.2⟩
  subst hn0
  rw [show (true && ((0 : Int) == 0) && mayB l) = mayB l by simp]
  obtain ⟨R, hR⟩ : ∃ R, R = mayB l := ⟨_, rfl⟩
  rw [← hR]
  have H := hide (And.intro hN (And.intro hR (And.intro hre (And.intro hsz (And.intro hw1 (And.intro hX b1))))))
  have HC := hide x2
  clear hN hR h hre hsz hw1 hX b1 m0 e1 hvk
  go_enter Tryz.func30, Tryz.ntmps30
  go_upto_region 1 with fail
  rw [← H.out.2.2.2.2.1, ← H.out.2.2.2.2.2.1]
  go_wp2
  clear x0 x1 x2 dk dk5 dk1 hk0 hk5 hk1
  go_loopw [3] (fun iv wr => ∃ k : Nat, k ≤ N ∧ iv = .int .i64 k ∧ Hid (mayPre l k ∧ Below w1.heap.size w1 wr)) (fun iv _ => N - (intOf iv).toNat)
  case atStart => exact ⟨0, Nat.zero_le _, rfl, hide ⟨fun j x hj => by omega, Below.refl _ _⟩⟩
  case round =>
    obtain ⟨k, hk, rfl, hP⟩ := hrel
    have x2 := cell_stays HC.out hP.out.2
    by_cases hlt : k < N
    · have d1 : decide (k < N) = true := by simpa using hlt
      have d1' : (k : Int) < (N : Int) := by omega
      obtain ⟨x, hx⟩ : ∃ x, l[k]? = some x := ⟨_, List.getElem?_eq_getElem (by rw [← H.out.1]; exact hlt)⟩
      have hre := H.out.2.2.1.below hP.out.2
      obtain ⟨b, off, hao, q0, q1, q2, q3, q4, q5⟩ := hre.cells hx
      have hxs := H.out.2.2.2.1 x (List.mem_of_getElem? hx)
      have k62 := fun W => refStamp_any x.1.1 x.1.2.1 x.1.2.2.1 x.1.2.2.2.1 x.1.2.2.2.2 W hxs
      have k50 := fun W => refText_any x.2 W
      obtain ⟨w2, hw2⟩ : ∃ w2, w2 = wr.alloc (.cells #[.int .i64 x.1.1, .int .i64 x.1.2.1, .string x.1.2.2.1, .int .i64 x.1.2.2.2.1, .int .i64 x.1.2.2.2.2, .string x.2] 77) := ⟨_, rfl⟩
      have b2 : Below wr.heap.size wr w2 := by rw [hw2]; exact (Below.refl _ wr).alloc (Nat.le_refl _) _
      have hok : okB x (l.take k) = (stV x.1 && textB x.2 && behindB x.1 (l.take k)) := rfl
      have hst : stV x.1 = stampV x.1.1 x.1.2.1 x.1.2.2.1 x.1.2.2.2.1 x.1.2.2.2.2 := rfl
      obtain ⟨V1, hV1⟩ : ∃ V, V = stampV x.1.1 x.1.2.1 x.1.2.2.1 x.1.2.2.2.1 x.1.2.2.2.2 := ⟨_, rfl⟩
      obtain ⟨V2, hV2⟩ : ∃ V, V = textB x.2 := ⟨_, rfl⟩
      obtain ⟨V3, hV3⟩ : ∃ V, V = behindB x.1 (l.take k) := ⟨_, rfl⟩
      rw [hst, ← hV1, ← hV2, ← hV3] at hok
      simp only [← hV1] at k62
      simp only [← hV2] at k50
      have HB1 := hide (nextB hP.out.2 b2)
      have x2' := cell_stays x2 b2
      have hre2 := hre.below b2
      clear hst hV1 hV2
      by_cases hk0 : k = 0
      · subst hk0
        have hV3 : V3 = true := by rw [hV3]; simp [behindB]
        subst hao
        obtain ⟨⟨g, r, l0, n0, i0⟩, t0⟩ := x
        dsimp only at q0 q1 q2 q3 q4 q5 k62 k50 hw2
        simp only [Nat.zero_mul, Nat.add_zero] at q0 q1 q2 q3 q4 q5
        obtain ⟨p0, p1, p2, p3, p4, p5⟩ := new6 wr (.int .i64 g) (.int .i64 r) (.string l0) (.int .i64 n0) (.int .i64 i0) (.string t0) 77
        rw [← hw2] at p0 p1 p2 p3 p4 p5
        obtain ⟨BX, hBX⟩ : ∃ B, B = wr.heap.size := ⟨_, rfl⟩
        rw [← hBX] at p0 p1 p2 p3 p4 p5
        have hS : w2.cell? ⟨BX, 0, none⟩ = some (.int .i64 g) ∧ w2.cell? ⟨BX, 1, none⟩ = some (.int .i64 r) ∧ w2.cell? ⟨BX, 2, none⟩ = some (.string l0) ∧ w2.cell? ⟨BX, 3, none⟩ = some (.int .i64 n0) ∧ w2.cell? ⟨BX, 4, none⟩ = some (.int .i64 i0) ∧ w2.cell? ⟨BX, 5, none⟩ = some (.string t0) ∧ w2.cell? ⟨X, 2, none⟩ = some (.slice (some ⟨b, off, none⟩) N c) ∧ Below w2.heap.size w2 w2 := ⟨p0, p1, p2, p3, p4, p5, x2', Below.refl _ _⟩
        have HX := hide (And.intro hx hok)
        have HN := hide (And.intro hw2 hBX)
        clear hx hok hre hre2 b2 p0 p1 p2 p3 p4 p5 hw2 hBX hxs x2' 
        go_upto_region 7 with fail
        clear q0 q1 q2 q3 q4 q5 x2
        have ew1 := HN.out.1
        have eBX := HN.out.2
        rw [← ew1]
        simp only [← eBX]
        clear ew1 eBX
        cases V1
        · skip
          have qd : w2.drew.cell? ⟨BX, 0, none⟩ = some (.int .i64 g) ∧ w2.drew.cell? ⟨BX, 1, none⟩ = some (.int .i64 r) ∧ w2.drew.cell? ⟨BX, 2, none⟩ = some (.string l0) ∧ w2.drew.cell? ⟨BX, 3, none⟩ = some (.int .i64 n0) ∧ w2.drew.cell? ⟨BX, 4, none⟩ = some (.int .i64 i0) ∧ w2.drew.cell? ⟨BX, 5, none⟩ = some (.string t0) ∧ w2.drew.cell? ⟨X, 2, none⟩ = some (.slice (some ⟨b, off, none⟩) N c) ∧ Below w2.heap.size w2 w2.drew := ⟨cell_stays hS.1 (drew_below w2), cell_stays hS.2.1 (drew_below w2), cell_stays hS.2.2.1 (drew_below w2), cell_stays hS.2.2.2.1 (drew_below w2), cell_stays hS.2.2.2.2.1 (drew_below w2), cell_stays hS.2.2.2.2.2.1 (drew_below w2), cell_stays hS.2.2.2.2.2.2.1 (drew_below w2), nextB hS.2.2.2.2.2.2.2 (drew_below w2)⟩
          refine wp_region_held_drew (S := (fun w' => w'.cell? ⟨BX, 0, none⟩ = some (.int .i64 g) ∧ w'.cell? ⟨BX, 1, none⟩ = some (.int .i64 r) ∧ w'.cell? ⟨BX, 2, none⟩ = some (.string l0) ∧ w'.cell? ⟨BX, 3, none⟩ = some (.int .i64 n0) ∧ w'.cell? ⟨BX, 4, none⟩ = some (.int .i64 i0) ∧ w'.cell? ⟨BX, 5, none⟩ = some (.string t0) ∧ w'.cell? ⟨X, 2, none⟩ = some (.slice (some ⟨b, off, none⟩) N c) ∧ Below w2.heap.size w2 w')) (by kernel_rfl) qd (fun hHeld => ?_)
          try dsimp only at hHeld
          refine take_op (i := 0) (d := 46) (OP := Op.fieldAddr 77 (Operand.tmp 4) 0) (T := 0) (v := ?vzz1) rfl rfl rfl rfl (by kernel_rfl) (by kernel_rfl) (by kernel_rfl) (fun _ _ _ h => h) (by rfl) ?hzz1 hHeld ?rzz1
          case hzz1 => (intro w' hSw; (try dsimp only at hSw); go_simp <;> with_reducible rfl)
          try simp only [Act.put, List.setIfInBounds_toArray, List.set_cons_zero, List.set_cons_succ]
          refine take_op (i := 1) (d := 47) (OP := Op.load 52 (Operand.tmp 46)) (T := 52) (v := ?vzz2) rfl rfl rfl rfl (by kernel_rfl) (by kernel_rfl) (by kernel_rfl) (fun _ _ _ h => h) (by rfl) ?hzz2 hHeld ?rzz2
          case hzz2 => (intro w' hSw; (try dsimp only at hSw); go_simp <;> with_reducible rfl)
          try simp only [Act.put, List.setIfInBounds_toArray, List.set_cons_zero, List.set_cons_succ]
          refine call_op (i := 2) (d := 48) (OP := Op.call { callee := Callee.value (Operand.func 62), args := #[Operand.tmp 47], argTypes := #[52] }) (T := 4) (f := 62) (args := #[.agg #[.int .i64 g, .int .i64 r, .string l0, .int .i64 n0, .int .i64 i0]]) rfl rfl rfl rfl (by kernel_rfl) (by rfl) (by go_simp) ?_
          refine (k62 _).mono ?_
          rintro e z0 ⟨rfl, bz0⟩
          have qz0 : z0.cell? ⟨BX, 0, none⟩ = some (.int .i64 g) ∧ z0.cell? ⟨BX, 1, none⟩ = some (.int .i64 r) ∧ z0.cell? ⟨BX, 2, none⟩ = some (.string l0) ∧ z0.cell? ⟨BX, 3, none⟩ = some (.int .i64 n0) ∧ z0.cell? ⟨BX, 4, none⟩ = some (.int .i64 i0) ∧ z0.cell? ⟨BX, 5, none⟩ = some (.string t0) ∧ z0.cell? ⟨X, 2, none⟩ = some (.slice (some ⟨b, off, none⟩) N c) ∧ Below w2.heap.size w2 z0 := ⟨cell_stays hHeld.1 bz0, cell_stays hHeld.2.1 bz0, cell_stays hHeld.2.2.1 bz0, cell_stays hHeld.2.2.2.1 bz0, cell_stays hHeld.2.2.2.2.1 bz0, cell_stays hHeld.2.2.2.2.2.1 bz0, cell_stays hHeld.2.2.2.2.2.2.1 bz0, nextB hHeld.2.2.2.2.2.2.2 bz0⟩
          refine ⟨_, rfl, qz0, ?_⟩
          replace hHeld := qz0
          try simp only [Act.put, List.setIfInBounds_toArray, List.set_cons_zero, List.set_cons_succ]
          refine take_op (i := 3) (d := 49) (OP := Op.unOp UnOp.not 4 (Operand.tmp 48)) (T := 4) (v := ?vzz3) rfl rfl rfl rfl (by kernel_rfl) (by kernel_rfl) (by kernel_rfl) (fun _ _ _ h => h) (by rfl) ?hzz3 hHeld ?rzz3
          case hzz3 => (intro w' hSw; (try dsimp only at hSw); go_simp <;> with_reducible rfl)
          try simp only [Act.put, List.setIfInBounds_toArray, List.set_cons_zero, List.set_cons_succ]
          refine take_op (i := 4) (d := 50) (OP := Op.move (Operand.tmp 49)) (T := 4) (v := ?vzz4) rfl rfl rfl rfl (by kernel_rfl) (by kernel_rfl) (by kernel_rfl) (fun _ _ _ h => h) (by rfl) ?hzz4 hHeld ?rzz4
          case hzz4 => (intro w' hSw; (try dsimp only at hSw); go_simp <;> with_reducible rfl)
          try simp only [Act.put, List.setIfInBounds_toArray, List.set_cons_zero, List.set_cons_succ]
          refine pass_op (i := 5) (d := 51) rfl rfl (by kernel_rfl) (by kernel_rfl) (by kernel_rfl) (fun _ _ _ h => h) (by rfl) hHeld ?_
          try simp only [Act.put, List.setIfInBounds_toArray, List.set_cons_zero, List.set_cons_succ]
          refine pass_op (i := 6) (d := 52) rfl rfl (by kernel_rfl) (by kernel_rfl) (by kernel_rfl) (fun _ _ _ h => h) (by rfl) hHeld ?_
          try simp only [Act.put, List.setIfInBounds_toArray, List.set_cons_zero, List.set_cons_succ]
          refine pass_op (i := 7) (d := 53) rfl rfl (by kernel_rfl) (by kernel_rfl) (by kernel_rfl) (fun _ _ _ h => h) (by rfl) hHeld ?_
          try simp only [Act.put, List.setIfInBounds_toArray, List.set_cons_zero, List.set_cons_succ]
          refine pass_op (i := 8) (d := 54) rfl rfl (by kernel_rfl) (by kernel_rfl) (by kernel_rfl) (fun _ _ _ h => h) (by rfl) hHeld ?_
          try simp only [Act.put, List.setIfInBounds_toArray, List.set_cons_zero, List.set_cons_succ]
          refine take_op (i := 9) (d := 55) (OP := Op.pick (Operand.tmp 50) (Operand.const (Value.bool true)) (Operand.tmp 54)) (T := 4) (v := ?vzz5) rfl rfl rfl rfl (by kernel_rfl) (by kernel_rfl) (by kernel_rfl) (fun _ _ _ h => h) (by rfl) ?hzz5 hHeld ?rzz5
          case hzz5 => (intro w' hSw; (try dsimp only at hSw); go_simp <;> with_reducible rfl)
          try simp only [Act.put, List.setIfInBounds_toArray, List.set_cons_zero, List.set_cons_succ]
          refine take_op (i := 10) (d := 56) (OP := Op.move (Operand.tmp 55)) (T := 4) (v := ?vzz6) rfl rfl rfl rfl (by kernel_rfl) (by kernel_rfl) (by kernel_rfl) (fun _ _ _ h => h) (by rfl) ?hzz6 hHeld ?rzz6
          case hzz6 => (intro w' hSw; (try dsimp only at hSw); go_simp <;> with_reducible rfl)
          try simp only [Act.put, List.setIfInBounds_toArray, List.set_cons_zero, List.set_cons_succ]
          refine pass_op (i := 11) (d := 57) rfl rfl (by kernel_rfl) (by kernel_rfl) (by kernel_rfl) (fun _ _ _ h => h) (by rfl) hHeld ?_
          try simp only [Act.put, List.setIfInBounds_toArray, List.set_cons_zero, List.set_cons_succ]
          refine pass_op (i := 12) (d := 58) rfl rfl (by kernel_rfl) (by kernel_rfl) (by kernel_rfl) (fun _ _ _ h => h) (by rfl) hHeld ?_
          try simp only [Act.put, List.setIfInBounds_toArray, List.set_cons_zero, List.set_cons_succ]
          refine pass_op (i := 13) (d := 59) rfl rfl (by kernel_rfl) (by kernel_rfl) (by kernel_rfl) (fun _ _ _ h => h) (by rfl) hHeld ?_
          try simp only [Act.put, List.setIfInBounds_toArray, List.set_cons_zero, List.set_cons_succ]
          refine pass_op (i := 14) (d := 60) rfl rfl (by kernel_rfl) (by kernel_rfl) (by kernel_rfl) (fun _ _ _ h => h) (by rfl) hHeld ?_
          try simp only [Act.put, List.setIfInBounds_toArray, List.set_cons_zero, List.set_cons_succ]
          refine pass_op (i := 15) (d := 61) rfl rfl (by kernel_rfl) (by kernel_rfl) (by kernel_rfl) (fun _ _ _ h => h) (by rfl) hHeld ?_
          try simp only [Act.put, List.setIfInBounds_toArray, List.set_cons_zero, List.set_cons_succ]
          refine pass_op (i := 16) (d := 62) rfl rfl (by kernel_rfl) (by kernel_rfl) (by kernel_rfl) (fun _ _ _ h => h) (by rfl) hHeld ?_
          try simp only [Act.put, List.setIfInBounds_toArray, List.set_cons_zero, List.set_cons_succ]
          refine pass_op (i := 17) (d := 63) rfl rfl (by kernel_rfl) (by kernel_rfl) (by kernel_rfl) (fun _ _ _ h => h) (by rfl) hHeld ?_
          try simp only [Act.put, List.setIfInBounds_toArray, List.set_cons_zero, List.set_cons_succ]
          refine pass_op (i := 18) (d := 64) rfl rfl (by kernel_rfl) (by kernel_rfl) (by kernel_rfl) (fun _ _ _ h => h) (by rfl) hHeld ?_
          try simp only [Act.put, List.setIfInBounds_toArray, List.set_cons_zero, List.set_cons_succ]
          refine pass_op (i := 19) (d := 65) rfl rfl (by kernel_rfl) (by kernel_rfl) (by kernel_rfl) (fun _ _ _ h => h) (by rfl) hHeld ?_
          try simp only [Act.put, List.setIfInBounds_toArray, List.set_cons_zero, List.set_cons_succ]
          refine pass_op (i := 20) (d := 66) rfl rfl (by kernel_rfl) (by kernel_rfl) (by kernel_rfl) (fun _ _ _ h => h) (by rfl) hHeld ?_
          try simp only [Act.put, List.setIfInBounds_toArray, List.set_cons_zero, List.set_cons_succ]
          refine pass_op (i := 21) (d := 67) rfl rfl (by kernel_rfl) (by kernel_rfl) (by kernel_rfl) (fun _ _ _ h => h) (by rfl) hHeld ?_
          try simp only [Act.put, List.setIfInBounds_toArray, List.set_cons_zero, List.set_cons_succ]
          refine pass_op (i := 22) (d := 68) rfl rfl (by kernel_rfl) (by kernel_rfl) (by kernel_rfl) (fun _ _ _ h => h) (by rfl) hHeld ?_
          try simp only [Act.put, List.setIfInBounds_toArray, List.set_cons_zero, List.set_cons_succ]
          refine pass_op (i := 23) (d := 69) rfl rfl (by kernel_rfl) (by kernel_rfl) (by kernel_rfl) (fun _ _ _ h => h) (by rfl) hHeld ?_
          try simp only [Act.put, List.setIfInBounds_toArray, List.set_cons_zero, List.set_cons_succ]
          refine pass_op (i := 24) (d := 70) rfl rfl (by kernel_rfl) (by kernel_rfl) (by kernel_rfl) (fun _ _ _ h => h) (by rfl) hHeld ?_
          try simp only [Act.put, List.setIfInBounds_toArray, List.set_cons_zero, List.set_cons_succ]
          refine pass_op (i := 25) (d := 71) rfl rfl (by kernel_rfl) (by kernel_rfl) (by kernel_rfl) (fun _ _ _ h => h) (by rfl) hHeld ?_
          try simp only [Act.put, List.setIfInBounds_toArray, List.set_cons_zero, List.set_cons_succ]
          refine take_op (i := 26) (d := 72) (OP := Op.pick (Operand.tmp 56) (Operand.const (Value.bool true)) (Operand.tmp 71)) (T := 4) (v := ?vzz7) rfl rfl rfl rfl (by kernel_rfl) (by kernel_rfl) (by kernel_rfl) (fun _ _ _ h => h) (by rfl) ?hzz7 hHeld ?rzz7
          case hzz7 => (intro w' hSw; (try dsimp only at hSw); go_simp <;> with_reducible rfl)
          try simp only [Act.put, List.setIfInBounds_toArray, List.set_cons_zero, List.set_cons_succ]
          refine wpAnyH_done (by kernel_rfl) ?_ _
          have HE := hide hHeld.2.2.2.2.2.2.2
          clear hHeld qd hS
          go_wp2
          go_ret
          refine ⟨?_, nextB H.out.2.2.2.2.2.2 (nextB HB1.out HE.out)⟩
          have : R = false := by
            rw [H.out.2.1, Bool.eq_false_iff, Ne, mayB_iff]
            intro hm
            have := hm 0 _ (by rw [← H.out.1]; exact hlt) HX.out.1
            rw [HX.out.2] at this
            simp at this
          rw [this]; rfl
        · cases V2
          · skip
            have qd : w2.drew.cell? ⟨BX, 0, none⟩ = some (.int .i64 g) ∧ w2.drew.cell? ⟨BX, 1, none⟩ = some (.int .i64 r) ∧ w2.drew.cell? ⟨BX, 2, none⟩ = some (.string l0) ∧ w2.drew.cell? ⟨BX, 3, none⟩ = some (.int .i64 n0) ∧ w2.drew.cell? ⟨BX, 4, none⟩ = some (.int .i64 i0) ∧ w2.drew.cell? ⟨BX, 5, none⟩ = some (.string t0) ∧ w2.drew.cell? ⟨X, 2, none⟩ = some (.slice (some ⟨b, off, none⟩) N c) ∧ Below w2.heap.size w2 w2.drew := ⟨cell_stays hS.1 (drew_below w2), cell_stays hS.2.1 (drew_below w2), cell_stays hS.2.2.1 (drew_below w2), cell_stays hS.2.2.2.1 (drew_below w2), cell_stays hS.2.2.2.2.1 (drew_below w2), cell_stays hS.2.2.2.2.2.1 (drew_below w2), cell_stays hS.2.2.2.2.2.2.1 (drew_below w2), nextB hS.2.2.2.2.2.2.2 (drew_below w2)⟩
            refine wp_region_held_drew (S := (fun w' => w'.cell? ⟨BX, 0, none⟩ = some (.int .i64 g) ∧ w'.cell? ⟨BX, 1, none⟩ = some (.int .i64 r) ∧ w'.cell? ⟨BX, 2, none⟩ = some (.string l0) ∧ w'.cell? ⟨BX, 3, none⟩ = some (.int .i64 n0) ∧ w'.cell? ⟨BX, 4, none⟩ = some (.int .i64 i0) ∧ w'.cell? ⟨BX, 5, none⟩ = some (.string t0) ∧ w'.cell? ⟨X, 2, none⟩ = some (.slice (some ⟨b, off, none⟩) N c) ∧ Below w2.heap.size w2 w')) (by kernel_rfl) qd (fun hHeld => ?_)
            try dsimp only at hHeld
            refine take_op (i := 0) (d := 46) (OP := Op.fieldAddr 77 (Operand.tmp 4) 0) (T := 0) (v := ?vzz8) rfl rfl rfl rfl (by kernel_rfl) (by kernel_rfl) (by kernel_rfl) (fun _ _ _ h => h) (by rfl) ?hzz8 hHeld ?rzz8
            case hzz8 => (intro w' hSw; (try dsimp only at hSw); go_simp <;> with_reducible rfl)
            try simp only [Act.put, List.setIfInBounds_toArray, List.set_cons_zero, List.set_cons_succ]
            refine take_op (i := 1) (d := 47) (OP := Op.load 52 (Operand.tmp 46)) (T := 52) (v := ?vzz9) rfl rfl rfl rfl (by kernel_rfl) (by kernel_rfl) (by kernel_rfl) (fun _ _ _ h => h) (by rfl) ?hzz9 hHeld ?rzz9
            case hzz9 => (intro w' hSw; (try dsimp only at hSw); go_simp <;> with_reducible rfl)
            try simp only [Act.put, List.setIfInBounds_toArray, List.set_cons_zero, List.set_cons_succ]
            refine call_op (i := 2) (d := 48) (OP := Op.call { callee := Callee.value (Operand.func 62), args := #[Operand.tmp 47], argTypes := #[52] }) (T := 4) (f := 62) (args := #[.agg #[.int .i64 g, .int .i64 r, .string l0, .int .i64 n0, .int .i64 i0]]) rfl rfl rfl rfl (by kernel_rfl) (by rfl) (by go_simp) ?_
            refine (k62 _).mono ?_
            rintro e z0 ⟨rfl, bz0⟩
            have qz0 : z0.cell? ⟨BX, 0, none⟩ = some (.int .i64 g) ∧ z0.cell? ⟨BX, 1, none⟩ = some (.int .i64 r) ∧ z0.cell? ⟨BX, 2, none⟩ = some (.string l0) ∧ z0.cell? ⟨BX, 3, none⟩ = some (.int .i64 n0) ∧ z0.cell? ⟨BX, 4, none⟩ = some (.int .i64 i0) ∧ z0.cell? ⟨BX, 5, none⟩ = some (.string t0) ∧ z0.cell? ⟨X, 2, none⟩ = some (.slice (some ⟨b, off, none⟩) N c) ∧ Below w2.heap.size w2 z0 := ⟨cell_stays hHeld.1 bz0, cell_stays hHeld.2.1 bz0, cell_stays hHeld.2.2.1 bz0, cell_stays hHeld.2.2.2.1 bz0, cell_stays hHeld.2.2.2.2.1 bz0, cell_stays hHeld.2.2.2.2.2.1 bz0, cell_stays hHeld.2.2.2.2.2.2.1 bz0, nextB hHeld.2.2.2.2.2.2.2 bz0⟩
            refine ⟨_, rfl, qz0, ?_⟩
            replace hHeld := qz0
            try simp only [Act.put, List.setIfInBounds_toArray, List.set_cons_zero, List.set_cons_succ]
            refine take_op (i := 3) (d := 49) (OP := Op.unOp UnOp.not 4 (Operand.tmp 48)) (T := 4) (v := ?vzz10) rfl rfl rfl rfl (by kernel_rfl) (by kernel_rfl) (by kernel_rfl) (fun _ _ _ h => h) (by rfl) ?hzz10 hHeld ?rzz10
            case hzz10 => (intro w' hSw; (try dsimp only at hSw); go_simp <;> with_reducible rfl)
            try simp only [Act.put, List.setIfInBounds_toArray, List.set_cons_zero, List.set_cons_succ]
            refine take_op (i := 4) (d := 50) (OP := Op.move (Operand.tmp 49)) (T := 4) (v := ?vzz11) rfl rfl rfl rfl (by kernel_rfl) (by kernel_rfl) (by kernel_rfl) (fun _ _ _ h => h) (by rfl) ?hzz11 hHeld ?rzz11
            case hzz11 => (intro w' hSw; (try dsimp only at hSw); go_simp <;> with_reducible rfl)
            try simp only [Act.put, List.setIfInBounds_toArray, List.set_cons_zero, List.set_cons_succ]
            refine take_op (i := 5) (d := 51) (OP := Op.fieldAddr 77 (Operand.tmp 4) 1) (T := 0) (v := ?vzz12) rfl rfl rfl rfl (by kernel_rfl) (by kernel_rfl) (by kernel_rfl) (fun _ _ _ h => h) (by rfl) ?hzz12 hHeld ?rzz12
            case hzz12 => (intro w' hSw; (try dsimp only at hSw); go_simp <;> with_reducible rfl)
            try simp only [Act.put, List.setIfInBounds_toArray, List.set_cons_zero, List.set_cons_succ]
            refine take_op (i := 6) (d := 52) (OP := Op.load 9 (Operand.tmp 51)) (T := 9) (v := ?vzz13) rfl rfl rfl rfl (by kernel_rfl) (by kernel_rfl) (by kernel_rfl) (fun _ _ _ h => h) (by rfl) ?hzz13 hHeld ?rzz13
            case hzz13 => (intro w' hSw; (try dsimp only at hSw); go_simp <;> with_reducible rfl)
            try simp only [Act.put, List.setIfInBounds_toArray, List.set_cons_zero, List.set_cons_succ]
            refine call_op (i := 7) (d := 53) (OP := Op.call { callee := Callee.value (Operand.func 50), args := #[Operand.tmp 52], argTypes := #[9] }) (T := 4) (f := 50) (args := #[.string t0]) rfl rfl rfl rfl (by kernel_rfl) (by rfl) (by go_simp) ?_
            refine (k50 _).mono ?_
            rintro e z1 ⟨rfl, hz1⟩
            subst hz1
            refine ⟨_, rfl, hHeld, ?_⟩
            try simp only [Act.put, List.setIfInBounds_toArray, List.set_cons_zero, List.set_cons_succ]
            refine take_op (i := 8) (d := 54) (OP := Op.unOp UnOp.not 4 (Operand.tmp 53)) (T := 4) (v := ?vzz14) rfl rfl rfl rfl (by kernel_rfl) (by kernel_rfl) (by kernel_rfl) (fun _ _ _ h => h) (by rfl) ?hzz14 hHeld ?rzz14
            case hzz14 => (intro w' hSw; (try dsimp only at hSw); go_simp <;> with_reducible rfl)
            try simp only [Act.put, List.setIfInBounds_toArray, List.set_cons_zero, List.set_cons_succ]
            refine take_op (i := 9) (d := 55) (OP := Op.pick (Operand.tmp 50) (Operand.const (Value.bool true)) (Operand.tmp 54)) (T := 4) (v := ?vzz15) rfl rfl rfl rfl (by kernel_rfl) (by kernel_rfl) (by kernel_rfl) (fun _ _ _ h => h) (by rfl) ?hzz15 hHeld ?rzz15
            case hzz15 => (intro w' hSw; (try dsimp only at hSw); go_simp <;> with_reducible rfl)
            try simp only [Act.put, List.setIfInBounds_toArray, List.set_cons_zero, List.set_cons_succ]
            refine take_op (i := 10) (d := 56) (OP := Op.move (Operand.tmp 55)) (T := 4) (v := ?vzz16) rfl rfl rfl rfl (by kernel_rfl) (by kernel_rfl) (by kernel_rfl) (fun _ _ _ h => h) (by rfl) ?hzz16 hHeld ?rzz16
            case hzz16 => (intro w' hSw; (try dsimp only at hSw); go_simp <;> with_reducible rfl)
            try simp only [Act.put, List.setIfInBounds_toArray, List.set_cons_zero, List.set_cons_succ]
            refine pass_op (i := 11) (d := 57) rfl rfl (by kernel_rfl) (by kernel_rfl) (by kernel_rfl) (fun _ _ _ h => h) (by rfl) hHeld ?_
            try simp only [Act.put, List.setIfInBounds_toArray, List.set_cons_zero, List.set_cons_succ]
            refine pass_op (i := 12) (d := 58) rfl rfl (by kernel_rfl) (by kernel_rfl) (by kernel_rfl) (fun _ _ _ h => h) (by rfl) hHeld ?_
            try simp only [Act.put, List.setIfInBounds_toArray, List.set_cons_zero, List.set_cons_succ]
            refine pass_op (i := 13) (d := 59) rfl rfl (by kernel_rfl) (by kernel_rfl) (by kernel_rfl) (fun _ _ _ h => h) (by rfl) hHeld ?_
            try simp only [Act.put, List.setIfInBounds_toArray, List.set_cons_zero, List.set_cons_succ]
            refine pass_op (i := 14) (d := 60) rfl rfl (by kernel_rfl) (by kernel_rfl) (by kernel_rfl) (fun _ _ _ h => h) (by rfl) hHeld ?_
            try simp only [Act.put, List.setIfInBounds_toArray, List.set_cons_zero, List.set_cons_succ]
            refine pass_op (i := 15) (d := 61) rfl rfl (by kernel_rfl) (by kernel_rfl) (by kernel_rfl) (fun _ _ _ h => h) (by rfl) hHeld ?_
            try simp only [Act.put, List.setIfInBounds_toArray, List.set_cons_zero, List.set_cons_succ]
            refine pass_op (i := 16) (d := 62) rfl rfl (by kernel_rfl) (by kernel_rfl) (by kernel_rfl) (fun _ _ _ h => h) (by rfl) hHeld ?_
            try simp only [Act.put, List.setIfInBounds_toArray, List.set_cons_zero, List.set_cons_succ]
            refine pass_op (i := 17) (d := 63) rfl rfl (by kernel_rfl) (by kernel_rfl) (by kernel_rfl) (fun _ _ _ h => h) (by rfl) hHeld ?_
            try simp only [Act.put, List.setIfInBounds_toArray, List.set_cons_zero, List.set_cons_succ]
            refine pass_op (i := 18) (d := 64) rfl rfl (by kernel_rfl) (by kernel_rfl) (by kernel_rfl) (fun _ _ _ h => h) (by rfl) hHeld ?_
            try simp only [Act.put, List.setIfInBounds_toArray, List.set_cons_zero, List.set_cons_succ]
            refine pass_op (i := 19) (d := 65) rfl rfl (by kernel_rfl) (by kernel_rfl) (by kernel_rfl) (fun _ _ _ h => h) (by rfl) hHeld ?_
            try simp only [Act.put, List.setIfInBounds_toArray, List.set_cons_zero, List.set_cons_succ]
            refine pass_op (i := 20) (d := 66) rfl rfl (by kernel_rfl) (by kernel_rfl) (by kernel_rfl) (fun _ _ _ h => h) (by rfl) hHeld ?_
            try simp only [Act.put, List.setIfInBounds_toArray, List.set_cons_zero, List.set_cons_succ]
            refine pass_op (i := 21) (d := 67) rfl rfl (by kernel_rfl) (by kernel_rfl) (by kernel_rfl) (fun _ _ _ h => h) (by rfl) hHeld ?_
            try simp only [Act.put, List.setIfInBounds_toArray, List.set_cons_zero, List.set_cons_succ]
            refine pass_op (i := 22) (d := 68) rfl rfl (by kernel_rfl) (by kernel_rfl) (by kernel_rfl) (fun _ _ _ h => h) (by rfl) hHeld ?_
            try simp only [Act.put, List.setIfInBounds_toArray, List.set_cons_zero, List.set_cons_succ]
            refine pass_op (i := 23) (d := 69) rfl rfl (by kernel_rfl) (by kernel_rfl) (by kernel_rfl) (fun _ _ _ h => h) (by rfl) hHeld ?_
            try simp only [Act.put, List.setIfInBounds_toArray, List.set_cons_zero, List.set_cons_succ]
            refine pass_op (i := 24) (d := 70) rfl rfl (by kernel_rfl) (by kernel_rfl) (by kernel_rfl) (fun _ _ _ h => h) (by rfl) hHeld ?_
            try simp only [Act.put, List.setIfInBounds_toArray, List.set_cons_zero, List.set_cons_succ]
            refine pass_op (i := 25) (d := 71) rfl rfl (by kernel_rfl) (by kernel_rfl) (by kernel_rfl) (fun _ _ _ h => h) (by rfl) hHeld ?_
            try simp only [Act.put, List.setIfInBounds_toArray, List.set_cons_zero, List.set_cons_succ]
            refine take_op (i := 26) (d := 72) (OP := Op.pick (Operand.tmp 56) (Operand.const (Value.bool true)) (Operand.tmp 71)) (T := 4) (v := ?vzz17) rfl rfl rfl rfl (by kernel_rfl) (by kernel_rfl) (by kernel_rfl) (fun _ _ _ h => h) (by rfl) ?hzz17 hHeld ?rzz17
            case hzz17 => (intro w' hSw; (try dsimp only at hSw); go_simp <;> with_reducible rfl)
            try simp only [Act.put, List.setIfInBounds_toArray, List.set_cons_zero, List.set_cons_succ]
            refine wpAnyH_done (by kernel_rfl) ?_ _
            have HE := hide hHeld.2.2.2.2.2.2.2
            clear hHeld qd hS
            go_wp2
            go_ret
            refine ⟨?_, nextB H.out.2.2.2.2.2.2 (nextB HB1.out HE.out)⟩
            have : R = false := by
              rw [H.out.2.1, Bool.eq_false_iff, Ne, mayB_iff]
              intro hm
              have := hm 0 _ (by rw [← H.out.1]; exact hlt) HX.out.1
              rw [HX.out.2] at this
              simp at this
            rw [this]; rfl
          · subst hV3
            have qd : w2.drew.cell? ⟨BX, 0, none⟩ = some (.int .i64 g) ∧ w2.drew.cell? ⟨BX, 1, none⟩ = some (.int .i64 r) ∧ w2.drew.cell? ⟨BX, 2, none⟩ = some (.string l0) ∧ w2.drew.cell? ⟨BX, 3, none⟩ = some (.int .i64 n0) ∧ w2.drew.cell? ⟨BX, 4, none⟩ = some (.int .i64 i0) ∧ w2.drew.cell? ⟨BX, 5, none⟩ = some (.string t0) ∧ w2.drew.cell? ⟨X, 2, none⟩ = some (.slice (some ⟨b, off, none⟩) N c) ∧ Below w2.heap.size w2 w2.drew := ⟨cell_stays hS.1 (drew_below w2), cell_stays hS.2.1 (drew_below w2), cell_stays hS.2.2.1 (drew_below w2), cell_stays hS.2.2.2.1 (drew_below w2), cell_stays hS.2.2.2.2.1 (drew_below w2), cell_stays hS.2.2.2.2.2.1 (drew_below w2), cell_stays hS.2.2.2.2.2.2.1 (drew_below w2), nextB hS.2.2.2.2.2.2.2 (drew_below w2)⟩
            refine wp_region_held_drew (S := (fun w' => w'.cell? ⟨BX, 0, none⟩ = some (.int .i64 g) ∧ w'.cell? ⟨BX, 1, none⟩ = some (.int .i64 r) ∧ w'.cell? ⟨BX, 2, none⟩ = some (.string l0) ∧ w'.cell? ⟨BX, 3, none⟩ = some (.int .i64 n0) ∧ w'.cell? ⟨BX, 4, none⟩ = some (.int .i64 i0) ∧ w'.cell? ⟨BX, 5, none⟩ = some (.string t0) ∧ w'.cell? ⟨X, 2, none⟩ = some (.slice (some ⟨b, off, none⟩) N c) ∧ Below w2.heap.size w2 w')) (by kernel_rfl) qd (fun hHeld => ?_)
            try dsimp only at hHeld
            refine take_op (i := 0) (d := 46) (OP := Op.fieldAddr 77 (Operand.tmp 4) 0) (T := 0) (v := ?vzz18) rfl rfl rfl rfl (by kernel_rfl) (by kernel_rfl) (by kernel_rfl) (fun _ _ _ h => h) (by rfl) ?hzz18 hHeld ?rzz18
            case hzz18 => (intro w' hSw; (try dsimp only at hSw); go_simp <;> with_reducible rfl)
            try simp only [Act.put, List.setIfInBounds_toArray, List.set_cons_zero, List.set_cons_succ]
            refine take_op (i := 1) (d := 47) (OP := Op.load 52 (Operand.tmp 46)) (T := 52) (v := ?vzz19) rfl rfl rfl rfl (by kernel_rfl) (by kernel_rfl) (by kernel_rfl) (fun _ _ _ h => h) (by rfl) ?hzz19 hHeld ?rzz19
            case hzz19 => (intro w' hSw; (try dsimp only at hSw); go_simp <;> with_reducible rfl)
            try simp only [Act.put, List.setIfInBounds_toArray, List.set_cons_zero, List.set_cons_succ]
            refine call_op (i := 2) (d := 48) (OP := Op.call { callee := Callee.value (Operand.func 62), args := #[Operand.tmp 47], argTypes := #[52] }) (T := 4) (f := 62) (args := #[.agg #[.int .i64 g, .int .i64 r, .string l0, .int .i64 n0, .int .i64 i0]]) rfl rfl rfl rfl (by kernel_rfl) (by rfl) (by go_simp) ?_
            refine (k62 _).mono ?_
            rintro e z0 ⟨rfl, bz0⟩
            have qz0 : z0.cell? ⟨BX, 0, none⟩ = some (.int .i64 g) ∧ z0.cell? ⟨BX, 1, none⟩ = some (.int .i64 r) ∧ z0.cell? ⟨BX, 2, none⟩ = some (.string l0) ∧ z0.cell? ⟨BX, 3, none⟩ = some (.int .i64 n0) ∧ z0.cell? ⟨BX, 4, none⟩ = some (.int .i64 i0) ∧ z0.cell? ⟨BX, 5, none⟩ = some (.string t0) ∧ z0.cell? ⟨X, 2, none⟩ = some (.slice (some ⟨b, off, none⟩) N c) ∧ Below w2.heap.size w2 z0 := ⟨cell_stays hHeld.1 bz0, cell_stays hHeld.2.1 bz0, cell_stays hHeld.2.2.1 bz0, cell_stays hHeld.2.2.2.1 bz0, cell_stays hHeld.2.2.2.2.1 bz0, cell_stays hHeld.2.2.2.2.2.1 bz0, cell_stays hHeld.2.2.2.2.2.2.1 bz0, nextB hHeld.2.2.2.2.2.2.2 bz0⟩
            refine ⟨_, rfl, qz0, ?_⟩
            replace hHeld := qz0
            try simp only [Act.put, List.setIfInBounds_toArray, List.set_cons_zero, List.set_cons_succ]
            refine take_op (i := 3) (d := 49) (OP := Op.unOp UnOp.not 4 (Operand.tmp 48)) (T := 4) (v := ?vzz20) rfl rfl rfl rfl (by kernel_rfl) (by kernel_rfl) (by kernel_rfl) (fun _ _ _ h => h) (by rfl) ?hzz20 hHeld ?rzz20
            case hzz20 => (intro w' hSw; (try dsimp only at hSw); go_simp <;> with_reducible rfl)
            try simp only [Act.put, List.setIfInBounds_toArray, List.set_cons_zero, List.set_cons_succ]
            refine take_op (i := 4) (d := 50) (OP := Op.move (Operand.tmp 49)) (T := 4) (v := ?vzz21) rfl rfl rfl rfl (by kernel_rfl) (by kernel_rfl) (by kernel_rfl) (fun _ _ _ h => h) (by rfl) ?hzz21 hHeld ?rzz21
            case hzz21 => (intro w' hSw; (try dsimp only at hSw); go_simp <;> with_reducible rfl)
            try simp only [Act.put, List.setIfInBounds_toArray, List.set_cons_zero, List.set_cons_succ]
            refine take_op (i := 5) (d := 51) (OP := Op.fieldAddr 77 (Operand.tmp 4) 1) (T := 0) (v := ?vzz22) rfl rfl rfl rfl (by kernel_rfl) (by kernel_rfl) (by kernel_rfl) (fun _ _ _ h => h) (by rfl) ?hzz22 hHeld ?rzz22
            case hzz22 => (intro w' hSw; (try dsimp only at hSw); go_simp <;> with_reducible rfl)
            try simp only [Act.put, List.setIfInBounds_toArray, List.set_cons_zero, List.set_cons_succ]
            refine take_op (i := 6) (d := 52) (OP := Op.load 9 (Operand.tmp 51)) (T := 9) (v := ?vzz23) rfl rfl rfl rfl (by kernel_rfl) (by kernel_rfl) (by kernel_rfl) (fun _ _ _ h => h) (by rfl) ?hzz23 hHeld ?rzz23
            case hzz23 => (intro w' hSw; (try dsimp only at hSw); go_simp <;> with_reducible rfl)
            try simp only [Act.put, List.setIfInBounds_toArray, List.set_cons_zero, List.set_cons_succ]
            refine call_op (i := 7) (d := 53) (OP := Op.call { callee := Callee.value (Operand.func 50), args := #[Operand.tmp 52], argTypes := #[9] }) (T := 4) (f := 50) (args := #[.string t0]) rfl rfl rfl rfl (by kernel_rfl) (by rfl) (by go_simp) ?_
            refine (k50 _).mono ?_
            rintro e z1 ⟨rfl, hz1⟩
            subst hz1
            refine ⟨_, rfl, hHeld, ?_⟩
            try simp only [Act.put, List.setIfInBounds_toArray, List.set_cons_zero, List.set_cons_succ]
            refine take_op (i := 8) (d := 54) (OP := Op.unOp UnOp.not 4 (Operand.tmp 53)) (T := 4) (v := ?vzz24) rfl rfl rfl rfl (by kernel_rfl) (by kernel_rfl) (by kernel_rfl) (fun _ _ _ h => h) (by rfl) ?hzz24 hHeld ?rzz24
            case hzz24 => (intro w' hSw; (try dsimp only at hSw); go_simp <;> with_reducible rfl)
            try simp only [Act.put, List.setIfInBounds_toArray, List.set_cons_zero, List.set_cons_succ]
            refine take_op (i := 9) (d := 55) (OP := Op.pick (Operand.tmp 50) (Operand.const (Value.bool true)) (Operand.tmp 54)) (T := 4) (v := ?vzz25) rfl rfl rfl rfl (by kernel_rfl) (by kernel_rfl) (by kernel_rfl) (fun _ _ _ h => h) (by rfl) ?hzz25 hHeld ?rzz25
            case hzz25 => (intro w' hSw; (try dsimp only at hSw); go_simp <;> with_reducible rfl)
            try simp only [Act.put, List.setIfInBounds_toArray, List.set_cons_zero, List.set_cons_succ]
            refine take_op (i := 10) (d := 56) (OP := Op.move (Operand.tmp 55)) (T := 4) (v := ?vzz26) rfl rfl rfl rfl (by kernel_rfl) (by kernel_rfl) (by kernel_rfl) (fun _ _ _ h => h) (by rfl) ?hzz26 hHeld ?rzz26
            case hzz26 => (intro w' hSw; (try dsimp only at hSw); go_simp <;> with_reducible rfl)
            try simp only [Act.put, List.setIfInBounds_toArray, List.set_cons_zero, List.set_cons_succ]
            refine take_op (i := 11) (d := 57) (OP := Op.move (Operand.tmp 3)) (T := 3) (v := ?vzz27) rfl rfl rfl rfl (by kernel_rfl) (by kernel_rfl) (by kernel_rfl) (fun _ _ _ h => h) (by rfl) ?hzz27 hHeld ?rzz27
            case hzz27 => (intro w' hSw; (try dsimp only at hSw); go_simp <;> with_reducible rfl)
            try simp only [Act.put, List.setIfInBounds_toArray, List.set_cons_zero, List.set_cons_succ]
            refine take_op (i := 12) (d := 58) (OP := Op.binOp BinOp.gtr 3 (Operand.tmp 57) (Operand.const (Value.int IntKind.i64 0)) 3) (T := 4) (v := ?vzz28) rfl rfl rfl rfl (by kernel_rfl) (by kernel_rfl) (by kernel_rfl) (fun _ _ _ h => h) (by rfl) ?hzz28 hHeld ?rzz28
            case hzz28 => (intro w' hSw; (try dsimp only at hSw); go_simp <;> with_reducible rfl)
            try simp only [Act.put, List.setIfInBounds_toArray, List.set_cons_zero, List.set_cons_succ]
            refine take_op (i := 13) (d := 59) (OP := Op.move (Operand.tmp 58)) (T := 4) (v := ?vzz29) rfl rfl rfl rfl (by kernel_rfl) (by kernel_rfl) (by kernel_rfl) (fun _ _ _ h => h) (by rfl) ?hzz29 hHeld ?rzz29
            case hzz29 => (intro w' hSw; (try dsimp only at hSw); go_simp <;> with_reducible rfl)
            try simp only [Act.put, List.setIfInBounds_toArray, List.set_cons_zero, List.set_cons_succ]
            refine pass_op (i := 14) (d := 60) rfl rfl (by kernel_rfl) (by kernel_rfl) (by kernel_rfl) (fun _ _ _ h => h) (by rfl) hHeld ?_
            try simp only [Act.put, List.setIfInBounds_toArray, List.set_cons_zero, List.set_cons_succ]
            refine pass_op (i := 15) (d := 61) rfl rfl (by kernel_rfl) (by kernel_rfl) (by kernel_rfl) (fun _ _ _ h => h) (by rfl) hHeld ?_
            try simp only [Act.put, List.setIfInBounds_toArray, List.set_cons_zero, List.set_cons_succ]
            refine pass_op (i := 16) (d := 62) rfl rfl (by kernel_rfl) (by kernel_rfl) (by kernel_rfl) (fun _ _ _ h => h) (by rfl) hHeld ?_
            try simp only [Act.put, List.setIfInBounds_toArray, List.set_cons_zero, List.set_cons_succ]
            refine pass_op (i := 17) (d := 63) rfl rfl (by kernel_rfl) (by kernel_rfl) (by kernel_rfl) (fun _ _ _ h => h) (by rfl) hHeld ?_
            try simp only [Act.put, List.setIfInBounds_toArray, List.set_cons_zero, List.set_cons_succ]
            refine pass_op (i := 18) (d := 64) rfl rfl (by kernel_rfl) (by kernel_rfl) (by kernel_rfl) (fun _ _ _ h => h) (by rfl) hHeld ?_
            try simp only [Act.put, List.setIfInBounds_toArray, List.set_cons_zero, List.set_cons_succ]
            refine pass_op (i := 19) (d := 65) rfl rfl (by kernel_rfl) (by kernel_rfl) (by kernel_rfl) (fun _ _ _ h => h) (by rfl) hHeld ?_
            try simp only [Act.put, List.setIfInBounds_toArray, List.set_cons_zero, List.set_cons_succ]
            refine pass_op (i := 20) (d := 66) rfl rfl (by kernel_rfl) (by kernel_rfl) (by kernel_rfl) (fun _ _ _ h => h) (by rfl) hHeld ?_
            try simp only [Act.put, List.setIfInBounds_toArray, List.set_cons_zero, List.set_cons_succ]
            refine pass_op (i := 21) (d := 67) rfl rfl (by kernel_rfl) (by kernel_rfl) (by kernel_rfl) (fun _ _ _ h => h) (by rfl) hHeld ?_
            try simp only [Act.put, List.setIfInBounds_toArray, List.set_cons_zero, List.set_cons_succ]
            refine pass_op (i := 22) (d := 68) rfl rfl (by kernel_rfl) (by kernel_rfl) (by kernel_rfl) (fun _ _ _ h => h) (by rfl) hHeld ?_
            try simp only [Act.put, List.setIfInBounds_toArray, List.set_cons_zero, List.set_cons_succ]
            refine pass_op (i := 23) (d := 69) rfl rfl (by kernel_rfl) (by kernel_rfl) (by kernel_rfl) (fun _ _ _ h => h) (by rfl) hHeld ?_
            try simp only [Act.put, List.setIfInBounds_toArray, List.set_cons_zero, List.set_cons_succ]
            refine pass_op (i := 24) (d := 70) rfl rfl (by kernel_rfl) (by kernel_rfl) (by kernel_rfl) (fun _ _ _ h => h) (by rfl) hHeld ?_
            try simp only [Act.put, List.setIfInBounds_toArray, List.set_cons_zero, List.set_cons_succ]
            refine take_op (i := 25) (d := 71) (OP := Op.pick (Operand.tmp 59) (Operand.tmp 70) (Operand.const (Value.bool false))) (T := 4) (v := ?vzz30) rfl rfl rfl rfl (by kernel_rfl) (by kernel_rfl) (by kernel_rfl) (fun _ _ _ h => h) (by rfl) ?hzz30 hHeld ?rzz30
            case hzz30 => (intro w' hSw; (try dsimp only at hSw); go_simp <;> with_reducible rfl)
            try simp only [Act.put, List.setIfInBounds_toArray, List.set_cons_zero, List.set_cons_succ]
            refine take_op (i := 26) (d := 72) (OP := Op.pick (Operand.tmp 56) (Operand.const (Value.bool true)) (Operand.tmp 71)) (T := 4) (v := ?vzz31) rfl rfl rfl rfl (by kernel_rfl) (by kernel_rfl) (by kernel_rfl) (fun _ _ _ h => h) (by rfl) ?hzz31 hHeld ?rzz31
            case hzz31 => (intro w' hSw; (try dsimp only at hSw); go_simp <;> with_reducible rfl)
            try simp only [Act.put, List.setIfInBounds_toArray, List.set_cons_zero, List.set_cons_succ]
            refine wpAnyH_done (by kernel_rfl) ?_ _
            have HE := hide hHeld.2.2.2.2.2.2.2
            clear hHeld qd hS
            go_wp2
            go_roundw
            case rel =>
              refine ⟨1, by omega, by go_num, hide ⟨fun j y hj hy => ?_, nextB HB1.out HE.out⟩⟩
              by_cases hjk : j = 0
              · subst hjk
                rw [HX.out.1] at hy
                cases hy
                rw [HX.out.2]; rfl
              · exact hP.out.1 j y (by omega) hy
            case measure => simp [intOf]; omega
      · obtain ⟨kk, hkk⟩ : ∃ kk, k = kk + 1 := ⟨k - 1, by omega⟩
        obtain ⟨y, hy⟩ : ∃ y, l[kk]? = some y := ⟨_, List.getElem?_eq_getElem (by rw [← H.out.1]; omega)⟩
        obtain ⟨b', off', hao', r0', r1', r2', r3', r4', r5'⟩ := hre2.cells hy
        have hys := H.out.2.2.2.1 y (List.mem_of_getElem? hy)
        rw [hao] at hao'
        cases hao'
        have hV3' : V3 = decide (cmpT y.1 x.1 < 0) := by rw [hV3, hkk, behindB, take_last hy]
        obtain ⟨CZ, hCZ⟩ : ∃ C, C = cmpS y.1.1 y.1.2.1 y.1.2.2.1 y.1.2.2.2.1 y.1.2.2.2.2 x.1.1 x.1.2.1 x.1.2.2.1 x.1.2.2.2.1 x.1.2.2.2.2 := ⟨_, rfl⟩
        have k63 : ∀ W, Calls Tryz.prog 63 #[sv y.1.1 y.1.2.1 y.1.2.2.1 y.1.2.2.2.1 y.1.2.2.2.2, sv x.1.1 x.1.2.1 x.1.2.2.1 x.1.2.2.2.1 x.1.2.2.2.2] W fun e w' => e = .returned (.int .i64 CZ) ∧ Below W.heap.size W w' := fun W => (refCmpS_grow y.1.1 y.1.2.1 y.1.2.2.1 y.1.2.2.2.1 y.1.2.2.2.2 x.1.1 x.1.2.1 x.1.2.2.1 x.1.2.2.2.1 x.1.2.2.2.2 W hys).mono fun e w' hh => ⟨by rw [hCZ, cmp_lexS]; exact hh.1, hh.2.low⟩
        have HZ : Hid (V3 = decide (CZ < 0)) := hide (by rw [hV3', hCZ, cmpS_eq])
        have wz : IntKind.i64.wrap ((k : Int) - 1) = (kk : Int) := by rw [IntKind.wrap_i64]; omega
        have wkk : (kk : Int) < (N : Int) := by omega
        have gk : (0 : Int) < (k : Int) := by omega
        have gk' : decide (0 < k) = true := by simpa using (by omega : 0 < k)
        subst hao
        obtain ⟨⟨g, r, l0, n0, i0⟩, t0⟩ := x
        obtain ⟨⟨g1, r1, l1, n1, i1⟩, t1⟩ := y
        dsimp only at q0 q1 q2 q3 q4 q5 k62 k50 k63 hw2 r0' r1' r2' r3' r4' r5'
        obtain ⟨p0, p1, p2, p3, p4, p5⟩ := new6 wr (.int .i64 g) (.int .i64 r) (.string l0) (.int .i64 n0) (.int .i64 i0) (.string t0) 77
        rw [← hw2] at p0 p1 p2 p3 p4 p5
        obtain ⟨BX, hBX⟩ : ∃ B, B = wr.heap.size := ⟨_, rfl⟩
        rw [← hBX] at p0 p1 p2 p3 p4 p5
        have hS : w2.cell? ⟨BX, 0, none⟩ = some (.int .i64 g) ∧ w2.cell? ⟨BX, 1, none⟩ = some (.int .i64 r) ∧ w2.cell? ⟨BX, 2, none⟩ = some (.string l0) ∧ w2.cell? ⟨BX, 3, none⟩ = some (.int .i64 n0) ∧ w2.cell? ⟨BX, 4, none⟩ = some (.int .i64 i0) ∧ w2.cell? ⟨BX, 5, none⟩ = some (.string t0) ∧ w2.cell? ⟨X, 2, none⟩ = some (.slice (some ⟨b, off, none⟩) N c) ∧ w2.cell? ⟨b, off + kk * 6, none⟩ = some (.int .i64 g1) ∧ w2.cell? ⟨b, off + kk * 6 + 1, none⟩ = some (.int .i64 r1) ∧ w2.cell? ⟨b, off + kk * 6 + 2, none⟩ = some (.string l1) ∧ w2.cell? ⟨b, off + kk * 6 + 3, none⟩ = some (.int .i64 n1) ∧ w2.cell? ⟨b, off + kk * 6 + 4, none⟩ = some (.int .i64 i1) ∧ Below w2.heap.size w2 w2 := ⟨p0, p1, p2, p3, p4, p5, x2', r0', r1', r2', r3', r4', Below.refl _ _⟩
        have HX := hide (And.intro hx hok)
        have HN := hide (And.intro hw2 hBX)
        clear hx hok hre hre2 b2 p0 p1 p2 p3 p4 p5 hw2 hBX hxs hys x2' hV3 hV3' hCZ hk0 hkk hy r0' r1' r2' r3' r4' r5'
        go_upto_region 7 with fail
        clear q0 q1 q2 q3 q4 q5 x2
        have ew1 := HN.out.1
        have eBX := HN.out.2
        rw [← ew1]
        simp only [← eBX]
        clear ew1 eBX
        cases V1
        · skip
          have qd : w2.drew.cell? ⟨BX, 0, none⟩ = some (.int .i64 g) ∧ w2.drew.cell? ⟨BX, 1, none⟩ = some (.int .i64 r) ∧ w2.drew.cell? ⟨BX, 2, none⟩ = some (.string l0) ∧ w2.drew.cell? ⟨BX, 3, none⟩ = some (.int .i64 n0) ∧ w2.drew.cell? ⟨BX, 4, none⟩ = some (.int .i64 i0) ∧ w2.drew.cell? ⟨BX, 5, none⟩ = some (.string t0) ∧ w2.drew.cell? ⟨X, 2, none⟩ = some (.slice (some ⟨b, off, none⟩) N c) ∧ w2.drew.cell? ⟨b, off + kk * 6, none⟩ = some (.int .i64 g1) ∧ w2.drew.cell? ⟨b, off + kk * 6 + 1, none⟩ = some (.int .i64 r1) ∧ w2.drew.cell? ⟨b, off + kk * 6 + 2, none⟩ = some (.string l1) ∧ w2.drew.cell? ⟨b, off + kk * 6 + 3, none⟩ = some (.int .i64 n1) ∧ w2.drew.cell? ⟨b, off + kk * 6 + 4, none⟩ = some (.int .i64 i1) ∧ Below w2.heap.size w2 w2.drew := ⟨cell_stays hS.1 (drew_below w2), cell_stays hS.2.1 (drew_below w2), cell_stays hS.2.2.1 (drew_below w2), cell_stays hS.2.2.2.1 (drew_below w2), cell_stays hS.2.2.2.2.1 (drew_below w2), cell_stays hS.2.2.2.2.2.1 (drew_below w2), cell_stays hS.2.2.2.2.2.2.1 (drew_below w2), cell_stays hS.2.2.2.2.2.2.2.1 (drew_below w2), cell_stays hS.2.2.2.2.2.2.2.2.1 (drew_below w2), cell_stays hS.2.2.2.2.2.2.2.2.2.1 (drew_below w2), cell_stays hS.2.2.2.2.2.2.2.2.2.2.1 (drew_below w2), cell_stays hS.2.2.2.2.2.2.2.2.2.2.2.1 (drew_below w2), nextB hS.2.2.2.2.2.2.2.2.2.2.2.2 (drew_below w2)⟩
          refine wp_region_held_drew (S := (fun w' => w'.cell? ⟨BX, 0, none⟩ = some (.int .i64 g) ∧ w'.cell? ⟨BX, 1, none⟩ = some (.int .i64 r) ∧ w'.cell? ⟨BX, 2, none⟩ = some (.string l0) ∧ w'.cell? ⟨BX, 3, none⟩ = some (.int .i64 n0) ∧ w'.cell? ⟨BX, 4, none⟩ = some (.int .i64 i0) ∧ w'.cell? ⟨BX, 5, none⟩ = some (.string t0) ∧ w'.cell? ⟨X, 2, none⟩ = some (.slice (some ⟨b, off, none⟩) N c) ∧ w'.cell? ⟨b, off + kk * 6, none⟩ = some (.int .i64 g1) ∧ w'.cell? ⟨b, off + kk * 6 + 1, none⟩ = some (.int .i64 r1) ∧ w'.cell? ⟨b, off + kk * 6 + 2, none⟩ = some (.string l1) ∧ w'.cell? ⟨b, off + kk * 6 + 3, none⟩ = some (.int .i64 n1) ∧ w'.cell? ⟨b, off + kk * 6 + 4, none⟩ = some (.int .i64 i1) ∧ Below w2.heap.size w2 w')) (by kernel_rfl) qd (fun hHeld => ?_)
          try dsimp only at hHeld
          refine take_op (i := 0) (d := 46) (OP := Op.fieldAddr 77 (Operand.tmp 4) 0) (T := 0) (v := ?vzz32) rfl rfl rfl rfl (by kernel_rfl) (by kernel_rfl) (by kernel_rfl) (fun _ _ _ h => h) (by rfl) ?hzz32 hHeld ?rzz32
          case hzz32 => (intro w' hSw; (try dsimp only at hSw); go_simp <;> with_reducible rfl)
          try simp only [Act.put, List.setIfInBounds_toArray, List.set_cons_zero, List.set_cons_succ]
          refine take_op (i := 1) (d := 47) (OP := Op.load 52 (Operand.tmp 46)) (T := 52) (v := ?vzz33) rfl rfl rfl rfl (by kernel_rfl) (by kernel_rfl) (by kernel_rfl) (fun _ _ _ h => h) (by rfl) ?hzz33 hHeld ?rzz33
          case hzz33 => (intro w' hSw; (try dsimp only at hSw); go_simp <;> with_reducible rfl)
          try simp only [Act.put, List.setIfInBounds_toArray, List.set_cons_zero, List.set_cons_succ]
          refine call_op (i := 2) (d := 48) (OP := Op.call { callee := Callee.value (Operand.func 62), args := #[Operand.tmp 47], argTypes := #[52] }) (T := 4) (f := 62) (args := #[.agg #[.int .i64 g, .int .i64 r, .string l0, .int .i64 n0, .int .i64 i0]]) rfl rfl rfl rfl (by kernel_rfl) (by rfl) (by go_simp) ?_
          refine (k62 _).mono ?_
          rintro e z0 ⟨rfl, bz0⟩
          have qz0 : z0.cell? ⟨BX, 0, none⟩ = some (.int .i64 g) ∧ z0.cell? ⟨BX, 1, none⟩ = some (.int .i64 r) ∧ z0.cell? ⟨BX, 2, none⟩ = some (.string l0) ∧ z0.cell? ⟨BX, 3, none⟩ = some (.int .i64 n0) ∧ z0.cell? ⟨BX, 4, none⟩ = some (.int .i64 i0) ∧ z0.cell? ⟨BX, 5, none⟩ = some (.string t0) ∧ z0.cell? ⟨X, 2, none⟩ = some (.slice (some ⟨b, off, none⟩) N c) ∧ z0.cell? ⟨b, off + kk * 6, none⟩ = some (.int .i64 g1) ∧ z0.cell? ⟨b, off + kk * 6 + 1, none⟩ = some (.int .i64 r1) ∧ z0.cell? ⟨b, off + kk * 6 + 2, none⟩ = some (.string l1) ∧ z0.cell? ⟨b, off + kk * 6 + 3, none⟩ = some (.int .i64 n1) ∧ z0.cell? ⟨b, off + kk * 6 + 4, none⟩ = some (.int .i64 i1) ∧ Below w2.heap.size w2 z0 := ⟨cell_stays hHeld.1 bz0, cell_stays hHeld.2.1 bz0, cell_stays hHeld.2.2.1 bz0, cell_stays hHeld.2.2.2.1 bz0, cell_stays hHeld.2.2.2.2.1 bz0, cell_stays hHeld.2.2.2.2.2.1 bz0, cell_stays hHeld.2.2.2.2.2.2.1 bz0, cell_stays hHeld.2.2.2.2.2.2.2.1 bz0, cell_stays hHeld.2.2.2.2.2.2.2.2.1 bz0, cell_stays hHeld.2.2.2.2.2.2.2.2.2.1 bz0, cell_stays hHeld.2.2.2.2.2.2.2.2.2.2.1 bz0, cell_stays hHeld.2.2.2.2.2.2.2.2.2.2.2.1 bz0, nextB hHeld.2.2.2.2.2.2.2.2.2.2.2.2 bz0⟩
          refine ⟨_, rfl, qz0, ?_⟩
          replace hHeld := qz0
          try simp only [Act.put, List.setIfInBounds_toArray, List.set_cons_zero, List.set_cons_succ]
          refine take_op (i := 3) (d := 49) (OP := Op.unOp UnOp.not 4 (Operand.tmp 48)) (T := 4) (v := ?vzz34) rfl rfl rfl rfl (by kernel_rfl) (by kernel_rfl) (by kernel_rfl) (fun _ _ _ h => h) (by rfl) ?hzz34 hHeld ?rzz34
          case hzz34 => (intro w' hSw; (try dsimp only at hSw); go_simp <;> with_reducible rfl)
          try simp only [Act.put, List.setIfInBounds_toArray, List.set_cons_zero, List.set_cons_succ]
          refine take_op (i := 4) (d := 50) (OP := Op.move (Operand.tmp 49)) (T := 4) (v := ?vzz35) rfl rfl rfl rfl (by kernel_rfl) (by kernel_rfl) (by kernel_rfl) (fun _ _ _ h => h) (by rfl) ?hzz35 hHeld ?rzz35
          case hzz35 => (intro w' hSw; (try dsimp only at hSw); go_simp <;> with_reducible rfl)
          try simp only [Act.put, List.setIfInBounds_toArray, List.set_cons_zero, List.set_cons_succ]
          refine pass_op (i := 5) (d := 51) rfl rfl (by kernel_rfl) (by kernel_rfl) (by kernel_rfl) (fun _ _ _ h => h) (by rfl) hHeld ?_
          try simp only [Act.put, List.setIfInBounds_toArray, List.set_cons_zero, List.set_cons_succ]
          refine pass_op (i := 6) (d := 52) rfl rfl (by kernel_rfl) (by kernel_rfl) (by kernel_rfl) (fun _ _ _ h => h) (by rfl) hHeld ?_
          try simp only [Act.put, List.setIfInBounds_toArray, List.set_cons_zero, List.set_cons_succ]
          refine pass_op (i := 7) (d := 53) rfl rfl (by kernel_rfl) (by kernel_rfl) (by kernel_rfl) (fun _ _ _ h => h) (by rfl) hHeld ?_
          try simp only [Act.put, List.setIfInBounds_toArray, List.set_cons_zero, List.set_cons_succ]
          refine pass_op (i := 8) (d := 54) rfl rfl (by kernel_rfl) (by kernel_rfl) (by kernel_rfl) (fun _ _ _ h => h) (by rfl) hHeld ?_
          try simp only [Act.put, List.setIfInBounds_toArray, List.set_cons_zero, List.set_cons_succ]
          refine take_op (i := 9) (d := 55) (OP := Op.pick (Operand.tmp 50) (Operand.const (Value.bool true)) (Operand.tmp 54)) (T := 4) (v := ?vzz36) rfl rfl rfl rfl (by kernel_rfl) (by kernel_rfl) (by kernel_rfl) (fun _ _ _ h => h) (by rfl) ?hzz36 hHeld ?rzz36
          case hzz36 => (intro w' hSw; (try dsimp only at hSw); go_simp <;> with_reducible rfl)
          try simp only [Act.put, List.setIfInBounds_toArray, List.set_cons_zero, List.set_cons_succ]
          refine take_op (i := 10) (d := 56) (OP := Op.move (Operand.tmp 55)) (T := 4) (v := ?vzz37) rfl rfl rfl rfl (by kernel_rfl) (by kernel_rfl) (by kernel_rfl) (fun _ _ _ h => h) (by rfl) ?hzz37 hHeld ?rzz37
          case hzz37 => (intro w' hSw; (try dsimp only at hSw); go_simp <;> with_reducible rfl)
          try simp only [Act.put, List.setIfInBounds_toArray, List.set_cons_zero, List.set_cons_succ]
          refine pass_op (i := 11) (d := 57) rfl rfl (by kernel_rfl) (by kernel_rfl) (by kernel_rfl) (fun _ _ _ h => h) (by rfl) hHeld ?_
          try simp only [Act.put, List.setIfInBounds_toArray, List.set_cons_zero, List.set_cons_succ]
          refine pass_op (i := 12) (d := 58) rfl rfl (by kernel_rfl) (by kernel_rfl) (by kernel_rfl) (fun _ _ _ h => h) (by rfl) hHeld ?_
          try simp only [Act.put, List.setIfInBounds_toArray, List.set_cons_zero, List.set_cons_succ]
          refine pass_op (i := 13) (d := 59) rfl rfl (by kernel_rfl) (by kernel_rfl) (by kernel_rfl) (fun _ _ _ h => h) (by rfl) hHeld ?_
          try simp only [Act.put, List.setIfInBounds_toArray, List.set_cons_zero, List.set_cons_succ]
          refine pass_op (i := 14) (d := 60) rfl rfl (by kernel_rfl) (by kernel_rfl) (by kernel_rfl) (fun _ _ _ h => h) (by rfl) hHeld ?_
          try simp only [Act.put, List.setIfInBounds_toArray, List.set_cons_zero, List.set_cons_succ]
          refine pass_op (i := 15) (d := 61) rfl rfl (by kernel_rfl) (by kernel_rfl) (by kernel_rfl) (fun _ _ _ h => h) (by rfl) hHeld ?_
          try simp only [Act.put, List.setIfInBounds_toArray, List.set_cons_zero, List.set_cons_succ]
          refine pass_op (i := 16) (d := 62) rfl rfl (by kernel_rfl) (by kernel_rfl) (by kernel_rfl) (fun _ _ _ h => h) (by rfl) hHeld ?_
          try simp only [Act.put, List.setIfInBounds_toArray, List.set_cons_zero, List.set_cons_succ]
          refine pass_op (i := 17) (d := 63) rfl rfl (by kernel_rfl) (by kernel_rfl) (by kernel_rfl) (fun _ _ _ h => h) (by rfl) hHeld ?_
          try simp only [Act.put, List.setIfInBounds_toArray, List.set_cons_zero, List.set_cons_succ]
          refine pass_op (i := 18) (d := 64) rfl rfl (by kernel_rfl) (by kernel_rfl) (by kernel_rfl) (fun _ _ _ h => h) (by rfl) hHeld ?_
          try simp only [Act.put, List.setIfInBounds_toArray, List.set_cons_zero, List.set_cons_succ]
          refine pass_op (i := 19) (d := 65) rfl rfl (by kernel_rfl) (by kernel_rfl) (by kernel_rfl) (fun _ _ _ h => h) (by rfl) hHeld ?_
          try simp only [Act.put, List.setIfInBounds_toArray, List.set_cons_zero, List.set_cons_succ]
          refine pass_op (i := 20) (d := 66) rfl rfl (by kernel_rfl) (by kernel_rfl) (by kernel_rfl) (fun _ _ _ h => h) (by rfl) hHeld ?_
          try simp only [Act.put, List.setIfInBounds_toArray, List.set_cons_zero, List.set_cons_succ]
          refine pass_op (i := 21) (d := 67) rfl rfl (by kernel_rfl) (by kernel_rfl) (by kernel_rfl) (fun _ _ _ h => h) (by rfl) hHeld ?_
          try simp only [Act.put, List.setIfInBounds_toArray, List.set_cons_zero, List.set_cons_succ]
          refine pass_op (i := 22) (d := 68) rfl rfl (by kernel_rfl) (by kernel_rfl) (by kernel_rfl) (fun _ _ _ h => h) (by rfl) hHeld ?_
          try simp only [Act.put, List.setIfInBounds_toArray, List.set_cons_zero, List.set_cons_succ]
          refine pass_op (i := 23) (d := 69) rfl rfl (by kernel_rfl) (by kernel_rfl) (by kernel_rfl) (fun _ _ _ h => h) (by rfl) hHeld ?_
          try simp only [Act.put, List.setIfInBounds_toArray, List.set_cons_zero, List.set_cons_succ]
          refine pass_op (i := 24) (d := 70) rfl rfl (by kernel_rfl) (by kernel_rfl) (by kernel_rfl) (fun _ _ _ h => h) (by rfl) hHeld ?_
          try simp only [Act.put, List.setIfInBounds_toArray, List.set_cons_zero, List.set_cons_succ]
          refine pass_op (i := 25) (d := 71) rfl rfl (by kernel_rfl) (by kernel_rfl) (by kernel_rfl) (fun _ _ _ h => h) (by rfl) hHeld ?_
          try simp only [Act.put, List.setIfInBounds_toArray, List.set_cons_zero, List.set_cons_succ]
          refine take_op (i := 26) (d := 72) (OP := Op.pick (Operand.tmp 56) (Operand.const (Value.bool true)) (Operand.tmp 71)) (T := 4) (v := ?vzz38) rfl rfl rfl rfl (by kernel_rfl) (by kernel_rfl) (by kernel_rfl) (fun _ _ _ h => h) (by rfl) ?hzz38 hHeld ?rzz38
          case hzz38 => (intro w' hSw; (try dsimp only at hSw); go_simp <;> with_reducible rfl)
          try simp only [Act.put, List.setIfInBounds_toArray, List.set_cons_zero, List.set_cons_succ]
          refine wpAnyH_done (by kernel_rfl) ?_ _
          have HE := hide hHeld.2.2.2.2.2.2.2.2.2.2.2.2
          clear hHeld qd hS
          go_wp2
          go_ret
          refine ⟨?_, nextB H.out.2.2.2.2.2.2 (nextB HB1.out HE.out)⟩
          have : R = false := by
            rw [H.out.2.1, Bool.eq_false_iff, Ne, mayB_iff]
            intro hm
            have := hm k _ (by rw [← H.out.1]; exact hlt) HX.out.1
            rw [HX.out.2] at this
            simp at this
          rw [this]; rfl
        · cases V2
          · skip
            have qd : w2.drew.cell? ⟨BX, 0, none⟩ = some (.int .i64 g) ∧ w2.drew.cell? ⟨BX, 1, none⟩ = some (.int .i64 r) ∧ w2.drew.cell? ⟨BX, 2, none⟩ = some (.string l0) ∧ w2.drew.cell? ⟨BX, 3, none⟩ = some (.int .i64 n0) ∧ w2.drew.cell? ⟨BX, 4, none⟩ = some (.int .i64 i0) ∧ w2.drew.cell? ⟨BX, 5, none⟩ = some (.string t0) ∧ w2.drew.cell? ⟨X, 2, none⟩ = some (.slice (some ⟨b, off, none⟩) N c) ∧ w2.drew.cell? ⟨b, off + kk * 6, none⟩ = some (.int .i64 g1) ∧ w2.drew.cell? ⟨b, off + kk * 6 + 1, none⟩ = some (.int .i64 r1) ∧ w2.drew.cell? ⟨b, off + kk * 6 + 2, none⟩ = some (.string l1) ∧ w2.drew.cell? ⟨b, off + kk * 6 + 3, none⟩ = some (.int .i64 n1) ∧ w2.drew.cell? ⟨b, off + kk * 6 + 4, none⟩ = some (.int .i64 i1) ∧ Below w2.heap.size w2 w2.drew := ⟨cell_stays hS.1 (drew_below w2), cell_stays hS.2.1 (drew_below w2), cell_stays hS.2.2.1 (drew_below w2), cell_stays hS.2.2.2.1 (drew_below w2), cell_stays hS.2.2.2.2.1 (drew_below w2), cell_stays hS.2.2.2.2.2.1 (drew_below w2), cell_stays hS.2.2.2.2.2.2.1 (drew_below w2), cell_stays hS.2.2.2.2.2.2.2.1 (drew_below w2), cell_stays hS.2.2.2.2.2.2.2.2.1 (drew_below w2), cell_stays hS.2.2.2.2.2.2.2.2.2.1 (drew_below w2), cell_stays hS.2.2.2.2.2.2.2.2.2.2.1 (drew_below w2), cell_stays hS.2.2.2.2.2.2.2.2.2.2.2.1 (drew_below w2), nextB hS.2.2.2.2.2.2.2.2.2.2.2.2 (drew_below w2)⟩
            refine wp_region_held_drew (S := (fun w' => w'.cell? ⟨BX, 0, none⟩ = some (.int .i64 g) ∧ w'.cell? ⟨BX, 1, none⟩ = some (.int .i64 r) ∧ w'.cell? ⟨BX, 2, none⟩ = some (.string l0) ∧ w'.cell? ⟨BX, 3, none⟩ = some (.int .i64 n0) ∧ w'.cell? ⟨BX, 4, none⟩ = some (.int .i64 i0) ∧ w'.cell? ⟨BX, 5, none⟩ = some (.string t0) ∧ w'.cell? ⟨X, 2, none⟩ = some (.slice (some ⟨b, off, none⟩) N c) ∧ w'.cell? ⟨b, off + kk * 6, none⟩ = some (.int .i64 g1) ∧ w'.cell? ⟨b, off + kk * 6 + 1, none⟩ = some (.int .i64 r1) ∧ w'.cell? ⟨b, off + kk * 6 + 2, none⟩ = some (.string l1) ∧ w'.cell? ⟨b, off + kk * 6 + 3, none⟩ = some (.int .i64 n1) ∧ w'.cell? ⟨b, off + kk * 6 + 4, none⟩ = some (.int .i64 i1) ∧ Below w2.heap.size w2 w')) (by kernel_rfl) qd (fun hHeld => ?_)
            try dsimp only at hHeld
            refine take_op (i := 0) (d := 46) (OP := Op.fieldAddr 77 (Operand.tmp 4) 0) (T := 0) (v := ?vzz39) rfl rfl rfl rfl (by kernel_rfl) (by kernel_rfl) (by kernel_rfl) (fun _ _ _ h => h) (by rfl) ?hzz39 hHeld ?rzz39
            case hzz39 => (intro w' hSw; (try dsimp only at hSw); go_simp <;> with_reducible rfl)
            try simp only [Act.put, List.setIfInBounds_toArray, List.set_cons_zero, List.set_cons_succ]
            refine take_op (i := 1) (d := 47) (OP := Op.load 52 (Operand.tmp 46)) (T := 52) (v := ?vzz40) rfl rfl rfl rfl (by kernel_rfl) (by kernel_rfl) (by kernel_rfl) (fun _ _ _ h => h) (by rfl) ?hzz40 hHeld ?rzz40
            case hzz40 => (intro w' hSw; (try dsimp only at hSw); go_simp <;> with_reducible rfl)
            try simp only [Act.put, List.setIfInBounds_toArray, List.set_cons_zero, List.set_cons_succ]
            refine call_op (i := 2) (d := 48) (OP := Op.call { callee := Callee.value (Operand.func 62), args := #[Operand.tmp 47], argTypes := #[52] }) (T := 4) (f := 62) (args := #[.agg #[.int .i64 g, .int .i64 r, .string l0, .int .i64 n0, .int .i64 i0]]) rfl rfl rfl rfl (by kernel_rfl) (by rfl) (by go_simp) ?_
            refine (k62 _).mono ?_
            rintro e z0 ⟨rfl, bz0⟩
            have qz0 : z0.cell? ⟨BX, 0, none⟩ = some (.int .i64 g) ∧ z0.cell? ⟨BX, 1, none⟩ = some (.int .i64 r) ∧ z0.cell? ⟨BX, 2, none⟩ = some (.string l0) ∧ z0.cell? ⟨BX, 3, none⟩ = some (.int .i64 n0) ∧ z0.cell? ⟨BX, 4, none⟩ = some (.int .i64 i0) ∧ z0.cell? ⟨BX, 5, none⟩ = some (.string t0) ∧ z0.cell? ⟨X, 2, none⟩ = some (.slice (some ⟨b, off, none⟩) N c) ∧ z0.cell? ⟨b, off + kk * 6, none⟩ = some (.int .i64 g1) ∧ z0.cell? ⟨b, off + kk * 6 + 1, none⟩ = some (.int .i64 r1) ∧ z0.cell? ⟨b, off + kk * 6 + 2, none⟩ = some (.string l1) ∧ z0.cell? ⟨b, off + kk * 6 + 3, none⟩ = some (.int .i64 n1) ∧ z0.cell? ⟨b, off + kk * 6 + 4, none⟩ = some (.int .i64 i1) ∧ Below w2.heap.size w2 z0 := ⟨cell_stays hHeld.1 bz0, cell_stays hHeld.2.1 bz0, cell_stays hHeld.2.2.1 bz0, cell_stays hHeld.2.2.2.1 bz0, cell_stays hHeld.2.2.2.2.1 bz0, cell_stays hHeld.2.2.2.2.2.1 bz0, cell_stays hHeld.2.2.2.2.2.2.1 bz0, cell_stays hHeld.2.2.2.2.2.2.2.1 bz0, cell_stays hHeld.2.2.2.2.2.2.2.2.1 bz0, cell_stays hHeld.2.2.2.2.2.2.2.2.2.1 bz0, cell_stays hHeld.2.2.2.2.2.2.2.2.2.2.1 bz0, cell_stays hHeld.2.2.2.2.2.2.2.2.2.2.2.1 bz0, nextB hHeld.2.2.2.2.2.2.2.2.2.2.2.2 bz0⟩
            refine ⟨_, rfl, qz0, ?_⟩
            replace hHeld := qz0
            try simp only [Act.put, List.setIfInBounds_toArray, List.set_cons_zero, List.set_cons_succ]
            refine take_op (i := 3) (d := 49) (OP := Op.unOp UnOp.not 4 (Operand.tmp 48)) (T := 4) (v := ?vzz41) rfl rfl rfl rfl (by kernel_rfl) (by kernel_rfl) (by kernel_rfl) (fun _ _ _ h => h) (by rfl) ?hzz41 hHeld ?rzz41
            case hzz41 => (intro w' hSw; (try dsimp only at hSw); go_simp <;> with_reducible rfl)
            try simp only [Act.put, List.setIfInBounds_toArray, List.set_cons_zero, List.set_cons_succ]
            refine take_op (i := 4) (d := 50) (OP := Op.move (Operand.tmp 49)) (T := 4) (v := ?vzz42) rfl rfl rfl rfl (by kernel_rfl) (by kernel_rfl) (by kernel_rfl) (fun _ _ _ h => h) (by rfl) ?hzz42 hHeld ?rzz42
            case hzz42 => (intro w' hSw; (try dsimp only at hSw); go_simp <;> with_reducible rfl)
            try simp only [Act.put, List.setIfInBounds_toArray, List.set_cons_zero, List.set_cons_succ]
            refine take_op (i := 5) (d := 51) (OP := Op.fieldAddr 77 (Operand.tmp 4) 1) (T := 0) (v := ?vzz43) rfl rfl rfl rfl (by kernel_rfl) (by kernel_rfl) (by kernel_rfl) (fun _ _ _ h => h) (by rfl) ?hzz43 hHeld ?rzz43
            case hzz43 => (intro w' hSw; (try dsimp only at hSw); go_simp <;> with_reducible rfl)
            try simp only [Act.put, List.setIfInBounds_toArray, List.set_cons_zero, List.set_cons_succ]
            refine take_op (i := 6) (d := 52) (OP := Op.load 9 (Operand.tmp 51)) (T := 9) (v := ?vzz44) rfl rfl rfl rfl (by kernel_rfl) (by kernel_rfl) (by kernel_rfl) (fun _ _ _ h => h) (by rfl) ?hzz44 hHeld ?rzz44
            case hzz44 => (intro w' hSw; (try dsimp only at hSw); go_simp <;> with_reducible rfl)
            try simp only [Act.put, List.setIfInBounds_toArray, List.set_cons_zero, List.set_cons_succ]
            refine call_op (i := 7) (d := 53) (OP := Op.call { callee := Callee.value (Operand.func 50), args := #[Operand.tmp 52], argTypes := #[9] }) (T := 4) (f := 50) (args := #[.string t0]) rfl rfl rfl rfl (by kernel_rfl) (by rfl) (by go_simp) ?_
            refine (k50 _).mono ?_
            rintro e z1 ⟨rfl, hz1⟩
            subst hz1
            refine ⟨_, rfl, hHeld, ?_⟩
            try simp only [Act.put, List.setIfInBounds_toArray, List.set_cons_zero, List.set_cons_succ]
            refine take_op (i := 8) (d := 54) (OP := Op.unOp UnOp.not 4 (Operand.tmp 53)) (T := 4) (v := ?vzz45) rfl rfl rfl rfl (by kernel_rfl) (by kernel_rfl) (by kernel_rfl) (fun _ _ _ h => h) (by rfl) ?hzz45 hHeld ?rzz45
            case hzz45 => (intro w' hSw; (try dsimp only at hSw); go_simp <;> with_reducible rfl)
            try simp only [Act.put, List.setIfInBounds_toArray, List.set_cons_zero, List.set_cons_succ]
            refine take_op (i := 9) (d := 55) (OP := Op.pick (Operand.tmp 50) (Operand.const (Value.bool true)) (Operand.tmp 54)) (T := 4) (v := ?vzz46) rfl rfl rfl rfl (by kernel_rfl) (by kernel_rfl) (by kernel_rfl) (fun _ _ _ h => h) (by rfl) ?hzz46 hHeld ?rzz46
            case hzz46 => (intro w' hSw; (try dsimp only at hSw); go_simp <;> with_reducible rfl)
            try simp only [Act.put, List.setIfInBounds_toArray, List.set_cons_zero, List.set_cons_succ]
            refine take_op (i := 10) (d := 56) (OP := Op.move (Operand.tmp 55)) (T := 4) (v := ?vzz47) rfl rfl rfl rfl (by kernel_rfl) (by kernel_rfl) (by kernel_rfl) (fun _ _ _ h => h) (by rfl) ?hzz47 hHeld ?rzz47
            case hzz47 => (intro w' hSw; (try dsimp only at hSw); go_simp <;> with_reducible rfl)
            try simp only [Act.put, List.setIfInBounds_toArray, List.set_cons_zero, List.set_cons_succ]
            refine pass_op (i := 11) (d := 57) rfl rfl (by kernel_rfl) (by kernel_rfl) (by kernel_rfl) (fun _ _ _ h => h) (by rfl) hHeld ?_
            try simp only [Act.put, List.setIfInBounds_toArray, List.set_cons_zero, List.set_cons_succ]
            refine pass_op (i := 12) (d := 58) rfl rfl (by kernel_rfl) (by kernel_rfl) (by kernel_rfl) (fun _ _ _ h => h) (by rfl) hHeld ?_
            try simp only [Act.put, List.setIfInBounds_toArray, List.set_cons_zero, List.set_cons_succ]
            refine pass_op (i := 13) (d := 59) rfl rfl (by kernel_rfl) (by kernel_rfl) (by kernel_rfl) (fun _ _ _ h => h) (by rfl) hHeld ?_
            try simp only [Act.put, List.setIfInBounds_toArray, List.set_cons_zero, List.set_cons_succ]
            refine pass_op (i := 14) (d := 60) rfl rfl (by kernel_rfl) (by kernel_rfl) (by kernel_rfl) (fun _ _ _ h => h) (by rfl) hHeld ?_
            try simp only [Act.put, List.setIfInBounds_toArray, List.set_cons_zero, List.set_cons_succ]
            refine pass_op (i := 15) (d := 61) rfl rfl (by kernel_rfl) (by kernel_rfl) (by kernel_rfl) (fun _ _ _ h => h) (by rfl) hHeld ?_
            try simp only [Act.put, List.setIfInBounds_toArray, List.set_cons_zero, List.set_cons_succ]
            refine pass_op (i := 16) (d := 62) rfl rfl (by kernel_rfl) (by kernel_rfl) (by kernel_rfl) (fun _ _ _ h => h) (by rfl) hHeld ?_
            try simp only [Act.put, List.setIfInBounds_toArray, List.set_cons_zero, List.set_cons_succ]
            refine pass_op (i := 17) (d := 63) rfl rfl (by kernel_rfl) (by kernel_rfl) (by kernel_rfl) (fun _ _ _ h => h) (by rfl) hHeld ?_
            try simp only [Act.put, List.setIfInBounds_toArray, List.set_cons_zero, List.set_cons_succ]
            refine pass_op (i := 18) (d := 64) rfl rfl (by kernel_rfl) (by kernel_rfl) (by kernel_rfl) (fun _ _ _ h => h) (by rfl) hHeld ?_
            try simp only [Act.put, List.setIfInBounds_toArray, List.set_cons_zero, List.set_cons_succ]
            refine pass_op (i := 19) (d := 65) rfl rfl (by kernel_rfl) (by kernel_rfl) (by kernel_rfl) (fun _ _ _ h => h) (by rfl) hHeld ?_
            try simp only [Act.put, List.setIfInBounds_toArray, List.set_cons_zero, List.set_cons_succ]
            refine pass_op (i := 20) (d := 66) rfl rfl (by kernel_rfl) (by kernel_rfl) (by kernel_rfl) (fun _ _ _ h => h) (by rfl) hHeld ?_
            try simp only [Act.put, List.setIfInBounds_toArray, List.set_cons_zero, List.set_cons_succ]
            refine pass_op (i := 21) (d := 67) rfl rfl (by kernel_rfl) (by kernel_rfl) (by kernel_rfl) (fun _ _ _ h => h) (by rfl) hHeld ?_
            try simp only [Act.put, List.setIfInBounds_toArray, List.set_cons_zero, List.set_cons_succ]
            refine pass_op (i := 22) (d := 68) rfl rfl (by kernel_rfl) (by kernel_rfl) (by kernel_rfl) (fun _ _ _ h => h) (by rfl) hHeld ?_
            try simp only [Act.put, List.setIfInBounds_toArray, List.set_cons_zero, List.set_cons_succ]
            refine pass_op (i := 23) (d := 69) rfl rfl (by kernel_rfl) (by kernel_rfl) (by kernel_rfl) (fun _ _ _ h => h) (by rfl) hHeld ?_
            try simp only [Act.put, List.setIfInBounds_toArray, List.set_cons_zero, List.set_cons_succ]
            refine pass_op (i := 24) (d := 70) rfl rfl (by kernel_rfl) (by kernel_rfl) (by kernel_rfl) (fun _ _ _ h => h) (by rfl) hHeld ?_
            try simp only [Act.put, List.setIfInBounds_toArray, List.set_cons_zero, List.set_cons_succ]
            refine pass_op (i := 25) (d := 71) rfl rfl (by kernel_rfl) (by kernel_rfl) (by kernel_rfl) (fun _ _ _ h => h) (by rfl) hHeld ?_
            try simp only [Act.put, List.setIfInBounds_toArray, List.set_cons_zero, List.set_cons_succ]
            refine take_op (i := 26) (d := 72) (OP := Op.pick (Operand.tmp 56) (Operand.const (Value.bool true)) (Operand.tmp 71)) (T := 4) (v := ?vzz48) rfl rfl rfl rfl (by kernel_rfl) (by kernel_rfl) (by kernel_rfl) (fun _ _ _ h => h) (by rfl) ?hzz48 hHeld ?rzz48
            case hzz48 => (intro w' hSw; (try dsimp only at hSw); go_simp <;> with_reducible rfl)
            try simp only [Act.put, List.setIfInBounds_toArray, List.set_cons_zero, List.set_cons_succ]
            refine wpAnyH_done (by kernel_rfl) ?_ _
            have HE := hide hHeld.2.2.2.2.2.2.2.2.2.2.2.2
            clear hHeld qd hS
            go_wp2
            go_ret
            refine ⟨?_, nextB H.out.2.2.2.2.2.2 (nextB HB1.out HE.out)⟩
            have : R = false := by
              rw [H.out.2.1, Bool.eq_false_iff, Ne, mayB_iff]
              intro hm
              have := hm k _ (by rw [← H.out.1]; exact hlt) HX.out.1
              rw [HX.out.2] at this
              simp at this
            rw [this]; rfl
          · cases V3
            · have dz : (0 : Int) ≤ CZ := by have := HZ.out; simp at this; omega
              have dz' : decide ((0 : Int) ≤ CZ) = true := by simpa using dz
              have qd : w2.drew.cell? ⟨BX, 0, none⟩ = some (.int .i64 g) ∧ w2.drew.cell? ⟨BX, 1, none⟩ = some (.int .i64 r) ∧ w2.drew.cell? ⟨BX, 2, none⟩ = some (.string l0) ∧ w2.drew.cell? ⟨BX, 3, none⟩ = some (.int .i64 n0) ∧ w2.drew.cell? ⟨BX, 4, none⟩ = some (.int .i64 i0) ∧ w2.drew.cell? ⟨BX, 5, none⟩ = some (.string t0) ∧ w2.drew.cell? ⟨X, 2, none⟩ = some (.slice (some ⟨b, off, none⟩) N c) ∧ w2.drew.cell? ⟨b, off + kk * 6, none⟩ = some (.int .i64 g1) ∧ w2.drew.cell? ⟨b, off + kk * 6 + 1, none⟩ = some (.int .i64 r1) ∧ w2.drew.cell? ⟨b, off + kk * 6 + 2, none⟩ = some (.string l1) ∧ w2.drew.cell? ⟨b, off + kk * 6 + 3, none⟩ = some (.int .i64 n1) ∧ w2.drew.cell? ⟨b, off + kk * 6 + 4, none⟩ = some (.int .i64 i1) ∧ Below w2.heap.size w2 w2.drew := ⟨cell_stays hS.1 (drew_below w2), cell_stays hS.2.1 (drew_below w2), cell_stays hS.2.2.1 (drew_below w2), cell_stays hS.2.2.2.1 (drew_below w2), cell_stays hS.2.2.2.2.1 (drew_below w2), cell_stays hS.2.2.2.2.2.1 (drew_below w2), cell_stays hS.2.2.2.2.2.2.1 (drew_below w2), cell_stays hS.2.2.2.2.2.2.2.1 (drew_below w2), cell_stays hS.2.2.2.2.2.2.2.2.1 (drew_below w2), cell_stays hS.2.2.2.2.2.2.2.2.2.1 (drew_below w2), cell_stays hS.2.2.2.2.2.2.2.2.2.2.1 (drew_below w2), cell_stays hS.2.2.2.2.2.2.2.2.2.2.2.1 (drew_below w2), nextB hS.2.2.2.2.2.2.2.2.2.2.2.2 (drew_below w2)⟩
              refine wp_region_held_drew (S := (fun w' => w'.cell? ⟨BX, 0, none⟩ = some (.int .i64 g) ∧ w'.cell? ⟨BX, 1, none⟩ = some (.int .i64 r) ∧ w'.cell? ⟨BX, 2, none⟩ = some (.string l0) ∧ w'.cell? ⟨BX, 3, none⟩ = some (.int .i64 n0) ∧ w'.cell? ⟨BX, 4, none⟩ = some (.int .i64 i0) ∧ w'.cell? ⟨BX, 5, none⟩ = some (.string t0) ∧ w'.cell? ⟨X, 2, none⟩ = some (.slice (some ⟨b, off, none⟩) N c) ∧ w'.cell? ⟨b, off + kk * 6, none⟩ = some (.int .i64 g1) ∧ w'.cell? ⟨b, off + kk * 6 + 1, none⟩ = some (.int .i64 r1) ∧ w'.cell? ⟨b, off + kk * 6 + 2, none⟩ = some (.string l1) ∧ w'.cell? ⟨b, off + kk * 6 + 3, none⟩ = some (.int .i64 n1) ∧ w'.cell? ⟨b, off + kk * 6 + 4, none⟩ = some (.int .i64 i1) ∧ Below w2.heap.size w2 w')) (by kernel_rfl) qd (fun hHeld => ?_)
              try dsimp only at hHeld
              refine take_op (i := 0) (d := 46) (OP := Op.fieldAddr 77 (Operand.tmp 4) 0) (T := 0) (v := ?vzz49) rfl rfl rfl rfl (by kernel_rfl) (by kernel_rfl) (by kernel_rfl) (fun _ _ _ h => h) (by rfl) ?hzz49 hHeld ?rzz49
              case hzz49 => (intro w' hSw; (try dsimp only at hSw); go_simp <;> with_reducible rfl)
              try simp only [Act.put, List.setIfInBounds_toArray, List.set_cons_zero, List.set_cons_succ]
              refine take_op (i := 1) (d := 47) (OP := Op.load 52 (Operand.tmp 46)) (T := 52) (v := ?vzz50) rfl rfl rfl rfl (by kernel_rfl) (by kernel_rfl) (by kernel_rfl) (fun _ _ _ h => h) (by rfl) ?hzz50 hHeld ?rzz50
              case hzz50 => (intro w' hSw; (try dsimp only at hSw); go_simp <;> with_reducible rfl)
              try simp only [Act.put, List.setIfInBounds_toArray, List.set_cons_zero, List.set_cons_succ]
              refine call_op (i := 2) (d := 48) (OP := Op.call { callee := Callee.value (Operand.func 62), args := #[Operand.tmp 47], argTypes := #[52] }) (T := 4) (f := 62) (args := #[.agg #[.int .i64 g, .int .i64 r, .string l0, .int .i64 n0, .int .i64 i0]]) rfl rfl rfl rfl (by kernel_rfl) (by rfl) (by go_simp) ?_
              refine (k62 _).mono ?_
              rintro e z0 ⟨rfl, bz0⟩
              have qz0 : z0.cell? ⟨BX, 0, none⟩ = some (.int .i64 g) ∧ z0.cell? ⟨BX, 1, none⟩ = some (.int .i64 r) ∧ z0.cell? ⟨BX, 2, none⟩ = some (.string l0) ∧ z0.cell? ⟨BX, 3, none⟩ = some (.int .i64 n0) ∧ z0.cell? ⟨BX, 4, none⟩ = some (.int .i64 i0) ∧ z0.cell? ⟨BX, 5, none⟩ = some (.string t0) ∧ z0.cell? ⟨X, 2, none⟩ = some (.slice (some ⟨b, off, none⟩) N c) ∧ z0.cell? ⟨b, off + kk * 6, none⟩ = some (.int .i64 g1) ∧ z0.cell? ⟨b, off + kk * 6 + 1, none⟩ = some (.int .i64 r1) ∧ z0.cell? ⟨b, off + kk * 6 + 2, none⟩ = some (.string l1) ∧ z0.cell? ⟨b, off + kk * 6 + 3, none⟩ = some (.int .i64 n1) ∧ z0.cell? ⟨b, off + kk * 6 + 4, none⟩ = some (.int .i64 i1) ∧ Below w2.heap.size w2 z0 := ⟨cell_stays hHeld.1 bz0, cell_stays hHeld.2.1 bz0, cell_stays hHeld.2.2.1 bz0, cell_stays hHeld.2.2.2.1 bz0, cell_stays hHeld.2.2.2.2.1 bz0, cell_stays hHeld.2.2.2.2.2.1 bz0, cell_stays hHeld.2.2.2.2.2.2.1 bz0, cell_stays hHeld.2.2.2.2.2.2.2.1 bz0, cell_stays hHeld.2.2.2.2.2.2.2.2.1 bz0, cell_stays hHeld.2.2.2.2.2.2.2.2.2.1 bz0, cell_stays hHeld.2.2.2.2.2.2.2.2.2.2.1 bz0, cell_stays hHeld.2.2.2.2.2.2.2.2.2.2.2.1 bz0, nextB hHeld.2.2.2.2.2.2.2.2.2.2.2.2 bz0⟩
              refine ⟨_, rfl, qz0, ?_⟩
              replace hHeld := qz0
              try simp only [Act.put, List.setIfInBounds_toArray, List.set_cons_zero, List.set_cons_succ]
              refine take_op (i := 3) (d := 49) (OP := Op.unOp UnOp.not 4 (Operand.tmp 48)) (T := 4) (v := ?vzz51) rfl rfl rfl rfl (by kernel_rfl) (by kernel_rfl) (by kernel_rfl) (fun _ _ _ h => h) (by rfl) ?hzz51 hHeld ?rzz51
              case hzz51 => (intro w' hSw; (try dsimp only at hSw); go_simp <;> with_reducible rfl)
              try simp only [Act.put, List.setIfInBounds_toArray, List.set_cons_zero, List.set_cons_succ]
              refine take_op (i := 4) (d := 50) (OP := Op.move (Operand.tmp 49)) (T := 4) (v := ?vzz52) rfl rfl rfl rfl (by kernel_rfl) (by kernel_rfl) (by kernel_rfl) (fun _ _ _ h => h) (by rfl) ?hzz52 hHeld ?rzz52
              case hzz52 => (intro w' hSw; (try dsimp only at hSw); go_simp <;> with_reducible rfl)
              try simp only [Act.put, List.setIfInBounds_toArray, List.set_cons_zero, List.set_cons_succ]
              refine take_op (i := 5) (d := 51) (OP := Op.fieldAddr 77 (Operand.tmp 4) 1) (T := 0) (v := ?vzz53) rfl rfl rfl rfl (by kernel_rfl) (by kernel_rfl) (by kernel_rfl) (fun _ _ _ h => h) (by rfl) ?hzz53 hHeld ?rzz53
              case hzz53 => (intro w' hSw; (try dsimp only at hSw); go_simp <;> with_reducible rfl)
              try simp only [Act.put, List.setIfInBounds_toArray, List.set_cons_zero, List.set_cons_succ]
              refine take_op (i := 6) (d := 52) (OP := Op.load 9 (Operand.tmp 51)) (T := 9) (v := ?vzz54) rfl rfl rfl rfl (by kernel_rfl) (by kernel_rfl) (by kernel_rfl) (fun _ _ _ h => h) (by rfl) ?hzz54 hHeld ?rzz54
              case hzz54 => (intro w' hSw; (try dsimp only at hSw); go_simp <;> with_reducible rfl)
              try simp only [Act.put, List.setIfInBounds_toArray, List.set_cons_zero, List.set_cons_succ]
              refine call_op (i := 7) (d := 53) (OP := Op.call { callee := Callee.value (Operand.func 50), args := #[Operand.tmp 52], argTypes := #[9] }) (T := 4) (f := 50) (args := #[.string t0]) rfl rfl rfl rfl (by kernel_rfl) (by rfl) (by go_simp) ?_
              refine (k50 _).mono ?_
              rintro e z1 ⟨rfl, hz1⟩
              subst hz1
              refine ⟨_, rfl, hHeld, ?_⟩
              try simp only [Act.put, List.setIfInBounds_toArray, List.set_cons_zero, List.set_cons_succ]
              refine take_op (i := 8) (d := 54) (OP := Op.unOp UnOp.not 4 (Operand.tmp 53)) (T := 4) (v := ?vzz55) rfl rfl rfl rfl (by kernel_rfl) (by kernel_rfl) (by kernel_rfl) (fun _ _ _ h => h) (by rfl) ?hzz55 hHeld ?rzz55
              case hzz55 => (intro w' hSw; (try dsimp only at hSw); go_simp <;> with_reducible rfl)
              try simp only [Act.put, List.setIfInBounds_toArray, List.set_cons_zero, List.set_cons_succ]
              refine take_op (i := 9) (d := 55) (OP := Op.pick (Operand.tmp 50) (Operand.const (Value.bool true)) (Operand.tmp 54)) (T := 4) (v := ?vzz56) rfl rfl rfl rfl (by kernel_rfl) (by kernel_rfl) (by kernel_rfl) (fun _ _ _ h => h) (by rfl) ?hzz56 hHeld ?rzz56
              case hzz56 => (intro w' hSw; (try dsimp only at hSw); go_simp <;> with_reducible rfl)
              try simp only [Act.put, List.setIfInBounds_toArray, List.set_cons_zero, List.set_cons_succ]
              refine take_op (i := 10) (d := 56) (OP := Op.move (Operand.tmp 55)) (T := 4) (v := ?vzz57) rfl rfl rfl rfl (by kernel_rfl) (by kernel_rfl) (by kernel_rfl) (fun _ _ _ h => h) (by rfl) ?hzz57 hHeld ?rzz57
              case hzz57 => (intro w' hSw; (try dsimp only at hSw); go_simp <;> with_reducible rfl)
              try simp only [Act.put, List.setIfInBounds_toArray, List.set_cons_zero, List.set_cons_succ]
              refine take_op (i := 11) (d := 57) (OP := Op.move (Operand.tmp 3)) (T := 3) (v := ?vzz58) rfl rfl rfl rfl (by kernel_rfl) (by kernel_rfl) (by kernel_rfl) (fun _ _ _ h => h) (by rfl) ?hzz58 hHeld ?rzz58
              case hzz58 => (intro w' hSw; (try dsimp only at hSw); go_simp <;> with_reducible rfl)
              try simp only [Act.put, List.setIfInBounds_toArray, List.set_cons_zero, List.set_cons_succ]
              refine take_op (i := 12) (d := 58) (OP := Op.binOp BinOp.gtr 3 (Operand.tmp 57) (Operand.const (Value.int IntKind.i64 0)) 3) (T := 4) (v := ?vzz59) rfl rfl rfl rfl (by kernel_rfl) (by kernel_rfl) (by kernel_rfl) (fun _ _ _ h => h) (by rfl) ?hzz59 hHeld ?rzz59
              case hzz59 => (intro w' hSw; (try dsimp only at hSw); go_simp <;> with_reducible rfl)
              try simp only [Act.put, List.setIfInBounds_toArray, List.set_cons_zero, List.set_cons_succ]
              refine take_op (i := 13) (d := 59) (OP := Op.move (Operand.tmp 58)) (T := 4) (v := ?vzz60) rfl rfl rfl rfl (by kernel_rfl) (by kernel_rfl) (by kernel_rfl) (fun _ _ _ h => h) (by rfl) ?hzz60 hHeld ?rzz60
              case hzz60 => (intro w' hSw; (try dsimp only at hSw); go_simp <;> with_reducible rfl)
              try simp only [Act.put, List.setIfInBounds_toArray, List.set_cons_zero, List.set_cons_succ]
              refine take_op (i := 14) (d := 60) (OP := Op.fieldAddr 46 (Operand.tmp 1) 2) (T := 0) (v := ?vzz61) rfl rfl rfl rfl (by kernel_rfl) (by kernel_rfl) (by kernel_rfl) (fun _ _ _ h => h) (by rfl) ?hzz61 hHeld ?rzz61
              case hzz61 => (intro w' hSw; (try dsimp only at hSw); go_simp <;> with_reducible rfl)
              try simp only [Act.put, List.setIfInBounds_toArray, List.set_cons_zero, List.set_cons_succ]
              refine take_op (i := 15) (d := 61) (OP := Op.load 44 (Operand.tmp 60)) (T := 44) (v := ?vzz62) rfl rfl rfl rfl (by kernel_rfl) (by kernel_rfl) (by kernel_rfl) (fun _ _ _ h => h) (by rfl) ?hzz62 hHeld ?rzz62
              case hzz62 => (intro w' hSw; (try dsimp only at hSw); go_simp <;> with_reducible rfl)
              try simp only [Act.put, List.setIfInBounds_toArray, List.set_cons_zero, List.set_cons_succ]
              refine take_op (i := 16) (d := 62) (OP := Op.move (Operand.tmp 3)) (T := 3) (v := ?vzz63) rfl rfl rfl rfl (by kernel_rfl) (by kernel_rfl) (by kernel_rfl) (fun _ _ _ h => h) (by rfl) ?hzz63 hHeld ?rzz63
              case hzz63 => (intro w' hSw; (try dsimp only at hSw); go_simp <;> with_reducible rfl)
              try simp only [Act.put, List.setIfInBounds_toArray, List.set_cons_zero, List.set_cons_succ]
              refine take_op (i := 17) (d := 63) (OP := Op.binOp BinOp.sub 3 (Operand.tmp 62) (Operand.const (Value.int IntKind.i64 1)) 3) (T := 3) (v := ?vzz64) rfl rfl rfl rfl (by kernel_rfl) (by kernel_rfl) (by kernel_rfl) (fun _ _ _ h => h) (by rfl) ?hzz64 hHeld ?rzz64
              case hzz64 => (intro w' hSw; (try dsimp only at hSw); go_simp <;> with_reducible rfl)
              try simp only [Act.put, List.setIfInBounds_toArray, List.set_cons_zero, List.set_cons_succ]
              refine take_op (i := 18) (d := 64) (OP := Op.indexAddr 44 (Operand.tmp 61) (Operand.tmp 63)) (T := 0) (v := ?vzz65) rfl rfl rfl rfl (by kernel_rfl) (by kernel_rfl) (by kernel_rfl) (fun _ _ _ h => h) (by rfl) ?hzz65 hHeld ?rzz65
              case hzz65 => (intro w' hSw; (try dsimp only at hSw); go_simp <;> with_reducible rfl)
              try simp only [Act.put, List.setIfInBounds_toArray, List.set_cons_zero, List.set_cons_succ]
              refine take_op (i := 19) (d := 65) (OP := Op.fieldAddr 77 (Operand.tmp 64) 0) (T := 0) (v := ?vzz66) rfl rfl rfl rfl (by kernel_rfl) (by kernel_rfl) (by kernel_rfl) (fun _ _ _ h => h) (by rfl) ?hzz66 hHeld ?rzz66
              case hzz66 => (intro w' hSw; (try dsimp only at hSw); go_simp <;> with_reducible rfl)
              try simp only [Act.put, List.setIfInBounds_toArray, List.set_cons_zero, List.set_cons_succ]
              refine take_op (i := 20) (d := 66) (OP := Op.load 52 (Operand.tmp 65)) (T := 52) (v := ?vzz67) rfl rfl rfl rfl (by kernel_rfl) (by kernel_rfl) (by kernel_rfl) (fun _ _ _ h => h) (by rfl) ?hzz67 hHeld ?rzz67
              case hzz67 => (intro w' hSw; (try dsimp only at hSw); go_simp <;> with_reducible rfl)
              try simp only [Act.put, List.setIfInBounds_toArray, List.set_cons_zero, List.set_cons_succ]
              refine take_op (i := 21) (d := 67) (OP := Op.fieldAddr 77 (Operand.tmp 4) 0) (T := 0) (v := ?vzz68) rfl rfl rfl rfl (by kernel_rfl) (by kernel_rfl) (by kernel_rfl) (fun _ _ _ h => h) (by rfl) ?hzz68 hHeld ?rzz68
              case hzz68 => (intro w' hSw; (try dsimp only at hSw); go_simp <;> with_reducible rfl)
              try simp only [Act.put, List.setIfInBounds_toArray, List.set_cons_zero, List.set_cons_succ]
              refine take_op (i := 22) (d := 68) (OP := Op.load 52 (Operand.tmp 67)) (T := 52) (v := ?vzz69) rfl rfl rfl rfl (by kernel_rfl) (by kernel_rfl) (by kernel_rfl) (fun _ _ _ h => h) (by rfl) ?hzz69 hHeld ?rzz69
              case hzz69 => (intro w' hSw; (try dsimp only at hSw); go_simp <;> with_reducible rfl)
              try simp only [Act.put, List.setIfInBounds_toArray, List.set_cons_zero, List.set_cons_succ]
              refine call_op (i := 23) (d := 69) (OP := Op.call { callee := Callee.value (Operand.func 63), args := #[Operand.tmp 66, Operand.tmp 68], argTypes := #[52, 52] }) (T := 3) (f := 63) (args := #[.agg #[.int .i64 g1, .int .i64 r1, .string l1, .int .i64 n1, .int .i64 i1], .agg #[.int .i64 g, .int .i64 r, .string l0, .int .i64 n0, .int .i64 i0]]) rfl rfl rfl rfl (by kernel_rfl) (by rfl) (by go_simp) ?_
              refine (k63 _).mono ?_
              rintro e z2 ⟨rfl, bz2⟩
              have qz2 : z2.cell? ⟨BX, 0, none⟩ = some (.int .i64 g) ∧ z2.cell? ⟨BX, 1, none⟩ = some (.int .i64 r) ∧ z2.cell? ⟨BX, 2, none⟩ = some (.string l0) ∧ z2.cell? ⟨BX, 3, none⟩ = some (.int .i64 n0) ∧ z2.cell? ⟨BX, 4, none⟩ = some (.int .i64 i0) ∧ z2.cell? ⟨BX, 5, none⟩ = some (.string t0) ∧ z2.cell? ⟨X, 2, none⟩ = some (.slice (some ⟨b, off, none⟩) N c) ∧ z2.cell? ⟨b, off + kk * 6, none⟩ = some (.int .i64 g1) ∧ z2.cell? ⟨b, off + kk * 6 + 1, none⟩ = some (.int .i64 r1) ∧ z2.cell? ⟨b, off + kk * 6 + 2, none⟩ = some (.string l1) ∧ z2.cell? ⟨b, off + kk * 6 + 3, none⟩ = some (.int .i64 n1) ∧ z2.cell? ⟨b, off + kk * 6 + 4, none⟩ = some (.int .i64 i1) ∧ Below w2.heap.size w2 z2 := ⟨cell_stays hHeld.1 bz2, cell_stays hHeld.2.1 bz2, cell_stays hHeld.2.2.1 bz2, cell_stays hHeld.2.2.2.1 bz2, cell_stays hHeld.2.2.2.2.1 bz2, cell_stays hHeld.2.2.2.2.2.1 bz2, cell_stays hHeld.2.2.2.2.2.2.1 bz2, cell_stays hHeld.2.2.2.2.2.2.2.1 bz2, cell_stays hHeld.2.2.2.2.2.2.2.2.1 bz2, cell_stays hHeld.2.2.2.2.2.2.2.2.2.1 bz2, cell_stays hHeld.2.2.2.2.2.2.2.2.2.2.1 bz2, cell_stays hHeld.2.2.2.2.2.2.2.2.2.2.2.1 bz2, nextB hHeld.2.2.2.2.2.2.2.2.2.2.2.2 bz2⟩
              refine ⟨_, rfl, qz2, ?_⟩
              replace hHeld := qz2
              try simp only [Act.put, List.setIfInBounds_toArray, List.set_cons_zero, List.set_cons_succ]
              refine take_op (i := 24) (d := 70) (OP := Op.binOp BinOp.geq 3 (Operand.tmp 69) (Operand.const (Value.int IntKind.i64 0)) 3) (T := 4) (v := ?vzz70) rfl rfl rfl rfl (by kernel_rfl) (by kernel_rfl) (by kernel_rfl) (fun _ _ _ h => h) (by rfl) ?hzz70 hHeld ?rzz70
              case hzz70 => (intro w' hSw; (try dsimp only at hSw); go_simp <;> with_reducible rfl)
              try simp only [Act.put, List.setIfInBounds_toArray, List.set_cons_zero, List.set_cons_succ]
              refine take_op (i := 25) (d := 71) (OP := Op.pick (Operand.tmp 59) (Operand.tmp 70) (Operand.const (Value.bool false))) (T := 4) (v := ?vzz71) rfl rfl rfl rfl (by kernel_rfl) (by kernel_rfl) (by kernel_rfl) (fun _ _ _ h => h) (by rfl) ?hzz71 hHeld ?rzz71
              case hzz71 => (intro w' hSw; (try dsimp only at hSw); go_simp <;> with_reducible rfl)
              try simp only [Act.put, List.setIfInBounds_toArray, List.set_cons_zero, List.set_cons_succ]
              refine take_op (i := 26) (d := 72) (OP := Op.pick (Operand.tmp 56) (Operand.const (Value.bool true)) (Operand.tmp 71)) (T := 4) (v := ?vzz72) rfl rfl rfl rfl (by kernel_rfl) (by kernel_rfl) (by kernel_rfl) (fun _ _ _ h => h) (by rfl) ?hzz72 hHeld ?rzz72
              case hzz72 => (intro w' hSw; (try dsimp only at hSw); go_simp <;> with_reducible rfl)
              try simp only [Act.put, List.setIfInBounds_toArray, List.set_cons_zero, List.set_cons_succ]
              refine wpAnyH_done (by kernel_rfl) ?_ _
              have HE := hide hHeld.2.2.2.2.2.2.2.2.2.2.2.2
              clear hHeld qd hS
              go_wp2
              go_ret
              refine ⟨?_, nextB H.out.2.2.2.2.2.2 (nextB HB1.out HE.out)⟩
              have : R = false := by
                rw [H.out.2.1, Bool.eq_false_iff, Ne, mayB_iff]
                intro hm
                have := hm k _ (by rw [← H.out.1]; exact hlt) HX.out.1
                rw [HX.out.2] at this
                simp at this
              rw [this]; rfl
            · have dz : ¬ (0 : Int) ≤ CZ := by have := HZ.out; simp at this; omega
              have dz' : decide ((0 : Int) ≤ CZ) = false := by simpa using dz
              have qd : w2.drew.cell? ⟨BX, 0, none⟩ = some (.int .i64 g) ∧ w2.drew.cell? ⟨BX, 1, none⟩ = some (.int .i64 r) ∧ w2.drew.cell? ⟨BX, 2, none⟩ = some (.string l0) ∧ w2.drew.cell? ⟨BX, 3, none⟩ = some (.int .i64 n0) ∧ w2.drew.cell? ⟨BX, 4, none⟩ = some (.int .i64 i0) ∧ w2.drew.cell? ⟨BX, 5, none⟩ = some (.string t0) ∧ w2.drew.cell? ⟨X, 2, none⟩ = some (.slice (some ⟨b, off, none⟩) N c) ∧ w2.drew.cell? ⟨b, off + kk * 6, none⟩ = some (.int .i64 g1) ∧ w2.drew.cell? ⟨b, off + kk * 6 + 1, none⟩ = some (.int .i64 r1) ∧ w2.drew.cell? ⟨b, off + kk * 6 + 2, none⟩ = some (.string l1) ∧ w2.drew.cell? ⟨b, off + kk * 6 + 3, none⟩ = some (.int .i64 n1) ∧ w2.drew.cell? ⟨b, off + kk * 6 + 4, none⟩ = some (.int .i64 i1) ∧ Below w2.heap.size w2 w2.drew := ⟨cell_stays hS.1 (drew_below w2), cell_stays hS.2.1 (drew_below w2), cell_stays hS.2.2.1 (drew_below w2), cell_stays hS.2.2.2.1 (drew_below w2), cell_stays hS.2.2.2.2.1 (drew_below w2), cell_stays hS.2.2.2.2.2.1 (drew_below w2), cell_stays hS.2.2.2.2.2.2.1 (drew_below w2), cell_stays hS.2.2.2.2.2.2.2.1 (drew_below w2), cell_stays hS.2.2.2.2.2.2.2.2.1 (drew_below w2), cell_stays hS.2.2.2.2.2.2.2.2.2.1 (drew_below w2), cell_stays hS.2.2.2.2.2.2.2.2.2.2.1 (drew_below w2), cell_stays hS.2.2.2.2.2.2.2.2.2.2.2.1 (drew_below w2), nextB hS.2.2.2.2.2.2.2.2.2.2.2.2 (drew_below w2)⟩
              refine wp_region_held_drew (S := (fun w' => w'.cell? ⟨BX, 0, none⟩ = some (.int .i64 g) ∧ w'.cell? ⟨BX, 1, none⟩ = some (.int .i64 r) ∧ w'.cell? ⟨BX, 2, none⟩ = some (.string l0) ∧ w'.cell? ⟨BX, 3, none⟩ = some (.int .i64 n0) ∧ w'.cell? ⟨BX, 4, none⟩ = some (.int .i64 i0) ∧ w'.cell? ⟨BX, 5, none⟩ = some (.string t0) ∧ w'.cell? ⟨X, 2, none⟩ = some (.slice (some ⟨b, off, none⟩) N c) ∧ w'.cell? ⟨b, off + kk * 6, none⟩ = some (.int .i64 g1) ∧ w'.cell? ⟨b, off + kk * 6 + 1, none⟩ = some (.int .i64 r1) ∧ w'.cell? ⟨b, off + kk * 6 + 2, none⟩ = some (.string l1) ∧ w'.cell? ⟨b, off + kk * 6 + 3, none⟩ = some (.int .i64 n1) ∧ w'.cell? ⟨b, off + kk * 6 + 4, none⟩ = some (.int .i64 i1) ∧ Below w2.heap.size w2 w')) (by kernel_rfl) qd (fun hHeld => ?_)
              try dsimp only at hHeld
              refine take_op (i := 0) (d := 46) (OP := Op.fieldAddr 77 (Operand.tmp 4) 0) (T := 0) (v := ?vzz73) rfl rfl rfl rfl (by kernel_rfl) (by kernel_rfl) (by kernel_rfl) (fun _ _ _ h => h) (by rfl) ?hzz73 hHeld ?rzz73
              case hzz73 => (intro w' hSw; (try dsimp only at hSw); go_simp <;> with_reducible rfl)
              try simp only [Act.put, List.setIfInBounds_toArray, List.set_cons_zero, List.set_cons_succ]
              refine take_op (i := 1) (d := 47) (OP := Op.load 52 (Operand.tmp 46)) (T := 52) (v := ?vzz74) rfl rfl rfl rfl (by kernel_rfl) (by kernel_rfl) (by kernel_rfl) (fun _ _ _ h => h) (by rfl) ?hzz74 hHeld ?rzz74
              case hzz74 => (intro w' hSw; (try dsimp only at hSw); go_simp <;> with_reducible rfl)
              try simp only [Act.put, List.setIfInBounds_toArray, List.set_cons_zero, List.set_cons_succ]
              refine call_op (i := 2) (d := 48) (OP := Op.call { callee := Callee.value (Operand.func 62), args := #[Operand.tmp 47], argTypes := #[52] }) (T := 4) (f := 62) (args := #[.agg #[.int .i64 g, .int .i64 r, .string l0, .int .i64 n0, .int .i64 i0]]) rfl rfl rfl rfl (by kernel_rfl) (by rfl) (by go_simp) ?_
              refine (k62 _).mono ?_
              rintro e z0 ⟨rfl, bz0⟩
              have qz0 : z0.cell? ⟨BX, 0, none⟩ = some (.int .i64 g) ∧ z0.cell? ⟨BX, 1, none⟩ = some (.int .i64 r) ∧ z0.cell? ⟨BX, 2, none⟩ = some (.string l0) ∧ z0.cell? ⟨BX, 3, none⟩ = some (.int .i64 n0) ∧ z0.cell? ⟨BX, 4, none⟩ = some (.int .i64 i0) ∧ z0.cell? ⟨BX, 5, none⟩ = some (.string t0) ∧ z0.cell? ⟨X, 2, none⟩ = some (.slice (some ⟨b, off, none⟩) N c) ∧ z0.cell? ⟨b, off + kk * 6, none⟩ = some (.int .i64 g1) ∧ z0.cell? ⟨b, off + kk * 6 + 1, none⟩ = some (.int .i64 r1) ∧ z0.cell? ⟨b, off + kk * 6 + 2, none⟩ = some (.string l1) ∧ z0.cell? ⟨b, off + kk * 6 + 3, none⟩ = some (.int .i64 n1) ∧ z0.cell? ⟨b, off + kk * 6 + 4, none⟩ = some (.int .i64 i1) ∧ Below w2.heap.size w2 z0 := ⟨cell_stays hHeld.1 bz0, cell_stays hHeld.2.1 bz0, cell_stays hHeld.2.2.1 bz0, cell_stays hHeld.2.2.2.1 bz0, cell_stays hHeld.2.2.2.2.1 bz0, cell_stays hHeld.2.2.2.2.2.1 bz0, cell_stays hHeld.2.2.2.2.2.2.1 bz0, cell_stays hHeld.2.2.2.2.2.2.2.1 bz0, cell_stays hHeld.2.2.2.2.2.2.2.2.1 bz0, cell_stays hHeld.2.2.2.2.2.2.2.2.2.1 bz0, cell_stays hHeld.2.2.2.2.2.2.2.2.2.2.1 bz0, cell_stays hHeld.2.2.2.2.2.2.2.2.2.2.2.1 bz0, nextB hHeld.2.2.2.2.2.2.2.2.2.2.2.2 bz0⟩
              refine ⟨_, rfl, qz0, ?_⟩
              replace hHeld := qz0
              try simp only [Act.put, List.setIfInBounds_toArray, List.set_cons_zero, List.set_cons_succ]
              refine take_op (i := 3) (d := 49) (OP := Op.unOp UnOp.not 4 (Operand.tmp 48)) (T := 4) (v := ?vzz75) rfl rfl rfl rfl (by kernel_rfl) (by kernel_rfl) (by kernel_rfl) (fun _ _ _ h => h) (by rfl) ?hzz75 hHeld ?rzz75
              case hzz75 => (intro w' hSw; (try dsimp only at hSw); go_simp <;> with_reducible rfl)
              try simp only [Act.put, List.setIfInBounds_toArray, List.set_cons_zero, List.set_cons_succ]
              refine take_op (i := 4) (d := 50) (OP := Op.move (Operand.tmp 49)) (T := 4) (v := ?vzz76) rfl rfl rfl rfl (by kernel_rfl) (by kernel_rfl) (by kernel_rfl) (fun _ _ _ h => h) (by rfl) ?hzz76 hHeld ?rzz76
              case hzz76 => (intro w' hSw; (try dsimp only at hSw); go_simp <;> with_reducible rfl)
              try simp only [Act.put, List.setIfInBounds_toArray, List.set_cons_zero, List.set_cons_succ]
              refine take_op (i := 5) (d := 51) (OP := Op.fieldAddr 77 (Operand.tmp 4) 1) (T := 0) (v := ?vzz77) rfl rfl rfl rfl (by kernel_rfl) (by kernel_rfl) (by kernel_rfl) (fun _ _ _ h => h) (by rfl) ?hzz77 hHeld ?rzz77
              case hzz77 => (intro w' hSw; (try dsimp only at hSw); go_simp <;> with_reducible rfl)
              try simp only [Act.put, List.setIfInBounds_toArray, List.set_cons_zero, List.set_cons_succ]
              refine take_op (i := 6) (d := 52) (OP := Op.load 9 (Operand.tmp 51)) (T := 9) (v := ?vzz78) rfl rfl rfl rfl (by kernel_rfl) (by kernel_rfl) (by kernel_rfl) (fun _ _ _ h => h) (by rfl) ?hzz78 hHeld ?rzz78
              case hzz78 => (intro w' hSw; (try dsimp only at hSw); go_simp <;> with_reducible rfl)
              try simp only [Act.put, List.setIfInBounds_toArray, List.set_cons_zero, List.set_cons_succ]
              refine call_op (i := 7) (d := 53) (OP := Op.call { callee := Callee.value (Operand.func 50), args := #[Operand.tmp 52], argTypes := #[9] }) (T := 4) (f := 50) (args := #[.string t0]) rfl rfl rfl rfl (by kernel_rfl) (by rfl) (by go_simp) ?_
              refine (k50 _).mono ?_
              rintro e z1 ⟨rfl, hz1⟩
              subst hz1
              refine ⟨_, rfl, hHeld, ?_⟩
              try simp only [Act.put, List.setIfInBounds_toArray, List.set_cons_zero, List.set_cons_succ]
              refine take_op (i := 8) (d := 54) (OP := Op.unOp UnOp.not 4 (Operand.tmp 53)) (T := 4) (v := ?vzz79) rfl rfl rfl rfl (by kernel_rfl) (by kernel_rfl) (by kernel_rfl) (fun _ _ _ h => h) (by rfl) ?hzz79 hHeld ?rzz79
              case hzz79 => (intro w' hSw; (try dsimp only at hSw); go_simp <;> with_reducible rfl)
              try simp only [Act.put, List.setIfInBounds_toArray, List.set_cons_zero, List.set_cons_succ]
              refine take_op (i := 9) (d := 55) (OP := Op.pick (Operand.tmp 50) (Operand.const (Value.bool true)) (Operand.tmp 54)) (T := 4) (v := ?vzz80) rfl rfl rfl rfl (by kernel_rfl) (by kernel_rfl) (by kernel_rfl) (fun _ _ _ h => h) (by rfl) ?hzz80 hHeld ?rzz80
              case hzz80 => (intro w' hSw; (try dsimp only at hSw); go_simp <;> with_reducible rfl)
              try simp only [Act.put, List.setIfInBounds_toArray, List.set_cons_zero, List.set_cons_succ]
              refine take_op (i := 10) (d := 56) (OP := Op.move (Operand.tmp 55)) (T := 4) (v := ?vzz81) rfl rfl rfl rfl (by kernel_rfl) (by kernel_rfl) (by kernel_rfl) (fun _ _ _ h => h) (by rfl) ?hzz81 hHeld ?rzz81
              case hzz81 => (intro w' hSw; (try dsimp only at hSw); go_simp <;> with_reducible rfl)
              try simp only [Act.put, List.setIfInBounds_toArray, List.set_cons_zero, List.set_cons_succ]
              refine take_op (i := 11) (d := 57) (OP := Op.move (Operand.tmp 3)) (T := 3) (v := ?vzz82) rfl rfl rfl rfl (by kernel_rfl) (by kernel_rfl) (by kernel_rfl) (fun _ _ _ h => h) (by rfl) ?hzz82 hHeld ?rzz82
              case hzz82 => (intro w' hSw; (try dsimp only at hSw); go_simp <;> with_reducible rfl)
              try simp only [Act.put, List.setIfInBounds_toArray, List.set_cons_zero, List.set_cons_succ]
              refine take_op (i := 12) (d := 58) (OP := Op.binOp BinOp.gtr 3 (Operand.tmp 57) (Operand.const (Value.int IntKind.i64 0)) 3) (T := 4) (v := ?vzz83) rfl rfl rfl rfl (by kernel_rfl) (by kernel_rfl) (by kernel_rfl) (fun _ _ _ h => h) (by rfl) ?hzz83 hHeld ?rzz83
              case hzz83 => (intro w' hSw; (try dsimp only at hSw); go_simp <;> with_reducible rfl)
              try simp only [Act.put, List.setIfInBounds_toArray, List.set_cons_zero, List.set_cons_succ]
              refine take_op (i := 13) (d := 59) (OP := Op.move (Operand.tmp 58)) (T := 4) (v := ?vzz84) rfl rfl rfl rfl (by kernel_rfl) (by kernel_rfl) (by kernel_rfl) (fun _ _ _ h => h) (by rfl) ?hzz84 hHeld ?rzz84
              case hzz84 => (intro w' hSw; (try dsimp only at hSw); go_simp <;> with_reducible rfl)
              try simp only [Act.put, List.setIfInBounds_toArray, List.set_cons_zero, List.set_cons_succ]
              refine take_op (i := 14) (d := 60) (OP := Op.fieldAddr 46 (Operand.tmp 1) 2) (T := 0) (v := ?vzz85) rfl rfl rfl rfl (by kernel_rfl) (by kernel_rfl) (by kernel_rfl) (fun _ _ _ h => h) (by rfl) ?hzz85 hHeld ?rzz85
              case hzz85 => (intro w' hSw; (try dsimp only at hSw); go_simp <;> with_reducible rfl)
              try simp only [Act.put, List.setIfInBounds_toArray, List.set_cons_zero, List.set_cons_succ]
              refine take_op (i := 15) (d := 61) (OP := Op.load 44 (Operand.tmp 60)) (T := 44) (v := ?vzz86) rfl rfl rfl rfl (by kernel_rfl) (by kernel_rfl) (by kernel_rfl) (fun _ _ _ h => h) (by rfl) ?hzz86 hHeld ?rzz86
              case hzz86 => (intro w' hSw; (try dsimp only at hSw); go_simp <;> with_reducible rfl)
              try simp only [Act.put, List.setIfInBounds_toArray, List.set_cons_zero, List.set_cons_succ]
              refine take_op (i := 16) (d := 62) (OP := Op.move (Operand.tmp 3)) (T := 3) (v := ?vzz87) rfl rfl rfl rfl (by kernel_rfl) (by kernel_rfl) (by kernel_rfl) (fun _ _ _ h => h) (by rfl) ?hzz87 hHeld ?rzz87
              case hzz87 => (intro w' hSw; (try dsimp only at hSw); go_simp <;> with_reducible rfl)
              try simp only [Act.put, List.setIfInBounds_toArray, List.set_cons_zero, List.set_cons_succ]
              refine take_op (i := 17) (d := 63) (OP := Op.binOp BinOp.sub 3 (Operand.tmp 62) (Operand.const (Value.int IntKind.i64 1)) 3) (T := 3) (v := ?vzz88) rfl rfl rfl rfl (by kernel_rfl) (by kernel_rfl) (by kernel_rfl) (fun _ _ _ h => h) (by rfl) ?hzz88 hHeld ?rzz88
              case hzz88 => (intro w' hSw; (try dsimp only at hSw); go_simp <;> with_reducible rfl)
              try simp only [Act.put, List.setIfInBounds_toArray, List.set_cons_zero, List.set_cons_succ]
              refine take_op (i := 18) (d := 64) (OP := Op.indexAddr 44 (Operand.tmp 61) (Operand.tmp 63)) (T := 0) (v := ?vzz89) rfl rfl rfl rfl (by kernel_rfl) (by kernel_rfl) (by kernel_rfl) (fun _ _ _ h => h) (by rfl) ?hzz89 hHeld ?rzz89
              case hzz89 => (intro w' hSw; (try dsimp only at hSw); go_simp <;> with_reducible rfl)
              try simp only [Act.put, List.setIfInBounds_toArray, List.set_cons_zero, List.set_cons_succ]
              refine take_op (i := 19) (d := 65) (OP := Op.fieldAddr 77 (Operand.tmp 64) 0) (T := 0) (v := ?vzz90) rfl rfl rfl rfl (by kernel_rfl) (by kernel_rfl) (by kernel_rfl) (fun _ _ _ h => h) (by rfl) ?hzz90 hHeld ?rzz90
              case hzz90 => (intro w' hSw; (try dsimp only at hSw); go_simp <;> with_reducible rfl)
              try simp only [Act.put, List.setIfInBounds_toArray, List.set_cons_zero, List.set_cons_succ]
              refine take_op (i := 20) (d := 66) (OP := Op.load 52 (Operand.tmp 65)) (T := 52) (v := ?vzz91) rfl rfl rfl rfl (by kernel_rfl) (by kernel_rfl) (by kernel_rfl) (fun _ _ _ h => h) (by rfl) ?hzz91 hHeld ?rzz91
              case hzz91 => (intro w' hSw; (try dsimp only at hSw); go_simp <;> with_reducible rfl)
              try simp only [Act.put, List.setIfInBounds_toArray, List.set_cons_zero, List.set_cons_succ]
              refine take_op (i := 21) (d := 67) (OP := Op.fieldAddr 77 (Operand.tmp 4) 0) (T := 0) (v := ?vzz92) rfl rfl rfl rfl (by kernel_rfl) (by kernel_rfl) (by kernel_rfl) (fun _ _ _ h => h) (by rfl) ?hzz92 hHeld ?rzz92
              case hzz92 => (intro w' hSw; (try dsimp only at hSw); go_simp <;> with_reducible rfl)
              try simp only [Act.put, List.setIfInBounds_toArray, List.set_cons_zero, List.set_cons_succ]
              refine take_op (i := 22) (d := 68) (OP := Op.load 52 (Operand.tmp 67)) (T := 52) (v := ?vzz93) rfl rfl rfl rfl (by kernel_rfl) (by kernel_rfl) (by kernel_rfl) (fun _ _ _ h => h) (by rfl) ?hzz93 hHeld ?rzz93
              case hzz93 => (intro w' hSw; (try dsimp only at hSw); go_simp <;> with_reducible rfl)
              try simp only [Act.put, List.setIfInBounds_toArray, List.set_cons_zero, List.set_cons_succ]
              refine call_op (i := 23) (d := 69) (OP := Op.call { callee := Callee.value (Operand.func 63), args := #[Operand.tmp 66, Operand.tmp 68], argTypes := #[52, 52] }) (T := 3) (f := 63) (args := #[.agg #[.int .i64 g1, .int .i64 r1, .string l1, .int .i64 n1, .int .i64 i1], .agg #[.int .i64 g, .int .i64 r, .string l0, .int .i64 n0, .int .i64 i0]]) rfl rfl rfl rfl (by kernel_rfl) (by rfl) (by go_simp) ?_
              refine (k63 _).mono ?_
              rintro e z2 ⟨rfl, bz2⟩
              have qz2 : z2.cell? ⟨BX, 0, none⟩ = some (.int .i64 g) ∧ z2.cell? ⟨BX, 1, none⟩ = some (.int .i64 r) ∧ z2.cell? ⟨BX, 2, none⟩ = some (.string l0) ∧ z2.cell? ⟨BX, 3, none⟩ = some (.int .i64 n0) ∧ z2.cell? ⟨BX, 4, none⟩ = some (.int .i64 i0) ∧ z2.cell? ⟨BX, 5, none⟩ = some (.string t0) ∧ z2.cell? ⟨X, 2, none⟩ = some (.slice (some ⟨b, off, none⟩) N c) ∧ z2.cell? ⟨b, off + kk * 6, none⟩ = some (.int .i64 g1) ∧ z2.cell? ⟨b, off + kk * 6 + 1, none⟩ = some (.int .i64 r1) ∧ z2.cell? ⟨b, off + kk * 6 + 2, none⟩ = some (.string l1) ∧ z2.cell? ⟨b, off + kk * 6 + 3, none⟩ = some (.int .i64 n1) ∧ z2.cell? ⟨b, off + kk * 6 + 4, none⟩ = some (.int .i64 i1) ∧ Below w2.heap.size w2 z2 := ⟨cell_stays hHeld.1 bz2, cell_stays hHeld.2.1 bz2, cell_stays hHeld.2.2.1 bz2, cell_stays hHeld.2.2.2.1 bz2, cell_stays hHeld.2.2.2.2.1 bz2, cell_stays hHeld.2.2.2.2.2.1 bz2, cell_stays hHeld.2.2.2.2.2.2.1 bz2, cell_stays hHeld.2.2.2.2.2.2.2.1 bz2, cell_stays hHeld.2.2.2.2.2.2.2.2.1 bz2, cell_stays hHeld.2.2.2.2.2.2.2.2.2.1 bz2, cell_stays hHeld.2.2.2.2.2.2.2.2.2.2.1 bz2, cell_stays hHeld.2.2.2.2.2.2.2.2.2.2.2.1 bz2, nextB hHeld.2.2.2.2.2.2.2.2.2.2.2.2 bz2⟩
              refine ⟨_, rfl, qz2, ?_⟩
              replace hHeld := qz2
              try simp only [Act.put, List.setIfInBounds_toArray, List.set_cons_zero, List.set_cons_succ]
              refine take_op (i := 24) (d := 70) (OP := Op.binOp BinOp.geq 3 (Operand.tmp 69) (Operand.const (Value.int IntKind.i64 0)) 3) (T := 4) (v := ?vzz94) rfl rfl rfl rfl (by kernel_rfl) (by kernel_rfl) (by kernel_rfl) (fun _ _ _ h => h) (by rfl) ?hzz94 hHeld ?rzz94
              case hzz94 => (intro w' hSw; (try dsimp only at hSw); go_simp <;> with_reducible rfl)
              try simp only [Act.put, List.setIfInBounds_toArray, List.set_cons_zero, List.set_cons_succ]
              refine take_op (i := 25) (d := 71) (OP := Op.pick (Operand.tmp 59) (Operand.tmp 70) (Operand.const (Value.bool false))) (T := 4) (v := ?vzz95) rfl rfl rfl rfl (by kernel_rfl) (by kernel_rfl) (by kernel_rfl) (fun _ _ _ h => h) (by rfl) ?hzz95 hHeld ?rzz95
              case hzz95 => (intro w' hSw; (try dsimp only at hSw); go_simp <;> with_reducible rfl)
              try simp only [Act.put, List.setIfInBounds_toArray, List.set_cons_zero, List.set_cons_succ]
              refine take_op (i := 26) (d := 72) (OP := Op.pick (Operand.tmp 56) (Operand.const (Value.bool true)) (Operand.tmp 71)) (T := 4) (v := ?vzz96) rfl rfl rfl rfl (by kernel_rfl) (by kernel_rfl) (by kernel_rfl) (fun _ _ _ h => h) (by rfl) ?hzz96 hHeld ?rzz96
              case hzz96 => (intro w' hSw; (try dsimp only at hSw); go_simp <;> with_reducible rfl)
              try simp only [Act.put, List.setIfInBounds_toArray, List.set_cons_zero, List.set_cons_succ]
              refine wpAnyH_done (by kernel_rfl) ?_ _
              have HE := hide hHeld.2.2.2.2.2.2.2.2.2.2.2.2
              clear hHeld qd hS
              go_wp2
              go_roundw
              case rel =>
                refine ⟨k + 1, by omega, by go_num, hide ⟨fun j y hj hy => ?_, nextB HB1.out HE.out⟩⟩
                by_cases hjk : j = k
                · subst hjk
                  rw [HX.out.1] at hy
                  cases hy
                  rw [HX.out.2]; rfl
                · exact hP.out.1 j y (by omega) hy
              case measure => simp [intOf]; omega
    · obtain rfl : k = N := by omega
      have d1 : decide (k < k) = false := by simp
      go_wp2
      go_ret
      refine ⟨?_, nextB H.out.2.2.2.2.2.2 hP.out.2⟩
      have : R = true := by rw [H.out.2.1, mayB_iff, ← H.out.1]; exact hP.out.1
      rw [this]; rfl
end Go.Proofs.YtkdgageljgfgoaaGreatDoor
namespace Go.Proofs.YtkdgageljgfgoaaGreatDoor
open Go.RowKit Go.Shelf
set_option linter.unusedSimpArgs false
attribute [local go_sem] Oper.semAt_some

end Go.Proofs.YtkdgageljgfgoaaGreatDoor
