/-
  KindsOps 3: the walk.
-/
import Derived.Test.YtkdgageljgfgoaaGreatDoorOpsT
import Derived.Test.YtkdgageljgfgoaaGreatDoorKnownB
import Derived.Test.YtkdgageljgfgoaaGreatDoorDone9
import Derived.Deep.DeepCutAuto
import Derived.Deep.CutBlock
import Derived.BigCall
import Derived.BigGuard
import Derived.BigGuardPart
import Derived.BigRegion
namespace Go.Proofs.YtkdgageljgfgoaaGreatDoor
open Go.RowKit Go.Shelf
set_option linter.unusedSimpArgs false
attribute [local go_sem] Oper.semAt_some

theorem bne_dec (L : Int) : (L != 0) = decide (¬ L = 0) := by by_cases h : L = 0 <;> simp [h]
set_option maxHeartbeats 16000000 in
set_option maxRecDepth 100000 in
theorem ops_walk {w : World} {ao : Option Addr} {c : Nat} {p : List ByteArray} (ok : Int) (os : ByteArray) (od on : Int) (tx : ByteArray) (k d : Int) (word : ByteArray) (h : Rp w ao c p) (hT : Tabs w) :
    Calls Tryz.prog 3 #[opv ao p.length c ok os od on tx, .agg #[.int .i64 k, .int .i64 d], .string word] w fun e w' => e = .returned (.bool true) ∧ Below w.heap.size w w' := by
  obtain ⟨N, hN⟩ : ∃ N, N = p.length := ⟨_, rfl⟩
  obtain ⟨m0, m1, b1⟩ := new2b w (.cells #[.slice ao N c, .int .i64 ok, .string os, .int .i64 od, .int .i64 on, .string tx] 26) (.cells #[.int .i64 k, .int .i64 d] 28)
  obtain ⟨X, hX⟩ : ∃ X, X = w.heap.size := ⟨_, rfl⟩
  obtain ⟨Y, hY⟩ : ∃ Y, Y = w.heap.size + 1 := ⟨_, rfl⟩
  rw [← hX] at m0
  rw [← hY] at m1
  have HX := hide (And.intro hX hY)
  have H1 : ∃ w1, w1 = (w.alloc (.cells #[.slice ao N c, .int .i64 ok, .string os, .int .i64 od, .int .i64 on, .string tx] 26)).alloc (.cells #[.int .i64 k, .int .i64 d] 28) := ⟨_, rfl⟩
  obtain ⟨w1, hw1⟩ := H1
  rw [← hw1] at m0 m1 b1
  have up : Hid (∀ W, Below w1.heap.size w1 W → W.cell? ⟨X, 0, none⟩ = some (.slice ao N c) ∧ W.cell? ⟨X, 1, none⟩ = some (.int .i64 ok) ∧ W.cell? ⟨X, 2, none⟩ = some (.string os) ∧ W.cell? ⟨X, 3, none⟩ = some (.int .i64 od) ∧ W.cell? ⟨X, 4, none⟩ = some (.int .i64 on) ∧ W.cell? ⟨X, 5, none⟩ = some (.string tx) ∧ W.cell? ⟨Y, 0, none⟩ = some (.int .i64 k) ∧ W.cell? ⟨Y, 1, none⟩ = some (.int .i64 d)) := hide (fun W hW => by
    have q := (hW.block _ (Array.getElem?_eq_some_iff.1 m0).1).trans m0
    have r := (hW.block _ (Array.getElem?_eq_some_iff.1 m1).1).trans m1
    exact ⟨(cell_of_row _ _ 0 _ 26 (0, 0) q).trans rfl, (cell_of_row _ _ 1 _ 26 (0, 0) q).trans rfl, (cell_of_row _ _ 2 _ 26 (0, 0) q).trans rfl, (cell_of_row _ _ 3 _ 26 (0, 0) q).trans rfl, (cell_of_row _ _ 4 _ 26 (0, 0) q).trans rfl, (cell_of_row _ _ 5 _ 26 (0, 0) q).trans rfl, (cell_of_row _ _ 0 _ 28 (0, 0) r).trans rfl, (cell_of_row _ _ 1 _ 28 (0, 0) r).trans rfl⟩)
  have h1 := h.below b1
  have hT1 := hT.below b1
  have k7 : ∀ W, Below w1.heap.size w1 W → Calls Tryz.prog 7 #[] W fun e w' => e = .returned (.bool true) ∧ Below W.heap.size W w' := fun W hW => known_any (hT1.below hW)
  obtain ⟨CE, hCE⟩ : ∃ C, C = checkE p ok os od on tx := ⟨_, rfl⟩
  obtain ⟨SB, hSB⟩ : ∃ C, C = stampedB p ok os od on tx := ⟨_, rfl⟩
  have k13 : ∀ W, Below w1.heap.size w1 W → Calls Tryz.prog 13 #[opv ao N c ok os od on tx] W fun e w' => e = .returned (.int .i64 CE) ∧ Below W.heap.size W w' := fun W hW => by rw [hCE, hN]; exact check_any ok os od on tx (h1.below hW) (hT1.below hW)
  have k14 : ∀ W, Below w1.heap.size w1 W → Calls Tryz.prog 14 #[opv ao N c ok os od on tx] W fun e w' => e = .returned (.int .i64 CE) ∧ Below W.heap.size W w' := fun W hW => by rw [hCE, hN]; exact refCheck_any ok os od on tx (h1.below hW).rs
  have k15 : ∀ W, Below w1.heap.size w1 W → Calls Tryz.prog 15 #[opv ao N c ok os od on tx] W fun e w' => e = .returned (.bool SB) ∧ Below W.heap.size W w' := fun W hW => by rw [hSB, hN]; exact stamped_any ok os od on tx (h1.below hW) (hT1.below hW)
  have k16 : ∀ W, Below w1.heap.size w1 W → Calls Tryz.prog 16 #[opv ao N c ok os od on tx] W fun e w' => e = .returned (.bool SB) ∧ Below W.heap.size W w' := fun W hW => by rw [hSB, hN]; exact refStamped_any ok os od on tx (h1.below hW).rs
  obtain ⟨WK, hWK⟩ : ∃ C, C = wordB kindWs k := ⟨_, rfl⟩
  obtain ⟨WD, hWD⟩ : ∃ C, C = wordB doWs d := ⟨_, rfl⟩
  have k17 : ∀ W, Below w1.heap.size w1 W → Calls Tryz.prog 17 #[.int .i64 k] W fun e w' => e = .returned (.string WK) ∧ Below W.heap.size W w' := fun W hW => by rw [hWK]; exact WordK k W
  have k18 : ∀ W, Below w1.heap.size w1 W → Calls Tryz.prog 18 #[.int .i64 d] W fun e w' => e = .returned (.string WD) ∧ Below W.heap.size W w' := fun W hW => by rw [hWD]; exact WordD d W
  obtain ⟨KI, hKI⟩ : ∃ C, C = (ofWB kindWs word).1 := ⟨_, rfl⟩
  obtain ⟨KB, hKB⟩ : ∃ C, C = (ofWB kindWs word).2 := ⟨_, rfl⟩
  obtain ⟨DI, hDI⟩ : ∃ C, C = (ofWB doWs word).1 := ⟨_, rfl⟩
  obtain ⟨DB, hDB⟩ : ∃ C, C = (ofWB doWs word).2 := ⟨_, rfl⟩
  have eKB : KB = decide (¬ KI = 0) := by rw [hKB, hKI]; exact ofWB_ok _ _
  have eDB : DB = decide (¬ DI = 0) := by rw [hDB, hDI]; exact ofWB_ok _ _
  have k10 : ∀ W, Calls Tryz.prog 10 #[.string word] W fun e w' => e = .returned (.tuple #[.int .i64 KI, .bool KB]) ∧ Below W.heap.size W w' := fun W => by rw [hKI, hKB]; exact OfWordK word W
  have k11 : ∀ W, Calls Tryz.prog 11 #[.string word] W fun e w' => e = .returned (.tuple #[.int .i64 DI, .bool DB]) ∧ Below W.heap.size W w' := fun W => by rw [hDI, hDB]; exact OfWordD word W
  rw [← hN]
  have H := hide (And.intro h1 (And.intro hN (And.intro hWK (And.intro hWD (And.intro hKI (And.intro hDI (And.intro hw1 (And.intro b1 (And.intro eKB eDB)))))))))
  have hc := h.cap
  have hpl := h.len
  rw [← hN] at hc hpl
  clear h1 hT1 h hT hN hCE hSB hWK hWD hKI hKB hDI hDB b1 m0 m1 hX hY hw1 eKB eDB
  go_enter Tryz.func3, Tryz.ntmps3
  go_upto_region 1 with fail
  obtain ⟨t1, t2⟩ := HX.out
  rw [← H.out.2.2.2.2.2.2.1, ← t2, ← t1]
  clear t1 t2
  obtain ⟨x0, x1, x2, x3, x4, x5, y0, y1⟩ := up.out w1 (Below.refl _ _)
  go_quiet (fail)
  obtain ⟨w2, hw2⟩ : ∃ W, W = w1.drewN nq := ⟨_, rfl⟩
  have b2 : Below w1.heap.size w1 w2 := by rw [hw2]; exact below_drw (Below.refl _ _) _
  rw [← hw2]
  have HB2 := hide b2
  clear hw2 b2 x0 x1 x2 x3 x4 x5 y0 y1
  obtain ⟨x0, x1, x2, x3, x4, x5, y0, y1⟩ := up.out w2 HB2.out
  by_cases hN2 : 200 < N
  · have d1 : decide (200 < N) = true := by simpa using hN2
    have d2 : (200 : Int) < (N : Int) := by omega
    go_wp2_with (go_at_call 7; refine (k7 _ HB2.out).mono ?_; rintro e w3 ⟨rfl, b3⟩; have HB3 := hide (nextB HB2.out b3); clear b3; dsimp only)
    go_ret
    exact ⟨rfl, nextB H.out.2.2.2.2.2.2.2.1 HB3.out⟩
  have d1 : decide (200 < N) = false := by simpa using hN2
  have d2 : ¬ (200 : Int) < (N : Int) := by omega
  by_cases hT2 : 9000 < tx.size
  · have d3 : decide (9000 < tx.size) = true := by simpa using hT2
    have d4 : (9000 : Int) < (tx.size : Int) := by omega
    go_wp2_with (go_at_call 7; refine (k7 _ HB2.out).mono ?_; rintro e w3 ⟨rfl, b3⟩; have HB3 := hide (nextB HB2.out b3); clear b3; dsimp only)
    go_ret
    exact ⟨rfl, nextB H.out.2.2.2.2.2.2.2.1 HB3.out⟩
  have d3 : decide (9000 < tx.size) = false := by simpa using hT2
  have d4 : ¬ (9000 : Int) < (tx.size : Int) := by omega
  by_cases hO2 : 9000 < os.size
  · have d5 : decide (9000 < os.size) = true := by simpa using hO2
    have d6 : (9000 : Int) < (os.size : Int) := by omega
    go_wp2_with (go_at_call 7; refine (k7 _ HB2.out).mono ?_; rintro e w3 ⟨rfl, b3⟩; have HB3 := hide (nextB HB2.out b3); clear b3; dsimp only)
    go_ret
    exact ⟨rfl, nextB H.out.2.2.2.2.2.2.2.1 HB3.out⟩
  have d5 : decide (9000 < os.size) = false := by simpa using hO2
  have d6 : ¬ (9000 : Int) < (os.size : Int) := by omega
  go_wp2_with fail
  clear d3 d4 d5 d6 hT2 hO2
  go_loopw [9] (fun iv wr => ∃ i : Nat, i ≤ N ∧ iv = .int .i64 i ∧ wr = w2) (fun iv _ => N - (intOf iv).toNat)
  case atStart => exact ⟨0, Nat.zero_le _, rfl, rfl⟩
  case round =>
    obtain ⟨i, hi, rfl, hwr⟩ := hrel
    obtain rfl : w2 = wr := hwr.symm
    clear hwr
    by_cases hlt : i < N
    · have e1 : decide (i < N) = true := by simpa using hlt
      have e2 : (i : Int) < (N : Int) := by omega
      obtain ⟨s, hs⟩ : ∃ s, p[i]? = some s := ⟨_, List.getElem?_eq_getElem (by rw [← H.out.2.1]; exact hlt)⟩
      obtain ⟨ab, off, hao, qs⟩ := ((H.out.1.below HB2.out).rs).at hs
      rw [hao] at x0
      clear hs
      by_cases h9 : 9000 < s.size
      · have e3 : decide (9000 < s.size) = true := by simpa using h9
        have e4 : (9000 : Int) < (s.size : Int) := by omega
        go_wp2_with (go_at_call 7; refine (k7 _ HB2.out).mono ?_; rintro e w3 ⟨rfl, b3⟩; have HB3 := hide (nextB HB2.out b3); clear b3; dsimp only)
        go_ret
        exact ⟨rfl, nextB H.out.2.2.2.2.2.2.2.1 HB3.out⟩
      · have e3 : decide (9000 < s.size) = false := by simpa using h9
        have e4 : ¬ (9000 : Int) < (s.size : Int) := by omega
        go_wp2_with fail
        go_roundw
        case rel => exact ⟨i + 1, by omega, by go_num, by first | rfl | trivial⟩
        case measure => simp [intOf]; omega
    · obtain rfl : N = i := by omega
      have e1 : decide (N < N) = false := by simp
      go_upto_region 10 with fail
      clear e1 hlt hi x0 x1 x2 x3 x4 x5 y0 y1
      go_cut [61] (fun v wq => v = .bool (decide (1 ≤ k) && decide (k ≤ 6)) ∧ Hid (Below w1.heap.size w1 wq))
      case first =>
        by_cases hk1 : 1 ≤ k
        · have f1 : decide (1 ≤ k) = true := by simpa using hk1
          by_cases hk6 : k ≤ 6
          · have f2 : decide (k ≤ 6) = true := by simpa using hk6
            go_wp2
            go_meet
            exact ⟨by rw [f1, f2]; rfl, HB2⟩
          · have f2 : decide (k ≤ 6) = false := by simpa using hk6
            go_wp2
            go_meet
            exact ⟨by rw [f1, f2]; rfl, HB2⟩
        · have f1 : decide (1 ≤ k) = false := by simpa using hk1
          go_wp2
          go_meet
          exact ⟨by rw [f1]; rfl, HB2⟩
      case rest =>
      obtain ⟨rfl, HB3⟩ := hcut
      go_upto_if 61 with fail
      go_cut [10] (fun wv wq => wv = .string WK ∧ Hid (Below w1.heap.size w1 wq))
      case first =>
        by_cases hk : 1 ≤ k ∧ k ≤ 6
        · have f0 : (decide (1 ≤ k) && decide (k ≤ 6)) = true := by simpa using hk
          rw [f0]
          have f3 : k < 7 := by omega
          have f4 : (0 : Int) ≤ k := by omega
          have hq := wordK_in hk.1 hk.2
          rw [← H.out.2.2.1] at hq
          have HQ := hide hq
          clear hq hk f0
          go_wp2_with (go_at_call 8; refine (words8_at _).mono ?_; rintro e w3 ⟨rfl, hw3⟩; have q3 := hw3.2 k.toNat WK HQ.out; have HB9 := hide (nextB HB3.out hw3.1); clear hw3; dsimp only)
          go_meet
          exact ⟨rfl, HB9⟩
        · have f0 : (decide (1 ≤ k) && decide (k ≤ 6)) = false := by simpa using hk
          rw [f0]
          clear f0
          go_wp2
          go_meet
          exact ⟨by rw [H.out.2.2.1, wordB_out (by simp [kindWs]; omega)], HB3⟩
      case rest =>
      obtain ⟨rfl, HB4⟩ := hcut
      go_upto_region 12 with fail
      go_cut [71] (fun v wq => v = .bool (decide (1 ≤ d) && decide (d ≤ 7)) ∧ Hid (Below w1.heap.size w1 wq))
      case first =>
        by_cases hk1 : 1 ≤ d
        · have f1 : decide (1 ≤ d) = true := by simpa using hk1
          by_cases hk6 : d ≤ 7
          · have f2 : decide (d ≤ 7) = true := by simpa using hk6
            go_wp2
            go_meet
            exact ⟨by rw [f1, f2]; rfl, HB4⟩
          · have f2 : decide (d ≤ 7) = false := by simpa using hk6
            go_wp2
            go_meet
            exact ⟨by rw [f1, f2]; rfl, HB4⟩
        · have f1 : decide (1 ≤ d) = false := by simpa using hk1
          go_wp2
          go_meet
          exact ⟨by rw [f1]; rfl, HB4⟩
      case rest =>
      obtain ⟨rfl, HB5⟩ := hcut
      go_upto_if 71 with fail
      go_cut [11] (fun wv wq => wv = .string WD ∧ Hid (Below w1.heap.size w1 wq))
      case first =>
        by_cases hk : 1 ≤ d ∧ d ≤ 7
        · have f0 : (decide (1 ≤ d) && decide (d ≤ 7)) = true := by simpa using hk
          rw [f0]
          have f3 : d < 8 := by omega
          have f4 : (0 : Int) ≤ d := by omega
          have hq := wordD_in hk.1 hk.2
          rw [← H.out.2.2.2.1] at hq
          have HQ := hide hq
          clear hq hk f0
          go_wp2_with (go_at_call 9; refine (words9_at _).mono ?_; rintro e w3 ⟨rfl, hw3⟩; have q3 := hw3.2 d.toNat WD HQ.out; have HB9 := hide (nextB HB5.out hw3.1); clear hw3; dsimp only)
          go_meet
          exact ⟨rfl, HB9⟩
        · have f0 : (decide (1 ≤ d) && decide (d ≤ 7)) = false := by simpa using hk
          rw [f0]
          clear f0
          go_wp2
          go_meet
          exact ⟨by rw [H.out.2.2.2.1, wordB_out (by simp [doWs]; omega)], HB5⟩
      case rest =>
      obtain ⟨rfl, HB6⟩ := hcut
      go_wp2
      go_loopw [12, 14] (fun kv iv wr => ∃ (i : Nat) (L : Int), 1 ≤ i ∧ i ≤ 7 ∧ iv = .int .i64 i ∧ kv = .int .i64 L ∧ Hid (L = lastW kindWs word (i - 1)) ∧ Hid (Below w1.heap.size w1 wr)) (fun _ iv _ => 7 - (intOf iv).toNat)
      case atStart => exact ⟨1, 0, by omega, by omega, rfl, rfl, hide rfl, HB6⟩
      case round =>
      obtain ⟨i, L, hi1, hi7, rfl, rfl, hL, HB7⟩ := hrel
      by_cases hlt : i < 7
      · have e1 : decide (i < 7) = true := by simpa using hlt
        have e2 : (i : Int) < 7 := by omega
        obtain ⟨s, hs⟩ : ∃ s, kindWs[i - 1]? = some s := ⟨_, List.getElem?_eq_getElem (by simp [kindWs]; omega)⟩
        have hs' : ((⟨#[]⟩ : ByteArray) :: kindWs)[i]? = some s := by
          obtain ⟨j, rfl⟩ : ∃ j, i = j + 1 := ⟨i - 1, by omega⟩
          rw [List.getElem?_cons_succ]; simpa using hs
        have hnx := lastW_next (t := word) hs
        rw [show i - 1 + 1 = i by omega, ← hL.out] at hnx
        have HQ := hide (And.intro hs' hnx)
        clear hs hs' hnx
        by_cases hsw : s = word
        · have e3 : (s.toList == word.toList) = true := bytes_same.2 hsw
          have HS := hide hsw
          clear hsw
          go_wp2_with (go_at_call 8; refine (words8_at _).mono ?_; rintro e w3 ⟨rfl, hw3⟩; have q3 := hw3.2 i s HQ.out.1; have HB9 := hide (nextB HB7.out hw3.1); clear hw3; dsimp only)
          go_roundw
          case rel => exact ⟨i + 1, (i : Int), by omega, by omega, by go_num, rfl, hide (by rw [show i + 1 - 1 = i by omega, HQ.out.2, if_pos HS.out]), HB9⟩
          case measure => simp [intOf]; omega
        · have e3 : (s.toList == word.toList) = false := by rw [Bool.eq_false_iff, Ne, bytes_same]; exact hsw
          have HS := hide hsw
          clear hsw
          go_wp2_with (go_at_call 8; refine (words8_at _).mono ?_; rintro e w3 ⟨rfl, hw3⟩; have q3 := hw3.2 i s HQ.out.1; have HB9 := hide (nextB HB7.out hw3.1); clear hw3; dsimp only)
          go_roundw
          case rel => exact ⟨i + 1, L, by omega, by omega, by go_num, rfl, hide (by rw [show i + 1 - 1 = i by omega, HQ.out.2, if_neg HS.out]), HB9⟩
          case measure => simp [intOf]; omega
      obtain rfl : i = 7 := by omega
      have eL : L = KI := by rw [hL.out, H.out.2.2.2.2.1]; exact lastK word
      subst eL
      clear hL hlt hi1 hi7
      have e1 : decide (7 < 7) = false := by simp
      go_wp2
      go_loopw [13, 15] (fun kv iv wr => ∃ (i : Nat) (L : Int), 1 ≤ i ∧ i ≤ 8 ∧ iv = .int .i64 i ∧ kv = .int .i64 L ∧ Hid (L = lastW doWs word (i - 1)) ∧ Hid (Below w1.heap.size w1 wr)) (fun _ iv _ => 8 - (intOf iv).toNat)
      case atStart => exact ⟨1, 0, by omega, by omega, rfl, rfl, hide rfl, HB7⟩
      case round =>
      obtain ⟨i, L, hi1, hi7, rfl, rfl, hL, HB8⟩ := hrel
      by_cases hlt : i < 8
      · have e1 : decide (i < 8) = true := by simpa using hlt
        have e2 : (i : Int) < 8 := by omega
        obtain ⟨s, hs⟩ : ∃ s, doWs[i - 1]? = some s := ⟨_, List.getElem?_eq_getElem (by simp [doWs]; omega)⟩
        have hs' : ((⟨#[]⟩ : ByteArray) :: doWs)[i]? = some s := by
          obtain ⟨j, rfl⟩ : ∃ j, i = j + 1 := ⟨i - 1, by omega⟩
          rw [List.getElem?_cons_succ]; simpa using hs
        have hnx := lastW_next (t := word) hs
        rw [show i - 1 + 1 = i by omega, ← hL.out] at hnx
        have HQ := hide (And.intro hs' hnx)
        clear hs hs' hnx
        by_cases hsw : s = word
        · have e3 : (s.toList == word.toList) = true := bytes_same.2 hsw
          have HS := hide hsw
          clear hsw
          go_wp2_with (go_at_call 9; refine (words9_at _).mono ?_; rintro e w3 ⟨rfl, hw3⟩; have q3 := hw3.2 i s HQ.out.1; have HB9 := hide (nextB HB8.out hw3.1); clear hw3; dsimp only)
          go_roundw
          case rel => exact ⟨i + 1, (i : Int), by omega, by omega, by go_num, rfl, hide (by rw [show i + 1 - 1 = i by omega, HQ.out.2, if_pos HS.out]), HB9⟩
          case measure => simp [intOf]; omega
        · have e3 : (s.toList == word.toList) = false := by rw [Bool.eq_false_iff, Ne, bytes_same]; exact hsw
          have HS := hide hsw
          clear hsw
          go_wp2_with (go_at_call 9; refine (words9_at _).mono ?_; rintro e w3 ⟨rfl, hw3⟩; have q3 := hw3.2 i s HQ.out.1; have HB9 := hide (nextB HB8.out hw3.1); clear hw3; dsimp only)
          go_roundw
          case rel => exact ⟨i + 1, L, by omega, by omega, by go_num, rfl, hide (by rw [show i + 1 - 1 = i by omega, HQ.out.2, if_neg HS.out]), HB9⟩
          case measure => simp [intOf]; omega
      obtain rfl : i = 8 := by omega
      have eL : L = DI := by rw [hL.out, H.out.2.2.2.2.2.1]; exact lastD word
      subst eL
      clear hL hlt hi1 hi7
      have e1 : decide (8 < 8) = false := by simp
      go_upto_region 27 with (first
        | (go_at_call 10; refine (k10 _).mono ?_; rintro e w5 ⟨rfl, b5⟩; have HB10 := hide (nextB HB8.out b5); clear b5; dsimp only)
        | (go_at_call 11; refine (k11 _).mono ?_; rintro e w6 ⟨rfl, b6⟩; have HB11 := hide (nextB HB10.out b6); clear b6; dsimp only))
      have hS : w6.cell? ⟨X, 0, none⟩ = some (.slice ao N c) ∧ w6.cell? ⟨X, 1, none⟩ = some (.int .i64 ok) ∧ w6.cell? ⟨X, 2, none⟩ = some (.string os) ∧ w6.cell? ⟨X, 3, none⟩ = some (.int .i64 od) ∧ w6.cell? ⟨X, 4, none⟩ = some (.int .i64 on) ∧ w6.cell? ⟨X, 5, none⟩ = some (.string tx) ∧ Below w1.heap.size w1 w6 := by
        obtain ⟨x0, x1, x2, x3, x4, x5, y0, y1⟩ := up.out w6 HB11.out
        exact ⟨x0, x1, x2, x3, x4, x5, HB11.out⟩
      have HKB := hide H.out.2.2.2.2.2.2.2.2
      clear k10 k11
      have qd : w6.drew.cell? ⟨X, 0, none⟩ = some (.slice ao N c) ∧ w6.drew.cell? ⟨X, 1, none⟩ = some (.int .i64 ok) ∧ w6.drew.cell? ⟨X, 2, none⟩ = some (.string os) ∧ w6.drew.cell? ⟨X, 3, none⟩ = some (.int .i64 od) ∧ w6.drew.cell? ⟨X, 4, none⟩ = some (.int .i64 on) ∧ w6.drew.cell? ⟨X, 5, none⟩ = some (.string tx) ∧ Below w1.heap.size w1 w6.drew := ⟨cell_stays hS.1 (drew_below w6), cell_stays hS.2.1 (drew_below w6), cell_stays hS.2.2.1 (drew_below w6), cell_stays hS.2.2.2.1 (drew_below w6), cell_stays hS.2.2.2.2.1 (drew_below w6), cell_stays hS.2.2.2.2.2.1 (drew_below w6), nextB hS.2.2.2.2.2.2 (drew_below w6)⟩
      refine wp_region_held_drew (S := (fun w' => w'.cell? ⟨X, 0, none⟩ = some (.slice ao N c) ∧ w'.cell? ⟨X, 1, none⟩ = some (.int .i64 ok) ∧ w'.cell? ⟨X, 2, none⟩ = some (.string os) ∧ w'.cell? ⟨X, 3, none⟩ = some (.int .i64 od) ∧ w'.cell? ⟨X, 4, none⟩ = some (.int .i64 on) ∧ w'.cell? ⟨X, 5, none⟩ = some (.string tx) ∧ Below w1.heap.size w1 w')) (by kernel_rfl) qd (fun hHeld => ?_)
      try dsimp only at hHeld
      refine take_op (i := 0) (d := 108) (OP := Op.load 26 (Operand.tmp 3)) (T := 26) (v := ?vzz1) rfl rfl rfl rfl (by kernel_rfl) (by kernel_rfl) (by kernel_rfl) (fun _ _ _ h => h) (by rfl) ?hzz1 hHeld ?rzz1
      case hzz1 => (intro w' hSw; (try dsimp only at hSw); go_simp <;> with_reducible rfl)
      try simp only [Act.put, List.setIfInBounds_toArray, List.set_cons_zero, List.set_cons_succ]
      refine take_op (i := 3) (d := 111) (OP := Op.load 26 (Operand.tmp 3)) (T := 26) (v := ?vzz2) rfl rfl rfl rfl (by kernel_rfl) (by kernel_rfl) (by kernel_rfl) (fun _ _ _ h => h) (by rfl) ?hzz2 hHeld ?rzz2
      case hzz2 => (intro w' hSw; (try dsimp only at hSw); go_simp <;> with_reducible rfl)
      try simp only [Act.put, List.setIfInBounds_toArray, List.set_cons_zero, List.set_cons_succ]
      refine call_op (i := 1) (d := 109) (OP := Op.call { callee := Callee.value (Operand.func 13), args := #[Operand.tmp 108], argTypes := #[26] }) (T := 36) (f := 13) (args := #[opv ao N c ok os od on tx]) rfl rfl rfl rfl (by kernel_rfl) (by rfl) (by go_simp) ?_
      refine (k13 _ hHeld.2.2.2.2.2.2).mono ?_
      rintro e z1 ⟨rfl, bz1⟩
      have qz1 : z1.cell? ⟨X, 0, none⟩ = some (.slice ao N c) ∧ z1.cell? ⟨X, 1, none⟩ = some (.int .i64 ok) ∧ z1.cell? ⟨X, 2, none⟩ = some (.string os) ∧ z1.cell? ⟨X, 3, none⟩ = some (.int .i64 od) ∧ z1.cell? ⟨X, 4, none⟩ = some (.int .i64 on) ∧ z1.cell? ⟨X, 5, none⟩ = some (.string tx) ∧ Below w1.heap.size w1 z1 := ⟨cell_stays hHeld.1 bz1, cell_stays hHeld.2.1 bz1, cell_stays hHeld.2.2.1 bz1, cell_stays hHeld.2.2.2.1 bz1, cell_stays hHeld.2.2.2.2.1 bz1, cell_stays hHeld.2.2.2.2.2.1 bz1, nextB hHeld.2.2.2.2.2.2 bz1⟩
      refine ⟨_, rfl, qz1, ?_⟩
      replace hHeld := qz1
      try simp only [Act.put, List.setIfInBounds_toArray, List.set_cons_zero, List.set_cons_succ]
      refine call_op (i := 2) (d := 110) (OP := Op.call { callee := Callee.value (Operand.func 12), args := #[Operand.tmp 109], argTypes := #[36] }) (T := 3) (f := 12) (args := #[.int .i64 CE]) rfl rfl rfl rfl (by kernel_rfl) (by rfl) (by go_simp) ?_
      refine (num_any _ _).mono ?_
      rintro e z2 ⟨rfl, hqz2⟩
      subst hqz2
      refine ⟨_, rfl, hHeld, ?_⟩
      try simp only [Act.put, List.setIfInBounds_toArray, List.set_cons_zero, List.set_cons_succ]
      refine call_op (i := 4) (d := 112) (OP := Op.call { callee := Callee.value (Operand.func 14), args := #[Operand.tmp 111], argTypes := #[26] }) (T := 3) (f := 14) (args := #[opv ao N c ok os od on tx]) rfl rfl rfl rfl (by kernel_rfl) (by rfl) (by go_simp) ?_
      refine (k14 _ hHeld.2.2.2.2.2.2).mono ?_
      rintro e z3 ⟨rfl, bz3⟩
      have qz3 : z3.cell? ⟨X, 0, none⟩ = some (.slice ao N c) ∧ z3.cell? ⟨X, 1, none⟩ = some (.int .i64 ok) ∧ z3.cell? ⟨X, 2, none⟩ = some (.string os) ∧ z3.cell? ⟨X, 3, none⟩ = some (.int .i64 od) ∧ z3.cell? ⟨X, 4, none⟩ = some (.int .i64 on) ∧ z3.cell? ⟨X, 5, none⟩ = some (.string tx) ∧ Below w1.heap.size w1 z3 := ⟨cell_stays hHeld.1 bz3, cell_stays hHeld.2.1 bz3, cell_stays hHeld.2.2.1 bz3, cell_stays hHeld.2.2.2.1 bz3, cell_stays hHeld.2.2.2.2.1 bz3, cell_stays hHeld.2.2.2.2.2.1 bz3, nextB hHeld.2.2.2.2.2.2 bz3⟩
      refine ⟨_, rfl, qz3, ?_⟩
      replace hHeld := qz3
      try simp only [Act.put, List.setIfInBounds_toArray, List.set_cons_zero, List.set_cons_succ]
      refine take_op (i := 5) (d := 113) (OP := Op.binOp BinOp.eql 3 (Operand.tmp 110) (Operand.tmp 112) 3) (T := 4) (v := .bool true) rfl rfl rfl rfl (by kernel_rfl) (by kernel_rfl) (by kernel_rfl) (fun _ _ _ h => h) (by rfl) ?hzz3 hHeld ?rzz3
      case hzz3 => (intro w' hSw; (try dsimp only at hSw); go_simp <;> (try simp) <;> with_reducible rfl)
      try simp only [Act.put, List.setIfInBounds_toArray, List.set_cons_zero, List.set_cons_succ]
      refine take_op (i := 6) (d := 114) (OP := Op.move (Operand.tmp 113)) (T := 4) (v := ?vzz4) rfl rfl rfl rfl (by kernel_rfl) (by kernel_rfl) (by kernel_rfl) (fun _ _ _ h => h) (by rfl) ?hzz4 hHeld ?rzz4
      case hzz4 => (intro w' hSw; (try dsimp only at hSw); go_simp <;> with_reducible rfl)
      try simp only [Act.put, List.setIfInBounds_toArray, List.set_cons_zero, List.set_cons_succ]
      refine take_op (i := 7) (d := 115) (OP := Op.load 26 (Operand.tmp 3)) (T := 26) (v := ?vzz5) rfl rfl rfl rfl (by kernel_rfl) (by kernel_rfl) (by kernel_rfl) (fun _ _ _ h => h) (by rfl) ?hzz5 hHeld ?rzz5
      case hzz5 => (intro w' hSw; (try dsimp only at hSw); go_simp <;> with_reducible rfl)
      try simp only [Act.put, List.setIfInBounds_toArray, List.set_cons_zero, List.set_cons_succ]
      refine take_op (i := 9) (d := 117) (OP := Op.load 26 (Operand.tmp 3)) (T := 26) (v := ?vzz6) rfl rfl rfl rfl (by kernel_rfl) (by kernel_rfl) (by kernel_rfl) (fun _ _ _ h => h) (by rfl) ?hzz6 hHeld ?rzz6
      case hzz6 => (intro w' hSw; (try dsimp only at hSw); go_simp <;> with_reducible rfl)
      try simp only [Act.put, List.setIfInBounds_toArray, List.set_cons_zero, List.set_cons_succ]
      refine call_op (i := 8) (d := 116) (OP := Op.call { callee := Callee.value (Operand.func 15), args := #[Operand.tmp 115], argTypes := #[26] }) (T := 4) (f := 15) (args := #[opv ao N c ok os od on tx]) rfl rfl rfl rfl (by kernel_rfl) (by rfl) (by go_simp) ?_
      refine (k15 _ hHeld.2.2.2.2.2.2).mono ?_
      rintro e z4 ⟨rfl, bz4⟩
      have qz4 : z4.cell? ⟨X, 0, none⟩ = some (.slice ao N c) ∧ z4.cell? ⟨X, 1, none⟩ = some (.int .i64 ok) ∧ z4.cell? ⟨X, 2, none⟩ = some (.string os) ∧ z4.cell? ⟨X, 3, none⟩ = some (.int .i64 od) ∧ z4.cell? ⟨X, 4, none⟩ = some (.int .i64 on) ∧ z4.cell? ⟨X, 5, none⟩ = some (.string tx) ∧ Below w1.heap.size w1 z4 := ⟨cell_stays hHeld.1 bz4, cell_stays hHeld.2.1 bz4, cell_stays hHeld.2.2.1 bz4, cell_stays hHeld.2.2.2.1 bz4, cell_stays hHeld.2.2.2.2.1 bz4, cell_stays hHeld.2.2.2.2.2.1 bz4, nextB hHeld.2.2.2.2.2.2 bz4⟩
      refine ⟨_, rfl, qz4, ?_⟩
      replace hHeld := qz4
      try simp only [Act.put, List.setIfInBounds_toArray, List.set_cons_zero, List.set_cons_succ]
      refine call_op (i := 10) (d := 118) (OP := Op.call { callee := Callee.value (Operand.func 16), args := #[Operand.tmp 117], argTypes := #[26] }) (T := 4) (f := 16) (args := #[opv ao N c ok os od on tx]) rfl rfl rfl rfl (by kernel_rfl) (by rfl) (by go_simp) ?_
      refine (k16 _ hHeld.2.2.2.2.2.2).mono ?_
      rintro e z5 ⟨rfl, bz5⟩
      have qz5 : z5.cell? ⟨X, 0, none⟩ = some (.slice ao N c) ∧ z5.cell? ⟨X, 1, none⟩ = some (.int .i64 ok) ∧ z5.cell? ⟨X, 2, none⟩ = some (.string os) ∧ z5.cell? ⟨X, 3, none⟩ = some (.int .i64 od) ∧ z5.cell? ⟨X, 4, none⟩ = some (.int .i64 on) ∧ z5.cell? ⟨X, 5, none⟩ = some (.string tx) ∧ Below w1.heap.size w1 z5 := ⟨cell_stays hHeld.1 bz5, cell_stays hHeld.2.1 bz5, cell_stays hHeld.2.2.1 bz5, cell_stays hHeld.2.2.2.1 bz5, cell_stays hHeld.2.2.2.2.1 bz5, cell_stays hHeld.2.2.2.2.2.1 bz5, nextB hHeld.2.2.2.2.2.2 bz5⟩
      refine ⟨_, rfl, qz5, ?_⟩
      replace hHeld := qz5
      try simp only [Act.put, List.setIfInBounds_toArray, List.set_cons_zero, List.set_cons_succ]
      refine take_op (i := 11) (d := 119) (OP := Op.binOp BinOp.eql 4 (Operand.tmp 116) (Operand.tmp 118) 4) (T := 4) (v := .bool true) rfl rfl rfl rfl (by kernel_rfl) (by kernel_rfl) (by kernel_rfl) (fun _ _ _ h => h) (by rfl) ?hzz7 hHeld ?rzz7
      case hzz7 => (intro w' hSw; (try dsimp only at hSw); go_simp <;> (try simp) <;> with_reducible rfl)
      try simp only [Act.put, List.setIfInBounds_toArray, List.set_cons_zero, List.set_cons_succ]
      refine take_op (i := 12) (d := 120) (OP := Op.pick (Operand.tmp 114) (Operand.tmp 119) (Operand.const (Value.bool false))) (T := 4) (v := ?vzz8) rfl rfl rfl rfl (by kernel_rfl) (by kernel_rfl) (by kernel_rfl) (fun _ _ _ h => h) (by rfl) ?hzz8 hHeld ?rzz8
      case hzz8 => (intro w' hSw; (try dsimp only at hSw); go_simp <;> with_reducible rfl)
      try simp only [Act.put, List.setIfInBounds_toArray, List.set_cons_zero, List.set_cons_succ]
      refine take_op (i := 13) (d := 121) (OP := Op.move (Operand.tmp 120)) (T := 4) (v := ?vzz9) rfl rfl rfl rfl (by kernel_rfl) (by kernel_rfl) (by kernel_rfl) (fun _ _ _ h => h) (by rfl) ?hzz9 hHeld ?rzz9
      case hzz9 => (intro w' hSw; (try dsimp only at hSw); go_simp <;> with_reducible rfl)
      try simp only [Act.put, List.setIfInBounds_toArray, List.set_cons_zero, List.set_cons_succ]
      refine take_op (i := 14) (d := 122) (OP := Op.move (Operand.tmp 7)) (T := 23) (v := ?vzz10) rfl rfl rfl rfl (by kernel_rfl) (by kernel_rfl) (by kernel_rfl) (fun _ _ _ h => h) (by rfl) ?hzz10 hHeld ?rzz10
      case hzz10 => (intro w' hSw; (try dsimp only at hSw); go_simp <;> with_reducible rfl)
      try simp only [Act.put, List.setIfInBounds_toArray, List.set_cons_zero, List.set_cons_succ]
      refine take_op (i := 16) (d := 124) (OP := Op.move (Operand.tmp 10)) (T := 9) (v := ?vzz11) rfl rfl rfl rfl (by kernel_rfl) (by kernel_rfl) (by kernel_rfl) (fun _ _ _ h => h) (by rfl) ?hzz11 hHeld ?rzz11
      case hzz11 => (intro w' hSw; (try dsimp only at hSw); go_simp <;> with_reducible rfl)
      try simp only [Act.put, List.setIfInBounds_toArray, List.set_cons_zero, List.set_cons_succ]
      refine call_op (i := 15) (d := 123) (OP := Op.call { callee := Callee.value (Operand.func 17), args := #[Operand.tmp 122], argTypes := #[23] }) (T := 9) (f := 17) (args := #[.int .i64 k]) rfl rfl rfl rfl (by kernel_rfl) (by rfl) (by go_simp) ?_
      refine (k17 _ hHeld.2.2.2.2.2.2).mono ?_
      rintro e z6 ⟨rfl, bz6⟩
      have qz6 : z6.cell? ⟨X, 0, none⟩ = some (.slice ao N c) ∧ z6.cell? ⟨X, 1, none⟩ = some (.int .i64 ok) ∧ z6.cell? ⟨X, 2, none⟩ = some (.string os) ∧ z6.cell? ⟨X, 3, none⟩ = some (.int .i64 od) ∧ z6.cell? ⟨X, 4, none⟩ = some (.int .i64 on) ∧ z6.cell? ⟨X, 5, none⟩ = some (.string tx) ∧ Below w1.heap.size w1 z6 := ⟨cell_stays hHeld.1 bz6, cell_stays hHeld.2.1 bz6, cell_stays hHeld.2.2.1 bz6, cell_stays hHeld.2.2.2.1 bz6, cell_stays hHeld.2.2.2.2.1 bz6, cell_stays hHeld.2.2.2.2.2.1 bz6, nextB hHeld.2.2.2.2.2.2 bz6⟩
      refine ⟨_, rfl, qz6, ?_⟩
      replace hHeld := qz6
      try simp only [Act.put, List.setIfInBounds_toArray, List.set_cons_zero, List.set_cons_succ]
      refine take_op (i := 17) (d := 125) (OP := Op.binOp BinOp.eql 9 (Operand.tmp 123) (Operand.tmp 124) 9) (T := 4) (v := .bool true) rfl rfl rfl rfl (by kernel_rfl) (by kernel_rfl) (by kernel_rfl) (fun _ _ _ h => h) (by rfl) ?hzz12 hHeld ?rzz12
      case hzz12 => (intro w' hSw; (try dsimp only at hSw); go_simp <;> (try simp) <;> with_reducible rfl)
      try simp only [Act.put, List.setIfInBounds_toArray, List.set_cons_zero, List.set_cons_succ]
      refine take_op (i := 18) (d := 126) (OP := Op.pick (Operand.tmp 121) (Operand.tmp 125) (Operand.const (Value.bool false))) (T := 4) (v := ?vzz13) rfl rfl rfl rfl (by kernel_rfl) (by kernel_rfl) (by kernel_rfl) (fun _ _ _ h => h) (by rfl) ?hzz13 hHeld ?rzz13
      case hzz13 => (intro w' hSw; (try dsimp only at hSw); go_simp <;> with_reducible rfl)
      try simp only [Act.put, List.setIfInBounds_toArray, List.set_cons_zero, List.set_cons_succ]
      refine take_op (i := 19) (d := 127) (OP := Op.move (Operand.tmp 126)) (T := 4) (v := ?vzz14) rfl rfl rfl rfl (by kernel_rfl) (by kernel_rfl) (by kernel_rfl) (fun _ _ _ h => h) (by rfl) ?hzz14 hHeld ?rzz14
      case hzz14 => (intro w' hSw; (try dsimp only at hSw); go_simp <;> with_reducible rfl)
      try simp only [Act.put, List.setIfInBounds_toArray, List.set_cons_zero, List.set_cons_succ]
      refine take_op (i := 20) (d := 128) (OP := Op.move (Operand.tmp 8)) (T := 24) (v := ?vzz15) rfl rfl rfl rfl (by kernel_rfl) (by kernel_rfl) (by kernel_rfl) (fun _ _ _ h => h) (by rfl) ?hzz15 hHeld ?rzz15
      case hzz15 => (intro w' hSw; (try dsimp only at hSw); go_simp <;> with_reducible rfl)
      try simp only [Act.put, List.setIfInBounds_toArray, List.set_cons_zero, List.set_cons_succ]
      refine take_op (i := 22) (d := 130) (OP := Op.move (Operand.tmp 11)) (T := 9) (v := ?vzz16) rfl rfl rfl rfl (by kernel_rfl) (by kernel_rfl) (by kernel_rfl) (fun _ _ _ h => h) (by rfl) ?hzz16 hHeld ?rzz16
      case hzz16 => (intro w' hSw; (try dsimp only at hSw); go_simp <;> with_reducible rfl)
      try simp only [Act.put, List.setIfInBounds_toArray, List.set_cons_zero, List.set_cons_succ]
      refine call_op (i := 21) (d := 129) (OP := Op.call { callee := Callee.value (Operand.func 18), args := #[Operand.tmp 128], argTypes := #[24] }) (T := 9) (f := 18) (args := #[.int .i64 d]) rfl rfl rfl rfl (by kernel_rfl) (by rfl) (by go_simp) ?_
      refine (k18 _ hHeld.2.2.2.2.2.2).mono ?_
      rintro e z7 ⟨rfl, bz7⟩
      have qz7 : z7.cell? ⟨X, 0, none⟩ = some (.slice ao N c) ∧ z7.cell? ⟨X, 1, none⟩ = some (.int .i64 ok) ∧ z7.cell? ⟨X, 2, none⟩ = some (.string os) ∧ z7.cell? ⟨X, 3, none⟩ = some (.int .i64 od) ∧ z7.cell? ⟨X, 4, none⟩ = some (.int .i64 on) ∧ z7.cell? ⟨X, 5, none⟩ = some (.string tx) ∧ Below w1.heap.size w1 z7 := ⟨cell_stays hHeld.1 bz7, cell_stays hHeld.2.1 bz7, cell_stays hHeld.2.2.1 bz7, cell_stays hHeld.2.2.2.1 bz7, cell_stays hHeld.2.2.2.2.1 bz7, cell_stays hHeld.2.2.2.2.2.1 bz7, nextB hHeld.2.2.2.2.2.2 bz7⟩
      refine ⟨_, rfl, qz7, ?_⟩
      replace hHeld := qz7
      try simp only [Act.put, List.setIfInBounds_toArray, List.set_cons_zero, List.set_cons_succ]
      refine take_op (i := 23) (d := 131) (OP := Op.binOp BinOp.eql 9 (Operand.tmp 129) (Operand.tmp 130) 9) (T := 4) (v := .bool true) rfl rfl rfl rfl (by kernel_rfl) (by kernel_rfl) (by kernel_rfl) (fun _ _ _ h => h) (by rfl) ?hzz17 hHeld ?rzz17
      case hzz17 => (intro w' hSw; (try dsimp only at hSw); go_simp <;> (try simp) <;> with_reducible rfl)
      try simp only [Act.put, List.setIfInBounds_toArray, List.set_cons_zero, List.set_cons_succ]
      refine take_op (i := 24) (d := 132) (OP := Op.pick (Operand.tmp 127) (Operand.tmp 131) (Operand.const (Value.bool false))) (T := 4) (v := ?vzz18) rfl rfl rfl rfl (by kernel_rfl) (by kernel_rfl) (by kernel_rfl) (fun _ _ _ h => h) (by rfl) ?hzz18 hHeld ?rzz18
      case hzz18 => (intro w' hSw; (try dsimp only at hSw); go_simp <;> with_reducible rfl)
      try simp only [Act.put, List.setIfInBounds_toArray, List.set_cons_zero, List.set_cons_succ]
      refine take_op (i := 25) (d := 133) (OP := Op.move (Operand.tmp 132)) (T := 4) (v := ?vzz19) rfl rfl rfl rfl (by kernel_rfl) (by kernel_rfl) (by kernel_rfl) (fun _ _ _ h => h) (by rfl) ?hzz19 hHeld ?rzz19
      case hzz19 => (intro w' hSw; (try dsimp only at hSw); go_simp <;> with_reducible rfl)
      try simp only [Act.put, List.setIfInBounds_toArray, List.set_cons_zero, List.set_cons_succ]
      refine take_op (i := 26) (d := 134) (OP := Op.move (Operand.tmp 8)) (T := 24) (v := ?vzz20) rfl rfl rfl rfl (by kernel_rfl) (by kernel_rfl) (by kernel_rfl) (fun _ _ _ h => h) (by rfl) ?hzz20 hHeld ?rzz20
      case hzz20 => (intro w' hSw; (try dsimp only at hSw); go_simp <;> with_reducible rfl)
      try simp only [Act.put, List.setIfInBounds_toArray, List.set_cons_zero, List.set_cons_succ]
      refine take_op (i := 28) (d := 136) (OP := Op.move (Operand.tmp 8)) (T := 24) (v := ?vzz21) rfl rfl rfl rfl (by kernel_rfl) (by kernel_rfl) (by kernel_rfl) (fun _ _ _ h => h) (by rfl) ?hzz21 hHeld ?rzz21
      case hzz21 => (intro w' hSw; (try dsimp only at hSw); go_simp <;> with_reducible rfl)
      try simp only [Act.put, List.setIfInBounds_toArray, List.set_cons_zero, List.set_cons_succ]
      refine call_op (i := 27) (d := 135) (OP := Op.call { callee := Callee.value (Operand.func 19), args := #[Operand.tmp 134], argTypes := #[24] }) (T := 23) (f := 19) (args := #[.int .i64 d]) rfl rfl rfl rfl (by kernel_rfl) (by rfl) (by go_simp) ?_
      refine (of_any d _).mono ?_
      rintro e z8 ⟨rfl, hqz8⟩
      subst hqz8
      refine ⟨_, rfl, hHeld, ?_⟩
      try simp only [Act.put, List.setIfInBounds_toArray, List.set_cons_zero, List.set_cons_succ]
      refine call_op (i := 29) (d := 137) (OP := Op.call { callee := Callee.value (Operand.func 20), args := #[Operand.tmp 136], argTypes := #[24] }) (T := 23) (f := 20) (args := #[.int .i64 d]) rfl rfl rfl rfl (by kernel_rfl) (by rfl) (by go_simp) ?_
      refine (refOf_any d _).mono ?_
      rintro e z9 ⟨rfl, hqz9⟩
      subst hqz9
      refine ⟨_, rfl, hHeld, ?_⟩
      try simp only [Act.put, List.setIfInBounds_toArray, List.set_cons_zero, List.set_cons_succ]
      refine take_op (i := 30) (d := 138) (OP := Op.binOp BinOp.eql 23 (Operand.tmp 135) (Operand.tmp 137) 23) (T := 4) (v := .bool true) rfl rfl rfl rfl (by kernel_rfl) (by kernel_rfl) (by kernel_rfl) (fun _ _ _ h => h) (by rfl) ?hzz22 hHeld ?rzz22
      case hzz22 => (intro w' hSw; (try dsimp only at hSw); go_simp <;> (try simp) <;> with_reducible rfl)
      try simp only [Act.put, List.setIfInBounds_toArray, List.set_cons_zero, List.set_cons_succ]
      refine take_op (i := 31) (d := 139) (OP := Op.pick (Operand.tmp 133) (Operand.tmp 138) (Operand.const (Value.bool false))) (T := 4) (v := ?vzz23) rfl rfl rfl rfl (by kernel_rfl) (by kernel_rfl) (by kernel_rfl) (fun _ _ _ h => h) (by rfl) ?hzz23 hHeld ?rzz23
      case hzz23 => (intro w' hSw; (try dsimp only at hSw); go_simp <;> with_reducible rfl)
      try simp only [Act.put, List.setIfInBounds_toArray, List.set_cons_zero, List.set_cons_succ]
      refine take_op (i := 32) (d := 140) (OP := Op.move (Operand.tmp 139)) (T := 4) (v := ?vzz24) rfl rfl rfl rfl (by kernel_rfl) (by kernel_rfl) (by kernel_rfl) (fun _ _ _ h => h) (by rfl) ?hzz24 hHeld ?rzz24
      case hzz24 => (intro w' hSw; (try dsimp only at hSw); go_simp <;> with_reducible rfl)
      try simp only [Act.put, List.setIfInBounds_toArray, List.set_cons_zero, List.set_cons_succ]
      refine take_op (i := 33) (d := 141) (OP := Op.move (Operand.tmp 16)) (T := 23) (v := ?vzz25) rfl rfl rfl rfl (by kernel_rfl) (by kernel_rfl) (by kernel_rfl) (fun _ _ _ h => h) (by rfl) ?hzz25 hHeld ?rzz25
      case hzz25 => (intro w' hSw; (try dsimp only at hSw); go_simp <;> with_reducible rfl)
      try simp only [Act.put, List.setIfInBounds_toArray, List.set_cons_zero, List.set_cons_succ]
      refine take_op (i := 34) (d := 142) (OP := Op.move (Operand.tmp 12)) (T := 23) (v := ?vzz26) rfl rfl rfl rfl (by kernel_rfl) (by kernel_rfl) (by kernel_rfl) (fun _ _ _ h => h) (by rfl) ?hzz26 hHeld ?rzz26
      case hzz26 => (intro w' hSw; (try dsimp only at hSw); go_simp <;> with_reducible rfl)
      try simp only [Act.put, List.setIfInBounds_toArray, List.set_cons_zero, List.set_cons_succ]
      refine take_op (i := 35) (d := 143) (OP := Op.binOp BinOp.eql 23 (Operand.tmp 141) (Operand.tmp 142) 23) (T := 4) (v := .bool true) rfl rfl rfl rfl (by kernel_rfl) (by kernel_rfl) (by kernel_rfl) (fun _ _ _ h => h) (by rfl) ?hzz27 hHeld ?rzz27
      case hzz27 => (intro w' hSw; (try dsimp only at hSw); go_simp <;> (try simp) <;> with_reducible rfl)
      try simp only [Act.put, List.setIfInBounds_toArray, List.set_cons_zero, List.set_cons_succ]
      refine take_op (i := 36) (d := 144) (OP := Op.pick (Operand.tmp 140) (Operand.tmp 143) (Operand.const (Value.bool false))) (T := 4) (v := ?vzz28) rfl rfl rfl rfl (by kernel_rfl) (by kernel_rfl) (by kernel_rfl) (fun _ _ _ h => h) (by rfl) ?hzz28 hHeld ?rzz28
      case hzz28 => (intro w' hSw; (try dsimp only at hSw); go_simp <;> with_reducible rfl)
      try simp only [Act.put, List.setIfInBounds_toArray, List.set_cons_zero, List.set_cons_succ]
      refine take_op (i := 37) (d := 145) (OP := Op.move (Operand.tmp 144)) (T := 4) (v := ?vzz29) rfl rfl rfl rfl (by kernel_rfl) (by kernel_rfl) (by kernel_rfl) (fun _ _ _ h => h) (by rfl) ?hzz29 hHeld ?rzz29
      case hzz29 => (intro w' hSw; (try dsimp only at hSw); go_simp <;> with_reducible rfl)
      try simp only [Act.put, List.setIfInBounds_toArray, List.set_cons_zero, List.set_cons_succ]
      refine take_op (i := 38) (d := 146) (OP := Op.move (Operand.tmp 17)) (T := 4) (v := ?vzz30) rfl rfl rfl rfl (by kernel_rfl) (by kernel_rfl) (by kernel_rfl) (fun _ _ _ h => h) (by rfl) ?hzz30 hHeld ?rzz30
      case hzz30 => (intro w' hSw; (try dsimp only at hSw); go_simp <;> with_reducible rfl)
      try simp only [Act.put, List.setIfInBounds_toArray, List.set_cons_zero, List.set_cons_succ]
      refine take_op (i := 39) (d := 147) (OP := Op.move (Operand.tmp 12)) (T := 23) (v := ?vzz31) rfl rfl rfl rfl (by kernel_rfl) (by kernel_rfl) (by kernel_rfl) (fun _ _ _ h => h) (by rfl) ?hzz31 hHeld ?rzz31
      case hzz31 => (intro w' hSw; (try dsimp only at hSw); go_simp <;> with_reducible rfl)
      try simp only [Act.put, List.setIfInBounds_toArray, List.set_cons_zero, List.set_cons_succ]
      refine take_op (i := 40) (d := 148) (OP := Op.binOp BinOp.neq 23 (Operand.tmp 147) (Operand.const (Value.int IntKind.i64 0)) 23) (T := 4) (v := .bool KB) rfl rfl rfl rfl (by kernel_rfl) (by kernel_rfl) (by kernel_rfl) (fun _ _ _ h => h) (by rfl) ?hzz32 hHeld ?rzz32
      case hzz32 => (intro w' hSw; (try dsimp only at hSw); go_simp <;> (first | with_reducible rfl | (rw [HKB.out.1]; exact bne_dec _)))
      try simp only [Act.put, List.setIfInBounds_toArray, List.set_cons_zero, List.set_cons_succ]
      refine take_op (i := 41) (d := 149) (OP := Op.binOp BinOp.eql 4 (Operand.tmp 146) (Operand.tmp 148) 4) (T := 4) (v := .bool true) rfl rfl rfl rfl (by kernel_rfl) (by kernel_rfl) (by kernel_rfl) (fun _ _ _ h => h) (by rfl) ?hzz33 hHeld ?rzz33
      case hzz33 => (intro w' hSw; (try dsimp only at hSw); go_simp <;> (try simp) <;> with_reducible rfl)
      try simp only [Act.put, List.setIfInBounds_toArray, List.set_cons_zero, List.set_cons_succ]
      refine take_op (i := 42) (d := 150) (OP := Op.pick (Operand.tmp 145) (Operand.tmp 149) (Operand.const (Value.bool false))) (T := 4) (v := ?vzz34) rfl rfl rfl rfl (by kernel_rfl) (by kernel_rfl) (by kernel_rfl) (fun _ _ _ h => h) (by rfl) ?hzz34 hHeld ?rzz34
      case hzz34 => (intro w' hSw; (try dsimp only at hSw); go_simp <;> with_reducible rfl)
      try simp only [Act.put, List.setIfInBounds_toArray, List.set_cons_zero, List.set_cons_succ]
      refine take_op (i := 43) (d := 151) (OP := Op.move (Operand.tmp 150)) (T := 4) (v := ?vzz35) rfl rfl rfl rfl (by kernel_rfl) (by kernel_rfl) (by kernel_rfl) (fun _ _ _ h => h) (by rfl) ?hzz35 hHeld ?rzz35
      case hzz35 => (intro w' hSw; (try dsimp only at hSw); go_simp <;> with_reducible rfl)
      try simp only [Act.put, List.setIfInBounds_toArray, List.set_cons_zero, List.set_cons_succ]
      refine take_op (i := 44) (d := 152) (OP := Op.move (Operand.tmp 18)) (T := 24) (v := ?vzz36) rfl rfl rfl rfl (by kernel_rfl) (by kernel_rfl) (by kernel_rfl) (fun _ _ _ h => h) (by rfl) ?hzz36 hHeld ?rzz36
      case hzz36 => (intro w' hSw; (try dsimp only at hSw); go_simp <;> with_reducible rfl)
      try simp only [Act.put, List.setIfInBounds_toArray, List.set_cons_zero, List.set_cons_succ]
      refine take_op (i := 45) (d := 153) (OP := Op.move (Operand.tmp 13)) (T := 24) (v := ?vzz37) rfl rfl rfl rfl (by kernel_rfl) (by kernel_rfl) (by kernel_rfl) (fun _ _ _ h => h) (by rfl) ?hzz37 hHeld ?rzz37
      case hzz37 => (intro w' hSw; (try dsimp only at hSw); go_simp <;> with_reducible rfl)
      try simp only [Act.put, List.setIfInBounds_toArray, List.set_cons_zero, List.set_cons_succ]
      refine take_op (i := 46) (d := 154) (OP := Op.binOp BinOp.eql 24 (Operand.tmp 152) (Operand.tmp 153) 24) (T := 4) (v := .bool true) rfl rfl rfl rfl (by kernel_rfl) (by kernel_rfl) (by kernel_rfl) (fun _ _ _ h => h) (by rfl) ?hzz38 hHeld ?rzz38
      case hzz38 => (intro w' hSw; (try dsimp only at hSw); go_simp <;> (try simp) <;> with_reducible rfl)
      try simp only [Act.put, List.setIfInBounds_toArray, List.set_cons_zero, List.set_cons_succ]
      refine take_op (i := 47) (d := 155) (OP := Op.pick (Operand.tmp 151) (Operand.tmp 154) (Operand.const (Value.bool false))) (T := 4) (v := ?vzz39) rfl rfl rfl rfl (by kernel_rfl) (by kernel_rfl) (by kernel_rfl) (fun _ _ _ h => h) (by rfl) ?hzz39 hHeld ?rzz39
      case hzz39 => (intro w' hSw; (try dsimp only at hSw); go_simp <;> with_reducible rfl)
      try simp only [Act.put, List.setIfInBounds_toArray, List.set_cons_zero, List.set_cons_succ]
      refine take_op (i := 48) (d := 156) (OP := Op.move (Operand.tmp 155)) (T := 4) (v := ?vzz40) rfl rfl rfl rfl (by kernel_rfl) (by kernel_rfl) (by kernel_rfl) (fun _ _ _ h => h) (by rfl) ?hzz40 hHeld ?rzz40
      case hzz40 => (intro w' hSw; (try dsimp only at hSw); go_simp <;> with_reducible rfl)
      try simp only [Act.put, List.setIfInBounds_toArray, List.set_cons_zero, List.set_cons_succ]
      refine take_op (i := 49) (d := 157) (OP := Op.move (Operand.tmp 19)) (T := 4) (v := ?vzz41) rfl rfl rfl rfl (by kernel_rfl) (by kernel_rfl) (by kernel_rfl) (fun _ _ _ h => h) (by rfl) ?hzz41 hHeld ?rzz41
      case hzz41 => (intro w' hSw; (try dsimp only at hSw); go_simp <;> with_reducible rfl)
      try simp only [Act.put, List.setIfInBounds_toArray, List.set_cons_zero, List.set_cons_succ]
      refine take_op (i := 50) (d := 158) (OP := Op.move (Operand.tmp 13)) (T := 24) (v := ?vzz42) rfl rfl rfl rfl (by kernel_rfl) (by kernel_rfl) (by kernel_rfl) (fun _ _ _ h => h) (by rfl) ?hzz42 hHeld ?rzz42
      case hzz42 => (intro w' hSw; (try dsimp only at hSw); go_simp <;> with_reducible rfl)
      try simp only [Act.put, List.setIfInBounds_toArray, List.set_cons_zero, List.set_cons_succ]
      refine take_op (i := 51) (d := 159) (OP := Op.binOp BinOp.neq 24 (Operand.tmp 158) (Operand.const (Value.int IntKind.i64 0)) 24) (T := 4) (v := .bool DB) rfl rfl rfl rfl (by kernel_rfl) (by kernel_rfl) (by kernel_rfl) (fun _ _ _ h => h) (by rfl) ?hzz43 hHeld ?rzz43
      case hzz43 => (intro w' hSw; (try dsimp only at hSw); go_simp <;> (first | with_reducible rfl | (rw [HKB.out.2]; exact bne_dec _)))
      try simp only [Act.put, List.setIfInBounds_toArray, List.set_cons_zero, List.set_cons_succ]
      refine take_op (i := 52) (d := 160) (OP := Op.binOp BinOp.eql 4 (Operand.tmp 157) (Operand.tmp 159) 4) (T := 4) (v := .bool true) rfl rfl rfl rfl (by kernel_rfl) (by kernel_rfl) (by kernel_rfl) (fun _ _ _ h => h) (by rfl) ?hzz44 hHeld ?rzz44
      case hzz44 => (intro w' hSw; (try dsimp only at hSw); go_simp <;> (try simp) <;> with_reducible rfl)
      try simp only [Act.put, List.setIfInBounds_toArray, List.set_cons_zero, List.set_cons_succ]
      refine take_op (i := 53) (d := 161) (OP := Op.pick (Operand.tmp 156) (Operand.tmp 160) (Operand.const (Value.bool false))) (T := 4) (v := ?vzz45) rfl rfl rfl rfl (by kernel_rfl) (by kernel_rfl) (by kernel_rfl) (fun _ _ _ h => h) (by rfl) ?hzz45 hHeld ?rzz45
      case hzz45 => (intro w' hSw; (try dsimp only at hSw); go_simp <;> with_reducible rfl)
      try simp only [Act.put, List.setIfInBounds_toArray, List.set_cons_zero, List.set_cons_succ]
      refine take_op (i := 54) (d := 162) (OP := Op.move (Operand.tmp 161)) (T := 4) (v := ?vzz46) rfl rfl rfl rfl (by kernel_rfl) (by kernel_rfl) (by kernel_rfl) (fun _ _ _ h => h) (by rfl) ?hzz46 hHeld ?rzz46
      case hzz46 => (intro w' hSw; (try dsimp only at hSw); go_simp <;> with_reducible rfl)
      try simp only [Act.put, List.setIfInBounds_toArray, List.set_cons_zero, List.set_cons_succ]
      refine call_op (i := 55) (d := 163) (OP := Op.call { callee := Callee.value (Operand.func 7), args := #[], argTypes := #[] }) (T := 4) (f := 7) (args := #[]) rfl rfl rfl rfl (by kernel_rfl) (by rfl) (by go_simp) ?_
      refine (k7 _ hHeld.2.2.2.2.2.2).mono ?_
      rintro e zz ⟨rfl, bzz⟩
      have qzz : zz.cell? ⟨X, 0, none⟩ = some (.slice ao N c) ∧ zz.cell? ⟨X, 1, none⟩ = some (.int .i64 ok) ∧ zz.cell? ⟨X, 2, none⟩ = some (.string os) ∧ zz.cell? ⟨X, 3, none⟩ = some (.int .i64 od) ∧ zz.cell? ⟨X, 4, none⟩ = some (.int .i64 on) ∧ zz.cell? ⟨X, 5, none⟩ = some (.string tx) ∧ Below w1.heap.size w1 zz := ⟨cell_stays hHeld.1 bzz, cell_stays hHeld.2.1 bzz, cell_stays hHeld.2.2.1 bzz, cell_stays hHeld.2.2.2.1 bzz, cell_stays hHeld.2.2.2.2.1 bzz, cell_stays hHeld.2.2.2.2.2.1 bzz, nextB hHeld.2.2.2.2.2.2 bzz⟩
      refine ⟨_, rfl, qzz, ?_⟩
      replace hHeld := qzz
      try simp only [Act.put, List.setIfInBounds_toArray, List.set_cons_zero, List.set_cons_succ]
      refine take_op (i := 56) (d := 164) (OP := Op.pick (Operand.tmp 162) (Operand.tmp 163) (Operand.const (Value.bool false))) (T := 4) (v := ?vzz47) rfl rfl rfl rfl (by kernel_rfl) (by kernel_rfl) (by kernel_rfl) (fun _ _ _ h => h) (by rfl) ?hzz47 hHeld ?rzz47
      case hzz47 => (intro w' hSw; (try dsimp only at hSw); go_simp <;> with_reducible rfl)
      try simp only [Act.put, List.setIfInBounds_toArray, List.set_cons_zero, List.set_cons_succ]
      refine take_op (i := 57) (d := 6) (OP := Op.assign (Operand.tmp 164)) (T := 4) (v := ?vzz48) rfl rfl rfl rfl (by kernel_rfl) (by kernel_rfl) (by kernel_rfl) (fun _ _ _ h => h) (by rfl) ?hzz48 hHeld ?rzz48
      case hzz48 => (intro w' hSw; (try dsimp only at hSw); go_simp <;> with_reducible rfl)
      try simp only [Act.put, List.setIfInBounds_toArray, List.set_cons_zero, List.set_cons_succ]
      refine wpAnyH_done (by kernel_rfl) ?_ _
      have HE := hide hHeld.2.2.2.2.2.2
      clear hHeld qd hS
      go_wp2
      go_ret
      exact ⟨rfl, nextB H.out.2.2.2.2.2.2.2.1 HE.out⟩
end Go.Proofs.YtkdgageljgfgoaaGreatDoor
