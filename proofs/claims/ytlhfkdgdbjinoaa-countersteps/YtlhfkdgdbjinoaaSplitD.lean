/-
  The document's Split 17.
-/
import Derived.Test.YtlhfkdgdbjinoaaSplit
namespace Go.Proofs.Ytlhfkdgdbjinoaa
open Go.RowKit Go.Shelf
set_option linter.unusedSimpArgs false
attribute [local go_sem] Oper.semAt_some

set_option maxHeartbeats 2000000 in
set_option maxRecDepth 100000 in
theorem refSplit_no {w : World} {n p : Int} (h : p < 1 ∨ 64 < p) : Calls Try.prog 17 #[.int .i64 n, .int .i64 p] w fun e w' => e = .returned (.slice none 0 0) ∧ w' = w := by
  by_cases h1 : p < 1
  · go_enter Try.func17, Try.ntmps17
    go_wp2
    go_ret
    exact ⟨rfl, rfl⟩
  · have h2 : 64 < p := by omega
    clear h
    go_enter Try.func17, Try.ntmps17
    go_wp2
    go_ret
    exact ⟨rfl, rfl⟩
set_option maxHeartbeats 2000000 in
set_option maxRecDepth 100000 in
theorem refSplit_yes {w : World} {n : Int} {p : Nat} (hn : -9223372036854775808 ≤ n ∧ n ≤ 9223372036854775807) (hp : 1 ≤ p) (hp2 : p ≤ 64) : Calls Try.prog 17 #[.int .i64 n, .int .i64 p] w fun e w' => MadeN 2 w w' e (splitL n p) := by
  obtain ⟨q, hq⟩ : ∃ q, q = n.tdiv p := ⟨_, rfl⟩
  obtain ⟨r, hr⟩ : ∃ r, r = n.tmod p := ⟨_, rfl⟩
  have z1 : ¬ ((p : Int) < 1) := by omega
  have z2 : ¬ (64 < (p : Int)) := by omega
  have z3 : ((p : Int) == 0) = false := by simp; omega
  go_enter Try.func17, Try.ntmps17
  go_wp2
  go_quiet (fail)
  rw [← hq, ← hr]
  obtain ⟨w1, hw1⟩ : ∃ w1, w1 = w.drewN nq := ⟨_, rfl⟩
  rw [← hw1]
  have hr64 : -64 < r ∧ r < 64 := by rw [hr]; exact tmod_small n p hp hp2
  have HW := hide (And.intro hw1 (And.intro hq hr))
  have hbl : Below w.heap.size w w1 := by
    rw [hw1]; exact ⟨rfl, rfl, rfl, Nat.le_refl _, fun _ _ => rfl⟩
  have hp0 : 0 < p := hp
  clear hw1 hq hr z3 hn
  obtain ⟨i0, hi, hz0, hz1, hz2⟩ := info_of info2
  have HI := hide (And.intro hi (And.intro hz0 (And.intro hz1 hz2)))
  clear hi hz0 hz1 hz2
  go_wp2
  go_loopw [8, 9] (fun s i wr => ∃ (k : Nat) (ao : Option Addr) (c : Nat), k ≤ p ∧ i = .int .i64 k ∧ s = .slice ao k c ∧ (ao = none → c = 0) ∧ Below w.heap.size w wr ∧ Nw 2 wr w.heap.size (.slice ao k c) (piecesW q r k)) (fun _ i _ => p - (intOf i).toNat)
  case atStart => exact ⟨0, none, 0, Nat.zero_le _, rfl, rfl, fun _ => rfl, hbl, Nw.nil _ _ _⟩
  case round =>
    obtain ⟨k, ao, c, hk, rfl, rfl, hac, hbk, hown⟩ := hrel
    by_cases hlt : k < p
    · have d1 : decide (k < p) = true := by simpa using hlt
      have d1' : (k : Int) < (p : Int) := by omega
      have wn : wrap64 (-r) = -r := by unfold wrap64; omega
      have hsz : w.heap.size ≤ wr.heap.size := hbk.size
      have push : ∀ (x : Int) (B : Nat), B = wr.heap.size → pieceW q r k = x → ∀ {ops : Array Oper} {rest : List Oper} {o : Oper} {a : Act} {Q : Exit → Act → World → Prop} (_ : o.guard = none) (s t : Operand) (_ : o.op = .call { callee := .builtin .append, args := #[s, t], argTypes := #[23, 23] })
          (_ : a.eval s = .slice ao k c) (_ : a.eval t = .slice (some ⟨B, 0, none⟩) 1 1)
          (_ : ∀ ao' cap' w', Hid (Nw 2 w' w.heap.size (.slice ao' (k + 1) cap') (piecesW q r (k + 1)) ∧ Below w.heap.size w w' ∧ (ao' = none → cap' = 0)) → wpList Try.prog ops Q rest (a.put o.dst (.slice ao' (k + 1) cap')) w'),
          wpList Try.prog ops Q (o :: rest) a (wr.alloc (.cells #[.int .i64 x] 2)) := by
        intro x B hB hx ops rest o a Q hg s t ho hs ht h
        have hbA : Below w.heap.size w (wr.alloc (.cells #[.int .i64 x] 2)) := hbk.alloc hsz _
        have hownA := hown.alloc (.cells #[.int .i64 x] 2)
        have hl := piecesW_len q r k
        refine wpList_pushN hg s t 23 ho w.heap.size 2 i0 Try.underlying23 HI.out.1 HI.out.2.1 HI.out.2.2.1 HI.out.2.2.2 (.slice ao k c) (piecesW q r k) hs hownA ⟨B, 0, none⟩ 1 x ht ?_ (by rw [hl]; omega) (by simp; omega) ?_
        · subst hB; rw [cell_of_row _ _ 0 _ 2 (0, 0) (heap_alloc_new wr _)]; rfl
        · intro ao' cap' w' h1 h2 h3
          rw [hl] at h1
          have := h ao' cap' w' (hide ⟨by rw [piecesW_succ, hx]; exact h1, below_nw hbA (by simp; omega) hownA h2, h3⟩)
          rw [hl]
          exact this
      have hpw : pieceW q r k = if (k : Int) < r then wrap64 (q + 1) else if (k : Int) < -r then wrap64 (q - 1) else q := rfl
      have HP := hide hpw
      clear hpw hown
      by_cases c1 : (k : Int) < r
      · have c2 : ¬ ((k : Int) < -r) := by omega
        have hx := HP.out
        rw [if_pos c1] at hx
        have hpu := @push _ _ rfl hx
        clear push hx hbk
        go_wp2_with (refine hpu rfl _ _ rfl rfl rfl ?_; intro ao' cap' w' HN)
        go_roundw
        case rel => exact ⟨k + 1, ao', cap', by omega, by go_num, rfl, HN.out.2.2, HN.out.2.1, HN.out.1⟩
        case measure => simp [intOf]; omega
      · by_cases c2 : (k : Int) < -r
        · have hx := HP.out
          rw [if_neg c1, if_pos c2] at hx
          have hpu := @push _ _ rfl hx
          clear push hx hbk
          go_wp2_with (refine hpu rfl _ _ rfl rfl rfl ?_; intro ao' cap' w' HN)
          go_roundw
          case rel => exact ⟨k + 1, ao', cap', by omega, by go_num, rfl, HN.out.2.2, HN.out.2.1, HN.out.1⟩
          case measure => simp [intOf]; omega
        · have hx := HP.out
          rw [if_neg c1, if_neg c2] at hx
          have hpu := @push _ _ rfl hx
          clear push hx hbk
          go_wp2_with (refine hpu rfl _ _ rfl rfl rfl ?_; intro ao' cap' w' HN)
          go_roundw
          case rel => exact ⟨k + 1, ao', cap', by omega, by go_num, rfl, HN.out.2.2, HN.out.2.1, HN.out.1⟩
          case measure => simp [intOf]; omega
    · obtain rfl : k = p := by omega
      have HC := hide hown
      clear hown
      go_wp2
      go_ret
      have hrow : piecesW q r k = splitL n k := by unfold splitL; rw [HW.out.2.1, HW.out.2.2]
      have hc := HC.out
      have hl := splitL_len n k
      rw [hrow] at hc
      exact ⟨ao, c, by rw [hl]; rfl, by rw [hl]; exact hc, hac, hbk⟩
end Go.Proofs.Ytlhfkdgdbjinoaa
