/-
  counter: Split 16.
-/
import Derived.Test.YtlhfkdgdbjinoaaSplitT
namespace Go.Proofs.Ytlhfkdgdbjinoaa
open Go.RowKit Go.Shelf
set_option linter.unusedSimpArgs false
attribute [local go_sem] Oper.semAt_some

set_option maxHeartbeats 2000000 in
set_option maxRecDepth 100000 in
theorem split_no {w : World} {n p : Int} (h : p < 1 ∨ 64 < p) : Calls Try.prog 16 #[.int .i64 n, .int .i64 p] w fun e w' => e = .returned (.slice none 0 0) ∧ w' = w := by
  by_cases h1 : p < 1
  · go_enter Try.func16, Try.ntmps16
    go_wp2
    go_ret
    exact ⟨rfl, rfl⟩
  · have h2 : 64 < p := by omega
    clear h
    go_enter Try.func16, Try.ntmps16
    go_wp2
    go_ret
    exact ⟨rfl, rfl⟩
theorem nw_of_row {w : World} {B base : Nat} {l : List Int} (h : w.heap[B]? = some (.cells (n64s l).toArray 2 (0, 0))) (hb : base ≤ B) (hl : l.length ≤ 1000000) : Nw 2 w base (.slice (some ⟨B, 0, none⟩) l.length l.length) l := by
  refine ⟨by simp [n64s], .inr ⟨B, l.length, (n64s l).toArray, rfl, hb, h, Nat.le_refl _, by unfold maxLen; omega, by simp [n64s], ?_⟩⟩
  rw [Nat.mul_one]
  exact List.take_of_length_le (by simp [n64s])
theorem made_n64 (n : Nat) : (madeCells (Value.int .i64 0).cells (n * 1)) = (n64s (List.replicate n 0)).toArray := by
  rw [Nat.mul_one]
  show madeCells #[.int .i64 0] n = _
  apply Array.toList_inj.1
  rw [toList_madeCells_one]
  simp [n64s]
theorem info2 : (Try.prog.info? 2).map (fun i => (i.zero, i.size, i.bytes)) = some (some (.int .i64 0), 1, 8) := by kernel_rfl
theorem info_of {t : TypeId} {z : Option Value} {n b : Nat} (h : (Try.prog.info? t).map (fun i => (i.zero, i.size, i.bytes)) = some (z, n, b)) : ∃ i, Try.prog.info? t = some i ∧ i.zero = z ∧ i.size = n ∧ i.bytes = b := by
  cases hi : Try.prog.info? t with
  | none => rw [hi] at h; cases h
  | some i => rw [hi] at h; simp only [Option.map_some, Option.some.injEq, Prod.mk.injEq] at h; exact ⟨i, rfl, h.1, h.2.1, h.2.2⟩
theorem make_any (n : Nat) (w : World) (hn : n ≤ 1000000) : (Instr.makeSlice 23 (.int .i64 (n : Int)) (.int .i64 (n : Int))).run Try.prog w = .ok (.slice (some ⟨w.heap.size, 0, none⟩) n n) (w.alloc (.cells (n64s (List.replicate n 0)).toArray 2)) := by
  obtain ⟨i0, hi, hz0, hz1, hz2⟩ := info_of info2
  have h := run_make (P := Try.prog) w 23 2 i0 (.int .i64 0) Try.underlying23 hi hz0 .i64 .i64 (n : Int) (n : Int) (by omega) (by omega) (by rw [hz2]; omega) (by omega)
  rw [hz1] at h
  simp only [Int.toNat_natCast] at h
  rw [made_n64 n] at h
  exact h
set_option maxHeartbeats 2000000 in
set_option maxRecDepth 100000 in
theorem split_yes {w : World} {n : Int} {p : Nat} (hn : -9223372036854775808 ≤ n ∧ n ≤ 9223372036854775807) (hp : 1 ≤ p) (hp2 : p ≤ 64) : Calls Try.prog 16 #[.int .i64 n, .int .i64 p] w fun e w' => MadeN 2 w w' e (splitL n p) := by
  obtain ⟨q, hq⟩ : ∃ q, q = n.tdiv p := ⟨_, rfl⟩
  obtain ⟨r, hr⟩ : ∃ r, r = n.tmod p := ⟨_, rfl⟩
  have z1 : ¬ ((p : Int) < 1) := by omega
  have z2 : ¬ (64 < (p : Int)) := by omega
  have z3 : ((p : Int) == 0) = false := by simp; omega
  have hcm := fun W => cmp_any r W
  go_enter Try.func16, Try.ntmps16
  go_wp2
  go_quiet (fail)
  rw [← hq, ← hr]
  obtain ⟨w1, hw1⟩ : ∃ w1, w1 = w.drewN nq := ⟨_, rfl⟩
  rw [← hw1]
  have HW := hide (And.intro hw1 (And.intro hq hr))
  have hp0 : 0 < p := hp
  have hmk := make_any p w1 (by omega)
  clear hw1 hq hr hn z3
  go_wp2_with (go_at_call 21; refine (hcm _).mono ?_; rintro e w' ⟨rfl, hw'⟩; obtain rfl : w1 = w' := hw'.symm; clear hw')
  have hs1 : w1.heap.size = w.heap.size := by rw [HW.out.1]; rfl
  have hbl : Below w.heap.size w (w1.alloc (.cells (n64s (List.replicate p 0)).toArray 2)) := by
    rw [HW.out.1]; exact (show Below w.heap.size w (w.drewN nq) from ⟨rfl, rfl, rfl, Nat.le_refl _, fun _ _ => rfl⟩).alloc (Nat.le_refl _) _
  have hnew := heap_alloc_new w1 (.cells (n64s (List.replicate p 0)).toArray 2)
  have hr64 : -64 < r ∧ r < 64 := by rw [HW.out.2.2]; exact tmod_small n p hp hp2
  obtain ⟨B, hB⟩ : ∃ B, B = w1.heap.size := ⟨_, rfl⟩
  rw [← hB] at hnew
  simp only [← hB]
  have HB := hide (And.intro hB hs1)
  clear hB hs1 hmk hcm
  go_loopw [6, 28] (fun s i wr => ∃ k : Nat, k ≤ p ∧ i = .int .i64 k ∧ s = .int .i64 (rest r k) ∧ Below w.heap.size w wr ∧ wr.heap[B]? = some (.cells (n64s (rowK q r p k)).toArray 2 (0, 0))) (fun _ i _ => p - (intOf i).toNat)
  case atStart => exact ⟨0, Nat.zero_le _, rfl, by rw [show rest r 0 = r by unfold rest; split <;> (split <;> omega)], hbl, hnew⟩
  case round =>
    obtain ⟨k, hk, rfl, rfl, hbk, hck⟩ := hrel
    clear hnew hbl
    by_cases hlt : k < p
    · have d1 : decide (k < p) = true := by simpa using hlt
      have d1' : (k : Int) < (p : Int) := by omega
      have f0 := frozen_of_row _ _ k _ 2 hck
      have g0 : ∃ u, wr.cell? ⟨B, k, none⟩ = some u := ⟨_, (cell_of_row _ _ k _ 2 (0, 0) hck).trans (by rw [List.getElem?_toArray]; exact List.getElem?_eq_getElem (by simp [n64s, rowK, piecesW_len]; omega))⟩
      obtain ⟨u, g0⟩ := g0
      obtain ⟨h1, o1⟩ := set_one (i := k) (.int .i64 q) hck
      rw [rowK_set q r p k hlt] at h1
      obtain ⟨W1, hW1⟩ : ∃ W1, W1 = wr.setCell ⟨B, k, none⟩ (.int .i64 q) := ⟨_, rfl⟩
      rw [← hW1] at h1 o1
      have f1 := frozen_of_row _ _ k _ 2 h1
      have g1 : W1.cell? ⟨B, k, none⟩ = some (.int .i64 q) := (cell_of_row _ _ k _ 2 (0, 0) h1).trans (by rw [List.getElem?_toArray]; simp [n64s, piecesW_len])
      rw [hW1] at f1 g1
      by_cases hz : rest r k = 0
      · obtain ⟨e1, e2⟩ := rest_no hz
        have hzb : (rest r k == 0) = true := by simp [hz]
        have HK := hide (And.intro e1 (And.intro e2 (And.intro hz (And.intro hW1 (And.intro h1 (And.intro o1 (And.intro hbk hck)))))))
        clear e1 e2 hz hW1 h1 o1 hbk hck
        go_wp2
        go_roundw
        case rel =>
          obtain ⟨e1, e2, hz, hW1, h1, o1, hbk, hck⟩ := HK.out
          rw [← hW1]
          exact ⟨k + 1, by omega, by go_num, by rw [hz, e1], Below.only hbk o1 hbk.size (fun j e => by have := HB.out; omega), by rw [← rowK_succ, e2 q]; exact h1⟩
        case measure => simp [intOf]; omega
      · obtain ⟨e1, e2⟩ := rest_yes hr64 hz
        have hzb : (rest r k == 0) = false := by simpa using hz
        obtain ⟨h2, o2⟩ := set_one (i := k) (.int .i64 (wrap64 (q + sg r))) h1
        rw [rowK_set2] at h2
        have HK := hide (And.intro e1 (And.intro e2 (And.intro hz (And.intro hW1 (And.intro h2 (And.intro (o1.next o2) (And.intro hbk hck)))))))
        clear e1 e2 hz hW1 h1 h2 o1 o2 hbk hck
        go_wp2
        go_roundw
        case rel =>
          obtain ⟨e1, e2, hz, hW1, h1, o1, hbk, hck⟩ := HK.out
          rw [← hW1]
          exact ⟨k + 1, by omega, by go_num, by rw [e1], Below.only hbk o1 hbk.size (fun j e => by have := HB.out; omega), by rw [← rowK_succ, e2 q]; exact h1⟩
        case measure => simp [intOf]; omega
    · obtain rfl : k = p := by omega
      have d1 : decide (k < k) = false := by simp
      have HC := hide hck
      clear hck
      go_wp2
      go_ret
      have hrow : rowK q r k k = splitL n k := by unfold rowK splitL; rw [HW.out.2.1, HW.out.2.2]; simp
      have hc := HC.out
      rw [hrow] at hc
      have ho := nw_of_row (base := w.heap.size) hc (by have := HB.out; omega) (by rw [splitL_len]; omega)
      have hl := splitL_len n k
      refine ⟨some ⟨B, 0, none⟩, (splitL n k).length, by rw [hl]; rfl, ho, by simp, hbk⟩
end Go.Proofs.Ytlhfkdgdbjinoaa
