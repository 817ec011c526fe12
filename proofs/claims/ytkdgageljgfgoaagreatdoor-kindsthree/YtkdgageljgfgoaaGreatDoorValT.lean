/-
  The laws' has 37.
  What is applied to a value that may be is a value that may be.
-/
import Derived.Test.YtkdgageljgfgoaaGreatDoorDocStm
namespace Go.Proofs.YtkdgageljgfgoaaGreatDoor
open Go.RowKit Go.Shelf
set_option linter.unusedSimpArgs false
attribute [local go_sem] Oper.semAt_some

def hasE (l : List El) (x : El) : Bool := l.any fun y => decide (y = x)
theorem hasE_iff (l : List El) (x : El) : hasE l x = true ↔ x ∈ l := by
  unfold hasE
  rw [List.any_eq_true]
  simp
set_option maxHeartbeats 4000000 in
set_option maxRecDepth 100000 in
theorem has_any {w : World} (k n : Int) {ao : Option Addr} {c : Nat} {l : List El} (x : El) (h : Re w ao l) (hl : l.length ≤ 1000000) : Calls Tryz.prog 37 #[vv k n ao l.length c, ev x] w fun e w' => e = .returned (.bool (hasE l x)) ∧ Below w.heap.size w w' := by
  obtain ⟨N, hN⟩ : ∃ N, N = l.length := ⟨_, rfl⟩
  obtain ⟨R, hR⟩ : ∃ R, R = hasE l x := ⟨_, rfl⟩
  rw [← hR]
  rw [← hN] at hl ⊢
  have hne := fun y W => run_eq77 y x W
  obtain ⟨XX, hXX⟩ : ∃ y, y = x := ⟨_, rfl⟩
  obtain ⟨⟨g, r, l0, n0, i0⟩, t0⟩ := x
  obtain ⟨w1, hw1⟩ : ∃ w1, w1 = (w.alloc (.cells #[.int .i64 k, .int .i64 n, .slice ao N c] 46)).alloc (.cells #[.int .i64 g, .int .i64 r, .string l0, .int .i64 n0, .int .i64 i0, .string t0] 77) := ⟨_, rfl⟩
  obtain ⟨m0, m1, b1⟩ := new2b w (.cells #[.int .i64 k, .int .i64 n, .slice ao N c] 46) (.cells #[.int .i64 g, .int .i64 r, .string l0, .int .i64 n0, .int .i64 i0, .string t0] 77)
  rw [← hw1] at m0 m1 b1
  obtain ⟨X, hX⟩ : ∃ X, X = w.heap.size := ⟨_, rfl⟩
  obtain ⟨Y, hY⟩ : ∃ Y, Y = w.heap.size + 1 := ⟨_, rfl⟩
  rw [← hX] at m0
  rw [← hY] at m1
  have hre := h.below b1
  have x2 : w1.cell? ⟨X, 2, none⟩ = some (.slice ao N c) := (cell_of_row _ _ 2 _ 46 (0, 0) m0).trans rfl
  have y0 : w1.cell? ⟨Y, 0, none⟩ = some (.int .i64 g) := (cell_of_row _ _ 0 _ 77 (0, 0) m1).trans rfl
  have y1 : w1.cell? ⟨Y, 1, none⟩ = some (.int .i64 r) := (cell_of_row _ _ 1 _ 77 (0, 0) m1).trans rfl
  have y2 : w1.cell? ⟨Y, 2, none⟩ = some (.string l0) := (cell_of_row _ _ 2 _ 77 (0, 0) m1).trans rfl
  have y3 : w1.cell? ⟨Y, 3, none⟩ = some (.int .i64 n0) := (cell_of_row _ _ 3 _ 77 (0, 0) m1).trans rfl
  have y4 : w1.cell? ⟨Y, 4, none⟩ = some (.int .i64 i0) := (cell_of_row _ _ 4 _ 77 (0, 0) m1).trans rfl
  have y5 : w1.cell? ⟨Y, 5, none⟩ = some (.string t0) := (cell_of_row _ _ 5 _ 77 (0, 0) m1).trans rfl
  have HC := hide (And.intro x2 (And.intro y0 (And.intro y1 (And.intro y2 (And.intro y3 (And.intro y4 (And.intro y5 hre)))))))
  have HW := hide (And.intro hw1 (And.intro b1 (And.intro hX (And.intro hY (And.intro hN hR)))))
  clear h m0 m1 b1 hre x2 y0 y1 y2 y3 y4 y5 hw1 hX hY hN hR hXX XX
  go_enter Tryz.func37, Tryz.ntmps37
  go_upto_region 1 with fail
  obtain ⟨e1, -, e2, e3, -, -⟩ := HW.out
  rw [← e1, ← e3, ← e2]
  clear e1 e2 e3
  go_wp2
  go_loopw [5] (fun iv wr => ∃ i : Nat, i ≤ N ∧ iv = .int .i64 i ∧ Hid (∀ j y, j < i → l[j]? = some y → y ≠ ((g, r, l0, n0, i0), t0)) ∧ ∃ q, wr = w1.drewN q) (fun iv _ => N - (intOf iv).toNat)
  case atStart => exact ⟨0, by omega, rfl, hide (fun j y hj => by omega), 0, rfl⟩
  case round =>
    obtain ⟨i, hi, rfl, hrest, q, hwr⟩ := hrel
    have up : ∀ a v, w1.cell? a = some v → wr.cell? a = some v := fun a v hv => by rw [hwr]; exact hv
    have x2 := up _ _ HC.out.1
    have y0 := up _ _ HC.out.2.1
    have y1 := up _ _ HC.out.2.2.1
    have y2 := up _ _ HC.out.2.2.2.1
    have y3 := up _ _ HC.out.2.2.2.2.1
    have y4 := up _ _ HC.out.2.2.2.2.2.1
    have y5 := up _ _ HC.out.2.2.2.2.2.2.1
    have hlr : Re wr ao l := by rw [hwr]; exact ⟨HC.out.2.2.2.2.2.2.2.1, HC.out.2.2.2.2.2.2.2.2⟩
    have HWR := hide hwr
    clear hwr up
    by_cases h1 : i < N
    · have z1 : (i : Int) < (N : Int) := by omega
      have d1 : decide (i < N) = true := by simpa using h1
      obtain ⟨y, hy⟩ : ∃ y, l[i]? = some y := ⟨_, List.getElem?_eq_getElem (by rw [← HW.out.2.2.2.2.1]; exact h1)⟩
      obtain ⟨ab, off, rfl, q0, q1, q2, q3, q4, q5⟩ := hlr.cells hy
      have hne1 := fun W => hne y W
      have HX := hide hy
      clear hy hlr hne
      by_cases hxy : y = ((g, r, l0, n0, i0), t0)
      · have d2 : decide (y = ((g, r, l0, n0, i0), t0)) = true := by simpa using hxy
        rw [d2] at hne1
        have HXY := hide hxy
        clear hxy d2
        obtain ⟨⟨g', r', l0', n0', i0'⟩, t0'⟩ := y
        dsimp only at q0 q1 q2 q3 q4 q5
        go_wp2
        go_quiet (fail)
        go_wp2
        go_ret
        refine ⟨?_, ?_⟩
        · have : R = true := by
            rw [HW.out.2.2.2.2.2]
            rw [hasE_iff, ← HXY.out]
            exact List.mem_of_getElem? HX.out
          rw [this]; rfl
        · rw [HWR.out]; exact below_drw (below_drw HW.out.2.1 _) _
      · have d2 : decide (y = ((g, r, l0, n0, i0), t0)) = false := by simpa using hxy
        rw [d2] at hne1
        have HXY := hide hxy
        clear hxy d2
        obtain ⟨⟨g', r', l0', n0', i0'⟩, t0'⟩ := y
        dsimp only at q0 q1 q2 q3 q4 q5
        go_wp2
        go_quiet (fail)
        go_wp2
        go_roundw
        case rel =>
          refine ⟨i + 1, by omega, by go_num, hide (fun j z hj hz => ?_), _, by rw [HWR.out, World.drewN_drewN]⟩
          by_cases hji : j = i
          · subst hji
            rw [HX.out] at hz
            cases hz
            exact HXY.out
          · exact hrest.out j z (by omega) hz
        case measure => simp [intOf]; omega
    · obtain rfl : i = N := by omega
      have d1 : decide (i < i) = false := by simp
      go_wp2
      go_ret
      refine ⟨?_, ?_⟩
      · have : R = false := by
          rw [HW.out.2.2.2.2.2]
          rw [Bool.eq_false_iff, Ne, hasE_iff]
          intro hm
          obtain ⟨j, hj, e⟩ := List.getElem_of_mem hm
          exact hrest.out j _ (by rw [HW.out.2.2.2.2.1]; exact hj) (List.getElem?_eq_getElem hj) e
        rw [this]; rfl
      · rw [HWR.out]; exact below_drw HW.out.2.1 _
end Go.Proofs.YtkdgageljgfgoaaGreatDoor
namespace Go.Proofs.YtkdgageljgfgoaaGreatDoor

theorem mayB_all (l : List El) : mayB l = true ↔ (∀ x ∈ l, stV x.1 = true ∧ textB x.2 = true) ∧ UpE l := by
  constructor
  · intro h
    refine ⟨fun x hx => ?_, mayB_up h⟩
    obtain ⟨j, hj, rfl⟩ := List.getElem_of_mem hx
    have := (mayB_iff l).1 h j _ hj (List.getElem?_eq_getElem hj)
    unfold okB at this
    simp only [Bool.and_eq_true] at this
    exact this.1
  · rintro ⟨h1, h2⟩
    rw [mayB_iff]
    intro j x hj hx
    have hm := h1 x (List.mem_of_getElem? hx)
    unfold okB
    simp only [Bool.and_eq_true]
    refine ⟨hm, ?_⟩
    unfold behindB
    cases hl : (l.take j).getLast? with
    | none => rfl
    | some y =>
      have hy : l[j - 1]? = some y := by
        rw [List.getLast?_eq_getElem?, List.length_take, Nat.min_eq_left (by omega), List.getElem?_take] at hl
        split at hl
        · exact hl
        · cases hl
      have hj0 : 0 < j := by
        cases j with
        | zero => simp at hl
        | succ j => omega
      have := h2.rise (j - 1) j y x (by omega) hy hx
      simp [this]
theorem mayB_sub {l m : List El} (h : mayB l = true) (hs : m.Sublist l) : mayB m = true := by
  rw [mayB_all] at h ⊢
  exact ⟨fun x hx => h.1 x (hs.subset hx), List.Pairwise.sublist hs h.2⟩
theorem mayB_push {l : List El} {x : El} (h : mayB l = true) (h1 : stV x.1 = true) (h2 : textB x.2 = true) (h3 : behindB x.1 l = true) : mayB (l ++ [x]) = true := by
  rw [mayB_iff] at h ⊢
  intro j y hj hy
  by_cases hjl : j < l.length
  · rw [List.getElem?_append_left hjl] at hy
    rw [List.take_append_of_le_length (by omega)]
    exact h j y hjl hy
  · have : j = l.length := by simp at hj; omega
    subst this
    rw [List.getElem?_append_right (Nat.le_refl _), Nat.sub_self] at hy
    simp at hy
    subst hy
    rw [List.take_left']
    · unfold okB; rw [h1, h2, h3]; rfl
    · rfl
theorem changeL_may {l : List El} {d : Int} {x : El} (h : mayB l = true) (h1 : stV x.1 = true) (h2 : textB x.2 = true) (h3 : behindB x.1 l = true) : mayB (changeL l d x) = true := by
  unfold changeL
  split
  · exact mayB_push (l := []) rfl h1 h2 rfl
  split
  · exact mayB_push h h1 h2 h3
  split
  · exact mayB_sub h (by unfold keepL; exact List.filter_sublist)
  split
  · exact mayB_sub h (List.drop_sublist 1 l)
  · exact h
theorem apply_val {k n : Int} {l : List El} {s : St} {p : List ByteArray} {ok : Int} {os : ByteArray} {d on : Int} {ot : ByteArray} {R : Int × Int × List El × Int} (h : applyV k n l s p ok os d on ot = R) (h0 : R.2.2.2 = 0) : R.1 = k ∧ valB R.1 R.2.1 R.2.2.1 = true := by
  subst h
  unfold applyV at h0 ⊢
  split at h0
  · exact absurd h0 (by decide)
  · rename_i hA
    rw [if_neg hA]
    split at h0
    · exact absurd h0 (by decide)
    · rename_i hB
      rw [if_neg hB]
      refine ⟨rfl, ?_⟩
      simp only [not_or, Bool.not_eq_false] at hA hB
      obtain ⟨a1, a2, a3, a4⟩ := hA
      obtain ⟨b1, b2⟩ := hB
      have hok : ok = k := by simpa using b2
      subst hok
      have hC : argB p ok os d on ot = true ∧ ofD d = ok := by
        unfold checkE at a1 b1
        by_cases hx : argB p ok os d on ot = true
        · rw [if_pos hx] at a1 b1
          by_cases hy : ofD d = ok
          · exact ⟨hx, hy⟩
          · rw [if_neg hy] at b1; exact absurd rfl b1
        · rw [if_neg hx] at a1; exact absurd rfl a1
      obtain ⟨c1, c2⟩ := hC
      unfold argB at c1
      simp only [Bool.and_eq_true] at c1
      have ht : textB ot = true := c1.2
      have hn0 : unN d on = 0 := by simpa using c1.1.2.1
      unfold valB at a2 ⊢
      by_cases hk : ok = 1
      · rw [if_pos hk] at a2 ⊢
        have hl : l = [] := List.eq_nil_of_length_eq_zero (by simpa using a2)
        have hd : d = 1 := by
          rw [hk] at c2
          unfold ofD at c2
          repeat' split at c2
          all_goals first | assumption | omega
        subst hl hd
        rfl
      · rw [if_neg hk] at a2 ⊢
        simp only [Bool.and_eq_true] at a2 ⊢
        have hd : d ≠ 1 := by
          rintro rfl
          exact hk c2.symm
        have hon : on = 0 := by unfold unN at hn0; rwa [if_neg hd] at hn0
        have hn : n = 0 := by simpa using a2.1.2
        refine ⟨⟨a2.1.1, ?_⟩, changeL_may a2.2 a3 ht a4⟩
        subst hon hn
        kernel_rfl
end Go.Proofs.YtkdgageljgfgoaaGreatDoor
