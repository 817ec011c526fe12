/-
  What is applied to a value that may be is a value that may be.
-/
import Derived.Test.YtkdgageljgfgoaaGreatDoorHas9
namespace Go.Proofs.YtkdgageljgfgoaaGreatDoor

theorem mayB_all (l : List El) : mayB l = true ↔ (∀ x ∈ l, stV x.1 = true ∧ textB x.2 = true) ∧ UpE l := by
  constructor
  · intro h
    refine ⟨fun x hx => ?_, mayB_up h⟩
    obtain ⟨j, hj, rfl⟩ := List.getElem_of_mem hx
    have := (mayB_iff l).1 h j _ hj (List.getElem?_eq_getElem hj)
    unfold okB at this
    simp only [Bool.and_eq_true] at this
    exact this.1
  · rintro ⟨h1, h2⟩
    rw [mayB_iff]
    intro j x hj hx
    have hm := h1 x (List.mem_of_getElem? hx)
    unfold okB
    simp only [Bool.and_eq_true]
    refine ⟨hm, ?_⟩
    unfold behindB
    cases hl : (l.take j).getLast? with
    | none => rfl
    | some y =>
      have hy : l[j - 1]? = some y := by
        rw [List.getLast?_eq_getElem?, List.length_take, Nat.min_eq_left (by omega), List.getElem?_take] at hl
        split at hl
        · exact hl
        · cases hl
      have hj0 : 0 < j := by
        cases j with
        | zero => simp at hl
        | succ j => omega
      have := h2.rise (j - 1) j y x (by omega) hy hx
      simp [this]
theorem mayB_sub {l m : List El} (h : mayB l = true) (hs : m.Sublist l) : mayB m = true := by
  rw [mayB_all] at h ⊢
  exact ⟨fun x hx => h.1 x (hs.subset hx), List.Pairwise.sublist hs h.2⟩
theorem mayB_push {l : List El} {x : El} (h : mayB l = true) (h1 : stV x.1 = true) (h2 : textB x.2 = true) (h3 : behindB x.1 l = true) : mayB (l ++ [x]) = true := by
  rw [mayB_iff] at h ⊢
  intro j y hj hy
  by_cases hjl : j < l.length
  · rw [List.getElem?_append_left hjl] at hy
    rw [List.take_append_of_le_length (by omega)]
    exact h j y hjl hy
  · have : j = l.length := by simp at hj; omega
    subst this
    rw [List.getElem?_append_right (Nat.le_refl _), Nat.sub_self] at hy
    simp at hy
    subst hy
    rw [List.take_left']
    · unfold okB; rw [h1, h2, h3]; rfl
    · rfl
theorem changeL_may {l : List El} {d : Int} {x : El} (h : mayB l = true) (h1 : stV x.1 = true) (h2 : textB x.2 = true) (h3 : behindB x.1 l = true) : mayB (changeL l d x) = true := by
  unfold changeL
  split
  · exact mayB_push (l := []) rfl h1 h2 rfl
  split
  · exact mayB_push h h1 h2 h3
  split
  · exact mayB_sub h (by unfold keepL; exact List.filter_sublist)
  split
  · exact mayB_sub h (List.drop_sublist 1 l)
  · exact h
theorem apply_val {k n : Int} {l : List El} {s : St} {p : List ByteArray} {ok : Int} {os : ByteArray} {d on : Int} {ot : ByteArray} {R : Int × Int × List El × Int} (h : applyV k n l s p ok os d on ot = R) (h0 : R.2.2.2 = 0) : R.1 = k ∧ valB R.1 R.2.1 R.2.2.1 = true := by
  subst h
  unfold applyV at h0 ⊢
  split at h0
  · exact absurd h0 (by decide)
  · rename_i hA
    rw [if_neg hA]
    split at h0
    · exact absurd h0 (by decide)
    · rename_i hB
      rw [if_neg hB]
      refine ⟨rfl, ?_⟩
      simp only [not_or, Bool.not_eq_false] at hA hB
      obtain ⟨a1, a2, a3, a4⟩ := hA
      obtain ⟨b1, b2⟩ := hB
      have hok : ok = k := by simpa using b2
      subst hok
      have hC : argB p ok os d on ot = true ∧ ofD d = ok := by
        unfold checkE at a1 b1
        by_cases hx : argB p ok os d on ot = true
        · rw [if_pos hx] at a1 b1
          by_cases hy : ofD d = ok
          · exact ⟨hx, hy⟩
          · rw [if_neg hy] at b1; exact absurd rfl b1
        · rw [if_neg hx] at a1; exact absurd rfl a1
      obtain ⟨c1, c2⟩ := hC
      unfold argB at c1
      simp only [Bool.and_eq_true] at c1
      have ht : textB ot = true := c1.2
      have hn0 : unN d on = 0 := by simpa using c1.1.2.1
      unfold valB at a2 ⊢
      by_cases hk : ok = 1
      · rw [if_pos hk] at a2 ⊢
        have hl : l = [] := List.eq_nil_of_length_eq_zero (by simpa using a2)
        have hd : d = 1 := by
          rw [hk] at c2
          unfold ofD at c2
          repeat' split at c2
          all_goals first | assumption | omega
        subst hl hd
        rfl
      · rw [if_neg hk] at a2 ⊢
        simp only [Bool.and_eq_true] at a2 ⊢
        have hd : d ≠ 1 := by
          rintro rfl
          exact hk c2.symm
        have hon : on = 0 := by unfold unN at hn0; rwa [if_neg hd] at hn0
        have hn : n = 0 := by simpa using a2.1.2
        refine ⟨⟨a2.1.1, ?_⟩, changeL_may a2.2 a3 ht a4⟩
        subst hon hn
        kernel_rfl
end Go.Proofs.YtkdgageljgfgoaaGreatDoor
