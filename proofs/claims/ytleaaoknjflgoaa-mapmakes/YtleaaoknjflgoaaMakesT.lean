/-
  WHAT MapMakes' OWN LIST IS: entries put one behind another, and what Of makes of them (the plain part).
-/
import Derived.Test.YtleaaoknjflgoaaOf
import Derived.Test.YtleaaoknjflgoaaLow
namespace Go.Proofs.Ytleaaoknjflgoaa
open Go.RowKit Go.Shelf
set_option linter.unusedSimpArgs false

theorem ins_perm {k : ByteArray} {v : Int} {l : List Nm} (h : has k l = false) : (ins k v l).Perm ((k, v) :: l) := by
  unfold ins
  rw [h, if_neg Bool.false_ne_true]
  refine List.perm_middle.trans ?_
  rw [List.take_append_drop]
theorem has_of {k : ByteArray} {v : Int} {l : List Nm} (hs : Srt l) (h : (k, v) ∈ l) : has k l = true := by
  induction l with
  | nil => cases h
  | cons x l ih =>
    obtain ⟨h1, h2⟩ := List.pairwise_cons.1 hs
    by_cases hc : cmpB x.1 k = -1
    · have hp : pos k (x :: l) = pos k l + 1 := by simp [pos, hc]
      have hh : has k (x :: l) = has k l := by unfold has; rw [hp]; simp
      rw [hh]
      rcases List.mem_cons.1 h with h | h
      · rw [← h, ord_B.refl] at hc; exact absurd hc (by decide)
      · exact ih h2 h
    · have hp : pos k (x :: l) = 0 := by simp [pos, hc]
      have hh : has k (x :: l) = decide (x.1 = k) := by unfold has; rw [hp]; rfl
      rw [hh]
      rcases List.mem_cons.1 h with h | h
      · rw [← h]; simp
      · exact (hc (h1 _ h)).elim
/-- What stands while the entries are put: the first i, each key once. -/
structure PutsI (ks : List ByteArray) (vs : List Int) (i : Nat) (l : List Nm) : Prop where
  srt : Srt l
  perm : l.Perm ((List.range i).map (ent ks vs))
theorem PutsI.none (ks : List ByteArray) (vs : List Int) : PutsI ks vs 0 [] := ⟨List.Pairwise.nil, List.Perm.refl _⟩
theorem PutsI.len {ks : List ByteArray} {vs : List Int} {i : Nat} {l : List Nm} (h : PutsI ks vs i l) : l.length = i := by rw [h.perm.length_eq]; simp
theorem PutsI.step {ks : List ByteArray} {vs : List Int} {i : Nat} {l : List Nm} {k : ByteArray} {v : Int} (h : PutsI ks vs i l) (hk : ks[i]? = some k) (hv : vs[i]? = some v) (hn : has k l = false) : PutsI ks vs (i + 1) (ins k v l) := by
  refine ⟨srt_ins h.srt k v, (ins_perm hn).trans ?_⟩
  rw [List.range_succ, List.map_append, List.map_singleton]
  have e : ent ks vs i = (k, v) := by unfold ent; rw [hk, hv]; rfl
  rw [e]
  exact (h.perm.cons _).trans (List.perm_append_singleton _ _).symm
theorem PutsI.twice {ks : List ByteArray} {vs : List Int} {i : Nat} {l : List Nm} {k : ByteArray} (h : PutsI ks vs i l) (hk : ks[i]? = some k) (hn : has k l = true) : ¬ ks.Nodup := by
  intro hd
  obtain ⟨v, hv⟩ := has_mem hn
  have hm := h.perm.mem_iff.1 (List.mem_of_getElem? hv)
  obtain ⟨j, hj, he⟩ := List.mem_map.1 hm
  have hji := List.mem_range.1 hj
  have hil := (List.getElem?_eq_some_iff.1 hk).1
  have hjl : j < ks.length := by omega
  have hk2 : ks[j]? = some k := by
    unfold ent at he
    simp only [Prod.mk.injEq] at he
    rw [List.getElem?_eq_getElem hjl, Option.getD_some] at he
    rw [List.getElem?_eq_getElem hjl, he.1]
  have := (List.getElem?_inj hjl hd).1 (by rw [hk, hk2] : ks[j]? = ks[i]?)
  omega
theorem PutsI.once {ks : List ByteArray} {vs : List Int} {l : List Nm} (h : PutsI ks vs ks.length l) : ks.Nodup := by
  have h1 : (l.map Prod.fst).Nodup := by
    rw [List.Nodup, List.pairwise_map]
    refine List.Pairwise.imp ?_ h.srt
    intro a b hab e
    rw [e, ord_B.refl] at hab
    exact absurd hab (by decide)
  have h2 : (l.map Prod.fst).Perm ks := by
    refine (h.perm.map Prod.fst).trans ?_
    rw [List.map_map]
    have : (List.range ks.length).map (Prod.fst ∘ ent ks vs) = ks := by
      apply List.ext_getElem
      · simp
      · intro j h1 h2
        simp only [List.getElem_map, List.getElem_range, Function.comp, ent]
        rw [List.getElem?_eq_getElem h2, Option.getD_some]
    rw [this]
  exact h2.nodup_iff.1 h1
/-- The map that Of makes tells the same list. -/
theorem PutsI.same {ks : List ByteArray} {vs : List Int} {l : List Nm} {t : T} {p : List Nat} (h : PutsI ks vs ks.length l) (hp : p.Perm (List.range ks.length)) (ht : t.list = p.map (ent ks vs)) (hs : Srt t.list) : t.list = l :=
  srt_same hs h.srt (by rw [ht]; exact (hp.map _).trans h.perm.symm)
end Go.Proofs.Ytleaaoknjflgoaa
