/-
  register: what the reference says of a map (ref12.Map 41), Three where it refuses (45), going over nothing (48).
  register: going over a map that may not be tells nothing (goes 48).
  What Put does to a list: order, members, length; what Get finds.
-/
import Derived.Test.YtkeldhohilmdcaaGreatReg9
import Derived.Test.YtkeldhohilmdcaaGreatRefOK
namespace Go.Proofs.YtkeldhohilmdcaaGreat
open Go.RowKit Go.Shelf
set_option linter.unusedSimpArgs false
attribute [local go_sem] Oper.semAt_some

/-- Three, where one of the maps may not be. -/
theorem mayP {w : World} {t : Pm.T} {p : Option Addr} (h : Mg w t) (hp : t.ptr = .pointer p) : ∀ W, Below w.heap.size w W → Calls Tryz.prog 46 #[.agg #[.pointer p]] W fun e w' => e = .returned (.bool (mayL t.list)) ∧ Below W.heap.size W w' := fun W hW => by
  have := (h.below hW).may
  unfold Pm.mv at this
  rw [hp] at this
  exact this
end Go.Proofs.YtkeldhohilmdcaaGreat
namespace Go.Proofs.YtkeldhohilmdcaaGreat
open Go.RowKit Go.Shelf
set_option linter.unusedSimpArgs false
attribute [local go_sem] Oper.semAt_some

end Go.Proofs.YtkeldhohilmdcaaGreat
namespace Go.Proofs.YtkeldhohilmdcaaGreat.Pm
open Go.RowKit Go.Shelf
set_option linter.unusedSimpArgs false

theorem ins_lessP {x : (ByteArray × ByteArray)} {k : ByteArray} {v : ByteArray} {l : List (ByteArray × ByteArray)} (h : cmpB x.1 k = -1) : ins k v (x :: l) = x :: ins k v l := by
  have hp : pos k (x :: l) = pos k l + 1 := by simp [pos, h]
  have hh : has k (x :: l) = has k l := by unfold has; rw [hp]; simp
  unfold ins
  rw [hp, hh]
  split <;> simp
theorem ins_memP {k : ByteArray} {v : ByteArray} {l : List (ByteArray × ByteArray)} {y : (ByteArray × ByteArray)} (h : y ∈ ins k v l) : y = (k, v) ∨ y ∈ l := by
  unfold ins at h
  rcases List.mem_append.1 h with h | h
  · exact .inr (List.mem_of_mem_take h)
  · rcases List.mem_cons.1 h with h | h
    · exact .inl h
    · exact .inr (List.mem_of_mem_drop h)
theorem srt_insP {l : List (ByteArray × ByteArray)} (h : Srt l) (k : ByteArray) (v : ByteArray) : Srt (ins k v l) := by
  induction l with
  | nil => simp [ins, pos, has, Srt]
  | cons x l ih =>
    obtain ⟨h1, h2⟩ := List.pairwise_cons.1 h
    by_cases hc : cmpB x.1 k = -1
    · rw [ins_lessP hc]
      refine List.Pairwise.cons (fun y hy => ?_) (ih h2)
      rcases ins_memP hy with rfl | hy
      · exact hc
      · exact h1 y hy
    · have hp : pos k (x :: l) = 0 := by simp [pos, hc]
      have hh : has k (x :: l) = decide (x.1 = k) := by unfold has; rw [hp]; rfl
      unfold ins
      rw [hp, hh]
      by_cases he : x.1 = k
      · simp only [he, decide_true, if_true, List.take_zero, List.nil_append, Nat.zero_add, List.drop_succ_cons, List.drop_zero]
        exact List.Pairwise.cons (fun y hy => by have := h1 y hy; rw [he] at this; exact this) h2
      · simp only [he, decide_false, Bool.false_eq_true, if_false, List.take_zero, List.nil_append, List.drop_zero]
        have hk : cmpB k x.1 = -1 := by
          have h3 := ord_B.range x.1 k
          have h4 := ord_B.anti k x.1
          rcases h3 with h3 | h3 | h3
          · exact (hc h3).elim
          · exact (he (ord_B.eq _ _ h3)).elim
          · have := ord_B.anti x.1 k; omega
        refine List.Pairwise.cons (fun y hy => ?_) h
        rcases List.mem_cons.1 hy with rfl | hy
        · exact hk
        · exact ord_B.trans _ _ _ hk (h1 y hy)
theorem mem_ins {l : List (ByteArray × ByteArray)} (h : Srt l) (k v : ByteArray) (x : ByteArray × ByteArray) : x ∈ ins k v l ↔ x = (k, v) ∨ (x ∈ l ∧ x.1 ≠ k) := by
  induction l with
  | nil => simp [ins, pos, has]
  | cons y l ih =>
    obtain ⟨h1, h2⟩ := List.pairwise_cons.1 h
    by_cases hc : cmpB y.1 k = -1
    · rw [ins_lessP hc, List.mem_cons, List.mem_cons, ih h2]
      have hy := cmp_ne hc
      constructor
      · rintro (rfl | rfl | ⟨h3, h4⟩)
        · exact .inr ⟨.inl rfl, hy⟩
        · exact .inl rfl
        · exact .inr ⟨.inr h3, h4⟩
      · rintro (rfl | ⟨rfl | h3, h4⟩)
        · exact .inr (.inl rfl)
        · exact .inl rfl
        · exact .inr (.inr ⟨h3, h4⟩)
    · have hp : pos k (y :: l) = 0 := by simp [pos, hc]
      have hh : has k (y :: l) = decide (y.1 = k) := by unfold has; rw [hp]; rfl
      unfold ins
      rw [hp, hh]
      by_cases he : y.1 = k
      · simp only [he, decide_true, if_true, List.take_zero, List.nil_append, Nat.zero_add, List.drop_succ_cons, List.drop_zero, List.mem_cons]
        constructor
        · rintro (h3 | h3)
          · exact .inl h3
          · exact .inr ⟨.inr h3, fun e => by have := h1 x h3; rw [he, e, ord_B.refl] at this; exact absurd this (by decide)⟩
        · rintro (h3 | ⟨rfl | h3, h4⟩)
          · exact .inl h3
          · exact (h4 he).elim
          · exact .inr h3
      · simp only [he, decide_false, Bool.false_eq_true, if_false, List.take_zero, List.nil_append, List.drop_zero, List.mem_cons]
        have hk : cmpB k y.1 = -1 := by
          rcases cmp_three y.1 k with e | e | e
          · exact (hc e).elim
          · exact (he e).elim
          · exact e
        constructor
        · rintro (h3 | h3)
          · exact .inl h3
          · refine .inr ⟨h3, fun e => ?_⟩
            rcases h3 with rfl | h3
            · exact he e
            · have := ord_B.trans _ _ _ hk (h1 x h3)
              rw [e, ord_B.refl] at this
              exact absurd this (by decide)
        · rintro (h3 | ⟨h3, -⟩)
          · exact .inl h3
          · exact .inr h3
theorem ins_len (k v : ByteArray) (l : List (ByteArray × ByteArray)) : (ins k v l).length ≤ l.length + 1 := by
  unfold ins
  simp only [List.length_append, List.length_take, List.length_cons, List.length_drop]
  have := pos_le k l
  split <;> omega
theorem sub_mem : ∀ {t : T} {k v : ByteArray}, (k, v) ∈ t.list → ∃ p l r, Sub (.node p k v l r) t
  | .nil, k, v, h => by simp [T.list] at h
  | .node p k' v' l r, k, v, h => by
    simp only [T.list, List.mem_append, List.mem_cons] at h
    rcases h with h | h | h
    · obtain ⟨p1, l1, r1, hs⟩ := sub_mem h
      exact ⟨p1, l1, r1, .left hs⟩
    · cases h
      exact ⟨p, l, r, .here⟩
    · obtain ⟨p1, l1, r1, hs⟩ := sub_mem h
      exact ⟨p1, l1, r1, .right hs⟩
theorem find_val {t : T} (hs : Srt t.list) {k v : ByteArray} (h : (k, v) ∈ t.list) : (t.find k).val = v := by
  obtain ⟨p, l, r, hh⟩ := sub_mem h
  rw [T.find_sub hh hs]; rfl
end Go.Proofs.YtkeldhohilmdcaaGreat.Pm
namespace Go.Proofs.YtkeldhohilmdcaaGreat
open Go.RowKit Go.Shelf
/-- The map has just these keys. -/
def KeysOf (t : Pm.T) (l : List Kv) : Prop := ∀ k, (∃ v, (k, v) ∈ t.list) ↔ k ∈ l.map Prod.fst
theorem KeysOf.may {t : Pm.T} {l : List Kv} (h : KeysOf t l) (hs : Pm.Srt t.list) : mayL (l.map fun x => (x.1, (t.find x.1).val)) = mayL t.list := by
  unfold mayL
  rw [Bool.eq_iff_iff, List.all_eq_true, List.all_eq_true]
  constructor
  · rintro hh ⟨k, v⟩ hx
    have hk := (h k).1 ⟨v, hx⟩
    obtain ⟨y, hy, rfl⟩ := List.mem_map.1 hk
    have := hh (y.1, (t.find y.1).val) (List.mem_map.2 ⟨y, hy, rfl⟩)
    rwa [Pm.find_val hs hx] at this
  · rintro hh x hx
    obtain ⟨y, hy, rfl⟩ := List.mem_map.1 hx
    obtain ⟨v, hv⟩ := (h y.1).2 (List.mem_map.2 ⟨y, hy, rfl⟩)
    rw [Pm.find_val hs hv]
    exact hh _ hv
/-- One Put more. -/
theorem Mg.put {w w' : World} {t t' : Pm.T} {k v : ByteArray} (h : Mg w t) (hp : Pm.Puts w.heap.size k v t t') (hi : Pm.In w' t') (hn : t.n < 400) (hk : k.size ≤ 9223372036854775807) : Mg w' t' := by
  have hl := hp.list h.srt
  refine ⟨hi, ?_, (hp.says h.srt h.bal h.inn.underP).bal, ?_, ?_⟩
  · rw [hl]; exact Pm.srt_insP h.srt k v
  · rw [← Pm.T.n_eq, hl]
    have := Pm.ins_len k v t.list
    rw [Pm.T.n_eq] at this
    omega
  · intro x hx
    rw [hl, Pm.mem_ins h.srt] at hx
    rcases hx with rfl | ⟨hx, -⟩
    · exact hk
    · exact h.key x hx
theorem KeysOf.put {w : World} {t t' : Pm.T} {l : List Kv} {k v : ByteArray} {B : Nat} (h : KeysOf t l) (hm : Mg w t) (hp : Pm.Puts B k v t t') : KeysOf t' (l ++ [(k, v)]) := fun j => by
  rw [hp.list hm.srt, List.map_append, List.mem_append, List.map_singleton, List.mem_singleton, ← h j]
  constructor
  · rintro ⟨u, hu⟩
    rw [Pm.mem_ins hm.srt] at hu
    rcases hu with hu | ⟨hu, -⟩
    · cases hu; exact .inr rfl
    · exact .inl ⟨u, hu⟩
  · rintro (⟨u, hu⟩ | rfl)
    · by_cases e : j = k
      · exact ⟨v, (Pm.mem_ins hm.srt _ _ _).2 (.inl (by rw [e]))⟩
      · exact ⟨u, (Pm.mem_ins hm.srt _ _ _).2 (.inr ⟨hu, e⟩)⟩
    · exact ⟨v, (Pm.mem_ins hm.srt _ _ _).2 (.inl rfl)⟩
end Go.Proofs.YtkeldhohilmdcaaGreat
