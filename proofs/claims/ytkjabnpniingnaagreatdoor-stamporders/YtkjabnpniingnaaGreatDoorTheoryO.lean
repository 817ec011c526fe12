/-
  THEORYO: sorted and once, and insertion, are one; plainly.
-/
import Derived.Test.YtkjabnpniingnaaGreatDoorOnce
namespace Go.Proofs.YtkjabnpniingnaaGreatDoor
open Go.RowKit Go.Shelf Go.Sort
set_option linter.unusedSimpArgs false

/-- Strictly in order. -/
def SS (l : List Nm) : Prop := l.Pairwise (fun a b => cfN a b = -1)
theorem ss_eq : ∀ a b : List Nm, SS a → SS b → (∀ x, x ∈ a ↔ x ∈ b) → a = b
  | [], [], _, _, _ => rfl
  | [], y :: t, _, _, h => by have := (h y).2 (by simp); simp at this
  | x :: s, [], _, _, h => by have := (h x).1 (by simp); simp at this
  | x :: s, y :: t, ha, hb, h => by
    have a1 := List.pairwise_cons.1 ha
    have b1 := List.pairwise_cons.1 hb
    have hxy : x = y := by
      have h1 := (h x).1 (by simp)
      have h2 := (h y).2 (by simp)
      rcases List.mem_cons.1 h1 with e | h1
      · exact e
      · rcases List.mem_cons.1 h2 with e | h2
        · exact e.symm
        · have c1 := b1.1 x h1
          have c2 := a1.1 y h2
          have := ord_N.anti x y
          omega
    subst hxy
    have : s = t := ss_eq s t a1.2 b1.2 (fun z => by
      have hz := h z
      rw [List.mem_cons, List.mem_cons] at hz
      constructor
      · intro hs
        rcases hz.1 (.inr hs) with e | ht
        · subst e; have := a1.1 _ hs; rw [ord_N.refl] at this; omega
        · exact ht
      · intro ht
        rcases hz.2 (.inr ht) with e | hs
        · subst e; have := b1.1 _ ht; rw [ord_N.refl] at this; omega
        · exact hs)
    rw [this]
/-- In order, some perhaps more than once. -/
def WS (l : List Nm) : Prop := l.Pairwise (fun a b => cfN b a ≠ -1)
theorem once_mem : ∀ (l : List Nm) (p : Option Nm) (x : Nm), (x ∈ onceK p l → x ∈ l) ∧ (x ∈ l → x ∈ onceK p l ∨ p = some x)
  | [], p, x => by simp [onceK]
  | y :: t, p, x => by
    rw [onceK]
    split
    next h =>
      have := once_mem t p x
      refine ⟨fun hx => List.mem_cons_of_mem _ (this.1 hx), fun hx => ?_⟩
      rcases List.mem_cons.1 hx with e | hx
      · right; rw [e]; exact h
      · exact this.2 hx
    next h =>
      have := once_mem t (some y) x
      refine ⟨fun hx => ?_, fun hx => ?_⟩
      · rcases List.mem_cons.1 hx with e | hx
        · rw [e]; simp
        · exact List.mem_cons_of_mem _ (this.1 hx)
      · left
        rcases List.mem_cons.1 hx with e | hx
        · rw [e]; simp
        · rcases this.2 hx with h1 | h1
          · exact List.mem_cons_of_mem _ h1
          · injection h1 with h1; rw [h1]; simp
theorem once_ss : ∀ (l : List Nm) (p : Option Nm), WS l → (∀ q, p = some q → ∀ x ∈ l, cfN x q ≠ -1) → SS (onceK p l) ∧ (∀ q, p = some q → ∀ x ∈ onceK p l, cfN q x = -1)
  | [], p, _, _ => by simp [onceK, SS]
  | y :: t, p, hw, hp => by
    have h1 := List.pairwise_cons.1 hw
    rw [onceK]
    split
    next h => exact once_ss t p h1.2 (fun q hq x hx => hp q hq x (List.mem_cons_of_mem _ hx))
    next h =>
      have h2 := once_ss t (some y) h1.2 (fun q hq x hx => by injection hq with hq; subst hq; exact h1.1 x hx)
      have h3 := h2.2 y rfl
      refine ⟨List.pairwise_cons.2 ⟨h3, h2.1⟩, fun q hq x hx => ?_⟩
      have hy : cfN q y = -1 := by
        have g1 := hp q hq y (by simp)
        have g2 : cfN q y ≠ 0 := fun e => h (by rw [hq, ord_N.eq _ _ e])
        have := ord_N.anti y q
        have := ord_N.range q y
        omega
      rcases List.mem_cons.1 hx with e | hx
      · rw [e]; exact hy
      · exact ord_N.trans _ _ _ hy (h3 x hx)
theorem sort_ws (L : List Nm) : WS (sortN L) := by
  have h := List.pairwise_mergeSort (le := fun x y : Nm => !(ltOf cfN) y x) (fun a b c h1 h2 => by
    simp only [Bool.not_eq_true'] at h1 h2 ⊢
    exact swo_N.ntrans _ _ _ h2 h1) (fun a b => by
    have := ord_N.anti a b
    by_cases h : ltOf cfN b a = true
    · rw [h]
      rw [lt_iff] at h
      have : ltOf cfN a b = false := by rw [lt_no]; omega
      simp [this]
    · simp at h; simp [h]) L
  refine h.imp ?_
  intro a b hab
  simp only [Bool.not_eq_true'] at hab
  exact (lt_no _ _).1 hab
theorem once_sorted (L : List Nm) : SS (onceK none (sortN L)) ∧ ∀ x, x ∈ onceK none (sortN L) ↔ x ∈ L := by
  refine ⟨(once_ss _ none (sort_ws L) (by simp)).1, fun x => ?_⟩
  have h := once_mem (sortN L) none x
  have hp : x ∈ sortN L ↔ x ∈ L := List.Perm.mem_iff (List.mergeSort_perm L _)
  constructor
  · intro hx; exact hp.1 (h.1 hx)
  · intro hx
    rcases h.2 (hp.2 hx) with h1 | h1
    · exact h1
    · cases h1

/-- So many stand ahead of x. -/
def posN (x : Nm) : List Nm → Nat
  | [] => 0
  | y :: t => if cfN y x = -1 then posN x t + 1 else 0
theorem posN_le (x : Nm) : ∀ l, posN x l ≤ l.length
  | [] => Nat.le_refl _
  | y :: t => by rw [posN]; split <;> simp; exact posN_le x t
theorem posN_lt (x : Nm) : ∀ (l : List Nm) (k : Nat) (y : Nm), l[k]? = some y → k < posN x l → cfN y x = -1
  | [], k, y, h, _ => by simp at h
  | z :: t, 0, y, h, hk => by
    simp at h; subst h
    rw [posN] at hk
    split at hk
    · assumption
    · omega
  | z :: t, k + 1, y, h, hk => by
    rw [posN] at hk
    split at hk
    · exact posN_lt x t k y (by simpa using h) (by omega)
    · omega
theorem posN_at (x : Nm) : ∀ (l : List Nm) (y : Nm), l[posN x l]? = some y → cfN y x ≠ -1
  | [], y, h => by simp at h
  | z :: t, y, h => by
    rw [posN] at h
    split at h
    · exact posN_at x t y (by simpa using h)
    next hz => simp at h; subst h; exact hz
open Classical in
/-- x put where it belongs, if it is not there. -/
noncomputable def insN (x : Nm) (l : List Nm) : List Nm := if l[posN x l]? = some x then l else l.take (posN x l) ++ [x] ++ l.drop (posN x l)
theorem insN_there (x : Nm) (l : List Nm) (h : l[posN x l]? = some x) : insN x l = l := by unfold insN; rw [if_pos h]
theorem insN_new (x : Nm) (l : List Nm) (h : l[posN x l]? ≠ some x) : insN x l = l.take (posN x l) ++ [x] ++ l.drop (posN x l) := by unfold insN; rw [if_neg h]
theorem insN_len (x : Nm) (l : List Nm) : (insN x l).length ≤ l.length + 1 := by
  unfold insN
  split
  · omega
  · have := posN_le x l
    simp only [List.length_append, List.length_take, List.length_drop, List.length_singleton]; omega
theorem insN_mem (x : Nm) (l : List Nm) (z : Nm) : z ∈ insN x l ↔ z = x ∨ z ∈ l := by
  unfold insN
  split
  next h =>
    refine ⟨.inr, fun h1 => ?_⟩
    rcases h1 with e | h1
    · rw [e]; exact List.mem_of_getElem? h
    · exact h1
  next h =>
    have h2 : z ∈ l ↔ z ∈ l.take (posN x l) ∨ z ∈ l.drop (posN x l) := by rw [← List.mem_append, List.take_append_drop]
    rw [h2]
    simp only [List.mem_append, List.mem_singleton]
    constructor
    · rintro ((a | a) | a)
      · exact .inr (.inl a)
      · exact .inl a
      · exact .inr (.inr a)
    · rintro (a | a | a)
      · exact .inl (.inr a)
      · exact .inl (.inl a)
      · exact .inr a
theorem insN_cons (x y : Nm) (t : List Nm) : insN x (y :: t) = if cfN y x = -1 then y :: insN x t else if y = x then y :: t else x :: y :: t := by
  unfold insN
  by_cases h : cfN y x = -1
  · have hp : posN x (y :: t) = posN x t + 1 := by rw [posN, if_pos h]
    rw [hp, if_pos h]
    simp only [List.getElem?_cons_succ, List.take_succ_cons, List.drop_succ_cons, List.cons_append]
    split <;> simp_all
  · have hp : posN x (y :: t) = 0 := by rw [posN, if_neg h]
    rw [hp, if_neg h]
    simp
theorem insN_ss (x : Nm) : ∀ l : List Nm, SS l → SS (insN x l)
  | [], _ => by simp [insN, SS]
  | y :: t, h => by
    have h1 := List.pairwise_cons.1 h
    rw [insN_cons]
    split
    next hy =>
      refine List.pairwise_cons.2 ⟨fun z hz => ?_, insN_ss x t h1.2⟩
      rcases (insN_mem x t z).1 hz with e | hz
      · rw [e]; exact hy
      · exact h1.1 z hz
    next hy =>
      split
      · exact h
      next hn =>
        have hx : cfN x y = -1 := by
          have g2 : cfN y x ≠ 0 := fun e => hn (ord_N.eq _ _ e)
          have := ord_N.anti x y
          have := ord_N.range y x
          omega
        refine List.pairwise_cons.2 ⟨fun z hz => ?_, h⟩
        rcases List.mem_cons.1 hz with e | hz
        · rw [e]; exact hx
        · exact ord_N.trans _ _ _ hx (h1.1 z hz)
/-- All put, one behind the other. -/
noncomputable def insAll : List Nm → List Nm → List Nm
  | out, [] => out
  | out, x :: t => insAll (insN x out) t
theorem insAll_snoc : ∀ (l : List Nm) (out : List Nm) (x : Nm), insAll out (l ++ [x]) = insN x (insAll out l)
  | [], _, _ => rfl
  | y :: t, out, x => insAll_snoc t (insN y out) x
theorem insAll_ok : ∀ (l out : List Nm), SS out → SS (insAll out l) ∧ ∀ z, z ∈ insAll out l ↔ z ∈ out ∨ z ∈ l
  | [], out, h => ⟨h, by simp [insAll]⟩
  | x :: t, out, h => by
    have := insAll_ok t (insN x out) (insN_ss x out h)
    refine ⟨this.1, fun z => ?_⟩
    rw [insAll, this.2 z, insN_mem, List.mem_cons]
    constructor
    · rintro ((a | a) | a)
      · exact .inr (.inl a)
      · exact .inl a
      · exact .inr (.inr a)
    · rintro (a | a | a)
      · exact .inl (.inr a)
      · exact .inl (.inl a)
      · exact .inr a
theorem insAll_len : ∀ (l out : List Nm), (insAll out l).length ≤ out.length + l.length
  | [], out => by simp [insAll]
  | x :: t, out => by
    have h1 := insAll_len t (insN x out)
    have h2 := insN_len x out
    rw [insAll, List.length_cons]; omega
theorem sorted_is (L : List Nm) : insAll [] L = onceK none (sortN L) := by
  have h1 := insAll_ok L [] (by simp [SS])
  have h2 := once_sorted L
  exact ss_eq _ _ h1.1 h2.1 (fun x => by rw [h1.2 x, h2.2 x]; simp)
end Go.Proofs.YtkjabnpniingnaaGreatDoor
