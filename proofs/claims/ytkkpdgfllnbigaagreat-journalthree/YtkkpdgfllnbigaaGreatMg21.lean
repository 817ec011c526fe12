/-
  RISING LISTS, AND TWO OF THEM RUN TOGETHER (for stage 9: plain, of no seat).
  Two rising lists of elements run together over a base: the document's way, plainly.
  The document's find 91; the laws' much 21.
-/
import Derived.Test.YtkkpdgfllnbigaaGreatMg19
import Derived.Test.YtkkpdgfllnbigaaGreatMg16
import Derived.Test.YtkkpdgfllnbigaaGreatMg12
import Derived.Test.YtkkpdgfllnbigaaGreatMg7
namespace Go.Proofs.YtkkpdgfllnbigaaGreat.Rise
/-- An order told by -1, 0, 1. -/
structure OrdS {σ : Type} (f : σ → σ → Int) : Prop where
  range : ∀ a b, f a b = -1 ∨ f a b = 0 ∨ f a b = 1
  anti : ∀ a b, f a b = - f b a
  eq : ∀ a b, f a b = 0 → a = b
  trans : ∀ a b c, f a b = -1 → f b c = -1 → f a c = -1
theorem OrdS.refl {σ : Type} {f : σ → σ → Int} (h : OrdS f) (a : σ) : f a a = 0 := by have := h.anti a a; omega
theorem OrdS.ne {σ : Type} {f : σ → σ → Int} (h : OrdS f) {a b : σ} (hl : f a b = -1) : a ≠ b := fun e => by rw [e, h.refl] at hl; omega
variable {α σ : Type} {f : σ → σ → Int} {st : α → σ}
/-- Each one's stamp is ahead of the next ones'. -/
def Up (f : σ → σ → Int) (st : α → σ) (l : List α) : Prop := l.Pairwise (fun x y => f (st x) (st y) = -1)
/-- Two rising lists with the same members are one. -/
theorem Up.same (o : OrdS f) : ∀ {l m : List α}, Up f st l → Up f st m → (∀ x, x ∈ l ↔ x ∈ m) → l = m
  | [], [], _, _, _ => rfl
  | [], y :: m, _, _, h => absurd ((h y).2 (List.mem_cons_self ..)) (by simp)
  | x :: l, [], _, _, h => absurd ((h x).1 (List.mem_cons_self ..)) (by simp)
  | x :: l, y :: m, hl, hm, h => by
    have hl' := List.pairwise_cons.1 hl
    have hm' := List.pairwise_cons.1 hm
    have hxy : x = y := by
      rcases List.mem_cons.1 ((h x).1 (List.mem_cons_self ..)) with e | e
      · exact e
      · rcases List.mem_cons.1 ((h y).2 (List.mem_cons_self ..)) with e' | e'
        · exact e'.symm
        · have h1 := hl'.1 y e'
          have h2 := hm'.1 x e
          have := o.anti (st x) (st y)
          omega
    subst hxy
    congr 1
    refine Up.same o hl'.2 hm'.2 (fun z => ⟨fun hz => ?_, fun hz => ?_⟩)
    · rcases List.mem_cons.1 ((h z).1 (List.mem_cons_of_mem _ hz)) with e | e
      · subst e; exact absurd rfl (o.ne (hl'.1 z hz))
      · exact e
    · rcases List.mem_cons.1 ((h z).2 (List.mem_cons_of_mem _ hz)) with e | e
      · subst e; exact absurd rfl (o.ne (hm'.1 z hz))
      · exact e
/-- The document's way: both lists are gone through side by side. -/
def run (f : σ → σ → Int) (st : α → σ) (inB inO : σ → Bool) : List α → List α → List α
  | [], [] => []
  | [], y :: b => (if inO (st y) then [] else [y]) ++ run f st inB inO [] b
  | x :: a, [] => (if inB (st x) || !inO (st x) then [x] else []) ++ run f st inB inO a []
  | x :: a, y :: b =>
    if f (st x) (st y) ≤ 0 then (if inB (st x) || !inO (st x) then [x] else []) ++ (if inB (st x) then run f st inB inO a b else run f st inB inO a (y :: b))
    else (if inO (st y) then [] else [y]) ++ run f st inB inO (x :: a) b
termination_by a b => a.length + b.length
/-- What stays. -/
def Stays (st : α → σ) (inB inO : σ → Bool) (a b : List α) (z : α) : Prop := (z ∈ a ∧ (inB (st z) || !inO (st z)) = true) ∨ (z ∈ b ∧ (∀ x ∈ a, st x ≠ st z) ∧ inO (st z) = false)
theorem mem_if {c : Bool} {x z : α} : z ∈ (if c = true then [x] else []) ↔ c = true ∧ z = x := by cases c <;> simp
theorem mem_if' {c : Bool} {x z : α} : z ∈ (if c = true then [] else [x]) ↔ c = false ∧ z = x := by cases c <;> simp
theorem up_app {c : Bool} {x : α} {l : List α} (hl : Up f st l) (hx : ∀ z ∈ l, f (st x) (st z) = -1) : Up f st ((if c = true then [x] else []) ++ l) ∧ Up f st ((if c = true then [] else [x]) ++ l) := by
  cases c
  · exact ⟨hl, List.pairwise_cons.2 ⟨hx, hl⟩⟩
  · exact ⟨List.pairwise_cons.2 ⟨hx, hl⟩, hl⟩
theorem run_says (o : OrdS f) (inB inO : σ → Bool) : ∀ (n : Nat) (a b : List α), a.length + b.length ≤ n → Up f st a → Up f st b → (∀ x ∈ a, inB (st x) = true ↔ ∃ y ∈ b, st y = st x) →
    Up f st (run f st inB inO a b) ∧ ∀ z, z ∈ run f st inB inO a b ↔ Stays st inB inO a b z := by
  intro n
  induction n with
  | zero =>
    intro a b hn _ _ _
    obtain ⟨rfl, rfl⟩ : a = [] ∧ b = [] := by constructor <;> (apply List.eq_nil_of_length_eq_zero; omega)
    exact ⟨by simp [run, Up], fun z => by simp [run, Stays]⟩
  | succ n ih =>
    intro a b hn ua ub hB
    match a, b with
    | [], [] => exact ⟨by simp [run, Up], fun z => by simp [run, Stays]⟩
    | [], y :: b =>
      have ub' := List.pairwise_cons.1 ub
      obtain ⟨i1, i2⟩ := ih [] b (by simp at hn ⊢; omega) ua ub'.2 (by simp)
      rw [run]
      refine ⟨(up_app i1 (fun z hz => ?_)).2, fun z => ?_⟩
      · rcases (i2 z).1 hz with h | h
        · simp at h
        · exact ub'.1 z h.1
      · rw [List.mem_append, mem_if', i2]
        simp only [Stays, List.not_mem_nil, false_and, false_or, List.mem_cons]
        constructor
        · rintro (⟨h, rfl⟩ | h)
          · exact ⟨.inl rfl, fun _ h => h.elim, h⟩
          · exact ⟨.inr h.1, fun _ h => h.elim, h.2.2⟩
        · rintro ⟨rfl | h, -, h2⟩
          · exact .inl ⟨h2, rfl⟩
          · exact .inr ⟨h, fun _ h => h.elim, h2⟩
    | x :: a, [] =>
      have ua' := List.pairwise_cons.1 ua
      obtain ⟨i1, i2⟩ := ih a [] (by simp at hn ⊢; omega) ua'.2 ub (fun z hz => hB z (List.mem_cons_of_mem _ hz))
      rw [run]
      refine ⟨(up_app i1 (fun z hz => ?_)).1, fun z => ?_⟩
      · rcases (i2 z).1 hz with h | h
        · exact ua'.1 z h.1
        · simp at h
      · rw [List.mem_append, mem_if, i2]
        simp only [Stays, List.not_mem_nil, false_and, or_false, List.mem_cons]
        constructor
        · rintro (⟨h, rfl⟩ | h)
          · exact ⟨.inl rfl, h⟩
          · exact ⟨.inr h.1, h.2⟩
        · rintro ⟨rfl | h, h2⟩
          · exact .inl ⟨h2, rfl⟩
          · exact .inr ⟨h, h2⟩
    | x :: a, y :: b =>
      have ua' := List.pairwise_cons.1 ua
      have ub' := List.pairwise_cons.1 ub
      rw [run]
      by_cases hc : f (st x) (st y) ≤ 0
      · rw [if_pos hc]
        by_cases hb : inB (st x) = true
        · -- both have it: it is y's
          rw [if_pos hb]
          obtain ⟨y', hy', he⟩ := (hB x (List.mem_cons_self ..)).1 hb
          have hyx : st y = st x := by
            rcases List.mem_cons.1 hy' with e | e
            · rw [← e]; exact he
            · have h1 := ub'.1 y' e
              rw [he] at h1
              have := o.anti (st x) (st y)
              omega
          have hB' : ∀ z ∈ a, inB (st z) = true ↔ ∃ y ∈ b, st y = st z := fun z hz => by
            rw [hB z (List.mem_cons_of_mem _ hz)]
            constructor
            · rintro ⟨w, hw, e⟩
              rcases List.mem_cons.1 hw with e' | e'
              · subst e'; exact absurd (hyx.symm.trans e) (o.ne (ua'.1 z hz))
              · exact ⟨w, e', e⟩
            · rintro ⟨w, hw, e⟩
              exact ⟨w, List.mem_cons_of_mem _ hw, e⟩
          obtain ⟨i1, i2⟩ := ih a b (by simp at hn ⊢; omega) ua'.2 ub'.2 hB'
          refine ⟨(up_app i1 (fun z hz => ?_)).1, fun z => ?_⟩
          · rcases (i2 z).1 hz with h | h
            · exact ua'.1 z h.1
            · rw [← hyx]; exact ub'.1 z h.1
          · rw [List.mem_append, mem_if, i2]
            simp only [Stays, List.mem_cons]
            constructor
            · rintro (⟨h, rfl⟩ | ⟨h1, h2⟩ | ⟨h1, h2, h3⟩)
              · exact .inl ⟨.inl rfl, h⟩
              · exact .inl ⟨.inr h1, h2⟩
              · refine .inr ⟨.inr h1, fun w hw => ?_, h3⟩
                rcases hw with rfl | hw
                · rw [← hyx]; exact o.ne (ub'.1 z h1)
                · exact h2 w hw
            · rintro (⟨rfl | h1, h2⟩ | ⟨rfl | h1, h2, h3⟩)
              · exact .inl ⟨h2, rfl⟩
              · exact .inr (.inl ⟨h1, h2⟩)
              · exact absurd hyx.symm (h2 x (.inl rfl))
              · exact .inr (.inr ⟨h1, fun w hw => h2 w (.inr hw), h3⟩)
        · rw [if_neg hb]
          have hlt : f (st x) (st y) = -1 := by
            rcases o.range (st x) (st y) with h | h | h
            · exact h
            · exact absurd ((hB x (List.mem_cons_self ..)).2 ⟨y, List.mem_cons_self .., (o.eq _ _ h).symm⟩) hb
            · omega
          obtain ⟨i1, i2⟩ := ih a (y :: b) (by simp at hn ⊢; omega) ua'.2 ub (fun z hz => hB z (List.mem_cons_of_mem _ hz))
          have hxb : ∀ z ∈ y :: b, f (st x) (st z) = -1 := fun z hz => by
            rcases List.mem_cons.1 hz with e | e
            · rw [e]; exact hlt
            · exact o.trans _ _ _ hlt (ub'.1 z e)
          refine ⟨(up_app i1 (fun z hz => ?_)).1, fun z => ?_⟩
          · rcases (i2 z).1 hz with h | h
            · exact ua'.1 z h.1
            · exact hxb z h.1
          · rw [List.mem_append, mem_if, i2]
            constructor
            · rintro (⟨h, rfl⟩ | ⟨h1, h2⟩ | ⟨h1, h2, h3⟩)
              · exact .inl ⟨List.mem_cons_self .., h⟩
              · exact .inl ⟨List.mem_cons_of_mem _ h1, h2⟩
              · refine .inr ⟨h1, fun w hw => ?_, h3⟩
                rcases List.mem_cons.1 hw with rfl | hw
                · exact o.ne (hxb z h1)
                · exact h2 w hw
            · rintro (⟨h1, h2⟩ | ⟨h1, h2, h3⟩)
              · rcases List.mem_cons.1 h1 with rfl | h1
                · exact .inl ⟨h2, rfl⟩
                · exact .inr (.inl ⟨h1, h2⟩)
              · exact .inr (.inr ⟨h1, fun w hw => h2 w (List.mem_cons_of_mem _ hw), h3⟩)
      · rw [if_neg hc]
        have hgt : f (st y) (st x) = -1 := by
          have := o.anti (st x) (st y)
          rcases o.range (st x) (st y) with h | h | h <;> omega
        have hyz : ∀ z ∈ x :: a, f (st y) (st z) = -1 := fun z hz => by
          rcases List.mem_cons.1 hz with e | e
          · rw [e]; exact hgt
          · exact o.trans _ _ _ hgt (ua'.1 z e)
        have hB' : ∀ z ∈ x :: a, inB (st z) = true ↔ ∃ y ∈ b, st y = st z := fun z hz => by
          rw [hB z hz]
          constructor
          · rintro ⟨w, hw, e⟩
            rcases List.mem_cons.1 hw with e' | e'
            · subst e'; exact absurd e (o.ne (hyz z hz))
            · exact ⟨w, e', e⟩
          · rintro ⟨w, hw, e⟩
            exact ⟨w, List.mem_cons_of_mem _ hw, e⟩
        obtain ⟨i1, i2⟩ := ih (x :: a) b (by simp at hn ⊢; omega) ua ub'.2 hB'
        refine ⟨(up_app i1 (fun z hz => ?_)).2, fun z => ?_⟩
        · rcases (i2 z).1 hz with h | h
          · exact hyz z h.1
          · exact ub'.1 z h.1
        · rw [List.mem_append, mem_if', i2]
          constructor
          · rintro (⟨h, rfl⟩ | ⟨h1, h2⟩ | ⟨h1, h2, h3⟩)
            · exact .inr ⟨List.mem_cons_self .., fun w hw => (o.ne (hyz w hw)).symm, h⟩
            · exact .inl ⟨h1, h2⟩
            · exact .inr ⟨List.mem_cons_of_mem _ h1, h2, h3⟩
          · rintro (⟨h1, h2⟩ | ⟨h1, h2, h3⟩)
            · exact .inr (.inl ⟨h1, h2⟩)
            · rcases List.mem_cons.1 h1 with rfl | h1
              · exact .inl ⟨h3, rfl⟩
              · exact .inr (.inr ⟨h1, h2, h3⟩)
/-- The program's way: those of one that stay, then those of the other, put in order: it comes to the same. -/
theorem run_is (o : OrdS f) {inB inO : σ → Bool} {a b l : List α} (ua : Up f st a) (ub : Up f st b) (hB : ∀ x ∈ a, inB (st x) = true ↔ ∃ y ∈ b, st y = st x) (ul : Up f st l) (hl : ∀ z, z ∈ l ↔ Stays st inB inO a b z) : run f st inB inO a b = l := by
  obtain ⟨h1, h2⟩ := run_says o inB inO _ a b (Nat.le_refl _) ua ub hB
  exact Up.same o h1 ul (fun z => (h2 z).trans (hl z).symm)
end Go.Proofs.YtkkpdgfllnbigaaGreat.Rise
namespace Go.Proofs.YtkkpdgfllnbigaaGreat
open Go.RowKit Go.Shelf
theorem ordS_T : Rise.OrdS cmpT := ⟨ord_T.range, ord_T.anti, ord_T.eq, ord_T.trans⟩
/-- Rising by stamps. -/
abbrev UpE (l : List El) : Prop := UpS l
theorem UpS.rise {l : List El} (h : UpS l) : ∀ (i j : Nat) (x y : El), i < j → l[i]? = some x → l[j]? = some y → cmpT x.1 y.1 = -1 := fun i j x y hij hx hy => by
  obtain ⟨hi, e1⟩ := List.getElem?_eq_some_iff.1 hx
  obtain ⟨hj, e2⟩ := List.getElem?_eq_some_iff.1 hy
  rw [← e1, ← e2]
  exact List.pairwise_iff_getElem.1 h i j hi hj hij
/-- Does a stamp stand in a list? -/
def standsB (s : St) (l : List El) : Bool := l.any fun y => decide (y.1 = s)
theorem standsB_iff (s : St) (l : List El) : standsB s l = true ↔ ∃ y ∈ l, y.1 = s := by
  unfold standsB; rw [List.any_eq_true]; simp
/-- Elements run together over a base. -/
def togL (base a b : List El) : List El := Rise.run cmpT Prod.fst (fun s => standsB s b) (fun s => standsB s base) a b
theorem if_len {c : Bool} {x : El} : (if c = true then [x] else []).length ≤ 1 ∧ (if c = true then [] else [x]).length ≤ 1 := by cases c <;> simp
theorem run_len (inB inO : St → Bool) : ∀ (n : Nat) (a b : List El), a.length + b.length ≤ n → (Rise.run cmpT Prod.fst inB inO a b).length ≤ a.length + b.length := by
  intro n
  induction n with
  | zero =>
    intro a b hn
    obtain ⟨rfl, rfl⟩ : a = [] ∧ b = [] := by constructor <;> (apply List.eq_nil_of_length_eq_zero; omega)
    simp [Rise.run]
  | succ n ih =>
    intro a b hn
    match a, b with
    | [], [] => simp [Rise.run]
    | [], y :: b =>
      rw [Rise.run, List.length_append]
      have h1 := ih [] b (by simp at hn ⊢; omega)
      have h2 := (if_len (c := inO y.1) (x := y)).2
      simp only [List.length_cons, List.length_nil] at h1 ⊢
      omega
    | x :: a, [] =>
      rw [Rise.run, List.length_append]
      have h1 := ih a [] (by simp at hn ⊢; omega)
      have h2 := (if_len (c := inB x.1 || !inO x.1) (x := x)).1
      simp only [List.length_cons, List.length_nil] at h1 ⊢
      omega
    | x :: a, y :: b =>
      rw [Rise.run]
      have i1 := ih a b (by simp at hn ⊢; omega)
      have i2 := ih a (y :: b) (by simp at hn ⊢; omega)
      have i3 := ih (x :: a) b (by simp at hn ⊢; omega)
      have h1 := (if_len (c := inB x.1 || !inO x.1) (x := x)).1
      have h2 := (if_len (c := inO y.1) (x := y)).2
      simp only [List.length_cons] at i2 i3 ⊢
      split
      · rw [List.length_append]
        by_cases hb : inB x.1 = true
        · rw [if_pos hb]; omega
        · rw [if_neg hb]; omega
      · rw [List.length_append]
        omega
theorem tog_len (base a b : List El) : (togL base a b).length ≤ a.length + b.length := run_len _ _ _ a b (Nat.le_refl _)
/-- What is left to be run together. -/
def togR (base b A B : List El) : List El := Rise.run cmpT Prod.fst (fun s => standsB s b) (fun s => standsB s base) A B
theorem togR_nil (base b : List El) : togR base b [] [] = [] := by unfold togR; rw [Rise.run]
theorem togR_a (base b A : List El) (x : El) : togR base b (x :: A) [] = (if (standsB x.1 b || !standsB x.1 base) = true then [x] else []) ++ togR base b A [] := by
  unfold togR; rw [Rise.run]
theorem togR_b (base b B : List El) (y : El) : togR base b [] (y :: B) = (if standsB y.1 base = true then [] else [y]) ++ togR base b [] B := by
  unfold togR; rw [Rise.run]
theorem togR_le (base b A B : List El) (x y : El) (h : cmpT x.1 y.1 ≤ 0) : togR base b (x :: A) (y :: B) = (if (standsB x.1 b || !standsB x.1 base) = true then [x] else []) ++ (if standsB x.1 b = true then togR base b A B else togR base b A (y :: B)) := by
  unfold togR; rw [Rise.run, if_pos h]
theorem togR_gt (base b A B : List El) (x y : El) (h : ¬ cmpT x.1 y.1 ≤ 0) : togR base b (x :: A) (y :: B) = (if standsB y.1 base = true then [] else [y]) ++ togR base b (x :: A) B := by
  unfold togR; rw [Rise.run, if_neg h]
theorem drop_at {l : List El} {i : Nat} {x : El} (h : l[i]? = some x) : l.drop i = x :: l.drop (i + 1) := by
  obtain ⟨hi, e⟩ := List.getElem?_eq_some_iff.1 h
  rw [List.drop_eq_getElem_cons hi, e]
/-- All that was passed of b is ahead of what is left of a. -/
def Past (a b : List El) (i k : Nat) : Prop := ∀ j y, j < k → b[j]? = some y → ∀ x ∈ a.drop i, cmpT y.1 x.1 = -1
theorem Past.start (a b : List El) : Past a b 0 0 := fun j y hj => by omega
theorem Past.left {a b : List El} {i k : Nat} (h : Past a b i k) : Past a b (i + 1) k := fun j y hj hy x hx => h j y hj hy x (by
  rw [← List.drop_drop] at hx
  exact List.mem_of_mem_drop hx)
theorem up_next {a : List El} (u : UpE a) {i : Nat} {x z : El} (h : a[i]? = some x) (hz : z ∈ a.drop (i + 1)) : cmpT x.1 z.1 = -1 := by
  obtain ⟨j, hj, e⟩ := List.getElem_of_mem hz
  rw [List.getElem_drop] at e
  have hl : i + 1 + j < a.length := by rw [List.length_drop] at hj; omega
  exact u.rise i (i + 1 + j) x z (by omega) h (by rw [List.getElem?_eq_getElem hl, e])
theorem Past.right {a b : List El} {i k : Nat} (h : Past a b i k) (ua : UpE a) {x y : El} (hx : a[i]? = some x) (hy : b[k]? = some y) (hg : ¬ cmpT x.1 y.1 ≤ 0) : Past a b i (k + 1) := fun j z hj hz u hu => by
  by_cases hjk : j = k
  · subst hjk
    rw [hy] at hz
    cases hz
    have hyx : cmpT y.1 x.1 = -1 := by
      have h1 := ordS_T.anti y.1 x.1
      have h2 := ordS_T.range y.1 x.1
      omega
    rw [drop_at hx] at hu
    rcases List.mem_cons.1 hu with rfl | hu
    · exact hyx
    · exact ordS_T.trans _ _ _ hyx (up_next ua hx hu)
  · exact h j z (by omega) hz u hu
theorem Past.end {a b : List El} {k : Nat} : Past a b a.length k := fun j y _ _ x hx => by
  rw [List.drop_length] at hx; cases hx
theorem Past.gone {a b : List El} {i k : Nat} (h : Past a b i k) {x : El} (hx : a[i]? = some x) {j : Nat} {y : El} (hj : j < k) (hy : b[j]? = some y) : y.1 ≠ x.1 := fun e => by
  have := h j y hj hy x (by rw [drop_at hx]; exact List.mem_cons_self)
  rw [e, ordS_T.refl] at this
  omega
theorem Past.none {a b : List El} {i : Nat} (h : Past a b i b.length) {x : El} (hx : a[i]? = some x) : standsB x.1 b = false := by
  rw [Bool.eq_false_iff, Ne, standsB_iff]
  rintro ⟨y, hy, e⟩
  obtain ⟨j, hj, e2⟩ := List.getElem_of_mem hy
  exact h.gone hx hj (by rw [List.getElem?_eq_getElem hj, e2]) e
theorem Past.same {a b : List El} {i k : Nat} (h : Past a b i k) (ub : UpE b) {x y : El} (hx : a[i]? = some x) (hy : b[k]? = some y) (hl : cmpT x.1 y.1 ≤ 0) (hs : standsB x.1 b = true) : y.1 = x.1 := by
  obtain ⟨z, hz, e⟩ := (standsB_iff _ _).1 hs
  obtain ⟨j, hj, e2⟩ := List.getElem_of_mem hz
  have hzj : b[j]? = some z := by rw [List.getElem?_eq_getElem hj, e2]
  by_cases hjk : j < k
  · exact absurd e (h.gone hx hjk hzj)
  by_cases hkj : j = k
  · subst hkj
    rw [hy] at hzj
    cases hzj
    exact e
  have := ub.rise k j y z (by omega) hy hzj
  rw [e] at this
  have h1 := ordS_T.anti y.1 x.1
  omega
theorem Past.both {a b : List El} {i k : Nat} (h : Past a b i k) (ua : UpE a) {x y : El} (hx : a[i]? = some x) (hy : b[k]? = some y) (e : y.1 = x.1) : Past a b (i + 1) (k + 1) := fun j z hj hz u hu => by
  by_cases hjk : j = k
  · subst hjk
    rw [hy] at hz
    cases hz
    rw [e]
    exact up_next ua hx hu
  · exact h.left j z (by omega) hz u hu
end Go.Proofs.YtkkpdgfllnbigaaGreat
namespace Go.Proofs.YtkkpdgfllnbigaaGreat
open Go.RowKit Go.Shelf
set_option linter.unusedSimpArgs false
attribute [local go_sem] Oper.semAt_some

/-- A stamp's place, or -1. -/
def FindE (w : World) (s : St) (l : List El) (e : Ending) (w' : World) : Prop := ∃ n : Int, e = .returned (.int .i64 n) ∧ (standsB s l = true → 0 ≤ n) ∧ (standsB s l = false → n < 0) ∧ Below w.heap.size w w'
set_option maxHeartbeats 4000000 in
set_option maxRecDepth 100000 in
theorem find_any {w : World} {ao : Option Addr} {c : Nat} {l : List El} (s : St) (h : Re w ao l) (hl : l.length ≤ 1000000) : Calls Tryz.prog 195 #[.slice ao l.length c, svT s] w (FindE w s l) := by
  obtain ⟨N, hN⟩ : ∃ N, N = l.length := ⟨_, rfl⟩
  rw [← hN] at hl ⊢
  have hne := fun y W => run_eq52' y s W
  have hst := standsB_iff s l
  obtain ⟨g, r, l0, n0, i0⟩ := s
  obtain ⟨w1, hw1⟩ : ∃ w1, w1 = w.alloc (.cells #[.int .i64 g, .int .i64 r, .string l0, .int .i64 n0, .int .i64 i0] 43) := ⟨_, rfl⟩
  have b1 : Below w.heap.size w w1 := by rw [hw1]; exact (Below.refl _ w).alloc (Nat.le_refl _) _
  have m1 := heap_alloc_new w (.cells #[.int .i64 g, .int .i64 r, .string l0, .int .i64 n0, .int .i64 i0] 43)
  rw [← hw1] at m1
  obtain ⟨Y, hY⟩ : ∃ Y, Y = w.heap.size := ⟨_, rfl⟩
  rw [← hY] at m1
  have hre := h.below b1
  have y0 : w1.cell? ⟨Y, 0, none⟩ = some (.int .i64 g) := (cell_of_row _ _ 0 _ 43 (0, 0) m1).trans rfl
  have y1 : w1.cell? ⟨Y, 1, none⟩ = some (.int .i64 r) := (cell_of_row _ _ 1 _ 43 (0, 0) m1).trans rfl
  have y2 : w1.cell? ⟨Y, 2, none⟩ = some (.string l0) := (cell_of_row _ _ 2 _ 43 (0, 0) m1).trans rfl
  have y3 : w1.cell? ⟨Y, 3, none⟩ = some (.int .i64 n0) := (cell_of_row _ _ 3 _ 43 (0, 0) m1).trans rfl
  have y4 : w1.cell? ⟨Y, 4, none⟩ = some (.int .i64 i0) := (cell_of_row _ _ 4 _ 43 (0, 0) m1).trans rfl
  have HC := hide (And.intro y0 (And.intro y1 (And.intro y2 (And.intro y3 (And.intro y4 hre)))))
  have HW := hide (And.intro hw1 (And.intro b1 (And.intro hY (And.intro hN hst))))
  clear h m1 b1 hre y0 y1 y2 y3 y4 hw1 hY hN hst
  go_enter Tryz.func195, Tryz.ntmps195
  go_upto_region 1 with fail
  obtain ⟨e1, -, e2, -, -⟩ := HW.out
  rw [← e1, ← e2]
  clear e1 e2
  go_wp2
  go_loopw [5] (fun iv wr => ∃ i : Nat, i ≤ N ∧ iv = .int .i64 i ∧ Hid (∀ j y, j < i → l[j]? = some y → y.1 ≠ (g, r, l0, n0, i0)) ∧ ∃ q, wr = w1.drewN q) (fun iv _ => N - (intOf iv).toNat)
  case atStart => exact ⟨0, by omega, rfl, hide (fun j y hj => by omega), 0, rfl⟩
  case round =>
    obtain ⟨i, hi, rfl, hrest, q, hwr⟩ := hrel
    have up : ∀ a v, w1.cell? a = some v → wr.cell? a = some v := fun a v hv => by rw [hwr]; exact hv
    have y0 := up _ _ HC.out.1
    have y1 := up _ _ HC.out.2.1
    have y2 := up _ _ HC.out.2.2.1
    have y3 := up _ _ HC.out.2.2.2.1
    have y4 := up _ _ HC.out.2.2.2.2.1
    have hlr : Re wr ao l := by rw [hwr]; exact ⟨HC.out.2.2.2.2.2.1, HC.out.2.2.2.2.2.2⟩
    have HWR := hide hwr
    clear hwr up
    by_cases h1 : i < N
    · have z1 : (i : Int) < (N : Int) := by omega
      have d1 : decide (i < N) = true := by simpa using h1
      obtain ⟨y, hy⟩ : ∃ y, l[i]? = some y := ⟨_, List.getElem?_eq_getElem (by rw [← HW.out.2.2.2.1]; exact h1)⟩
      obtain ⟨ab, off, rfl, q0, q1, q2, q3, q4, q5⟩ := hlr.cells hy
      have hne1 := fun W => hne y.1 W
      have HX := hide hy
      clear hy hlr hne
      by_cases hxy : y.1 = (g, r, l0, n0, i0)
      · have d2 : decide (y.1 = (g, r, l0, n0, i0)) = true := by simpa using hxy
        rw [d2] at hne1
        have HXY := hide hxy
        clear hxy d2
        obtain ⟨⟨g', r', l0', n0', i0'⟩, t0'⟩ := y
        dsimp only at q0 q1 q2 q3 q4 q5 hne1
        go_wp2
        go_quiet (fail)
        go_wp2
        go_ret
        refine ⟨_, rfl, fun _ => by omega, fun hs => ?_, ?_⟩
        · rw [HW.out.2.2.2.2.2 ⟨_, List.mem_of_getElem? HX.out, HXY.out⟩] at hs
          cases hs
        · rw [HWR.out]; exact below_drw (below_drw HW.out.2.1 _) _
      · have d2 : decide (y.1 = (g, r, l0, n0, i0)) = false := by simpa using hxy
        rw [d2] at hne1
        have HXY := hide hxy
        clear hxy d2
        obtain ⟨⟨g', r', l0', n0', i0'⟩, t0'⟩ := y
        dsimp only at q0 q1 q2 q3 q4 q5 hne1
        go_wp2
        go_quiet (fail)
        go_wp2
        go_roundw
        case rel =>
          refine ⟨i + 1, by omega, by go_num, hide (fun j z hj hz => ?_), _, by rw [HWR.out, World.drewN_drewN]⟩
          by_cases hji : j = i
          · subst hji
            rw [HX.out] at hz
            cases hz
            exact HXY.out
          · exact hrest.out j z (by omega) hz
        case measure => simp [intOf]; omega
    · obtain rfl : i = N := by omega
      have d1 : decide (i < i) = false := by simp
      go_wp2
      go_ret
      refine ⟨_, rfl, fun hs => ?_, fun _ => by omega, ?_⟩
      · obtain ⟨y, hm, e⟩ := HW.out.2.2.2.2.1 hs
        obtain ⟨j, hj, e2⟩ := List.getElem_of_mem hm
        exact absurd (by rw [e2]; exact e) (hrest.out j _ (by rw [HW.out.2.2.2.1]; exact hj) (List.getElem?_eq_getElem hj))
      · rw [HWR.out]; exact below_drw HW.out.2.1 _
end Go.Proofs.YtkkpdgfllnbigaaGreat
