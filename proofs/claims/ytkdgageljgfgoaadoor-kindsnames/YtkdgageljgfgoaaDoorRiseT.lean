/-
  RISING LISTS, AND TWO OF THEM RUN TOGETHER (for stage 9: plain, of no seat).
-/
namespace Go.Proofs.YtkdgageljgfgoaaDoor.Rise
/-- An order told by -1, 0, 1. -/
structure OrdS {σ : Type} (f : σ → σ → Int) : Prop where
  range : ∀ a b, f a b = -1 ∨ f a b = 0 ∨ f a b = 1
  anti : ∀ a b, f a b = - f b a
  eq : ∀ a b, f a b = 0 → a = b
  trans : ∀ a b c, f a b = -1 → f b c = -1 → f a c = -1
theorem OrdS.refl {σ : Type} {f : σ → σ → Int} (h : OrdS f) (a : σ) : f a a = 0 := by have := h.anti a a; omega
theorem OrdS.ne {σ : Type} {f : σ → σ → Int} (h : OrdS f) {a b : σ} (hl : f a b = -1) : a ≠ b := fun e => by rw [e, h.refl] at hl; omega
variable {α σ : Type} {f : σ → σ → Int} {st : α → σ}
/-- Each one's stamp is ahead of the next ones'. -/
def Up (f : σ → σ → Int) (st : α → σ) (l : List α) : Prop := l.Pairwise (fun x y => f (st x) (st y) = -1)
/-- Two rising lists with the same members are one. -/
theorem Up.same (o : OrdS f) : ∀ {l m : List α}, Up f st l → Up f st m → (∀ x, x ∈ l ↔ x ∈ m) → l = m
  | [], [], _, _, _ => rfl
  | [], y :: m, _, _, h => absurd ((h y).2 (List.mem_cons_self ..)) (by simp)
  | x :: l, [], _, _, h => absurd ((h x).1 (List.mem_cons_self ..)) (by simp)
  | x :: l, y :: m, hl, hm, h => by
    have hl' := List.pairwise_cons.1 hl
    have hm' := List.pairwise_cons.1 hm
    have hxy : x = y := by
      rcases List.mem_cons.1 ((h x).1 (List.mem_cons_self ..)) with e | e
      · exact e
      · rcases List.mem_cons.1 ((h y).2 (List.mem_cons_self ..)) with e' | e'
        · exact e'.symm
        · have h1 := hl'.1 y e'
          have h2 := hm'.1 x e
          have := o.anti (st x) (st y)
          omega
    subst hxy
    congr 1
    refine Up.same o hl'.2 hm'.2 (fun z => ⟨fun hz => ?_, fun hz => ?_⟩)
    · rcases List.mem_cons.1 ((h z).1 (List.mem_cons_of_mem _ hz)) with e | e
      · subst e; exact absurd rfl (o.ne (hl'.1 z hz))
      · exact e
    · rcases List.mem_cons.1 ((h z).2 (List.mem_cons_of_mem _ hz)) with e | e
      · subst e; exact absurd rfl (o.ne (hm'.1 z hz))
      · exact e
/-- The document's way: both lists are gone through side by side. -/
def run (f : σ → σ → Int) (st : α → σ) (inB inO : σ → Bool) : List α → List α → List α
  | [], [] => []
  | [], y :: b => (if inO (st y) then [] else [y]) ++ run f st inB inO [] b
  | x :: a, [] => (if inB (st x) || !inO (st x) then [x] else []) ++ run f st inB inO a []
  | x :: a, y :: b =>
    if f (st x) (st y) ≤ 0 then (if inB (st x) || !inO (st x) then [x] else []) ++ (if inB (st x) then run f st inB inO a b else run f st inB inO a (y :: b))
    else (if inO (st y) then [] else [y]) ++ run f st inB inO (x :: a) b
termination_by a b => a.length + b.length
/-- What stays. -/
def Stays (st : α → σ) (inB inO : σ → Bool) (a b : List α) (z : α) : Prop := (z ∈ a ∧ (inB (st z) || !inO (st z)) = true) ∨ (z ∈ b ∧ (∀ x ∈ a, st x ≠ st z) ∧ inO (st z) = false)
theorem mem_if {c : Bool} {x z : α} : z ∈ (if c = true then [x] else []) ↔ c = true ∧ z = x := by cases c <;> simp
theorem mem_if' {c : Bool} {x z : α} : z ∈ (if c = true then [] else [x]) ↔ c = false ∧ z = x := by cases c <;> simp
theorem up_app {c : Bool} {x : α} {l : List α} (hl : Up f st l) (hx : ∀ z ∈ l, f (st x) (st z) = -1) : Up f st ((if c = true then [x] else []) ++ l) ∧ Up f st ((if c = true then [] else [x]) ++ l) := by
  cases c
  · exact ⟨hl, List.pairwise_cons.2 ⟨hx, hl⟩⟩
  · exact ⟨List.pairwise_cons.2 ⟨hx, hl⟩, hl⟩
theorem run_says (o : OrdS f) (inB inO : σ → Bool) : ∀ (n : Nat) (a b : List α), a.length + b.length ≤ n → Up f st a → Up f st b → (∀ x ∈ a, inB (st x) = true ↔ ∃ y ∈ b, st y = st x) →
    Up f st (run f st inB inO a b) ∧ ∀ z, z ∈ run f st inB inO a b ↔ Stays st inB inO a b z := by
  intro n
  induction n with
  | zero =>
    intro a b hn _ _ _
    obtain ⟨rfl, rfl⟩ : a = [] ∧ b = [] := by constructor <;> (apply List.eq_nil_of_length_eq_zero; omega)
    exact ⟨by simp [run, Up], fun z => by simp [run, Stays]⟩
  | succ n ih =>
    intro a b hn ua ub hB
    match a, b with
    | [], [] => exact ⟨by simp [run, Up], fun z => by simp [run, Stays]⟩
    | [], y :: b =>
      have ub' := List.pairwise_cons.1 ub
      obtain ⟨i1, i2⟩ := ih [] b (by simp at hn ⊢; omega) ua ub'.2 (by simp)
      rw [run]
      refine ⟨(up_app i1 (fun z hz => ?_)).2, fun z => ?_⟩
      · rcases (i2 z).1 hz with h | h
        · simp at h
        · exact ub'.1 z h.1
      · rw [List.mem_append, mem_if', i2]
        simp only [Stays, List.not_mem_nil, false_and, false_or, List.mem_cons]
        constructor
        · rintro (⟨h, rfl⟩ | h)
          · exact ⟨.inl rfl, fun _ h => h.elim, h⟩
          · exact ⟨.inr h.1, fun _ h => h.elim, h.2.2⟩
        · rintro ⟨rfl | h, -, h2⟩
          · exact .inl ⟨h2, rfl⟩
          · exact .inr ⟨h, fun _ h => h.elim, h2⟩
    | x :: a, [] =>
      have ua' := List.pairwise_cons.1 ua
      obtain ⟨i1, i2⟩ := ih a [] (by simp at hn ⊢; omega) ua'.2 ub (fun z hz => hB z (List.mem_cons_of_mem _ hz))
      rw [run]
      refine ⟨(up_app i1 (fun z hz => ?_)).1, fun z => ?_⟩
      · rcases (i2 z).1 hz with h | h
        · exact ua'.1 z h.1
        · simp at h
      · rw [List.mem_append, mem_if, i2]
        simp only [Stays, List.not_mem_nil, false_and, or_false, List.mem_cons]
        constructor
        · rintro (⟨h, rfl⟩ | h)
          · exact ⟨.inl rfl, h⟩
          · exact ⟨.inr h.1, h.2⟩
        · rintro ⟨rfl | h, h2⟩
          · exact .inl ⟨h2, rfl⟩
          · exact .inr ⟨h, h2⟩
    | x :: a, y :: b =>
      have ua' := List.pairwise_cons.1 ua
      have ub' := List.pairwise_cons.1 ub
      rw [run]
      by_cases hc : f (st x) (st y) ≤ 0
      · rw [if_pos hc]
        by_cases hb : inB (st x) = true
        · -- both have it: it is y's
          rw [if_pos hb]
          obtain ⟨y', hy', he⟩ := (hB x (List.mem_cons_self ..)).1 hb
          have hyx : st y = st x := by
            rcases List.mem_cons.1 hy' with e | e
            · rw [← e]; exact he
            · have h1 := ub'.1 y' e
              rw [he] at h1
              have := o.anti (st x) (st y)
              omega
          have hB' : ∀ z ∈ a, inB (st z) = true ↔ ∃ y ∈ b, st y = st z := fun z hz => by
            rw [hB z (List.mem_cons_of_mem _ hz)]
            constructor
            · rintro ⟨w, hw, e⟩
              rcases List.mem_cons.1 hw with e' | e'
              · subst e'; exact absurd (hyx.symm.trans e) (o.ne (ua'.1 z hz))
              · exact ⟨w, e', e⟩
            · rintro ⟨w, hw, e⟩
              exact ⟨w, List.mem_cons_of_mem _ hw, e⟩
          obtain ⟨i1, i2⟩ := ih a b (by simp at hn ⊢; omega) ua'.2 ub'.2 hB'
          refine ⟨(up_app i1 (fun z hz => ?_)).1, fun z => ?_⟩
          · rcases (i2 z).1 hz with h | h
            · exact ua'.1 z h.1
            · rw [← hyx]; exact ub'.1 z h.1
          · rw [List.mem_append, mem_if, i2]
            simp only [Stays, List.mem_cons]
            constructor
            · rintro (⟨h, rfl⟩ | ⟨h1, h2⟩ | ⟨h1, h2, h3⟩)
              · exact .inl ⟨.inl rfl, h⟩
              · exact .inl ⟨.inr h1, h2⟩
              · refine .inr ⟨.inr h1, fun w hw => ?_, h3⟩
                rcases hw with rfl | hw
                · rw [← hyx]; exact o.ne (ub'.1 z h1)
                · exact h2 w hw
            · rintro (⟨rfl | h1, h2⟩ | ⟨rfl | h1, h2, h3⟩)
              · exact .inl ⟨h2, rfl⟩
              · exact .inr (.inl ⟨h1, h2⟩)
              · exact absurd hyx.symm (h2 x (.inl rfl))
              · exact .inr (.inr ⟨h1, fun w hw => h2 w (.inr hw), h3⟩)
        · rw [if_neg hb]
          have hlt : f (st x) (st y) = -1 := by
            rcases o.range (st x) (st y) with h | h | h
            · exact h
            · exact absurd ((hB x (List.mem_cons_self ..)).2 ⟨y, List.mem_cons_self .., (o.eq _ _ h).symm⟩) hb
            · omega
          obtain ⟨i1, i2⟩ := ih a (y :: b) (by simp at hn ⊢; omega) ua'.2 ub (fun z hz => hB z (List.mem_cons_of_mem _ hz))
          have hxb : ∀ z ∈ y :: b, f (st x) (st z) = -1 := fun z hz => by
            rcases List.mem_cons.1 hz with e | e
            · rw [e]; exact hlt
            · exact o.trans _ _ _ hlt (ub'.1 z e)
          refine ⟨(up_app i1 (fun z hz => ?_)).1, fun z => ?_⟩
          · rcases (i2 z).1 hz with h | h
            · exact ua'.1 z h.1
            · exact hxb z h.1
          · rw [List.mem_append, mem_if, i2]
            constructor
            · rintro (⟨h, rfl⟩ | ⟨h1, h2⟩ | ⟨h1, h2, h3⟩)
              · exact .inl ⟨List.mem_cons_self .., h⟩
              · exact .inl ⟨List.mem_cons_of_mem _ h1, h2⟩
              · refine .inr ⟨h1, fun w hw => ?_, h3⟩
                rcases List.mem_cons.1 hw with rfl | hw
                · exact o.ne (hxb z h1)
                · exact h2 w hw
            · rintro (⟨h1, h2⟩ | ⟨h1, h2, h3⟩)
              · rcases List.mem_cons.1 h1 with rfl | h1
                · exact .inl ⟨h2, rfl⟩
                · exact .inr (.inl ⟨h1, h2⟩)
              · exact .inr (.inr ⟨h1, fun w hw => h2 w (List.mem_cons_of_mem _ hw), h3⟩)
      · rw [if_neg hc]
        have hgt : f (st y) (st x) = -1 := by
          have := o.anti (st x) (st y)
          rcases o.range (st x) (st y) with h | h | h <;> omega
        have hyz : ∀ z ∈ x :: a, f (st y) (st z) = -1 := fun z hz => by
          rcases List.mem_cons.1 hz with e | e
          · rw [e]; exact hgt
          · exact o.trans _ _ _ hgt (ua'.1 z e)
        have hB' : ∀ z ∈ x :: a, inB (st z) = true ↔ ∃ y ∈ b, st y = st z := fun z hz => by
          rw [hB z hz]
          constructor
          · rintro ⟨w, hw, e⟩
            rcases List.mem_cons.1 hw with e' | e'
            · subst e'; exact absurd e (o.ne (hyz z hz))
            · exact ⟨w, e', e⟩
          · rintro ⟨w, hw, e⟩
            exact ⟨w, List.mem_cons_of_mem _ hw, e⟩
        obtain ⟨i1, i2⟩ := ih (x :: a) b (by simp at hn ⊢; omega) ua ub'.2 hB'
        refine ⟨(up_app i1 (fun z hz => ?_)).2, fun z => ?_⟩
        · rcases (i2 z).1 hz with h | h
          · exact hyz z h.1
          · exact ub'.1 z h.1
        · rw [List.mem_append, mem_if', i2]
          constructor
          · rintro (⟨h, rfl⟩ | ⟨h1, h2⟩ | ⟨h1, h2, h3⟩)
            · exact .inr ⟨List.mem_cons_self .., fun w hw => (o.ne (hyz w hw)).symm, h⟩
            · exact .inl ⟨h1, h2⟩
            · exact .inr ⟨List.mem_cons_of_mem _ h1, h2, h3⟩
          · rintro (⟨h1, h2⟩ | ⟨h1, h2, h3⟩)
            · exact .inr (.inl ⟨h1, h2⟩)
            · rcases List.mem_cons.1 h1 with rfl | h1
              · exact .inl ⟨h3, rfl⟩
              · exact .inr (.inr ⟨h1, h2, h3⟩)
/-- The program's way: those of one that stay, then those of the other, put in order: it comes to the same. -/
theorem run_is (o : OrdS f) {inB inO : σ → Bool} {a b l : List α} (ua : Up f st a) (ub : Up f st b) (hB : ∀ x ∈ a, inB (st x) = true ↔ ∃ y ∈ b, st y = st x) (ul : Up f st l) (hl : ∀ z, z ∈ l ↔ Stays st inB inO a b z) : run f st inB inO a b = l := by
  obtain ⟨h1, h2⟩ := run_says o inB inO _ a b (Nat.le_refl _) ua ub hB
  exact Up.same o h1 ul (fun z => (h2 z).trans (hl z).symm)
/-- The document's list of texts: each is put at its place, once. -/
def insU (f : σ → σ → Int) (t : σ) : List σ → List σ
  | [] => [t]
  | y :: l => if f y t = -1 then y :: insU f t l else if f y t = 0 then y :: l else t :: y :: l
theorem insU_says (o : OrdS f) (t : σ) : ∀ {l : List σ}, Up f id l → Up f id (insU f t l) ∧ ∀ z, z ∈ insU f t l ↔ z = t ∨ z ∈ l
  | [], _ => ⟨by simp [insU, Up], fun z => by simp [insU]⟩
  | y :: l, h => by
    have h' := List.pairwise_cons.1 h
    obtain ⟨i1, i2⟩ := insU_says o t h'.2
    rw [insU]
    split
    · rename_i c
      refine ⟨List.pairwise_cons.2 ⟨fun z hz => ?_, i1⟩, fun z => ?_⟩
      · rcases (i2 z).1 hz with rfl | hz
        · exact c
        · exact h'.1 z hz
      · rw [List.mem_cons, i2, List.mem_cons]
        constructor
        · rintro (h | h | h)
          · exact .inr (.inl h)
          · exact .inl h
          · exact .inr (.inr h)
        · rintro (h | h | h)
          · exact .inr (.inl h)
          · exact .inl h
          · exact .inr (.inr h)
    · split
      · rename_i c
        have e := o.eq _ _ c
        exact ⟨h, fun z => ⟨.inr, fun hz => hz.elim (fun h => by rw [h, ← e]; exact List.mem_cons_self ..) id⟩⟩
      · rename_i c1 c2
        have hty : f t y = -1 := by have := o.anti t y; rcases o.range y t with h | h | h <;> omega
        refine ⟨List.pairwise_cons.2 ⟨fun z hz => ?_, h⟩, fun z => List.mem_cons⟩
        rcases List.mem_cons.1 hz with rfl | hz
        · exact hty
        · exact o.trans _ _ _ hty (h'.1 z hz)
theorem insU_all (o : OrdS f) : ∀ (ts l : List σ), Up f id l → Up f id (ts.foldl (fun l t => insU f t l) l) ∧ ∀ z, z ∈ ts.foldl (fun l t => insU f t l) l ↔ z ∈ ts ∨ z ∈ l
  | [], l, h => ⟨h, fun z => by simp⟩
  | t :: ts, l, h => by
    obtain ⟨i1, i2⟩ := insU_says o t h
    obtain ⟨j1, j2⟩ := insU_all o ts _ i1
    refine ⟨j1, fun z => ?_⟩
    rw [List.foldl_cons, j2, i2, List.mem_cons]
    constructor
    · rintro (h | h | h)
      · exact .inl (.inr h)
      · exact .inl (.inl h)
      · exact .inr h
    · rintro ((h | h) | h)
      · exact .inr (.inl h)
      · exact .inl h
      · exact .inr (.inr h)
/-- Of those alike that stand side by side one stays. -/
def compact [DecidableEq σ] : List σ → List σ
  | [] => []
  | [x] => [x]
  | x :: y :: l => if x = y then compact (y :: l) else x :: compact (y :: l)
end Go.Proofs.YtkdgageljgfgoaaDoor.Rise
