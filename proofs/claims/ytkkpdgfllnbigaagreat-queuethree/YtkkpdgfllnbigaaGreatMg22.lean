/-
  The law QueueMaps (11), walked.
  queue: Three (67), where each key has one text; what two pops and a push make of it.
  register: the walk of RegisterWrites (6).
  The law QueuePops (10), walked.
  RISING LISTS, AND TWO OF THEM RUN TOGETHER (for stage 9: plain, of no seat).
  Two rising lists of elements run together over a base: the document's way, plainly.
  walk: TREES THAT LIE APART (the plain part).
-/
import Derived.Test.YtkkpdgfllnbigaaGreatQuK
import Derived.Test.YtkkpdgfllnbigaaGreatMg18
import Derived.BigCall
import Derived.BigGuard
import Derived.BigGuardPart
import Derived.BigRegion
import Derived.Test.YtkkpdgfllnbigaaGreatMg15
import Derived.Test.YtkkpdgfllnbigaaGreatMg19
import Derived.Deep.DeepCutAuto
import Derived.Deep.CutBlock
import Derived.Test.YtkkpdgfllnbigaaGreatSrtT
import Derived.Test.YtkkpdgfllnbigaaGreatMg16
namespace Go.Proofs.YtkkpdgfllnbigaaGreat.Qu
open Go.RowKit Go.Shelf
set_option linter.unusedSimpArgs false
attribute [local go_sem] Oper.semAt_some

end Go.Proofs.YtkkpdgfllnbigaaGreat.Qu
namespace Go.Proofs.YtkkpdgfllnbigaaGreat.Qu
open Go.RowKit Go.Shelf
set_option linter.unusedSimpArgs false
attribute [local go_sem] Oper.semAt_some

end Go.Proofs.YtkkpdgfllnbigaaGreat.Qu
namespace Go.Proofs.YtkkpdgfllnbigaaGreat
open Go.RowKit Go.Shelf
set_option linter.unusedSimpArgs false
attribute [local go_sem] Oper.semAt_some

theorem encE_np (x : El) (j : Nat) (u : Value) (h : (encE x)[j]? = some u) : ∀ p, u ≠ .pointer p := fun p e => by
  have hm := List.mem_of_getElem? h
  rw [e] at hm
  simp [encE] at hm
theorem flatE_np (l : List El) (j : Nat) (u : Value) (h : (flatE l)[j]? = some u) : ∀ p, u ≠ .pointer p := fun p e => by
  have hm := List.mem_of_getElem? h
  unfold flatE at hm
  obtain ⟨x, -, hx⟩ := List.mem_flatMap.1 hm
  obtain ⟨k, hk⟩ := List.mem_iff_getElem?.1 hx
  exact encE_np x k u hk p e
/-- Rows of elements do not lie in a map's box. -/
theorem Re.aside {w w' : World} {B : Nat} {p : Option Addr} {ao : Option Addr} {l : List El} (h : Re w ao l) (hw : w.heap[B]? = some (.cells #[.pointer p] 27 (0, 0))) (ho : Only (fun j => j = B) w w') : Re w' ao l := ⟨h.1, fun a ha j u hj => by
  have hc := h.2 a ha j u hj
  generalize a.add j = A at hc ⊢
  by_cases hb : A.block = B
  · exfalso
    have hsp := World.cell?_spot hc
    obtain ⟨bb, oo, sp⟩ := A
    simp only at hb hsp
    subst hb hsp
    rw [cell_of_row _ _ oo _ 27 (0, 0) hw] at hc
    have hm : u = .pointer p := by
      have := Array.mem_of_getElem? hc
      simpa using this
    exact flatE_np l j u hj p hm
  · exact ho.cell hc hb⟩
theorem Boxd.aside {w w' : World} {B C : Nat} {pt p : Option Addr} {t : Pm.T} (h : Boxd w B pt t) (hw : w.heap[C]? = some (.cells #[.pointer p] 27 (0, 0))) (ho : Only (fun j => j = C) w w') (hne : B ≠ C) : Boxd w' B pt t := ⟨(ho.block _ (Array.getElem?_eq_some_iff.1 h.1).1 hne).trans h.1, h.2.1, h.2.2.aside hw ho⟩
end Go.Proofs.YtkkpdgfllnbigaaGreat
namespace Go.Proofs.YtkkpdgfllnbigaaGreat.Qu
open Go.RowKit Go.Shelf
set_option linter.unusedSimpArgs false
set_option linter.unusedVariables false
attribute [local go_sem] Oper.semAt_some

set_option maxHeartbeats 1000000 in
theorem refMay13 {w : World} {ao : Option Addr} {c : Nat} (l : List El) (h : Re w ao l) (hl : l.length ≤ 100000) (hs : ∀ x ∈ l, x.1.2.2.1.size ≤ 9223372036854775807) : Calls Tryz.prog 62 #[.slice ao l.length c] w fun e w' => e = .returned (.bool (mayE l)) ∧ Below w.heap.size w w' := by
  have hm := refMay11 (c := c) l h hl hs
  obtain ⟨N, hN⟩ : ∃ N, N = l.length := ⟨_, rfl⟩
  rw [← hN] at hm ⊢
  clear hN hl
  go_enter Tryz.func62, Tryz.ntmps62
  go_wp2_with (go_at_call 19; refine hm.mono ?_; rintro e w1 ⟨rfl, b1⟩; have H1 := hide b1; clear b1; dsimp only)
  go_ret
  exact ⟨rfl, H1.out⟩
set_option maxHeartbeats 1000000 in
theorem refSorted13 {w : World} {ao : Option Addr} {c : Nat} (l : List El) (h : Re w ao l) (hl : l.length ≤ 100000) (hm : mayE l = true) : Calls Tryz.prog 64 #[.slice ao l.length c] w fun e w' => ∃ ao' c', e = .returned (.slice ao' l.length c') ∧ Oe w' w.heap.size (.slice ao' l.length c') (srtE l) ∧ Below w.heap.size w w' := by
  have hm := refSorted18 (c := c) l h hl hm
  have hlen := srtE_len l
  obtain ⟨S, hS⟩ : ∃ S, S = srtE l := ⟨_, rfl⟩
  rw [← hS] at hm hlen ⊢
  obtain ⟨N, hN⟩ : ∃ N, N = l.length := ⟨_, rfl⟩
  rw [← hN] at hm hlen ⊢
  have HL := hide hlen
  clear hN hl hS hlen
  go_enter Tryz.func64, Tryz.ntmps64
  go_wp2_with (go_at_call 22; refine hm.mono ?_; rintro e w1 ⟨v, rfl, o1, b1⟩; obtain ⟨ao', c', e1, -⟩ := o1.form; rw [HL.out] at e1; subst e1; have H1 := hide (And.intro o1 b1); clear o1 b1; dsimp only)
  go_ret
  exact ⟨_, _, rfl, H1.out.1, H1.out.2⟩

end Go.Proofs.YtkkpdgfllnbigaaGreat.Qu
namespace Go.Proofs.YtkkpdgfllnbigaaGreat.Rise
/-- An order told by -1, 0, 1. -/
structure OrdS {σ : Type} (f : σ → σ → Int) : Prop where
  range : ∀ a b, f a b = -1 ∨ f a b = 0 ∨ f a b = 1
  anti : ∀ a b, f a b = - f b a
  eq : ∀ a b, f a b = 0 → a = b
  trans : ∀ a b c, f a b = -1 → f b c = -1 → f a c = -1
theorem OrdS.refl {σ : Type} {f : σ → σ → Int} (h : OrdS f) (a : σ) : f a a = 0 := by have := h.anti a a; omega
theorem OrdS.ne {σ : Type} {f : σ → σ → Int} (h : OrdS f) {a b : σ} (hl : f a b = -1) : a ≠ b := fun e => by rw [e, h.refl] at hl; omega
variable {α σ : Type} {f : σ → σ → Int} {st : α → σ}
/-- Each one's stamp is ahead of the next ones'. -/
def Up (f : σ → σ → Int) (st : α → σ) (l : List α) : Prop := l.Pairwise (fun x y => f (st x) (st y) = -1)
/-- Two rising lists with the same members are one. -/
theorem Up.same (o : OrdS f) : ∀ {l m : List α}, Up f st l → Up f st m → (∀ x, x ∈ l ↔ x ∈ m) → l = m
  | [], [], _, _, _ => rfl
  | [], y :: m, _, _, h => absurd ((h y).2 (List.mem_cons_self ..)) (by simp)
  | x :: l, [], _, _, h => absurd ((h x).1 (List.mem_cons_self ..)) (by simp)
  | x :: l, y :: m, hl, hm, h => by
    have hl' := List.pairwise_cons.1 hl
    have hm' := List.pairwise_cons.1 hm
    have hxy : x = y := by
      rcases List.mem_cons.1 ((h x).1 (List.mem_cons_self ..)) with e | e
      · exact e
      · rcases List.mem_cons.1 ((h y).2 (List.mem_cons_self ..)) with e' | e'
        · exact e'.symm
        · have h1 := hl'.1 y e'
          have h2 := hm'.1 x e
          have := o.anti (st x) (st y)
          omega
    subst hxy
    congr 1
    refine Up.same o hl'.2 hm'.2 (fun z => ⟨fun hz => ?_, fun hz => ?_⟩)
    · rcases List.mem_cons.1 ((h z).1 (List.mem_cons_of_mem _ hz)) with e | e
      · subst e; exact absurd rfl (o.ne (hl'.1 z hz))
      · exact e
    · rcases List.mem_cons.1 ((h z).2 (List.mem_cons_of_mem _ hz)) with e | e
      · subst e; exact absurd rfl (o.ne (hm'.1 z hz))
      · exact e
/-- The document's way: both lists are gone through side by side. -/
def run (f : σ → σ → Int) (st : α → σ) (inB inO : σ → Bool) : List α → List α → List α
  | [], [] => []
  | [], y :: b => (if inO (st y) then [] else [y]) ++ run f st inB inO [] b
  | x :: a, [] => (if inB (st x) || !inO (st x) then [x] else []) ++ run f st inB inO a []
  | x :: a, y :: b =>
    if f (st x) (st y) ≤ 0 then (if inB (st x) || !inO (st x) then [x] else []) ++ (if inB (st x) then run f st inB inO a b else run f st inB inO a (y :: b))
    else (if inO (st y) then [] else [y]) ++ run f st inB inO (x :: a) b
termination_by a b => a.length + b.length
/-- What stays. -/
def Stays (st : α → σ) (inB inO : σ → Bool) (a b : List α) (z : α) : Prop := (z ∈ a ∧ (inB (st z) || !inO (st z)) = true) ∨ (z ∈ b ∧ (∀ x ∈ a, st x ≠ st z) ∧ inO (st z) = false)
theorem mem_if {c : Bool} {x z : α} : z ∈ (if c = true then [x] else []) ↔ c = true ∧ z = x := by cases c <;> simp
theorem mem_if' {c : Bool} {x z : α} : z ∈ (if c = true then [] else [x]) ↔ c = false ∧ z = x := by cases c <;> simp
theorem up_app {c : Bool} {x : α} {l : List α} (hl : Up f st l) (hx : ∀ z ∈ l, f (st x) (st z) = -1) : Up f st ((if c = true then [x] else []) ++ l) ∧ Up f st ((if c = true then [] else [x]) ++ l) := by
  cases c
  · exact ⟨hl, List.pairwise_cons.2 ⟨hx, hl⟩⟩
  · exact ⟨List.pairwise_cons.2 ⟨hx, hl⟩, hl⟩
theorem run_says (o : OrdS f) (inB inO : σ → Bool) : ∀ (n : Nat) (a b : List α), a.length + b.length ≤ n → Up f st a → Up f st b → (∀ x ∈ a, inB (st x) = true ↔ ∃ y ∈ b, st y = st x) →
    Up f st (run f st inB inO a b) ∧ ∀ z, z ∈ run f st inB inO a b ↔ Stays st inB inO a b z := by
  intro n
  induction n with
  | zero =>
    intro a b hn _ _ _
    obtain ⟨rfl, rfl⟩ : a = [] ∧ b = [] := by constructor <;> (apply List.eq_nil_of_length_eq_zero; omega)
    exact ⟨by simp [run, Up], fun z => by simp [run, Stays]⟩
  | succ n ih =>
    intro a b hn ua ub hB
    match a, b with
    | [], [] => exact ⟨by simp [run, Up], fun z => by simp [run, Stays]⟩
    | [], y :: b =>
      have ub' := List.pairwise_cons.1 ub
      obtain ⟨i1, i2⟩ := ih [] b (by simp at hn ⊢; omega) ua ub'.2 (by simp)
      rw [run]
      refine ⟨(up_app i1 (fun z hz => ?_)).2, fun z => ?_⟩
      · rcases (i2 z).1 hz with h | h
        · simp at h
        · exact ub'.1 z h.1
      · rw [List.mem_append, mem_if', i2]
        simp only [Stays, List.not_mem_nil, false_and, false_or, List.mem_cons]
        constructor
        · rintro (⟨h, rfl⟩ | h)
          · exact ⟨.inl rfl, fun _ h => h.elim, h⟩
          · exact ⟨.inr h.1, fun _ h => h.elim, h.2.2⟩
        · rintro ⟨rfl | h, -, h2⟩
          · exact .inl ⟨h2, rfl⟩
          · exact .inr ⟨h, fun _ h => h.elim, h2⟩
    | x :: a, [] =>
      have ua' := List.pairwise_cons.1 ua
      obtain ⟨i1, i2⟩ := ih a [] (by simp at hn ⊢; omega) ua'.2 ub (fun z hz => hB z (List.mem_cons_of_mem _ hz))
      rw [run]
      refine ⟨(up_app i1 (fun z hz => ?_)).1, fun z => ?_⟩
      · rcases (i2 z).1 hz with h | h
        · exact ua'.1 z h.1
        · simp at h
      · rw [List.mem_append, mem_if, i2]
        simp only [Stays, List.not_mem_nil, false_and, or_false, List.mem_cons]
        constructor
        · rintro (⟨h, rfl⟩ | h)
          · exact ⟨.inl rfl, h⟩
          · exact ⟨.inr h.1, h.2⟩
        · rintro ⟨rfl | h, h2⟩
          · exact .inl ⟨h2, rfl⟩
          · exact .inr ⟨h, h2⟩
    | x :: a, y :: b =>
      have ua' := List.pairwise_cons.1 ua
      have ub' := List.pairwise_cons.1 ub
      rw [run]
      by_cases hc : f (st x) (st y) ≤ 0
      · rw [if_pos hc]
        by_cases hb : inB (st x) = true
        · -- both have it: it is y's
          rw [if_pos hb]
          obtain ⟨y', hy', he⟩ := (hB x (List.mem_cons_self ..)).1 hb
          have hyx : st y = st x := by
            rcases List.mem_cons.1 hy' with e | e
            · rw [← e]; exact he
            · have h1 := ub'.1 y' e
              rw [he] at h1
              have := o.anti (st x) (st y)
              omega
          have hB' : ∀ z ∈ a, inB (st z) = true ↔ ∃ y ∈ b, st y = st z := fun z hz => by
            rw [hB z (List.mem_cons_of_mem _ hz)]
            constructor
            · rintro ⟨w, hw, e⟩
              rcases List.mem_cons.1 hw with e' | e'
              · subst e'; exact absurd (hyx.symm.trans e) (o.ne (ua'.1 z hz))
              · exact ⟨w, e', e⟩
            · rintro ⟨w, hw, e⟩
              exact ⟨w, List.mem_cons_of_mem _ hw, e⟩
          obtain ⟨i1, i2⟩ := ih a b (by simp at hn ⊢; omega) ua'.2 ub'.2 hB'
          refine ⟨(up_app i1 (fun z hz => ?_)).1, fun z => ?_⟩
          · rcases (i2 z).1 hz with h | h
            · exact ua'.1 z h.1
            · rw [← hyx]; exact ub'.1 z h.1
          · rw [List.mem_append, mem_if, i2]
            simp only [Stays, List.mem_cons]
            constructor
            · rintro (⟨h, rfl⟩ | ⟨h1, h2⟩ | ⟨h1, h2, h3⟩)
              · exact .inl ⟨.inl rfl, h⟩
              · exact .inl ⟨.inr h1, h2⟩
              · refine .inr ⟨.inr h1, fun w hw => ?_, h3⟩
                rcases hw with rfl | hw
                · rw [← hyx]; exact o.ne (ub'.1 z h1)
                · exact h2 w hw
            · rintro (⟨rfl | h1, h2⟩ | ⟨rfl | h1, h2, h3⟩)
              · exact .inl ⟨h2, rfl⟩
              · exact .inr (.inl ⟨h1, h2⟩)
              · exact absurd hyx.symm (h2 x (.inl rfl))
              · exact .inr (.inr ⟨h1, fun w hw => h2 w (.inr hw), h3⟩)
        · rw [if_neg hb]
          have hlt : f (st x) (st y) = -1 := by
            rcases o.range (st x) (st y) with h | h | h
            · exact h
            · exact absurd ((hB x (List.mem_cons_self ..)).2 ⟨y, List.mem_cons_self .., (o.eq _ _ h).symm⟩) hb
            · omega
          obtain ⟨i1, i2⟩ := ih a (y :: b) (by simp at hn ⊢; omega) ua'.2 ub (fun z hz => hB z (List.mem_cons_of_mem _ hz))
          have hxb : ∀ z ∈ y :: b, f (st x) (st z) = -1 := fun z hz => by
            rcases List.mem_cons.1 hz with e | e
            · rw [e]; exact hlt
            · exact o.trans _ _ _ hlt (ub'.1 z e)
          refine ⟨(up_app i1 (fun z hz => ?_)).1, fun z => ?_⟩
          · rcases (i2 z).1 hz with h | h
            · exact ua'.1 z h.1
            · exact hxb z h.1
          · rw [List.mem_append, mem_if, i2]
            constructor
            · rintro (⟨h, rfl⟩ | ⟨h1, h2⟩ | ⟨h1, h2, h3⟩)
              · exact .inl ⟨List.mem_cons_self .., h⟩
              · exact .inl ⟨List.mem_cons_of_mem _ h1, h2⟩
              · refine .inr ⟨h1, fun w hw => ?_, h3⟩
                rcases List.mem_cons.1 hw with rfl | hw
                · exact o.ne (hxb z h1)
                · exact h2 w hw
            · rintro (⟨h1, h2⟩ | ⟨h1, h2, h3⟩)
              · rcases List.mem_cons.1 h1 with rfl | h1
                · exact .inl ⟨h2, rfl⟩
                · exact .inr (.inl ⟨h1, h2⟩)
              · exact .inr (.inr ⟨h1, fun w hw => h2 w (List.mem_cons_of_mem _ hw), h3⟩)
      · rw [if_neg hc]
        have hgt : f (st y) (st x) = -1 := by
          have := o.anti (st x) (st y)
          rcases o.range (st x) (st y) with h | h | h <;> omega
        have hyz : ∀ z ∈ x :: a, f (st y) (st z) = -1 := fun z hz => by
          rcases List.mem_cons.1 hz with e | e
          · rw [e]; exact hgt
          · exact o.trans _ _ _ hgt (ua'.1 z e)
        have hB' : ∀ z ∈ x :: a, inB (st z) = true ↔ ∃ y ∈ b, st y = st z := fun z hz => by
          rw [hB z hz]
          constructor
          · rintro ⟨w, hw, e⟩
            rcases List.mem_cons.1 hw with e' | e'
            · subst e'; exact absurd e (o.ne (hyz z hz))
            · exact ⟨w, e', e⟩
          · rintro ⟨w, hw, e⟩
            exact ⟨w, List.mem_cons_of_mem _ hw, e⟩
        obtain ⟨i1, i2⟩ := ih (x :: a) b (by simp at hn ⊢; omega) ua ub'.2 hB'
        refine ⟨(up_app i1 (fun z hz => ?_)).2, fun z => ?_⟩
        · rcases (i2 z).1 hz with h | h
          · exact hyz z h.1
          · exact ub'.1 z h.1
        · rw [List.mem_append, mem_if', i2]
          constructor
          · rintro (⟨h, rfl⟩ | ⟨h1, h2⟩ | ⟨h1, h2, h3⟩)
            · exact .inr ⟨List.mem_cons_self .., fun w hw => (o.ne (hyz w hw)).symm, h⟩
            · exact .inl ⟨h1, h2⟩
            · exact .inr ⟨List.mem_cons_of_mem _ h1, h2, h3⟩
          · rintro (⟨h1, h2⟩ | ⟨h1, h2, h3⟩)
            · exact .inr (.inl ⟨h1, h2⟩)
            · rcases List.mem_cons.1 h1 with rfl | h1
              · exact .inl ⟨h3, rfl⟩
              · exact .inr (.inr ⟨h1, h2, h3⟩)
/-- The program's way: those of one that stay, then those of the other, put in order: it comes to the same. -/
theorem run_is (o : OrdS f) {inB inO : σ → Bool} {a b l : List α} (ua : Up f st a) (ub : Up f st b) (hB : ∀ x ∈ a, inB (st x) = true ↔ ∃ y ∈ b, st y = st x) (ul : Up f st l) (hl : ∀ z, z ∈ l ↔ Stays st inB inO a b z) : run f st inB inO a b = l := by
  obtain ⟨h1, h2⟩ := run_says o inB inO _ a b (Nat.le_refl _) ua ub hB
  exact Up.same o h1 ul (fun z => (h2 z).trans (hl z).symm)
end Go.Proofs.YtkkpdgfllnbigaaGreat.Rise
namespace Go.Proofs.YtkkpdgfllnbigaaGreat
open Go.RowKit Go.Shelf
theorem ordS_T : Rise.OrdS cmpT := ⟨ord_T.range, ord_T.anti, ord_T.eq, ord_T.trans⟩
/-- Rising by stamps. -/
abbrev UpE (l : List El) : Prop := UpS l
theorem UpS.rise {l : List El} (h : UpS l) : ∀ (i j : Nat) (x y : El), i < j → l[i]? = some x → l[j]? = some y → cmpT x.1 y.1 = -1 := fun i j x y hij hx hy => by
  obtain ⟨hi, e1⟩ := List.getElem?_eq_some_iff.1 hx
  obtain ⟨hj, e2⟩ := List.getElem?_eq_some_iff.1 hy
  rw [← e1, ← e2]
  exact List.pairwise_iff_getElem.1 h i j hi hj hij
/-- Does a stamp stand in a list? -/
def standsB (s : St) (l : List El) : Bool := l.any fun y => decide (y.1 = s)
theorem standsB_iff (s : St) (l : List El) : standsB s l = true ↔ ∃ y ∈ l, y.1 = s := by
  unfold standsB; rw [List.any_eq_true]; simp
/-- Elements run together over a base. -/
def togL (base a b : List El) : List El := Rise.run cmpT Prod.fst (fun s => standsB s b) (fun s => standsB s base) a b
theorem if_len {c : Bool} {x : El} : (if c = true then [x] else []).length ≤ 1 ∧ (if c = true then [] else [x]).length ≤ 1 := by cases c <;> simp
theorem run_len (inB inO : St → Bool) : ∀ (n : Nat) (a b : List El), a.length + b.length ≤ n → (Rise.run cmpT Prod.fst inB inO a b).length ≤ a.length + b.length := by
  intro n
  induction n with
  | zero =>
    intro a b hn
    obtain ⟨rfl, rfl⟩ : a = [] ∧ b = [] := by constructor <;> (apply List.eq_nil_of_length_eq_zero; omega)
    simp [Rise.run]
  | succ n ih =>
    intro a b hn
    match a, b with
    | [], [] => simp [Rise.run]
    | [], y :: b =>
      rw [Rise.run, List.length_append]
      have h1 := ih [] b (by simp at hn ⊢; omega)
      have h2 := (if_len (c := inO y.1) (x := y)).2
      simp only [List.length_cons, List.length_nil] at h1 ⊢
      omega
    | x :: a, [] =>
      rw [Rise.run, List.length_append]
      have h1 := ih a [] (by simp at hn ⊢; omega)
      have h2 := (if_len (c := inB x.1 || !inO x.1) (x := x)).1
      simp only [List.length_cons, List.length_nil] at h1 ⊢
      omega
    | x :: a, y :: b =>
      rw [Rise.run]
      have i1 := ih a b (by simp at hn ⊢; omega)
      have i2 := ih a (y :: b) (by simp at hn ⊢; omega)
      have i3 := ih (x :: a) b (by simp at hn ⊢; omega)
      have h1 := (if_len (c := inB x.1 || !inO x.1) (x := x)).1
      have h2 := (if_len (c := inO y.1) (x := y)).2
      simp only [List.length_cons] at i2 i3 ⊢
      split
      · rw [List.length_append]
        by_cases hb : inB x.1 = true
        · rw [if_pos hb]; omega
        · rw [if_neg hb]; omega
      · rw [List.length_append]
        omega
theorem tog_len (base a b : List El) : (togL base a b).length ≤ a.length + b.length := run_len _ _ _ a b (Nat.le_refl _)
/-- What is left to be run together. -/
def togR (base b A B : List El) : List El := Rise.run cmpT Prod.fst (fun s => standsB s b) (fun s => standsB s base) A B
theorem togR_nil (base b : List El) : togR base b [] [] = [] := by unfold togR; rw [Rise.run]
theorem togR_a (base b A : List El) (x : El) : togR base b (x :: A) [] = (if (standsB x.1 b || !standsB x.1 base) = true then [x] else []) ++ togR base b A [] := by
  unfold togR; rw [Rise.run]
theorem togR_b (base b B : List El) (y : El) : togR base b [] (y :: B) = (if standsB y.1 base = true then [] else [y]) ++ togR base b [] B := by
  unfold togR; rw [Rise.run]
theorem togR_le (base b A B : List El) (x y : El) (h : cmpT x.1 y.1 ≤ 0) : togR base b (x :: A) (y :: B) = (if (standsB x.1 b || !standsB x.1 base) = true then [x] else []) ++ (if standsB x.1 b = true then togR base b A B else togR base b A (y :: B)) := by
  unfold togR; rw [Rise.run, if_pos h]
theorem togR_gt (base b A B : List El) (x y : El) (h : ¬ cmpT x.1 y.1 ≤ 0) : togR base b (x :: A) (y :: B) = (if standsB y.1 base = true then [] else [y]) ++ togR base b (x :: A) B := by
  unfold togR; rw [Rise.run, if_neg h]
theorem drop_at {l : List El} {i : Nat} {x : El} (h : l[i]? = some x) : l.drop i = x :: l.drop (i + 1) := by
  obtain ⟨hi, e⟩ := List.getElem?_eq_some_iff.1 h
  rw [List.drop_eq_getElem_cons hi, e]
/-- All that was passed of b is ahead of what is left of a. -/
def Past (a b : List El) (i k : Nat) : Prop := ∀ j y, j < k → b[j]? = some y → ∀ x ∈ a.drop i, cmpT y.1 x.1 = -1
theorem Past.start (a b : List El) : Past a b 0 0 := fun j y hj => by omega
theorem Past.left {a b : List El} {i k : Nat} (h : Past a b i k) : Past a b (i + 1) k := fun j y hj hy x hx => h j y hj hy x (by
  rw [← List.drop_drop] at hx
  exact List.mem_of_mem_drop hx)
theorem up_next {a : List El} (u : UpE a) {i : Nat} {x z : El} (h : a[i]? = some x) (hz : z ∈ a.drop (i + 1)) : cmpT x.1 z.1 = -1 := by
  obtain ⟨j, hj, e⟩ := List.getElem_of_mem hz
  rw [List.getElem_drop] at e
  have hl : i + 1 + j < a.length := by rw [List.length_drop] at hj; omega
  exact u.rise i (i + 1 + j) x z (by omega) h (by rw [List.getElem?_eq_getElem hl, e])
theorem Past.right {a b : List El} {i k : Nat} (h : Past a b i k) (ua : UpE a) {x y : El} (hx : a[i]? = some x) (hy : b[k]? = some y) (hg : ¬ cmpT x.1 y.1 ≤ 0) : Past a b i (k + 1) := fun j z hj hz u hu => by
  by_cases hjk : j = k
  · subst hjk
    rw [hy] at hz
    cases hz
    have hyx : cmpT y.1 x.1 = -1 := by
      have h1 := ordS_T.anti y.1 x.1
      have h2 := ordS_T.range y.1 x.1
      omega
    rw [drop_at hx] at hu
    rcases List.mem_cons.1 hu with rfl | hu
    · exact hyx
    · exact ordS_T.trans _ _ _ hyx (up_next ua hx hu)
  · exact h j z (by omega) hz u hu
theorem Past.end {a b : List El} {k : Nat} : Past a b a.length k := fun j y _ _ x hx => by
  rw [List.drop_length] at hx; cases hx
theorem Past.gone {a b : List El} {i k : Nat} (h : Past a b i k) {x : El} (hx : a[i]? = some x) {j : Nat} {y : El} (hj : j < k) (hy : b[j]? = some y) : y.1 ≠ x.1 := fun e => by
  have := h j y hj hy x (by rw [drop_at hx]; exact List.mem_cons_self)
  rw [e, ordS_T.refl] at this
  omega
theorem Past.none {a b : List El} {i : Nat} (h : Past a b i b.length) {x : El} (hx : a[i]? = some x) : standsB x.1 b = false := by
  rw [Bool.eq_false_iff, Ne, standsB_iff]
  rintro ⟨y, hy, e⟩
  obtain ⟨j, hj, e2⟩ := List.getElem_of_mem hy
  exact h.gone hx hj (by rw [List.getElem?_eq_getElem hj, e2]) e
theorem Past.same {a b : List El} {i k : Nat} (h : Past a b i k) (ub : UpE b) {x y : El} (hx : a[i]? = some x) (hy : b[k]? = some y) (hl : cmpT x.1 y.1 ≤ 0) (hs : standsB x.1 b = true) : y.1 = x.1 := by
  obtain ⟨z, hz, e⟩ := (standsB_iff _ _).1 hs
  obtain ⟨j, hj, e2⟩ := List.getElem_of_mem hz
  have hzj : b[j]? = some z := by rw [List.getElem?_eq_getElem hj, e2]
  by_cases hjk : j < k
  · exact absurd e (h.gone hx hjk hzj)
  by_cases hkj : j = k
  · subst hkj
    rw [hy] at hzj
    cases hzj
    exact e
  have := ub.rise k j y z (by omega) hy hzj
  rw [e] at this
  have h1 := ordS_T.anti y.1 x.1
  omega
theorem Past.both {a b : List El} {i k : Nat} (h : Past a b i k) (ua : UpE a) {x y : El} (hx : a[i]? = some x) (hy : b[k]? = some y) (e : y.1 = x.1) : Past a b (i + 1) (k + 1) := fun j z hj hz u hu => by
  by_cases hjk : j = k
  · subst hjk
    rw [hy] at hz
    cases hz
    rw [e]
    exact up_next ua hx hu
  · exact h.left j z (by omega) hz u hu
end Go.Proofs.YtkkpdgfllnbigaaGreat
namespace Go.Proofs.YtkkpdgfllnbigaaGreat.Pm
open Go.RowKit Go.Shelf
set_option linter.unusedSimpArgs false

/-- Two trees share no node. -/
def Apart (o a : T) : Prop := ∀ q, o.atB q → a.atB q → False
theorem Apart.self {o : T} (h : Apart o o) : o = .nil := by
  cases o with
  | nil => rfl
  | node p k v l r => exact (h p (.inl rfl) (.inl rfl)).elim
theorem In.atB {W : World} : ∀ {t : T}, In W t → ∀ q, t.atB q → q < W.heap.size
  | .nil, _, _, h => h.elim
  | .node _ _ _ _ _, ⟨h1, h2, h3⟩, q, h => by
    rcases h with rfl | h | h
    · exact (Array.getElem?_eq_some_iff.1 h1).1
    · exact In.atB h2 q h
    · exact In.atB h3 q h
theorem Apart.of_over {W : World} {o a : T} (h : In W o) (k : a.over W.heap.size) : Apart o a := fun q ho ha => by
  have h1 := In.atB h q ho
  have h2 := k q ha
  omega
theorem Apart.symm {o a : T} (h : Apart o a) : Apart a o := fun q x y => h q y x
theorem Settled.atB {B : Nat} {k v l r t} (h : Settled B k v l r t) (q : Nat) (hq : t.atB q) : l.atB q ∨ r.atB q ∨ B ≤ q := by
  cases h with
  | plain h1 h2 hp =>
    rcases hq with rfl | h | h
    · exact .inr (.inr hp)
    · exact .inl h
    · exact .inr (.inl h)
  | rightIn h1 h2 hp hq' hs =>
    rcases hq with rfl | (rfl | h | h) | (rfl | h | h)
    · exact .inr (.inr hp)
    · exact .inr (.inr hq')
    · exact .inl (.inr (.inl h))
    · exact .inl (.inr (.inr (.inr (.inl h))))
    · exact .inr (.inr hs)
    · exact .inl (.inr (.inr (.inr (.inr h))))
    · exact .inr (.inl h)
  | rightOut h1 h2 hp hq' =>
    rcases hq with rfl | h | (rfl | h | h)
    · exact .inr (.inr hp)
    · exact .inl (.inr (.inl h))
    · exact .inr (.inr hq')
    · exact .inl (.inr (.inr h))
    · exact .inr (.inl h)
  | leftIn h1 h2 hp hq' hs =>
    rcases hq with rfl | (rfl | h | h) | (rfl | h | h)
    · exact .inr (.inr hp)
    · exact .inr (.inr hq')
    · exact .inl h
    · exact .inr (.inl (.inr (.inl (.inr (.inl h)))))
    · exact .inr (.inr hs)
    · exact .inr (.inl (.inr (.inl (.inr (.inr h)))))
    · exact .inr (.inl (.inr (.inr h)))
  | leftOut h1 h2 hp hq' =>
    rcases hq with rfl | (rfl | h | h) | h
    · exact .inr (.inr hp)
    · exact .inr (.inr hq')
    · exact .inl h
    · exact .inr (.inl (.inr (.inl h)))
    · exact .inr (.inl (.inr (.inr h)))
theorem Joined.atB {B : Nat} {k v l r t} (h : Joined B k v l r t) : ∀ q, t.atB q → l.atB q ∨ r.atB q ∨ B ≤ q := by
  induction h with
  | mid h1 h2 hp =>
    intro q hq
    rcases hq with rfl | h | h
    · exact .inr (.inr hp)
    · exact .inl h
    · exact .inr (.inl h)
  | left h1 hm hs ih =>
    intro q hq
    rcases hs.atB q hq with h | h | h
    · exact .inl (.inr (.inl h))
    · rcases ih q h with h | h | h
      · exact .inl (.inr (.inr h))
      · exact .inr (.inl h)
      · exact .inr (.inr h)
    · exact .inr (.inr h)
  | right h1 hm hs ih =>
    intro q hq
    rcases hs.atB q hq with h | h | h
    · rcases ih q h with h | h | h
      · exact .inl h
      · exact .inr (.inl (.inr (.inl h)))
      · exact .inr (.inr h)
    · exact .inr (.inl (.inr (.inr h)))
    · exact .inr (.inr h)
theorem Joins.atB {B p k v nl nr l r t} (h : Joins B p k v nl nr l r t) (q : Nat) (hq : t.atB q) : p = q ∨ l.atB q ∨ r.atB q ∨ B ≤ q := by
  rcases h with ⟨rfl, rfl, rfl⟩ | ⟨_, h⟩
  · rcases hq with h | h | h
    · exact .inl h
    · exact .inr (.inl h)
    · exact .inr (.inr (.inl h))
  · exact .inr (h.atB q hq)
theorem Splits.atB {B k t a f b} (h : Splits B k t a f b) : ∀ q, a.atB q ∨ b.atB q → t.atB q ∨ B ≤ q := by
  induction h with
  | none => intro q hq; rcases hq with h | h <;> exact h.elim
  | left hc _ hj ih =>
    intro q hq
    rcases hq with h | h
    · rcases ih q (.inl h) with h | h
      · exact .inl (.inr (.inl h))
      · exact .inr h
    · rcases hj.atB q h with h | h | h | h
      · exact .inl (.inl h)
      · rcases ih q (.inr h) with h | h
        · exact .inl (.inr (.inl h))
        · exact .inr h
      · exact .inl (.inr (.inr h))
      · exact .inr h
  | right hc _ hj ih =>
    intro q hq
    rcases hq with h | h
    · rcases hj.atB q h with h | h | h | h
      · exact .inl (.inl h)
      · exact .inl (.inr (.inl h))
      · rcases ih q (.inl h) with h | h
        · exact .inl (.inr (.inr h))
        · exact .inr h
      · exact .inr h
    · rcases ih q (.inr h) with h | h
      · exact .inl (.inr (.inr h))
      · exact .inr h
  | same hc =>
    intro q hq
    rcases hq with h | h
    · exact .inl (.inr (.inl h))
    · exact .inl (.inr (.inr h))
/-- What is cut of two that lie apart lies apart: the second was cut later. -/
theorem Apart.cut {W W1 : World} {B0 B1 : Nat} {K : ByteArray} {o a o1 f o2 a1 g a2 : T} (h : Apart o a) (so : Splits B0 K o o1 f o2) (sa : Splits B1 K a a1 g a2) (ia : In W a) (h0 : W.heap.size ≤ B0) (i1 : In W1 o1) (i2 : In W1 o2) (h1 : W1.heap.size ≤ B1) : Apart o1 a1 ∧ Apart o2 a2 := by
  have key : ∀ q, (o1.atB q ∨ o2.atB q) → (a1.atB q ∨ a2.atB q) → False := fun q ho ha => by
    have hlt : q < W1.heap.size := ho.elim (In.atB i1 q) (In.atB i2 q)
    rcases sa.atB q ha with h2 | h2
    · rcases so.atB q ho with h3 | h3
      · exact h q h3 h2
      · have := In.atB ia q h2; omega
    · omega
  exact ⟨fun q x y => key q (.inl x) (.inl y), fun q x y => key q (.inr x) (.inr y)⟩
/-- What a rule must answer of trees that lie apart. -/
structure FairA (V : ByteArray → ByteArray × Bool → Prop) (R : ByteArray → ByteArray × Bool → ByteArray × Bool → ByteArray × Bool → ByteArray × Bool) : Prop where
  none : ∀ k, V k (⟨#[]⟩, false)
  both : ∀ k p q, V k p → V k q → R k p q q = q
  left0 : ∀ k r, V k r → R k (⟨#[]⟩, false) (⟨#[]⟩, false) r = r
  right : ∀ k p q, V k p → V k q → R k p q p = q
  norm : ∀ k p q r, (R k p q r).2 = false → R k p q r = (⟨#[]⟩, false)
/-- Three maps run together by a rule, the base apart from the first side. -/
inductive RunsA (B : Nat) (R : ByteArray → ByteArray × Bool → ByteArray × Bool → ByteArray × Bool → ByteArray × Bool) : T → T → T → T → List ByteArray → Prop where
  | same {o a : T} : RunsA B R o a a a []
  | left {b : T} (h : .nil ≠ b) : RunsA B R .nil .nil b b []
  | right {o a : T} (h : a ≠ o) : RunsA B R o a o a []
  | joins {o a b o1 o2 f a1 a2 g b1 b2 h t1 t2 t : T} {ks1 ks2 : List ByteArray} {v : ByteArray} (n1 : a ≠ b) (n2 : o ≠ a) (n3 : o ≠ b) (so : Splits B (topK a b) o o1 f o2) (sa : Splits B (topK a b) a a1 g a2) (sb : Splits B (topK a b) b b1 h b2)
      (r1 : RunsA B R o1 a1 b1 t1 ks1) (r2 : RunsA B R o2 a2 b2 t2 ks2) (hr : R (topK a b) f.part g.part h.part = (v, true)) (hj : Joined B (topK a b) v t1 t2 t) : RunsA B R o a b t (ks1 ++ ks2 ++ [topK a b])
  | closes {o a b o1 o2 f a1 a2 g b1 b2 h t1 t2 t : T} {ks1 ks2 : List ByteArray} {v : ByteArray} (n1 : a ≠ b) (n2 : o ≠ a) (n3 : o ≠ b) (so : Splits B (topK a b) o o1 f o2) (sa : Splits B (topK a b) a a1 g a2) (sb : Splits B (topK a b) b b1 h b2)
      (r1 : RunsA B R o1 a1 b1 t1 ks1) (r2 : RunsA B R o2 a2 b2 t2 ks2) (hr : R (topK a b) f.part g.part h.part = (v, false)) (hj : Closes B t1 t2 t) (hb : t1.bal → t2.bal → t.bal) : RunsA B R o a b t (ks1 ++ ks2 ++ [topK a b])
theorem RunsA.says {B : Nat} {V : ByteArray → ByteArray × Bool → Prop} {R : ByteArray → ByteArray × Bool → ByteArray × Bool → ByteArray × Bool → ByteArray × Bool} (hR : FairA V R) {o a b t : T} {ks : List ByteArray} (h : RunsA B R o a b t ks) :
    Srt o.list → Srt a.list → Srt b.list → o.bal → a.bal → b.bal → (∀ k, V k (look k o.list)) → (∀ k, V k (look k a.list)) → (∀ k, V k (look k b.list)) → RunSays R o a b t ks := by
  induction h with
  | @same o a =>
    intro so sa _ _ ba _ vo va _
    exact ⟨ba, sa, fun k => (hR.both k _ _ (vo k) (va k)).symm, fun y hy => .inl ⟨y, hy, rfl⟩, by simp, List.nodup_nil, by simp, by omega⟩
  | @left b hne =>
    intro so _ sb _ _ bb vo _ vb
    exact ⟨bb, sb, fun k => (hR.left0 k _ (vb k)).symm, fun y hy => .inr ⟨y, hy, rfl⟩, by simp, List.nodup_nil, by simp, by omega⟩
  | @right o a hne =>
    intro so sa _ _ ba _ vo va _
    exact ⟨ba, sa, fun k => (hR.right k _ _ (vo k) (va k)).symm, fun y hy => .inl ⟨y, hy, rfl⟩, by simp, List.nodup_nil, by simp, by omega⟩
  | @joins o a b o1 o2 f a1 a2 g b1 b2 h t1 t2 t ks1 ks2 v n1 n2 n3 so sa sb r1 r2 hr hj ih1 ih2 =>
    intro So Sa Sb Bo Ba Bb Vo Va Vb
    obtain ⟨vo1, vo2⟩ := (so.sides So).valid hR.none Vo
    obtain ⟨va1, va2⟩ := (sa.sides Sa).valid hR.none Va
    obtain ⟨vb1, vb2⟩ := (sb.sides Sb).valid hR.none Vb
    have i1 := ih1 (so.sides So).asrt (sa.sides Sa).asrt (sb.sides Sb).asrt (so.bal Bo).1 (sa.bal Ba).1 (sb.bal Bb).1 vo1 va1 vb1
    have i2 := ih2 (so.sides So).bsrt (sa.sides Sa).bsrt (sb.sides Sb).bsrt (so.bal Bo).2 (sa.bal Ba).2 (sb.bal Bb).2 vo2 va2 vb2
    have m := Runs.mid n1 so sa sb So Sa Sb i1 i2
    have hl : t.list = t1.list ++ (topK a b, v) :: t2.list := hj.list
    obtain ⟨q1, q2, q3⟩ := look_mid (v := v) m.less m.more
    refine ⟨(hj.says m.b1 m.b2).bal, by rw [hl]; exact Srt.app.2 ⟨m.s1, m.s2, m.less, m.more⟩, fun k => ?_, fun y hy => ?_, m.asked, m.once, m.few, ?_⟩
    · rw [hl]
      rcases cmp_three k (topK a b) with e | e | e
      · rw [q2 k e, m.lookL k e]
      · rw [e, q1, ← m.lookM, hr]
      · rw [q3 k e, m.lookR k e]
    · rw [hl] at hy
      rcases List.mem_append.1 hy with hy | hy
      · exact m.keys1 y hy
      · rcases List.mem_cons.1 hy with rfl | hy
        · exact m.key
        · exact m.keys2 y hy
    · have := congrArg List.length hl
      simp only [List.length_append, List.length_cons, T.n_eq] at this
      have := m.tn
      omega
  | @closes o a b o1 o2 f a1 a2 g b1 b2 h t1 t2 t ks1 ks2 v n1 n2 n3 so sa sb r1 r2 hr hj hb ih1 ih2 =>
    intro So Sa Sb Bo Ba Bb Vo Va Vb
    obtain ⟨vo1, vo2⟩ := (so.sides So).valid hR.none Vo
    obtain ⟨va1, va2⟩ := (sa.sides Sa).valid hR.none Va
    obtain ⟨vb1, vb2⟩ := (sb.sides Sb).valid hR.none Vb
    have i1 := ih1 (so.sides So).asrt (sa.sides Sa).asrt (sb.sides Sb).asrt (so.bal Bo).1 (sa.bal Ba).1 (sb.bal Bb).1 vo1 va1 vb1
    have i2 := ih2 (so.sides So).bsrt (sa.sides Sa).bsrt (sb.sides Sb).bsrt (so.bal Bo).2 (sa.bal Ba).2 (sb.bal Bb).2 vo2 va2 vb2
    have m := Runs.mid n1 so sa sb So Sa Sb i1 i2
    have hl : t.list = t1.list ++ t2.list := hj.list m.s2
    obtain ⟨q1, q2, q3⟩ := look_two m.less m.more
    refine ⟨hb m.b1 m.b2, ?_, fun k => ?_, fun y hy => ?_, m.asked, m.once, m.few, ?_⟩
    · rw [hl]
      exact List.pairwise_append.2 ⟨m.s1, m.s2, fun x hx y hy => ord_B.trans _ _ _ (m.less x hx) (m.more y hy)⟩
    · rw [hl]
      rcases cmp_three k (topK a b) with e | e | e
      · rw [q2 k e, m.lookL k e]
      · rw [e, q1, ← m.lookM]
        exact (hR.norm _ _ _ _ (by rw [hr])).symm
      · rw [q3 k e, m.lookR k e]
    · rw [hl] at hy
      rcases List.mem_append.1 hy with hy | hy
      · exact m.keys1 y hy
      · exact m.keys2 y hy
    · have := congrArg List.length hl
      simp only [List.length_append, T.n_eq] at this
      have := m.tn
      omega
theorem RunsA.mono {B B' : Nat} {R : ByteArray → ByteArray × Bool → ByteArray × Bool → ByteArray × Bool → ByteArray × Bool} {o a b t : T} {ks : List ByteArray} (h : RunsA B' R o a b t ks) (hB : B ≤ B') : RunsA B R o a b t ks := by
  induction h with
  | same => exact .same
  | left h => exact .left h
  | right h => exact .right h
  | joins n1 n2 n3 so sa sb _ _ hr hj ih1 ih2 => exact .joins n1 n2 n3 (so.mono hB) (sa.mono hB) (sb.mono hB) ih1 ih2 hr (hj.mono hB)
  | closes n1 n2 n3 so sa sb _ _ hr hj hb ih1 ih2 => exact .closes n1 n2 n3 (so.mono hB) (sa.mono hB) (sb.mono hB) ih1 ih2 hr (hj.mono hB) hb
/-- What is cut of one, beside what was cut of another before it. -/
def CutA (B : Nat) (K : ByteArray) (o a : T) (v2 v : Value) (W : World) : Prop := ∃ o1 f o2 a1 g a2, v2 = cv o1 o2 f ∧ v = cv a1 a2 g ∧ Splits B K o o1 f o2 ∧ In W o1 ∧ In W o2 ∧ Splits B K a a1 g a2 ∧ In W a1 ∧ In W a2 ∧ Apart o1 a1 ∧ Apart o2 a2
theorem CutA.below {B : Nat} {K : ByteArray} {o a : T} {v2 v : Value} {W W' : World} (h : CutA B K o a v2 v W) (hb : Below W.heap.size W W') : CutA B K o a v2 v W' := by
  obtain ⟨o1, f, o2, a1, g, a2, e1, e2, so, i1, i2, sa, i3, i4, p1, p2⟩ := h
  exact ⟨o1, f, o2, a1, g, a2, e1, e2, so, In.below hb i1, In.below hb i2, sa, In.below hb i3, In.below hb i4, p1, p2⟩
/-- What is cut of the first. -/
def CutO (m : Nat) (K : ByteArray) (o : T) (v : Value) (W : World) : Prop := ∃ o1 f o2 B0 W1, v = cv o1 o2 f ∧ Splits B0 K o o1 f o2 ∧ m ≤ B0 ∧ In W1 o1 ∧ In W1 o2 ∧ Below W1.heap.size W1 W
theorem CutO.below {m : Nat} {K : ByteArray} {o : T} {v : Value} {W W' : World} (h : CutO m K o v W) (hb : Below W.heap.size W W') : CutO m K o v W' := by
  obtain ⟨o1, f, o2, B0, W1, e, so, hm, i1, i2, hW⟩ := h
  exact ⟨o1, f, o2, B0, W1, e, so, hm, i1, i2, hW.trans (hb.mono hW.size)⟩
end Go.Proofs.YtkkpdgfllnbigaaGreat.Pm
