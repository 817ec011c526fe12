/-
  journal: parts, plainly.
-/
import Derived.Test.YtkkpdgfllnbigaaGreatJoH
import Derived.Test.YtkkpdgfllnbigaaGreatJoR
import Derived.Test.YtkkpdgfllnbigaaGreatMg23
namespace Go.Proofs.YtkkpdgfllnbigaaGreat.Jo
open Go.RowKit Go.Shelf

theorem ne_of_low {x y : El} (h : cmpT x.1 y.1 = -1) : x ≠ y := fun e => by
  rw [e, ordS_T.refl] at h
  omega
theorem goP_iff {l : List El} (ul : UpS l) : ∀ {m : List El}, UpS m → ∀ f, f ≤ l.length → (goP l f m = l.length ↔ ∀ x ∈ l.drop f, x ∈ m)
  | [], _, f, hf => by
    rw [goP]
    constructor
    · intro h x hx
      rw [h, List.drop_length] at hx
      cases hx
    · intro h
      by_cases hlt : f < l.length
      · obtain ⟨y, hy⟩ : ∃ y, l[f]? = some y := ⟨_, List.getElem?_eq_getElem hlt⟩
        have := h y (by rw [drop_cons' hy]; exact List.mem_cons_self)
        cases this
      · omega
  | x :: m, um, f, hf => by
    obtain ⟨u1, u2⟩ := List.pairwise_cons.1 um
    rw [goP]
    cases hy : l[f]? with
    | none =>
      have : l.length ≤ f := List.getElem?_eq_none_iff.1 hy
      constructor
      · intro _ z hz
        rw [List.drop_of_length_le this] at hz
        cases hz
      · intro _; show f = l.length; omega
    | some y =>
      have hlt : f < l.length := (List.getElem?_eq_some_iff.1 hy).1
      have hd := drop_cons' hy
      have hnext : ∀ z ∈ l.drop (f + 1), cmpT y.1 z.1 = -1 := fun z hz => up_next ul hy hz
      show (if cmpT y.1 x.1 = -1 then f else if y = x then goP l (f + 1) m else goP l f m) = l.length ↔ _
      by_cases hc : cmpT y.1 x.1 = -1
      · rw [if_pos hc]
        constructor
        · intro h; omega
        · intro h
          have h1 := h y (by rw [hd]; exact List.mem_cons_self)
          rcases List.mem_cons.1 h1 with e | e
          · exact absurd e (ne_of_low hc)
          · have h2 := u1 y e
            have := ordS_T.anti y.1 x.1
            omega
      · rw [if_neg hc]
        by_cases he : y = x
        · rw [if_pos he, goP_iff ul u2 (f + 1) (by omega), hd]
          constructor
          · intro h z hz
            rcases List.mem_cons.1 hz with e | e
            · rw [e, he]; exact List.mem_cons_self
            · exact List.mem_cons_of_mem _ (h z e)
          · intro h z hz
            rcases List.mem_cons.1 (h z (List.mem_cons_of_mem _ hz)) with e | e
            · have := hnext z hz
              rw [e, ← he, ordS_T.refl] at this
              omega
            · exact e
        · rw [if_neg he, goP_iff ul u2 f hf]
          constructor
          · exact fun h z hz => List.mem_cons_of_mem _ (h z hz)
          · intro h z hz
            rcases List.mem_cons.1 (h z hz) with e | e
            · rw [hd] at hz
              rcases List.mem_cons.1 hz with e2 | e2
              · exact absurd (e2.symm.trans e) he
              · have := hnext z e2
                rw [e] at this
                exact absurd this hc
            · exact e
theorem partF_iff {l m : List El} (ul : UpS l) (um : UpS m) : partF l m = true ↔ ∀ x ∈ l, x ∈ m := by
  unfold partF
  rw [decide_eq_true_eq, goP_iff ul um 0 (Nat.zero_le _), List.drop_zero]
theorem partF_sub {a b : List El} (ua : UpS (srtE a)) (ub : UpS (srtE b)) : partF (srtE a) (srtE b) = subB a b := by
  rw [Bool.eq_iff_iff, partF_iff ua ub, subB_iff]
  exact ⟨fun h y hy => (srtE_perm b).subset (h y ((srtE_perm a).symm.subset hy)), fun h y hy => (srtE_perm b).symm.subset (h y ((srtE_perm a).subset hy))⟩
theorem up_inj {l : List El} (u : UpS l) {x y : El} (hx : x ∈ l) (hy : y ∈ l) (e : x.1 = y.1) : x = y := by
  obtain ⟨i, hi, e1⟩ := List.getElem_of_mem hx
  obtain ⟨j, hj, e2⟩ := List.getElem_of_mem hy
  have gx : l[i]? = some x := by rw [List.getElem?_eq_getElem hi, e1]
  have gy : l[j]? = some y := by rw [List.getElem?_eq_getElem hj, e2]
  rcases Nat.lt_trichotomy i j with h | h | h
  · have := u.rise i j x y h gx gy
    rw [e, ordS_T.refl] at this
    omega
  · subst h
    rw [gx] at gy
    cases gy
    rfl
  · have := u.rise j i y x h gy gx
    rw [e, ordS_T.refl] at this
    omega
/-- Two that have grown from one base: both are parts of what they come to, which has no other entries. -/
theorem tog_parts {base a b : List El} (_uo : UpS (srtE base)) (ua : UpS (srtE a)) (ub : UpS (srtE b)) (h1 : subB base a = true) (h2 : subB base b = true) (h3 : sglB a b = true) : UpS (togL (srtE base) (srtE a) (srtE b)) ∧ partF (srtE a) (togL (srtE base) (srtE a) (srtE b)) = true ∧ partF (srtE b) (togL (srtE base) (srtE a) (srtE b)) = true ∧ ∀ z ∈ togL (srtE base) (srtE a) (srtE b), z ∈ a ∨ z ∈ b := by
  rw [subB_iff] at h1 h2
  rw [sglB_iff] at h3
  have mo := fun {z : El} => (srtE_perm base).mem_iff (a := z)
  have ma := fun {z : El} => (srtE_perm a).mem_iff (a := z)
  have mb := fun {z : El} => (srtE_perm b).mem_iff (a := z)
  obtain ⟨um, hm⟩ := Rise.run_says ordS_T (fun s => standsB s (srtE b)) (fun s => standsB s (srtE base)) _ (srtE a) (srtE b) (Nat.le_refl _) ua ub (fun x _ => standsB_iff _ _)
  have hA : ∀ z ∈ srtE a, z ∈ togL (srtE base) (srtE a) (srtE b) := fun z hz => by
    refine (hm z).2 (.inl ⟨hz, ?_⟩)
    cases ho : standsB z.1 (srtE base) with
    | false => show (standsB z.1 (srtE b) || !standsB z.1 (srtE base)) = true; rw [ho]; simp
    | true =>
      obtain ⟨u, hu, e⟩ := (standsB_iff _ _).1 ho
      have hua := h1 u (mo.1 hu)
      have huz := up_inj ua (ma.2 hua) hz e
      have : standsB z.1 (srtE b) = true := (standsB_iff _ _).2 ⟨u, mb.2 (h2 u (mo.1 hu)), e⟩
      show (standsB z.1 (srtE b) || !standsB z.1 (srtE base)) = true
      rw [this]; rfl
  have hB : ∀ z ∈ srtE b, z ∈ togL (srtE base) (srtE a) (srtE b) := fun z hz => by
    by_cases hx : ∃ x ∈ srtE a, x.1 = z.1
    · obtain ⟨x, hxa, e⟩ := hx
      have ht := h3 x (ma.1 hxa) z (mb.1 hz) e
      have : x = z := Prod.ext e ht
      rw [← this]
      exact hA x hxa
    · refine (hm z).2 (.inr ⟨hz, fun x hxa e => hx ⟨x, hxa, e⟩, ?_⟩)
      show standsB z.1 (srtE base) = false
      rw [Bool.eq_false_iff, Ne, standsB_iff]
      rintro ⟨u, hu, e⟩
      exact hx ⟨u, ma.2 (h1 u (mo.1 hu)), e⟩
  refine ⟨um, (partF_iff ua um).2 hA, (partF_iff ub um).2 hB, fun z hz => ?_⟩
  rcases (hm z).1 hz with h | h
  · exact .inl (ma.1 h.1)
  · exact .inr (mb.1 h.1)
end Go.Proofs.YtkkpdgfllnbigaaGreat.Jo
