/-
  slices.SortFunc 79 over elements.
  Elements run together, plainly.
-/
import Derived.Test.YtkdgageljgfgoaaDoorSearch
import Derived.Test.YtkdgageljgfgoaaDoorRiseT
namespace Go.Proofs.YtkdgageljgfgoaaDoor
open Go.RowKit Go.Shelf Go.Sort
set_option linter.unusedSimpArgs false
attribute [local go_sem] Oper.semAt_some

theorem ordS_T : Rise.OrdS cmpT := ⟨ord_T.range, ord_T.anti, ord_T.eq, ord_T.trans⟩
/-- Each one's stamp is ahead of the next ones'. -/
abbrev UpE (l : List El) : Prop := Rise.Up cmpT Prod.fst l
theorem UpE.rise {l : List El} (h : UpE l) : Rise l := fun i j x y hij hx hy => by
  obtain ⟨h1, e1⟩ := List.getElem?_eq_some_iff.1 hx
  obtain ⟨h2, e2⟩ := List.getElem?_eq_some_iff.1 hy
  have := List.pairwise_iff_getElem.1 h i j h1 h2 hij
  rw [e1, e2] at this
  exact this
theorem ltE_iff (a b : El) : ltOf cmpE a b = true ↔ cmpE a b = -1 := by
  have := ord_T.range a.1 b.1
  unfold ltOf cmpE
  simp
  omega
theorem ltE_no (a b : El) : ltOf cmpE a b = false ↔ cmpE a b ≠ -1 := by
  rw [Ne, ← ltE_iff]; simp
theorem swo_E : SWO (ltOf cmpE) where
  irrefl x := by rw [ltE_no]; unfold cmpE; rw [ord_T.refl]; decide
  trans x y z h1 h2 := by rw [ltE_iff] at *; exact ord_T.trans _ _ _ h1 h2
  ntrans x y z h1 h2 := by
    rw [ltE_no] at *
    unfold cmpE at *
    intro h3
    rcases ord_T.range x.1 y.1 with h | h | h
    · exact h1 h
    · rw [ord_T.eq _ _ h] at h3; exact h2 h3
    · have : cmpT y.1 x.1 = -1 := by rw [ord_T.anti, h]
      exact h2 (ord_T.trans _ _ _ this h3)
/-- A sorted list with the members of L. -/
def SortsE (L L' : List El) : Prop := L'.length = L.length ∧ L'.Perm L ∧ L'.Pairwise (fun x y => cmpE y x ≠ -1)
theorem SortsE.up {L L' : List El} (h : SortsE L L') (hd : L.Pairwise (fun x y => x.1 ≠ y.1)) : UpE L' ∧ ∀ z, z ∈ L' ↔ z ∈ L := by
  refine ⟨?_, fun z => h.2.1.mem_iff⟩
  have hd' : L'.Pairwise (fun x y => x.1 ≠ y.1) := (h.2.1.pairwise_iff (fun {x y} h e => h e.symm)).2 hd
  refine (h.2.2.and hd').imp (fun {x y} ⟨h1, h2⟩ => ?_)
  unfold cmpE at h1
  rw [ord_T.anti] at h1
  rcases ord_T.range x.1 y.1 with e | e | e
  · exact e
  · exact absurd (ord_T.eq _ _ e) h2
  · omega
theorem sortE_any {W : World} {B g cap : Nat} {L : List El} (h : Oe W B (.slice (some ⟨g, 0, none⟩) L.length cap) L) (hl : L.length ≤ 100000) : Calls Tryd.prog 49 #[.slice (some ⟨g, 0, none⟩) L.length cap, .func (.func 50) #[] #[]] W fun e w' => e = .returned (.tuple #[]) ∧ ∃ L', SortsE L L' ∧ Oe w' B (.slice (some ⟨g, 0, none⟩) L.length cap) L' ∧ Below B W w' := by
  have hlt := (World.ownsRow.lt h g rfl).2
  have eg : ∀ args w, (callFunc 50 args).run Tryd.prog w = .ok (.enter 50 args) w := enters_of Tryd.func50 (by kernel_rfl) rfl
  have hc : CmpLays Tryd.prog 50 #[] encE 6 cmpE g 0 L.toArray.size W := fun _ _ _ _ x y => (cmpElements_grow x y _).mono fun _ _ ⟨he, hw⟩ => ⟨he, hw.grows⟩
  have hH : HoldsK encE 6 W g 0 L.toArray := by
    intro j hj
    have hv : (flatE L)[j]? = some ((flatK encE 6 L.toArray)[j]!) := by
      rw [← flatK_E, Array.getElem?_toList, Array.getElem?_eq_getElem hj, getElem!_pos _ j hj]
    refine ⟨h.re0 j _ hv, ?_⟩
    rcases h.2 with ⟨h1, _⟩ | ⟨g', cap', cur, e, hb, hg, _⟩
    · cases h1
    · injection e with e1 e2 e3
      injection e1 with e1
      injection e1 with e1 _ _
      subst e1
      exact frozen_of_row W g _ _ _ hg
  have hs := AnyQ.slices_SortFunc Tryd.sortElems 6 Tryd.isAgg58 Tryd.sizeOf58 encE (fun _ => rfl) (fun x v hv => flatE_one [x] v (by simpa [flatE] using hv)) cmpE swo_E 50 #[] g 0 cap L.toArray W eg hc hH hlt (by simp; omega)
  simp only [List.size_toArray] at hs
  change Calls Tryd.prog 49 _ _ _ at hs
  refine hs.mono ?_
  rintro e w' ⟨he, d', n, os, hp, hso, rfl⟩
  have hds : d'.size = L.length := by have := hp.1; simpa using this
  have hS : SortsE L d'.toList := by
    refine ⟨by simpa using hds, ?_, ?_⟩
    · have := hp.2.2
      rw [Array.extract_eq_self_of_le (by omega), Array.extract_eq_self_of_le (by simp)] at this
      simpa using this
    · rw [List.pairwise_iff_getElem]
      intro i j hi hj hij
      have h2 : j < L.length := by simpa [hds] using hj
      have := hso i j (Nat.zero_le _) hij h2
      rw [getElem!_pos d' i (by omega), getElem!_pos d' j (by omega), ltE_no] at this
      simpa using this
  have := h.sorted (L' := d'.toList) (by simpa using hds) n os
  rw [Array.toArray_toList] at this
  exact ⟨he, d'.toList, hS, this⟩
theorem sortE_nil (w : World) : Calls Tryd.prog 49 #[.slice none 0 0, .func (.func 50) #[] #[]] w fun e w' => e = .returned (.tuple #[]) ∧ w' = w := by
  have := AnyF.slices_SortFunc_none Tryd.sortElems none 0 (.func (.func 50) #[] #[]) w
  change Calls Tryd.prog 49 _ _ _ at this
  exact this
end Go.Proofs.YtkdgageljgfgoaaDoor
namespace Go.Proofs.YtkdgageljgfgoaaDoor

theorem standsB_iff (s : St) (l : List El) : standsB s l = true ↔ ∃ y ∈ l, y.1 = s := by
  unfold standsB; rw [List.any_eq_true]; simp
theorem behindB_last {s : St} {l : List El} {y : El} (hy : l.getLast? = some y) (h : behindB s l = true) : cmpT y.1 s = -1 := by
  unfold behindB at h
  rw [hy] at h
  have := ord_T.range y.1 s
  simp at h
  omega
theorem mayPre_up (l : List El) : ∀ n, n ≤ l.length → mayPre l n → UpE (l.take n)
  | 0, _, _ => by simp [UpE, Rise.Up]
  | n + 1, hn, h => by
    have ih := mayPre_up l n (by omega) (fun j x hj hx => h j x (by omega) hx)
    obtain ⟨x, hx⟩ : ∃ x, l[n]? = some x := ⟨_, List.getElem?_eq_getElem (by omega)⟩
    have hk := h n x (by omega) hx
    have hb : behindB x.1 (l.take n) = true := by
      unfold okB at hk
      simp only [Bool.and_eq_true] at hk
      exact hk.2
    have e : l.take (n + 1) = l.take n ++ [x] := by rw [List.take_add_one, hx]; rfl
    rw [e]
    refine List.pairwise_append.2 ⟨ih, by simp, fun z hz y hy => ?_⟩
    have hyx : y = x := List.mem_singleton.1 hy
    rw [hyx]
    clear hy hyx
    cases n with
    | zero => simp at hz
    | succ m =>
      obtain ⟨y, hy⟩ : ∃ y, l[m]? = some y := ⟨_, List.getElem?_eq_getElem (by omega)⟩
      have e2 : l.take (m + 1) = l.take m ++ [y] := by rw [List.take_add_one, hy]; rfl
      have h1 : cmpT y.1 x.1 = -1 := behindB_last (by rw [e2]; simp) hb
      rw [e2] at hz ih
      rcases List.mem_append.1 hz with hz | hz
      · exact ord_T.trans _ _ _ ((List.pairwise_append.1 ih).2.2 z hz y (by simp)) h1
      · rw [List.mem_singleton] at hz; subst hz; exact h1
theorem mayB_up {l : List El} (h : mayB l = true) : UpE l := by
  have := mayPre_up l l.length (Nat.le_refl _) ((mayB_iff l).1 h)
  rwa [List.take_length] at this
theorem valB_up {k n : Int} {l : List El} (h : valB k n l = true) : UpE l := by
  unfold valB at h
  split at h
  · have : l = [] := List.eq_nil_of_length_eq_zero (by simpa using h)
    subst this; simp [UpE, Rise.Up]
  · simp only [Bool.and_eq_true] at h
    exact mayB_up h.2
/-- Of the one side's what stays, of the other's what is new. -/
def keepA (base b a : List El) : List El := a.filter fun x => standsB x.1 b || !standsB x.1 base
def newB (base a b : List El) : List El := b.filter fun x => !standsB x.1 a && !standsB x.1 base
/-- Elements run together over a base. -/
def togL (base a b : List El) : List El := Rise.run cmpT Prod.fst (fun s => standsB s b) (fun s => standsB s base) a b
theorem tog_sorted {base a b L' : List El} (ua : UpE a) (ub : UpE b) (h : SortsE (keepA base b a ++ newB base a b) L') : togL base a b = L' := by
  have hne : ∀ {l : List El}, UpE l → l.Pairwise (fun x y => x.1 ≠ y.1) := fun h => h.imp (fun h => ordS_T.ne h)
  obtain ⟨u, m⟩ := h.up (List.pairwise_append.2 ⟨(hne ua).filter _, (hne ub).filter _, fun x hx y hy e => by
    unfold keepA newB at *
    rw [List.mem_filter] at hx hy
    have := hy.2
    rw [Bool.and_eq_true] at this
    have h1 := this.1
    rw [(standsB_iff y.1 a).2 ⟨x, hx.1, e⟩] at h1
    cases h1⟩)
  refine Rise.run_is ordS_T ua ub (fun x _ => standsB_iff _ _) u (fun z => (m z).trans ?_)
  unfold keepA newB Rise.Stays
  rw [List.mem_append, List.mem_filter, List.mem_filter]
  refine or_congr Iff.rfl ⟨fun h => ⟨h.1, fun x hx e => ?_, ?_⟩, fun h => ⟨h.1, ?_⟩⟩
  · have h2 := h.2
    rw [(standsB_iff z.1 a).2 ⟨x, hx, e⟩] at h2
    simp at h2
  · have h2 := h.2
    simp at h2
    exact h2.2
  · have h2 : standsB z.1 a = false := by
      rw [Bool.eq_false_iff, Ne, standsB_iff]
      rintro ⟨x, hx, e⟩
      exact h.2.1 x hx e
    have h3 := h.2.2
    dsimp only at h3 ⊢
    rw [h2, h3]; rfl
theorem keepA_len (base b a : List El) : (keepA base b a).length ≤ a.length := List.length_filter_le _ _
theorem newB_len (base a b : List El) : (newB base a b).length ≤ b.length := List.length_filter_le _ _
theorem filt_take {α : Type} (q : α → Bool) (l : List α) {k : Nat} {x : α} (hx : l[k]? = some x) : (l.take (k + 1)).filter q = (l.take k).filter q ++ (if q x then [x] else []) := by
  rw [List.take_add_one, hx, List.filter_append]
  congr 1
  simp [List.filter_cons]
end Go.Proofs.YtkdgageljgfgoaaDoor
