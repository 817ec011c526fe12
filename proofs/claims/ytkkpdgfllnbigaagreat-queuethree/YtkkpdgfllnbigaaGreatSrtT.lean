/-
  Elements put in one by one, by rising stamps: the plain theory.
-/
import Derived.Test.YtkkpdgfllnbigaaGreatMg18
namespace Go.Proofs.YtkkpdgfllnbigaaGreat
open Go.RowKit Go.Shelf

def posE (x : El) : List El → Nat
  | [] => 0
  | y :: l => if cmpT y.1 x.1 = -1 then posE x l + 1 else 0
theorem posE_le (x : El) : ∀ l, posE x l ≤ l.length
  | [] => Nat.le_refl _
  | y :: l => by
    unfold posE
    split
    · have := posE_le x l; simp; omega
    · exact Nat.zero_le _
theorem posE_lt (x : El) : ∀ (l : List El) (n : Nat) (y : El), l[n]? = some y → n < posE x l → cmpT y.1 x.1 = -1
  | [], n, y, h, _ => by simp at h
  | z :: l, n, y, h, hn => by
    unfold posE at hn
    split at hn
    · rename_i hz
      cases n with
      | zero => simp at h; subst h; exact hz
      | succ n => exact posE_lt x l n y (by simpa using h) (by omega)
    · omega
theorem posE_at (x : El) : ∀ (l : List El) (y : El), l[posE x l]? = some y → ¬ cmpT y.1 x.1 = -1
  | [], y, h => by simp at h
  | z :: l, y, h => by
    unfold posE at h
    split at h
    · exact posE_at x l y (by simpa using h)
    · rename_i hz
      simp at h; subst h; exact hz
def insE (x : El) (l : List El) : List El := l.take (posE x l) ++ [x] ++ l.drop (posE x l)
def insL (o l : List El) : List El := l.foldl (fun o x => insE x o) o
def srtE (l : List El) : List El := insL [] l
theorem insE_perm (x : El) (l : List El) : (insE x l).Perm (x :: l) := by
  unfold insE
  have h : (x :: l) = x :: (l.take (posE x l) ++ l.drop (posE x l)) := by rw [List.take_append_drop]
  rw [h, List.append_assoc]
  exact List.perm_middle
theorem insL_perm : ∀ (l o : List El), (insL o l).Perm (o ++ l)
  | [], o => by simp [insL]
  | x :: l, o => by
    have h1 := insL_perm l (insE x o)
    show (insL (insE x o) l).Perm _
    refine h1.trans ?_
    refine ((insE_perm x o).append_right l).trans ?_
    exact List.perm_middle.symm
theorem srtE_perm (l : List El) : (srtE l).Perm l := by have := insL_perm l []; rw [List.nil_append] at this; exact this
theorem insL_snoc (o l : List El) (x : El) : insL o (l ++ [x]) = insE x (insL o l) := by simp [insL]
theorem srtE_len (l : List El) : (srtE l).length = l.length := (srtE_perm l).length_eq
def UpS (l : List El) : Prop := l.Pairwise (fun a b => cmpT a.1 b.1 = -1)
theorem gt_of {a b : St} (h : ¬ cmpT a b = -1) (hne : a ≠ b) : cmpT b a = -1 := by
  have h1 := ord_T.range a b
  have h2 := ord_T.anti a b
  have h3 : cmpT a b ≠ 0 := fun e => hne (ord_T.eq _ _ e)
  omega
theorem insE_up (x : El) (l : List El) (h : UpS l) (hne : ∀ y ∈ l, y.1 ≠ x.1) : UpS (insE x l) := by
  have hsp : l = l.take (posE x l) ++ l.drop (posE x l) := (List.take_append_drop _ _).symm
  have hp := h
  rw [hsp] at hp
  obtain ⟨p1, p2, p3⟩ := List.pairwise_append.1 hp
  have hfr : ∀ y ∈ l.take (posE x l), cmpT y.1 x.1 = -1 := fun y hy => by
    obtain ⟨n, hn⟩ := List.mem_iff_getElem?.1 hy
    rw [List.getElem?_take] at hn
    split at hn
    · exact posE_lt x l n y hn (by assumption)
    · cases hn
  have hbk : ∀ y ∈ l.drop (posE x l), cmpT x.1 y.1 = -1 := fun y hy => by
    obtain ⟨n, hn⟩ := List.mem_iff_getElem?.1 hy
    rw [List.getElem?_drop] at hn
    obtain ⟨z, hz⟩ : ∃ z, l[posE x l]? = some z := ⟨_, List.getElem?_eq_getElem (by have := (List.getElem?_eq_some_iff.1 hn).1; omega)⟩
    have hxz : cmpT x.1 z.1 = -1 := gt_of (posE_at x l z hz) (hne z (List.mem_of_getElem? hz))
    cases n with
    | zero =>
      rw [Nat.add_zero, hz] at hn
      cases hn
      exact hxz
    | succ n =>
      have h1 := List.pairwise_iff_getElem.1 h (posE x l) (posE x l + (n + 1)) (List.getElem?_eq_some_iff.1 hz).1 (List.getElem?_eq_some_iff.1 hn).1 (by omega)
      rw [(List.getElem?_eq_some_iff.1 hz).2, (List.getElem?_eq_some_iff.1 hn).2] at h1
      exact ord_T.trans _ _ _ hxz h1
  unfold insE UpS
  rw [List.append_assoc, List.pairwise_append]
  refine ⟨p1, ?_, ?_⟩
  · rw [List.singleton_append, List.pairwise_cons]
    exact ⟨hbk, p2⟩
  · intro a ha b hb
    rw [List.singleton_append, List.mem_cons] at hb
    rcases hb with rfl | hb
    · exact hfr a ha
    · exact ord_T.trans _ _ _ (hfr a ha) (hbk b hb)
theorem insL_up : ∀ (l o : List El), UpS o → ((o ++ l).map Prod.fst).Nodup → UpS (insL o l)
  | [], o, h, _ => h
  | x :: l, o, h, hn => by
    show UpS (insL (insE x o) l)
    refine insL_up l _ (insE_up x o h (fun y hy e => ?_)) ?_
    · rw [List.map_append, List.nodup_append] at hn
      exact hn.2.2 y.1 (List.mem_map_of_mem hy) x.1 (by simp) e
    · have hp : ((insE x o ++ l).map Prod.fst).Perm ((o ++ x :: l).map Prod.fst) := (((insE_perm x o).append_right l).trans List.perm_middle.symm).map _
      exact hp.nodup_iff.2 hn
theorem srtE_up (l : List El) (h : (l.map Prod.fst).Nodup) : UpS (srtE l) := insL_up l [] List.Pairwise.nil (by simpa using h)
/-- Two rows that rise, of the same elements, are one. -/
theorem up_eq : ∀ {l m : List El}, UpS l → UpS m → l.Perm m → l = m
  | [], m, _, _, h => (h.symm.eq_nil).symm
  | a :: l, [], _, _, h => absurd h.length_eq (by simp)
  | a :: l, b :: m, hl, hm, h => by
    obtain ⟨a1, a2⟩ := List.pairwise_cons.1 hl
    obtain ⟨b1, b2⟩ := List.pairwise_cons.1 hm
    have hab : a = b := by
      have ha : a ∈ b :: m := h.subset (by simp)
      have hb : b ∈ a :: l := h.symm.subset (by simp)
      rcases List.mem_cons.1 ha with e | ha
      · exact e
      · rcases List.mem_cons.1 hb with e | hb
        · exact e.symm
        · have h1 := b1 a ha
          have h2 := a1 b hb
          have := ord_T.anti b.1 a.1
          omega
    subst hab
    rw [up_eq a2 b2 ((List.perm_cons a).1 h)]
end Go.Proofs.YtkkpdgfllnbigaaGreat
