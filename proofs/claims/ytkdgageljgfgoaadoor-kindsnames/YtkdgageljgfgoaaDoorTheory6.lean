/-
  THEORY6: the order of stamps and of their keys; forms that are read as they were; plainly.
-/
import Derived.Test.YtkdgageljgfgoaaDoorCmp6
namespace Go.Proofs.YtkdgageljgfgoaaDoor
open Go.RowKit Go.Shelf
set_option linter.unusedSimpArgs false

/-- An order by -1, 0, 1. -/
structure Ord {α : Type} (f : α → α → Int) : Prop where
  range : ∀ a b, f a b = -1 ∨ f a b = 0 ∨ f a b = 1
  anti : ∀ a b, f a b = - f b a
  eq : ∀ a b, f a b = 0 → a = b
  trans : ∀ a b c, f a b = -1 → f b c = -1 → f a c = -1

theorem Ord.refl {α : Type} {f : α → α → Int} (h : Ord f) (a : α) : f a a = 0 := by have := h.anti a a; omega

theorem cb_range : ∀ l m : List UInt8, Lib.compareBytes l m = -1 ∨ Lib.compareBytes l m = 0 ∨ Lib.compareBytes l m = 1
  | [], [] => by simp [Lib.compareBytes]
  | [], _ :: _ => by simp [Lib.compareBytes]
  | _ :: _, [] => by simp [Lib.compareBytes]
  | a :: l, b :: m => by
    rw [Lib.compareBytes]
    split
    · simp
    · split
      · simp
      · exact cb_range l m

theorem cb_anti : ∀ l m : List UInt8, Lib.compareBytes l m = - Lib.compareBytes m l
  | [], [] => rfl
  | [], _ :: _ => rfl
  | _ :: _, [] => rfl
  | a :: l, b :: m => by
    rw [Lib.compareBytes, Lib.compareBytes]
    by_cases h1 : a < b
    · have h2 : ¬ b < a := fun h => absurd (UInt8.lt_iff_toNat_lt.1 h) (by have := UInt8.lt_iff_toNat_lt.1 h1; omega)
      rw [if_pos h1, if_neg h2, if_pos h1]
    · rw [if_neg h1]
      by_cases h2 : b < a
      · rw [if_pos h2, if_pos h2]; rfl
      · rw [if_neg h2, if_neg h2, if_neg h1]
        exact cb_anti l m

theorem u8_eq {a b : UInt8} (h1 : ¬ a < b) (h2 : ¬ b < a) : a = b := by
  apply UInt8.toNat_inj.1
  rw [UInt8.lt_iff_toNat_lt] at h1 h2
  omega

theorem cb_eq : ∀ l m : List UInt8, Lib.compareBytes l m = 0 → l = m
  | [], [], _ => rfl
  | [], _ :: _, h => by simp [Lib.compareBytes] at h
  | _ :: _, [], h => by simp [Lib.compareBytes] at h
  | a :: l, b :: m, h => by
    rw [Lib.compareBytes] at h
    by_cases h1 : a < b
    · rw [if_pos h1] at h; cases h
    · rw [if_neg h1] at h
      by_cases h2 : b < a
      · rw [if_pos h2] at h; cases h
      · rw [if_neg h2] at h
        rw [u8_eq h1 h2, cb_eq l m h]

theorem cb_trans : ∀ l m k : List UInt8, Lib.compareBytes l m = -1 → Lib.compareBytes m k = -1 → Lib.compareBytes l k = -1
  | [], [], _, h, _ => by simp [Lib.compareBytes] at h
  | _ :: _, [], _, h, _ => by simp [Lib.compareBytes] at h
  | _, _ :: _, [], _, h => by simp [Lib.compareBytes] at h
  | [], _ :: _, _ :: _, _, _ => rfl
  | a :: l, b :: m, c :: k, h1, h2 => by
    rw [Lib.compareBytes] at h1 h2 ⊢
    simp only [UInt8.lt_iff_toNat_lt] at h1 h2 ⊢
    by_cases ab : a.toNat < b.toNat
    · by_cases bc : b.toNat < c.toNat
      · rw [if_pos (by omega)]
      · rw [if_neg bc] at h2
        by_cases cb : c.toNat < b.toNat
        · rw [if_pos cb] at h2; cases h2
        · rw [if_pos (by omega)]
    · rw [if_neg ab] at h1
      by_cases ba : b.toNat < a.toNat
      · rw [if_pos ba] at h1; cases h1
      · rw [if_neg ba] at h1
        by_cases bc : b.toNat < c.toNat
        · rw [if_pos (by omega)]
        · rw [if_neg bc] at h2
          by_cases cb : c.toNat < b.toNat
          · rw [if_pos cb] at h2; cases h2
          · rw [if_neg cb] at h2
            rw [if_neg (by omega), if_neg (by omega)]
            exact cb_trans l m k h1 h2

theorem ba_eq {a b : ByteArray} (h : a.data.toList = b.data.toList) : a = b := ByteArray.ext (Array.toList_inj.1 h)

theorem ord_B : Ord cmpB := ⟨fun _ _ => cb_range _ _, fun _ _ => cb_anti _ _, fun _ _ h => ba_eq (cb_eq _ _ h), fun _ _ _ => cb_trans _ _ _⟩

theorem ord_I : Ord cmpI := by
  refine ⟨fun a b => ?_, fun a b => ?_, fun a b h => ?_, fun a b c h1 h2 => ?_⟩
  · unfold cmpI; split <;> (try split) <;> simp
  · unfold cmpI; split <;> split <;> (try split) <;> omega
  · unfold cmpI at h; split at h <;> (try split at h) <;> omega
  · unfold cmpI at *; split at h1 <;> (try split at h1) <;> split at h2 <;> (try split at h2) <;> (try omega) <;> (rw [if_pos (by omega)])

/-- One order, and another one behind it. -/
def lex {α β : Type} (f : α → α → Int) (g : β → β → Int) (a b : α × β) : Int := if f a.1 b.1 = 0 then g a.2 b.2 else f a.1 b.1
theorem Ord.lex {α β : Type} {f : α → α → Int} {g : β → β → Int} (hf : Ord f) (hg : Ord g) : Ord (lex f g) := by
  refine ⟨?_, ?_, ?_, ?_⟩
  · intro a b
    unfold Go.Proofs.YtkdgageljgfgoaaDoor.lex
    split
    · exact hg.range _ _
    · exact hf.range _ _
  · intro a b
    unfold Go.Proofs.YtkdgageljgfgoaaDoor.lex
    have h1 := hf.anti a.1 b.1
    by_cases h : f b.1 a.1 = 0
    · rw [if_pos (by omega), if_pos h]; exact hg.anti _ _
    · rw [if_neg (by omega), if_neg h]; exact h1
  · intro a b h
    unfold Go.Proofs.YtkdgageljgfgoaaDoor.lex at h
    split at h
    next h0 => exact Prod.ext (hf.eq _ _ h0) (hg.eq _ _ h)
    next h0 => exact absurd h h0
  · intro a b c h1 h2
    unfold Go.Proofs.YtkdgageljgfgoaaDoor.lex at h1 h2 ⊢
    by_cases ha : f a.1 b.1 = 0
    · rw [if_pos ha] at h1
      have ea := hf.eq _ _ ha
      rw [ea]
      by_cases hb : f b.1 c.1 = 0
      · rw [if_pos hb] at h2 ⊢; exact hg.trans _ _ _ h1 h2
      · rw [if_neg hb] at h2 ⊢; exact h2
    · rw [if_neg ha] at h1
      by_cases hb : f b.1 c.1 = 0
      · rw [if_pos hb] at h2
        have eb := hf.eq _ _ hb
        rw [← eb, if_neg ha]; exact h1
      · rw [if_neg hb] at h2
        have := hf.trans _ _ _ h1 h2
        rw [if_neg (by omega)]; exact this
/-- Stamps as tuples. -/
abbrev St := Int × Int × ByteArray × Int × Int
def cmpT : St → St → Int := lex cmpI (lex cmpI (lex cmpB (lex cmpI cmpI)))
theorem ord_T : Ord cmpT := ord_I.lex (ord_I.lex (ord_B.lex (ord_I.lex ord_I)))
theorem pair_step (a b t : Int) : (if a < b then (-1 : Int) else if b < a then 1 else t) = if cmpI a b = 0 then t else cmpI a b := by
  unfold cmpI
  by_cases h1 : a < b
  · simp [h1]
  · by_cases h2 : b < a
    · simp [h1, h2]
    · simp [h1, h2]
theorem cmpS_eq (g r : Int) (l : ByteArray) (n x g' r' : Int) (l' : ByteArray) (n' x' : Int) : cmpS g r l n x g' r' l' n' x' = cmpT (g, r, l, n, x) (g', r', l', n', x') := by
  unfold cmpS prs cmpT Go.Proofs.YtkdgageljgfgoaaDoor.lex
  simp only [cmpPairs, pair_step]
  have hz : cmpI (cmpB l l') 0 = cmpB l l' := by
    unfold cmpI
    rcases ord_B.range l l' with e | e | e <;> rw [e] <;> decide
  rw [hz]
  congr 1
  congr 1
  congr 1
  congr 1
  by_cases h : cmpI x x' = 0
  · rw [if_pos h, h]
  · rw [if_neg h]
end Go.Proofs.YtkdgageljgfgoaaDoor
