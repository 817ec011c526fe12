/-
  WHAT MapPlays ASKS OF Put, Take, Split AND Join (the plain part).
-/
import Derived.Test.YtleaaoknjflgoaaKept
import Derived.Test.YtleaaoknjflgoaaMade
namespace Go.Proofs.Ytleaaoknjflgoaa
open Go.RowKit Go.Shelf
set_option linter.unusedSimpArgs false

theorem put_few {B : Nat} {k : ByteArray} {v : Int} {t t' : T} (h : Puts B k v t t') (hs : Srt t.list) (hb : t.bal) (hu : t.under B) : (t'.n : Int) - (sharedIn t t' : Nat) ≤ (t.h : Int) + 1 ∧ (has k t.list = true → (t'.n : Int) - (sharedIn t t' : Nat) ≤ (t.h : Int)) := by
  have h1 := h.built.few hs
  have h2 := h.says hs hb hu
  have h3 := h2.fr
  refine ⟨by omega, fun hk => ?_⟩
  have h4 := (h2.there hk).2
  omega
theorem take_few {B : Nat} {k : ByteArray} {t t' : T} (h : Takes B k t t') (hs : Srt t.list) (hb : t.bal) (hu : t.under B) : (t'.n : Int) - (sharedIn t t' : Nat) ≤ 3 * (t.h : Int) ∧ (has k t.list = false → t' = t) := by
  have h1 := h.built.few hs
  have h2 := h.says hs hb hu
  have h3 := h2.fr
  exact ⟨by omega, h2.gone⟩
theorem down_two (a b : T) : Down (fun t => Sub t a ∨ Sub t b) := fun _ _ _ _ _ h => by
  rcases h with h | h
  · exact ⟨.inl ((Sub.left .here).trans h), .inl ((Sub.right .here).trans h)⟩
  · exact ⟨.inr ((Sub.left .here).trans h), .inr ((Sub.right .here).trans h)⟩
/-- What a split and a join make of a map. -/
structure Cuts (t a b : T) (k : ByteArray) (v : Int) : Prop where
  abal : a.bal
  bbal : b.bal
  asrt : Srt a.list
  bsrt : Srt b.list
  fits : fitsB a k b = true
  ins : a.list ++ (k, v) :: b.list = ins k v t.list
  an : a.n = pos k t.list
  bn : b.n = t.list.length - (if has k t.list then pos k t.list + 1 else pos k t.list)
theorem Splits.cuts {B : Nat} {k : ByteArray} {t a f b : T} (h : Splits B k t a f b) (hs : Srt t.list) (hb : t.bal) (v : Int) : Cuts t a b k v := by
  obtain ⟨h1, h2, h3, h4⟩ := h.list hs
  obtain ⟨b1, b2⟩ := h.bal hb
  have hi : a.list ++ (k, v) :: b.list = ins k v t.list := by rw [h1, h2]; rfl
  have hsi := srt_insP hs k v
  rw [← hi] at hsi
  obtain ⟨s1, s2, s3, s4⟩ := Srt.app.1 hsi
  have hp := pos_le k t.list
  exact ⟨b1, b2, s1, s2, (fits_is s1 s2).2 ⟨s3, s4⟩, hi, by rw [← T.n_eq, h1, List.length_take]; omega, by rw [← T.n_eq, h2, List.length_drop]⟩
theorem join_few {B : Nat} {k : ByteArray} {v : Int} {a b x : T} (h : Joined B k v a b x) (ha : a.bal) (hb : b.bal) (sa : Srt a.list) (sb : Srt b.list) (ua : a.under B) (ub : b.under B) :
    x.bal ∧ (x.n : Int) - (sharedIn a x : Nat) - (sharedIn b x : Nat) ≤ (max ((a.h : Int) - b.h) (-((a.h : Int) - b.h))) + 4 := by
  have h1 := (h.built (down_two a b) (.old (.inl .here)) (.old (.inr .here))).few2 sa sb
  have h2 := h.says ha hb
  have h3 := h2.fr
  have f1 := T.under_fresh ua
  have f2 := T.under_fresh ub
  refine ⟨h2.bal, ?_⟩
  omega
end Go.Proofs.Ytleaaoknjflgoaa
