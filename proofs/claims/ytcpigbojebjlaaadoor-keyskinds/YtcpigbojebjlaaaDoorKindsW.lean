/-
  THE WALK over the statement KeysKinds.
-/
import Derived.Test.YtcpigbojebjlaaaDoorRefSplit
import Derived.Test.YtcpigbojebjlaaaDoorRefWord
import Derived.Test.YtcpigbojebjlaaaDoorLabel
import Derived.Test.YtcpigbojebjlaaaDoorKnown
import Derived.BigCall
import Derived.BigGuard
import Derived.BigGuardPart
import Derived.BigRegion
import Derived.Deep.DeepCutAuto
import Derived.Deep.CutBlock
namespace Go.Proofs.YtcpigbojebjlaaaDoor
open Go.RowKit Go.Shelf
set_option linter.unusedSimpArgs false

def spK (r : Option (List (List UInt8))) : List ByteArray := keysOf (r.getD [])
def spE (r : Option (List (List UInt8))) : Int := if r.isSome then 0 else 4
theorem SplitE.form {w w' : World} {r : Option (List (List UInt8))} {e : Ending} (h : SplitE w w' r e) : ∃ ao c, e = .returned (.tuple #[.slice ao (spK r).length c, .int .i64 (spE r)]) ∧ Rs w' ao (spK r) := by
  rcases h with ⟨rfl, rfl⟩ | ⟨L, v, rfl, rfl, hO⟩
  · exact ⟨none, 0, rfl, Rs.nil _ _⟩
  · obtain ⟨ao, c, rfl, hr, -⟩ := hO.shape
    exact ⟨ao, c, rfl, hr⟩
theorem spK_small (s : List UInt8) : (spK (splitB s)).length ≤ 6 ∧ ∀ k ∈ spK (splitB s), k.size ≤ 64 := by
  cases h : splitB s with
  | none => simp [spK, keysOf]
  | some L => exact path_sizes (split_sound h).1
def unS (r : Option (List UInt8)) : ByteArray := ⟨(r.getD []).toArray⟩
def unN (r : Option (List UInt8)) : Int := if r.isSome then 0 else 4
theorem unE_form (r : Option (List UInt8)) : unE r = .tuple #[.string (unS r), .int .i64 (unN r)] := by cases r <;> rfl

set_option maxHeartbeats 4000000 in
set_option maxRecDepth 100000 in
theorem kinds_walk (s : ByteArray) (w : World) (hT : Tabs w) : Calls Tryd.prog 3 #[.string s] w fun e w' => e = .returned (.bool true) ∧ Below w.heap.size w w' := by
  have hkn : ∀ W, Below w.heap.size w W → Calls Tryd.prog 7 #[] W fun e w' => e = .returned (.bool true) ∧ Below W.heap.size W w' := fun W hW => known_any W (Tabs.below hT hW)
  by_cases h9 : s.size ≤ 9000
  · have z9 : ¬ (9000 : Int) < (s.size : Int) := by omega
    obtain ⟨hk6, hk64⟩ := spK_small s.data.toList
    have c8 : ∀ W, Below w.heap.size w W → Calls Tryd.prog 8 #[.string s] W fun e w' => (∃ ao c, e = .returned (.tuple #[.slice ao (spK (splitB s.data.toList)).length c, .int .i64 (spE (splitB s.data.toList))]) ∧ Hid (Rs w' ao (spK (splitB s.data.toList)))) ∧ Below W.heap.size W w' := fun W hW =>
      (split_any s W (by omega) (Tabs.below hT hW)).mono fun e w' h => ⟨h.1.form, h.2⟩
    have c9 : ∀ W, Calls Tryd.prog 9 #[.string s] W fun e w' => (∃ ao c, e = .returned (.tuple #[.slice ao (spK (splitB s.data.toList)).length c, .int .i64 (spE (splitB s.data.toList))]) ∧ Hid (Rs w' ao (spK (splitB s.data.toList)))) ∧ Below W.heap.size W w' := fun W =>
      (refSplit_any s W (by omega)).mono fun e w' h => ⟨h.1.form, h.2⟩
    have c10 : ∀ W, Calls Tryd.prog 10 #[.string s] W fun e w' => e = .returned (.tuple #[.string (unS (unwordB s.data.toList)), .int .i64 (unN (unwordB s.data.toList))]) ∧ Below W.heap.size W w' := fun W => by
      rw [← unE_form]; exact unword_any s W (by omega)
    have c11 : ∀ W, Calls Tryd.prog 11 #[.string s] W fun e w' => e = .returned (.tuple #[.string (unS (unwordB s.data.toList)), .int .i64 (unN (unwordB s.data.toList))]) ∧ Below W.heap.size W w' := fun W => by
      rw [← unE_form]; exact refUnword_any s W (by omega)
    have c12 : ∀ W, Below w.heap.size w W → Calls Tryd.prog 12 #[.string s] W fun e w' => e = .returned (.bool (keyB s.data.toList)) ∧ Below W.heap.size W w' := fun W hW => key_any s W (Tabs.below hT hW)
    have c13 := fun W => refKey_any s W
    have c14 := fun W => text_any s W
    have c15 := fun W => refText_any s W
    have c16 := fun W => label_any s W
    have c17 := fun W => refLabel_any s W (by omega)
    have c18 := fun W => word_any s W (by omega)
    have c19 := fun W => refWord_any s W (by omega)
    have c20 : ∀ (W : World) (a b : Option Addr) (c d : Nat), Hid (Rs W a (spK (splitB s.data.toList))) → Hid (Rs W b (spK (splitB s.data.toList))) → Calls Tryd.prog 20 #[.slice a (spK (splitB s.data.toList)).length c, .slice b (spK (splitB s.data.toList)).length d] W fun e w' => e = .returned (.bool true) ∧ ∃ n, w' = W.drewN n := fun W a b c d ha hb => by
      have := same_any (c := c) (d := d) ha.out hb.out (by omega) (fun k hk => by have := hk64 k hk; omega)
      rw [ord_P.refl] at this
      exact this
    have cb : ∀ W, Calls Tryd.prog 10 #[.string ⟨(wordB s.data.toList).toArray⟩] W fun e w' => e = .returned (.tuple #[.string s, .int .i64 0]) ∧ Below W.heap.size W w' := fun W => by
      have hl : (wordB s.data.toList).length ≤ 100000 := by
        unfold wordB
        split
        · simp
        · have := flat_length s.data.toList
          have h2 : s.data.toList.length = s.size := (Lib.size_eq s).symm
          omega
      have := unword_any ⟨(wordB s.data.toList).toArray⟩ W (by simp [ByteArray.size]; omega)
      have hd : (⟨(wordB s.data.toList).toArray⟩ : ByteArray).data.toList = wordB s.data.toList := rfl
      rw [hd, unword_word] at this
      have hse : unE (some s.data.toList) = .tuple #[.string s, .int .i64 0] := by
        have : (⟨s.data.toList.toArray⟩ : ByteArray) = s := by apply ByteArray.ext; simp
        show Value.tuple #[.string ⟨s.data.toList.toArray⟩, .int .i64 0] = _
        rw [this]
      rw [hse] at this
      exact this
    generalize spE (splitB s.data.toList) = SE at c8 c9
    generalize spK (splitB s.data.toList) = SK at c8 c9 c20 hk6
    generalize unS (unwordB s.data.toList) = US at c10 c11
    generalize unN (unwordB s.data.toList) = UN at c10 c11
    generalize keyB s.data.toList = KB at c12 c13
    generalize decide (s.size ≤ 256) = TB at c14 c15
    generalize labelB s.data.toList = LB at c16 c17
    generalize (⟨(wordB s.data.toList).toArray⟩ : ByteArray) = WS at c18 c19 cb
    clear hk64 hT
    have hB : Below w.heap.size w w := Below.refl _ _
    go_enter Tryd.func3, Tryd.ntmps3
    go_upto_region 9 with (first
      | (go_at_call 8; refine (c8 _ hB).mono ?_; rintro e w1 ⟨⟨a1, d1, rfl, R1⟩, b1⟩; replace hB := hB.trans (b1.mono hB.size); clear b1; dsimp only)
      | (go_at_call 9; refine (c9 _).mono ?_; rintro e w2 ⟨⟨a2, d2, rfl, R2⟩, b2⟩; replace R1 := hide (R1.out.below b2); replace hB := hB.trans (b2.mono hB.size); clear b2; dsimp only)
      | (go_at_call 10; refine (c10 _).mono ?_; rintro e w3 ⟨rfl, b3⟩; replace R1 := hide (R1.out.below b3); replace R2 := hide (R2.out.below b3); replace hB := hB.trans (b3.mono hB.size); clear b3 c10; dsimp only)
      | (go_at_call 11; refine (c11 _).mono ?_; rintro e w4 ⟨rfl, b4⟩; replace R1 := hide (R1.out.below b4); replace R2 := hide (R2.out.below b4); replace hB := hB.trans (b4.mono hB.size); clear b4; dsimp only)
      | (go_at_call 12; refine (c12 _ hB).mono ?_; rintro e w5 ⟨rfl, b5⟩; replace R1 := hide (R1.out.below b5); replace R2 := hide (R2.out.below b5); replace hB := hB.trans (b5.mono hB.size); clear b5; dsimp only)
      | (go_at_call 13; refine (c13 _).mono ?_; rintro e w6 ⟨rfl, b6⟩; replace R1 := hide (R1.out.below b6); replace R2 := hide (R2.out.below b6); replace hB := hB.trans (b6.mono hB.size); clear b6; dsimp only)
      | (go_at_call 14; refine (c14 _).mono ?_; rintro e w7 ⟨rfl, hw7⟩; have hwx := hw7.symm; clear hw7; subst hwx; dsimp only)
      | (go_at_call 15; refine (c15 _).mono ?_; rintro e w7 ⟨rfl, hw7⟩; have hwx := hw7.symm; clear hw7; subst hwx; dsimp only)
      | (go_at_call 16; refine (c16 _).mono ?_; rintro e w8 ⟨rfl, b8⟩; replace R1 := hide (R1.out.below b8); replace R2 := hide (R2.out.below b8); replace hB := hB.trans (b8.mono hB.size); clear b8; dsimp only)
      | (go_at_call 17; refine (c17 _).mono ?_; rintro e w7 ⟨rfl, hw7⟩; have hwx := hw7.symm; clear hw7; subst hwx; dsimp only)
      | (go_at_call 18; refine (c18 _).mono ?_; rintro e wa ⟨rfl, ba⟩; replace R1 := hide (R1.out.below ba); replace R2 := hide (R2.out.below ba); replace hB := hB.trans (ba.mono hB.size); clear ba; dsimp only)
      | (go_at_call 19; refine (c19 _).mono ?_; rintro e wb ⟨rfl, bb⟩; replace R1 := hide (R1.out.below bb); replace R2 := hide (R2.out.below bb); replace hB := hB.trans (bb.mono hB.size); clear bb; dsimp only)
      | (go_at_call 20; refine (c20 _ _ _ _ _ R1 R2).mono ?_; rintro e wc ⟨rfl, nc, hwc⟩; replace hB := (by have := below_dr hB nc; rw [← hwc] at this; exact this); clear hwc R1 R2; dsimp only)
      | (go_at_call 21; refine (num_any _ _).mono ?_; rintro e w7 ⟨rfl, hw7⟩; have hwx := hw7.symm; clear hw7; subst hwx; dsimp only))
    go_wp2_with (first
      | (go_at_call 18; refine (c18 _).mono ?_; rintro e wa ⟨rfl, ba⟩; replace hB := hB.trans (ba.mono hB.size); clear ba; dsimp only)
      | (go_at_call 10; refine (cb _).mono ?_; rintro e wb ⟨rfl, bb⟩; replace hB := hB.trans (bb.mono hB.size); clear bb; dsimp only)
      | (go_at_call 21; refine (num_any _ _).mono ?_; rintro e w7 ⟨rfl, hw7⟩; have hwx := hw7.symm; clear hw7; subst hwx; dsimp only)
      | (go_at_call 7; refine (hkn _ hB).mono ?_; rintro e wk ⟨rfl, bk⟩; replace hB := hB.trans (bk.mono hB.size); clear bk; dsimp only))
    go_ret
    exact ⟨rfl, hB⟩
  · have z9 : (9000 : Int) < (s.size : Int) := by omega
    go_enter Tryd.func3, Tryd.ntmps3
    go_wp2_with (go_at_call 7; refine (hkn _ (Below.refl _ _)).mono ?_; rintro e w1 ⟨rfl, b1⟩)
    go_ret
    exact ⟨rfl, b1⟩
end Go.Proofs.YtcpigbojebjlaaaDoor
