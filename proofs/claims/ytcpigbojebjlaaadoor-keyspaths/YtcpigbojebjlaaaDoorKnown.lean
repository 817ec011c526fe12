/-
  THE CHAPTER's ROWS: what 'known' answers.
-/
import Derived.Test.YtcpigbojebjlaaaDoorRefCmp
import Derived.Test.YtcpigbojebjlaaaDoorJoin
import Derived.Test.YtcpigbojebjlaaaDoorSplitW
import Derived.Test.YtcpigbojebjlaaaDoorUnword
import Derived.Test.YtcpigbojebjlaaaDoorLabel
import Derived.BigCall
import Derived.BigGuard
import Derived.BigGuardPart
import Derived.BigRegion
namespace Go.Proofs.YtcpigbojebjlaaaDoor
open Go.RowKit Go.Shelf
set_option linter.unusedSimpArgs false

theorem k1 : keyB [97] = true := by decide +kernel
theorem k2 : keyB [97, 47, 98] = false := by decide +kernel
theorem k3 : keyB [255] = false := by decide +kernel
theorem k4 : keyB [195, 169] = true := by decide +kernel
theorem k5 : pathB [⟨#[97]⟩, ⟨#[98]⟩] = true := by decide +kernel
theorem k6 : joinB [⟨#[97]⟩, ⟨#[98]⟩] = [47, 97, 47, 98] := by decide +kernel
theorem k7 : splitB [47, 97, 47, 98] = some [[97], [98]] := by decide +kernel
theorem k8 : splitB [47, 97, 47] = none := by decide +kernel
theorem k9 : unwordB [97, 37, 50, 48, 98, 37, 50, 53] = some [97, 32, 98, 37] := by decide +kernel
theorem k10 : unwordB [37, 54, 49] = none := by decide +kernel
theorem k11 : wordB [97, 32, 98, 37] = [97, 37, 50, 48, 98, 37, 50, 53] := by decide +kernel
theorem k12 : labelB [109, 97, 105, 110] = true := by decide +kernel
theorem k13 : cmpP [⟨#[98]⟩] [⟨#[97]⟩, ⟨#[98]⟩] = 1 := by decide +kernel
theorem k14 : cmpP [⟨#[97]⟩, ⟨#[98]⟩] [⟨#[97]⟩, ⟨#[98]⟩] = 0 := by decide +kernel
theorem lit2 (w : World) (x y : ByteArray) (t : TypeId) : Rs (w.alloc (.cells #[.string x, .string y] t)) (some ⟨w.heap.size, 0, none⟩) [x, y] := by
  refine ⟨by simp, fun a ha j s hj => ?_⟩
  cases ha
  rw [add_lit, cell_of_row _ _ (0 + j) _ t (0, 0) (heap_alloc_new w _)]
  match j, hj with
  | 0, hj => simp at hj; subst hj; rfl
  | 1, hj => simp at hj; subst hj; rfl
theorem lit1 (w : World) (x : ByteArray) (t : TypeId) : Rs (w.alloc (.cells #[.string x] t)) (some ⟨w.heap.size, 0, none⟩) [x] := by
  refine ⟨by simp, fun a ha j s hj => ?_⟩
  cases ha
  rw [add_lit, cell_of_row _ _ (0 + j) _ t (0, 0) (heap_alloc_new w _)]
  match j, hj with
  | 0, hj => simp at hj; subst hj; rfl

set_option maxHeartbeats 4000000 in
set_option maxRecDepth 100000 in
theorem known_any (w : World) (hT : Tabs w) : Calls Tryd.prog 7 #[] w fun e w' => e = .returned (.bool true) ∧ Below w.heap.size w w' := by
  have hTb : ∀ W, Below w.heap.size w W → Tabs W := fun W h => Tabs.below hT h
  have hB : Below w.heap.size w (w.alloc (.cells #[.string ⟨#[97]⟩, .string ⟨#[98]⟩] 9)) := (Below.refl _ w).alloc (Nat.le_refl _) _
  have hj : Calls Tryd.prog 23 #[.slice (some ⟨w.heap.size, 0, none⟩) 2 2] (w.alloc (.cells #[.string ⟨#[97]⟩, .string ⟨#[98]⟩] 9)) fun e w' => e = .returned (.tuple #[.string ⟨#[47, 97, 47, 98]⟩, .int .i64 0]) ∧ Below w.heap.size w w' := by
    refine (join_any (c := 2) (lit2 w ⟨#[97]⟩ ⟨#[98]⟩ 9) (by decide) (by simp) (hTb _ hB) (by decide)).mono ?_
    rintro e w' ⟨rfl, b⟩
    refine ⟨?_, hB.trans (b.mono hB.size)⟩
    unfold joinE
    rw [k5, k6]; rfl
  have hs1 : ∀ W, Below w.heap.size w W → Calls Tryd.prog 8 #[.string ⟨#[47, 97, 47, 98]⟩] W fun e w' => (∃ ao c, e = .returned (.tuple #[.slice ao 2 c, .int .i64 0]) ∧ Hid (Rs w' ao [⟨#[97]⟩, ⟨#[98]⟩])) ∧ Below w.heap.size w w' := fun W hW => by
    refine (split_any ⟨#[47, 97, 47, 98]⟩ W (by decide) (hTb _ hW)).mono ?_
    rintro e w' ⟨hE, b⟩
    refine ⟨?_, hW.trans (b.mono hW.size)⟩
    rcases hE with ⟨h, _⟩ | ⟨L, v, h1, h2, h3⟩
    · rw [show splitB (⟨#[47, 97, 47, 98]⟩ : ByteArray).data.toList = some [[97], [98]] from k7] at h; cases h
    · rw [show splitB (⟨#[47, 97, 47, 98]⟩ : ByteArray).data.toList = some [[97], [98]] from k7] at h1
      cases h1
      obtain ⟨ao, c, rfl, hr, _⟩ := h3.shape
      exact ⟨ao, c, h2, hide hr⟩
  have hs2 : ∀ W, Below w.heap.size w W → Calls Tryd.prog 8 #[.string ⟨#[47, 97, 47]⟩] W fun e w' => e = .returned (.tuple #[.slice none 0 0, .int .i64 4]) ∧ Below W.heap.size W w' := fun W hW => by
    refine (split_any ⟨#[47, 97, 47]⟩ W (by decide) (hTb _ hW)).mono ?_
    rintro e w' ⟨hE, b⟩
    refine ⟨?_, b⟩
    rcases hE with ⟨_, h⟩ | ⟨L, v, h1, _⟩
    · exact h
    · rw [show splitB (⟨#[47, 97, 47]⟩ : ByteArray).data.toList = none from k8] at h1; cases h1
  have hu1 : ∀ W, Calls Tryd.prog 10 #[.string ⟨#[97, 37, 50, 48, 98, 37, 50, 53]⟩] W fun e w' => e = .returned (.tuple #[.string ⟨#[97, 32, 98, 37]⟩, .int .i64 0]) ∧ Below W.heap.size W w' := fun W => by
    refine (unword_any ⟨#[97, 37, 50, 48, 98, 37, 50, 53]⟩ W (by decide)).mono ?_
    rintro e w' ⟨rfl, b⟩
    refine ⟨?_, b⟩
    rw [show unwordB (⟨#[97, 37, 50, 48, 98, 37, 50, 53]⟩ : ByteArray).data.toList = some [97, 32, 98, 37] from k9]; rfl
  have hu2 : ∀ W, Calls Tryd.prog 10 #[.string ⟨#[37, 54, 49]⟩] W fun e w' => e = .returned (.tuple #[.string ⟨#[]⟩, .int .i64 4]) ∧ Below W.heap.size W w' := fun W => by
    refine (unword_any ⟨#[37, 54, 49]⟩ W (by decide)).mono ?_
    rintro e w' ⟨rfl, b⟩
    refine ⟨?_, b⟩
    rw [show unwordB (⟨#[37, 54, 49]⟩ : ByteArray).data.toList = none from k10]; rfl
  have hk : ∀ (s : ByteArray) (r : Bool), keyB s.data.toList = r → ∀ W, Below w.heap.size w W → Calls Tryd.prog 12 #[.string s] W fun e w' => e = .returned (.bool r) ∧ Below W.heap.size W w' := fun s r hr W hW => by
    rw [← hr]; exact key_any s W (hTb _ hW)
  have hk1 := hk ⟨#[97]⟩ true k1
  have hk2 := hk ⟨#[97, 47, 98]⟩ false k2
  have hk3 := hk ⟨#[255]⟩ false k3
  have hk4 := hk ⟨#[195, 169]⟩ true k4
  clear hk
  have hw : ∀ W, Calls Tryd.prog 18 #[.string ⟨#[97, 32, 98, 37]⟩] W fun e w' => e = .returned (.string ⟨#[97, 37, 50, 48, 98, 37, 50, 53]⟩) ∧ Below W.heap.size W w' := fun W => by
    refine (word_any ⟨#[97, 32, 98, 37]⟩ W (by decide)).mono ?_
    rintro e w' ⟨rfl, b⟩
    refine ⟨?_, b⟩
    rw [show wordB (⟨#[97, 32, 98, 37]⟩ : ByteArray).data.toList = [97, 37, 50, 48, 98, 37, 50, 53] from k11]
  have hlb : ∀ W, Calls Tryd.prog 16 #[.string ⟨#[109, 97, 105, 110]⟩] W fun e w' => e = .returned (.bool true) ∧ Below W.heap.size W w' := fun W => by
    refine (label_any ⟨#[109, 97, 105, 110]⟩ W).mono ?_
    rintro e w' ⟨rfl, b⟩
    exact ⟨by rw [show labelB (⟨#[109, 97, 105, 110]⟩ : ByteArray).data.toList = true from k12], b⟩
  have hcp : ∀ W : World, Calls Tryd.prog 31 #[.slice (some ⟨W.heap.size, 0, none⟩) 1 1, .slice (some ⟨W.heap.size + 1, 0, none⟩) 2 2] ((W.alloc (.cells #[.string ⟨#[98]⟩] 9)).alloc (.cells #[.string ⟨#[97]⟩, .string ⟨#[98]⟩] 9)) fun e w' => e = .returned (.int .i64 1) ∧ Below W.heap.size W w' := fun W => by
    have hb1 : Below (W.alloc (.cells #[.string ⟨#[98]⟩] 9)).heap.size (W.alloc (.cells #[.string ⟨#[98]⟩] 9)) ((W.alloc (.cells #[.string ⟨#[98]⟩] 9)).alloc (.cells #[.string ⟨#[97]⟩, .string ⟨#[98]⟩] 9)) := (Below.refl _ _).alloc (Nat.le_refl _) _
    have h2 := lit2 (W.alloc (.cells #[.string ⟨#[98]⟩] 9)) ⟨#[97]⟩ ⟨#[98]⟩ 9
    rw [show (W.alloc (.cells #[.string ⟨#[98]⟩] 9)).heap.size = W.heap.size + 1 by simp] at h2
    refine (cmpPath_any (c := 1) (d := 2) ((lit1 W ⟨#[98]⟩ 9).below hb1) h2 (by decide)).mono ?_
    rintro e w' ⟨rfl, rfl⟩
    exact ⟨by rw [k13], ((Below.refl _ W).alloc (Nat.le_refl _) _).alloc (by simp) _⟩
  have hsm : ∀ (w3 W : World) (ao : Option Addr) (c : Nat), Hid (Rs w3 ao [⟨#[97]⟩, ⟨#[98]⟩]) → Below w3.heap.size w3 W → Calls Tryd.prog 20 #[.slice ao 2 c, .slice (some ⟨W.heap.size, 0, none⟩) 2 2] (W.alloc (.cells #[.string ⟨#[97]⟩, .string ⟨#[98]⟩] 9)) fun e w' => e = .returned (.bool true) ∧ Below W.heap.size W w' := fun w3 W ao c hr hb => by
    have hb1 : Below W.heap.size W (W.alloc (.cells #[.string ⟨#[97]⟩, .string ⟨#[98]⟩] 9)) := (Below.refl _ _).alloc (Nat.le_refl _) _
    refine (same_any (c := c) (d := 2) ((hr.out.below hb).below hb1) (lit2 W ⟨#[97]⟩ ⟨#[98]⟩ 9) (by decide) (by decide)).mono ?_
    rintro e w' ⟨rfl, n, rfl⟩
    exact ⟨by rw [k14]; rfl, hb1.trans ⟨rfl, rfl, rfl, Nat.le_refl _, fun _ _ => rfl⟩⟩
  clear hT hTb hB
  go_enter Tryd.func7, Tryd.ntmps7
  go_wp2_with (first
    | (go_at_call 23; refine hj.mono ?_; rintro e w1 ⟨rfl, hB⟩; clear hj; dsimp only)
    | (go_at_call 8; refine (hs1 _ hB).mono ?_; rintro e w2 ⟨⟨ao, c, rfl, hR⟩, hB'⟩; clear hs1 hB; have hB3 := Below.refl w2.heap.size w2; dsimp only)
    | (go_at_call 8; refine (hs2 _ hB').mono ?_; rintro e w3 ⟨rfl, b⟩; replace hB' := hB'.trans (b.mono hB'.size); replace hB3 := hB3.trans (b.mono hB3.size); clear hs2 b; dsimp only)
    | (go_at_call 10; refine (hu1 _).mono ?_; rintro e w3 ⟨rfl, b⟩; replace hB' := hB'.trans (b.mono hB'.size); replace hB3 := hB3.trans (b.mono hB3.size); clear hu1 b; dsimp only)
    | (go_at_call 10; refine (hu2 _).mono ?_; rintro e w3 ⟨rfl, b⟩; replace hB' := hB'.trans (b.mono hB'.size); replace hB3 := hB3.trans (b.mono hB3.size); clear hu2 b; dsimp only)
    | (go_at_call 12; refine (hk1 _ hB').mono ?_; rintro e w3 ⟨rfl, b⟩; replace hB' := hB'.trans (b.mono hB'.size); replace hB3 := hB3.trans (b.mono hB3.size); clear hk1 b; dsimp only)
    | (go_at_call 12; refine (hk2 _ hB').mono ?_; rintro e w3 ⟨rfl, b⟩; replace hB' := hB'.trans (b.mono hB'.size); replace hB3 := hB3.trans (b.mono hB3.size); clear hk2 b; dsimp only)
    | (go_at_call 12; refine (hk3 _ hB').mono ?_; rintro e w3 ⟨rfl, b⟩; replace hB' := hB'.trans (b.mono hB'.size); replace hB3 := hB3.trans (b.mono hB3.size); clear hk3 b; dsimp only)
    | (go_at_call 12; refine (hk4 _ hB').mono ?_; rintro e w3 ⟨rfl, b⟩; replace hB' := hB'.trans (b.mono hB'.size); replace hB3 := hB3.trans (b.mono hB3.size); clear hk4 b; dsimp only)
    | (go_at_call 21; refine (num_any _ _).mono ?_; rintro e w' ⟨rfl, rfl⟩; dsimp only)
    | (go_at_call 20; refine (hsm _ _ _ _ hR hB3).mono ?_; rintro e w3 ⟨rfl, b⟩; replace hB' := hB'.trans (b.mono hB'.size); replace hB3 := hB3.trans (b.mono hB3.size); clear hsm b; dsimp only)
    | (go_at_call 18; refine (hw _).mono ?_; rintro e w3 ⟨rfl, b⟩; replace hB' := hB'.trans (b.mono hB'.size); replace hB3 := hB3.trans (b.mono hB3.size); clear hw b; dsimp only)
    | (go_at_call 31; refine (hcp _).mono ?_; rintro e w3 ⟨rfl, b⟩; replace hB' := hB'.trans (b.mono hB'.size); replace hB3 := hB3.trans (b.mono hB3.size); clear hcp b; dsimp only)
    | (go_at_call 16; refine (hlb _).mono ?_; rintro e w3 ⟨rfl, b⟩; replace hB' := hB'.trans (b.mono hB'.size); clear hlb b; dsimp only))
  go_ret
  exact ⟨rfl, hB'⟩
end Go.Proofs.YtcpigbojebjlaaaDoor
