/-
  PROVED: the closed sentence FrameLong of layer 4 (frame) returns true: a body of one byte too many is refused, a wrong kind ahead of it, and nine bytes that say a length of 2^24 are torn, of one more bad; for every world in which it is called, with no condition.
-/
import Derived.Test.YtmabfaldndlneaaKnown
import Derived.Test.YtmabfaldndlneaaOpens
namespace Go.Proofs.Ytmabfaldndlneaa
open Go.RowKit Go.Shelf Crc
set_option linter.unusedSimpArgs false

theorem cels_two (w : World) (k k' : Int) (ao bo : Option Addr) (n c m d : Nat) : Cels (w.alloc (.cells #[.int .i64 k, .slice ao n c, .int .i64 k', .slice bo m d] 36)) w.heap.size [⟨k, ao, n, c⟩, ⟨k', bo, m, d⟩] := fun i x hx => by
  have h := heap_alloc_new w (.cells #[.int .i64 k, .slice ao n c, .int .i64 k', .slice bo m d] 36)
  match i, hx with
  | 0, hx => cases hx; exact ⟨by rw [cell_of_row _ _ 0 _ 36 (0, 0) h]; rfl, by rw [cell_of_row _ _ 1 _ 36 (0, 0) h]; rfl⟩
  | 1, hx => cases hx; exact ⟨by rw [cell_of_row _ _ 2 _ 36 (0, 0) h]; rfl, by rw [cell_of_row _ _ 3 _ 36 (0, 0) h]; rfl⟩
def bigB : List Int := [0, 1, 0, 0, 1, 0, 0, 0, 0]
def tornB : List Int := [0, 1, 0, 0, 0, 0, 0, 0, 0]
theorem bigB_why : why bigB = 141 := why_big (by decide) (by decide)
theorem tornB_why : why tornB = 140 := why_torn (by decide) (by decide) (by decide)
theorem scan9 (b : List Int) (n : Nat) (h9 : b.length = 9) (hu : U8 b) (hw : why b = n) (hn : n ≠ 0) (w : World) (a : Nat) (ha : a < w.heap.size) (hr : Rd w (some ⟨a, 0, none⟩) b) :
    Calls Try.prog 6 #[.slice (some ⟨a, 0, none⟩) 9 9] w fun e w' => ∃ v, e = .returned (.tuple #[v, .int .i64 0, .int .i64 (n : Int)]) ∧ Below w.heap.size w w' := by
  have hb := bad9 h9 (by rw [hw]; exact hn)
  have := scan_any (b := b) ⟨hr, by rw [h9]; exact Nat.le_refl 9, by simp, hu⟩ (fun a ha' => by cases ha'; exact ha) (by omega)
  rw [hb.1, hb.2, hw, h9] at this
  refine this.mono ?_
  rintro e w' ⟨v, xs, rfl, _, hb⟩
  exact ⟨v, rfl, hb⟩

set_option maxHeartbeats 1000000 in
set_option maxRecDepth 100000 in
theorem frameLong_walk (w : World) : Calls Try.prog 4 #[] w fun e w' => e = .returned (.bool true) ∧ Below w.heap.size w w' := by
  obtain ⟨wm, hm, bm, _⟩ := make_any 16777217 w (by omega)
  have hp := put_no 0 (some ⟨w.heap.size, 0, none⟩) 16777217 16777217 wm 3 (by simp [mb, okK, okL]) (by decide)
  have ha1 : ∀ w1, Calls Try.prog 14 #[.slice (some ⟨w1.heap.size, 0, none⟩) 2 2] (w1.alloc (.cells #[.int .i64 1, .slice none 0 0, .int .i64 0, .slice (some ⟨w.heap.size, 0, none⟩) 16777217 16777217] 36)) fun e w' => e = .returned (.tuple #[.slice none 0 0, .int .i64 3]) ∧ Below w1.heap.size w1 w' := fun w1 => by
    have := putAll_no w1.heap.size [⟨1, none, 0, 0⟩, ⟨0, some ⟨w.heap.size, 0, none⟩, 16777217, 16777217⟩] 2 _ (cels_two w1 1 0 none (some ⟨w.heap.size, 0, none⟩) 0 0 16777217 16777217) (by simp) 3 (by simp [mb, okK, okL]) (by decide)
    refine this.mono ?_
    rintro e w' ⟨rfl, hb⟩
    exact ⟨rfl, ((Below.refl _ w1).alloc (Nat.le_refl _) _).trans (hb.mono (by simp))⟩
  have ha2 : ∀ w1, Calls Try.prog 14 #[.slice (some ⟨w1.heap.size, 0, none⟩) 2 2] (w1.alloc (.cells #[.int .i64 0, .slice (some ⟨w.heap.size, 0, none⟩) 16777217 16777217, .int .i64 (-1), .slice none 0 0] 36)) fun e w' => e = .returned (.tuple #[.slice none 0 0, .int .i64 2]) ∧ Below w1.heap.size w1 w' := fun w1 => by
    have := putAll_no w1.heap.size [⟨0, some ⟨w.heap.size, 0, none⟩, 16777217, 16777217⟩, ⟨-1, none, 0, 0⟩] 2 _ (cels_two w1 0 (-1) (some ⟨w.heap.size, 0, none⟩) none 16777217 16777217 0 0) (by simp) 2 (by simp [mb, okK, okL]) (by decide)
    refine this.mono ?_
    rintro e w' ⟨rfl, hb⟩
    exact ⟨rfl, ((Below.refl _ w1).alloc (Nat.le_refl _) _).trans (hb.mono (by simp))⟩
  have hs1 : ∀ w1, Calls Try.prog 6 #[.slice (some ⟨w1.heap.size, 0, none⟩) 9 9] (w1.alloc (.cells #[.int .u8 0, .int .u8 1, .int .u8 0, .int .u8 0, .int .u8 1, .int .u8 0, .int .u8 0, .int .u8 0, .int .u8 0] 5)) fun e w' => ∃ v, e = .returned (.tuple #[v, .int .i64 0, .int .i64 141]) ∧ Below w1.heap.size w1 w' := fun w1 => by
    refine (scan9 bigB 141 rfl (U8.lit rfl) bigB_why (by decide) _ w1.heap.size (by simp) (rd_lit w1 bigB 5 (0, 0))).mono ?_
    rintro e w' ⟨v, rfl, hb⟩
    exact ⟨v, rfl, ((Below.refl _ w1).alloc (Nat.le_refl _) _).trans (hb.mono (by simp))⟩
  have hs2 : ∀ w1, Calls Try.prog 6 #[.slice (some ⟨w1.heap.size, 0, none⟩) 9 9] (w1.alloc (.cells #[.int .u8 0, .int .u8 1, .int .u8 0, .int .u8 0, .int .u8 0, .int .u8 0, .int .u8 0, .int .u8 0, .int .u8 0] 5)) fun e w' => ∃ v, e = .returned (.tuple #[v, .int .i64 0, .int .i64 140]) ∧ Below w1.heap.size w1 w' := fun w1 => by
    refine (scan9 tornB 140 rfl (U8.lit rfl) tornB_why (by decide) _ w1.heap.size (by simp) (rd_lit w1 tornB 5 (0, 0))).mono ?_
    rintro e w' ⟨v, rfl, hb⟩
    exact ⟨v, rfl, ((Below.refl _ w1).alloc (Nat.le_refl _) _).trans (hb.mono (by simp))⟩
  go_enter Try.func4, Try.ntmps4
  have t1 : True := trivial
  have t2 : True := trivial
  go_wp2_with (first
    | refine wpList_turn (OP := Op.makeSlice 22 (.const (.int .i64 16777217)) (.const (.int .i64 16777217))) (T := 22) (w' := wm) rfl rfl rfl (exec_make rfl rfl hm) ?_
    | (go_at_call 13; refine hp.mono ?_; rintro e w1 ⟨rfl, b1⟩)
    | (go_at_call 14; clear t1; refine (ha1 w1).mono ?_; rintro e w2 ⟨rfl, b2⟩)
    | (go_at_call 14; refine (ha2 w2).mono ?_; rintro e w3 ⟨rfl, b3⟩)
    | (go_at_call 6; clear t2; refine (hs1 w3).mono ?_; rintro e w4 ⟨v4, rfl, b4⟩)
    | (go_at_call 6; refine (hs2 w4).mono ?_; rintro e w5 ⟨v5, rfl, b5⟩)
    | (go_at_call 8; refine (num_any _ _).mono ?_; rintro e w6 ⟨rfl, rfl⟩)
    | (go_at_call 5; refine (known_any _).mono ?_; rintro e w7 ⟨rfl, b7⟩))
  go_ret
  have c1 := bm.trans (b1.mono bm.size)
  have c2 := c1.trans (b2.mono c1.size)
  have c3 := c2.trans (b3.mono c2.size)
  have c4 := c3.trans (b4.mono c3.size)
  have c5 := c4.trans (b5.mono c4.size)
  exact ⟨rfl, c5.trans (b7.mono c5.size)⟩

/-! ### THE ROW's STEP -/
end Go.Proofs.Ytmabfaldndlneaa
namespace Go.Proofs.Ytmabfaldndlneaa.frameLong
open Go.ChangeShapes Go.WideShapes Go.ChangeAt Go.RowKit
set_option linter.unusedVariables false
set_option maxRecDepth 100000 in
theorem lifted (os : Os) (started : os.Started) (H : Type) (enc : TypeId × Value → H) :
    ReturnsInHanded {} Try.checked os 4 .any (Rows.frameLongSpec.pre6 enc Try.prog Try.f4 Rows.frameLongRow.domain false) (Rows.frameLongSpec.post enc Try.prog Try.f4 false true false false) := by
  refine returnsInHanded_of_change (C := Try.checked) own started (by kernel_rfl) Try.func4
    (ChangeSpec.witness6 (enc := enc) (C := Try.checked) false ⟨#[], #[], []⟩ 8 (by kernel_rfl) (by kernel_rfl) (by kernel_rfl) (by kernel_rfl)) ?_
  intro W base args ds gs before hval0 hW hcnd _
  have hval : ∀ (j : Nat) t v, Try.f4.params[j]? = some t → args[j]? = some v → Value.okWide Try.prog W .any base t v := hval0
  have hW' := hW
  obtain ⟨p, q, hA0, hV, rfl, hfz, hnd⟩ := hW
  have hA : DataW.TrodAll enc Try.prog W 0 (fun _ => true) true Try.f4.params.toList args.toList ds p := hA0
  rw [Try.params4] at hA hval
  obtain ⟨rfl, rfl, rfl⟩ := trodAll_none hA
  obtain ⟨rfl, rfl⟩ := trodVars_none hV
  clear hA0 hval0
  simp only [List.append_nil] at hW'
  refine (frameLong_walk W).mono fun e W' ⟨he, bel⟩ => ?_
  subst he
  exact ⟨_, rfl, _, _, _, [], _, [], hW', trodAll_mk1 (shut_bool Try.underlying4 _), trodAll_mk0, rfl, bel.frame _, fun h => by cases h⟩

theorem over : Rows.frameLongRow.holds Try.pinned (OpenSpec.ofChange Rows.frameLongSpec) :=
  OpenClaim.holds_of_wide 4 Try.f4 rfl rfl rfl rfl rfl rfl rfl ⟨rfl, rfl, rfl, rfl, rfl⟩ rfl rfl rfl rfl rfl (by kernel_rfl) Try.func4 (by kernel_rfl)
    (of_decide_eq_true (by kernel_rfl)) (by unfold Func.isWrapper; first | (rw [if_pos (by decide +kernel)]; kernel_rfl) | (rw [if_neg (by decide +kernel)]; exact ⟨rfl, rfl⟩))
    (fun os started H enc _ => lifted os started H enc)
end Go.Proofs.Ytmabfaldndlneaa.frameLong
namespace Go.Proofs.Ytmabfaldndlneaa
/-- The statement. -/
theorem frameLong_holds : Rows.FrameLongSaid := frameLong.over
#print axioms frameLong_holds
end Go.Proofs.Ytmabfaldndlneaa
