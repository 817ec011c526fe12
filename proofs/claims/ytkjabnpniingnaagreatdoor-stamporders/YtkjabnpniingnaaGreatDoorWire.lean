/-
  WALKS over wire's Number, Join, Bytes, the document's Number, Bytes, and bytes.Clone.
-/
import Derived.Test.YtkjabnpniingnaaGreatDoorShelf
import Derived.Test.YtkjabnpniingnaaGreatDoorPlain
import Derived.Test.YtkjabnpniingnaaGreatDoorMoves
namespace Go.Proofs.YtkjabnpniingnaaGreatDoor
open Go.RowKit Go.Shelf
set_option linter.unusedSimpArgs false

set_option maxHeartbeats 400000 in
set_option maxRecDepth 100000 in
theorem number_any (n : Nat) (w : World) (hn : n < 18446744073709551616) :
    Calls Tryz.prog 106 #[.int .u64 n] w fun e w' => Made 5 w w' e (Plain.numL n) := by
  obtain ⟨i0, hi, hz0, hz1, hz2⟩ := info_parts Tryz.info5
  have h10 := Plain.numL_ten n hn
  go_enter Tryz.func106, Tryz.ntmps106
  go_wp2
  go_loopw [0, 3] (fun x v wr => ∃ (m : Nat) (p : List Int), m ≤ n ∧ x = .int .u64 m ∧ p ++ Plain.numL m = Plain.numL n ∧ Own 5 wr w.heap.size v p ∧ Below w.heap.size w wr)
    (fun x _ _ => (intOf x).toNat)
  case atStart => exact ⟨n, [], Nat.le_refl _, rfl, rfl, Own.nil _ _ _, Below.refl _ _⟩
  case round =>
    obtain ⟨m, p, hmn, rfl, hp, hown, hb⟩ := hrel
    have hpl : p.length ≤ 10 := by rw [← hp] at h10; simp at h10; omega
    have hsz := hb.size
    have HP : Hid (p ++ Plain.numL m = Plain.numL n) := hp
    clear hp
    by_cases hbig : 127 < m
    · go_wp2_with (at_builtin; refine wpList_push rfl _ _ 29 rfl w.heap.size 5 i0 Tryz.underlying29 hi hz0 hz1 hz2 _ _ rfl (hown.alloc _) ⟨wr.heap.size, 0, none⟩ 1 ((m : Int) % 128 + 128) rfl (by simp [go_sem]) (by omega) (by simp; omega) ?_)
      intro ao' cap' w1 hown' hgrow _
      have hb' := below_own (hb.alloc hsz _) (by simp; omega) (hown.alloc _) hgrow
      clear hgrow hown
      go_wp2
      go_roundw
      case rel => exact ⟨m / 128, p ++ [(m : Int) % 128 + 128], by omega, by go_num, by rw [← HP.out, Plain.numL_big hbig]; simp, by simpa using hown', hb'⟩
      case measure => simp [intOf]; omega
    · go_wp2_with (at_builtin; refine wpList_push rfl _ _ 29 rfl w.heap.size 5 i0 Tryz.underlying29 hi hz0 hz1 hz2 _ _ rfl (hown.alloc _) ⟨wr.heap.size, 0, none⟩ 1 (m : Int) rfl (by simp [go_sem]) (by omega) (by simp; omega) ?_)
      intro ao' cap' w1 hown' hgrow hnil
      have hb' := below_own (hb.alloc hsz _) (by simp; omega) (hown.alloc _) hgrow
      clear hgrow hown
      go_wp2
      go_ret
      have he := HP.out
      rw [Plain.numL_small (by omega)] at he
      refine ⟨ao', cap', by rw [← he]; simp, by rw [← he]; simpa using hown', hnil, hb'⟩

set_option maxHeartbeats 400000 in
set_option maxRecDepth 100000 in
theorem refNumber_any (n : Nat) (w : World) (hn : n < 18446744073709551616) :
    Calls Tryz.prog 75 #[.int .u64 n] w fun e w' => Made 5 w w' e (Plain.numL n) := by
  obtain ⟨i0, hi, hz0, hz1, hz2⟩ := info_parts Tryz.info5
  have h10 := Plain.numL_ten n hn
  go_enter Tryz.func75, Tryz.ntmps75
  go_wp2
  go_loopw [0, 3] (fun x v wr => ∃ (m : Nat) (p : List Int), m ≤ n ∧ x = .int .u64 m ∧ p ++ Plain.numL m = Plain.numL n ∧ Own 5 wr w.heap.size v p ∧ Below w.heap.size w wr)
    (fun x _ _ => (intOf x).toNat)
  case atStart => exact ⟨n, [], Nat.le_refl _, rfl, rfl, Own.nil _ _ _, Below.refl _ _⟩
  case round =>
    obtain ⟨m, p, hmn, rfl, hp, hown, hb⟩ := hrel
    have hpl : p.length ≤ 10 := by rw [← hp] at h10; simp at h10; omega
    have hsz := hb.size
    have HP : Hid (p ++ Plain.numL m = Plain.numL n) := hp
    clear hp
    by_cases hbig : 127 < m
    · go_wp2_with (at_builtin; refine wpList_push rfl _ _ 29 rfl w.heap.size 5 i0 Tryz.underlying29 hi hz0 hz1 hz2 _ _ rfl (hown.alloc _) ⟨wr.heap.size, 0, none⟩ 1 ((m : Int) % 128 + 128) rfl (by simp [go_sem]) (by omega) (by simp; omega) ?_)
      intro ao' cap' w1 hown' hgrow _
      have hb' := below_own (hb.alloc hsz _) (by simp; omega) (hown.alloc _) hgrow
      clear hgrow hown
      go_wp2
      go_roundw
      case rel => exact ⟨m / 128, p ++ [(m : Int) % 128 + 128], by omega, by go_num, by rw [← HP.out, Plain.numL_big hbig]; simp, by simpa using hown', hb'⟩
      case measure => simp [intOf]; omega
    · go_wp2_with (at_builtin; refine wpList_push rfl _ _ 29 rfl w.heap.size 5 i0 Tryz.underlying29 hi hz0 hz1 hz2 _ _ rfl (hown.alloc _) ⟨wr.heap.size, 0, none⟩ 1 (m : Int) rfl (by simp [go_sem]) (by omega) (by simp; omega) ?_)
      intro ao' cap' w1 hown' hgrow hnil
      have hb' := below_own (hb.alloc hsz _) (by simp; omega) (hown.alloc _) hgrow
      clear hgrow hown
      go_wp2
      go_ret
      have he := HP.out
      rw [Plain.numL_small (by omega)] at he
      refine ⟨ao', cap', by rw [← he]; simp, by rw [← he]; simpa using hown', hnil, hb'⟩

theorem number_int (n : Int) (w : World) (h0 : 0 ≤ n) (h1 : n < 18446744073709551616) :
    Calls Tryz.prog 106 #[.int .u64 n] w fun e w' => Made 5 w w' e (Plain.numL n.toNat) := by
  obtain ⟨m, rfl⟩ := Int.eq_ofNat_of_zero_le h0
  exact number_any m w (by omega)

theorem refNumber_int (n : Int) (w : World) (h0 : 0 ≤ n) (h1 : n < 18446744073709551616) :
    Calls Tryz.prog 75 #[.int .u64 n] w fun e w' => Made 5 w w' e (Plain.numL n.toNat) := by
  obtain ⟨m, rfl⟩ := Int.eq_ofNat_of_zero_le h0
  exact refNumber_any m w (by omega)

set_option maxHeartbeats 400000 in
set_option maxRecDepth 100000 in
theorem join_any (ao : Option Addr) (cap : Nat) (L : List (List Int)) (w : World) (hp : Pieces w ao L) (hlen : L.length ≤ 9223372036854775807) (hsum : L.flatten.length ≤ 140737488355328) :
    Calls Tryz.prog 105 #[.slice ao L.length cap] w fun e w' => Made 5 w w' e L.flatten := by
  obtain ⟨i0, hi, hz0, hz1, hz2⟩ := info_parts Tryz.info5
  go_enter Tryz.func105, Tryz.ntmps105
  go_wp2
  go_loopw [3, 8] (fun v i wr => ∃ (k : Nat) (p : List Int) (ao' : Option Addr) (cap' : Nat), k ≤ L.length ∧ i = .int .i64 k ∧ p = (L.take k).flatten ∧ v = .slice ao' p.length cap' ∧ Own 5 wr w.heap.size (.slice ao' p.length cap') p ∧ (ao' = none → cap' = 0) ∧ Below w.heap.size w wr)
    (fun _ i _ => L.length - (intOf i).toNat)
  case atStart => exact ⟨0, [], none, 0, Nat.zero_le _, rfl, by simp, rfl, Own.nil _ _ _, by simp, Below.refl _ _⟩
  case round =>
    obtain ⟨k, p, ao', cap', hk, rfl, hpk, rfl, hown, hnil, hb⟩ := hrel
    have hsz := hb.size
    have HP : Hid (p = (L.take k).flatten) := hpk
    by_cases hlt : k < L.length
    · obtain ⟨l, hl⟩ : ∃ l, L[k]? = some l := ⟨_, List.getElem?_eq_getElem hlt⟩
      have hle : p.length + l.length ≤ 140737488355328 := by
        have h1 := flat_snoc L k l hl
        have h2 := flat_take_le L (k + 1)
        rw [h1, ← hpk, List.length_append] at h2
        omega
      have HL : Hid (L[k]? = some l) := hl
      cases ao with
      | none => have := hp.1 rfl; subst this; simp at hlt
      | some a =>
        obtain ⟨aj, cj, hc, hr, hn⟩ := (hp.below (w' := wr) hb).2 a rfl k l hl
        clear hl hpk
        obtain ⟨ab, aoff, aspot⟩ := a
        have hc0 : ∃ u, w.cell? ⟨ab, aoff, aspot⟩ = some u := by
          obtain ⟨_, _, h0, _⟩ := hp.2 _ rfl 0 (L[0]'(by omega)) (List.getElem?_eq_getElem _)
          exact ⟨_, by simpa [Addr.add] using h0⟩
        obtain ⟨_, hc0⟩ := hc0
        have hspot : aspot = none := World.cell?_spot hc0
        subst hspot
        rw [add_lit] at hc
        clear hc0
        go_wp2_with (at_builtin; refine wpList_append_rd rfl _ _ 29 rfl w.heap.size 5 i0 Tryz.underlying29 hi hz0 hz1 hz2 _ _ rfl hown aj cj l rfl hn hr hle hsz ?_)
        intro ao1 cap1 w1 hown' hgrow hnil'
        have hb' := below_own hb hsz hown hgrow
        clear hgrow hown hr hc
        go_wp2
        go_roundw
        case rel => exact ⟨k + 1, p ++ l, ao1, cap1, by omega, by go_num, by rw [flat_snoc L k l HL.out, ← HP.out], by simp, by simpa using hown', hnil', hb'⟩
        case measure => simp [intOf]; omega
    · clear hpk
      go_wp2
      go_ret
      have he : p = L.flatten := by rw [HP.out, List.take_of_length_le (by omega)]
      subst he
      exact ⟨ao', cap', rfl, hown, hnil, hb⟩

theorem Made.intro {e : TypeId} {w w1 w2 : World} {l : List Int} {x : Ending} (hb : Below w.heap.size w w1) (hs : w.heap.size ≤ w1.heap.size) (h : Made e w1 w2 x l) : Made e w w2 x l := by
  obtain ⟨ao, cap, rfl, hown, hn, hb2⟩ := h
  exact ⟨ao, cap, rfl, hown.lift hs, hn, hb.trans (hb2.mono hs)⟩

set_option maxHeartbeats 400000 in
set_option maxRecDepth 100000 in
theorem bytes_any (ao : Option Addr) (cap : Nat) (l : List Int) (w : World) (hr : Rd w ao l) (hn : ao = none → cap = 0) (hl : l.length + 10 ≤ 140737488355328) :
    Calls Tryz.prog 107 #[.slice ao l.length cap] w fun e w' => Made 5 w w' e (Plain.numL l.length ++ l) := by
  have h10 := Plain.numL_ten l.length (by omega)
  go_enter Tryz.func107, Tryz.ntmps107
  go_wp2_with (go_at_call 106; refine (number_any l.length _ (by omega)).mono ?_; rintro e w1 ⟨ao1, cap1, rfl, hown, hnil, hb⟩)
  go_wp2_with fail
  refine (join_any _ 2 [Plain.numL l.length, l] _ (Pieces.two ao1 ao cap1 cap _ _ 29 hown.rd (hr.below hb) hnil hn) (by simp) (by simp; omega)).mono ?_
  intro e w2 hm
  have hm2 : Made 5 w w2 e (Plain.numL l.length ++ l) := by
    have := hm.intro (hb.alloc hb.size _) (by have := hb.size; simp; omega)
    simpa using this
  clear hm
  obtain ⟨ao2, cap2, rfl, hown2, hnil2, hb2⟩ := hm2
  go_wp2
  go_ret
  exact ⟨ao2, cap2, by simp, hown2, hnil2, hb2⟩

set_option maxHeartbeats 400000 in
set_option maxRecDepth 100000 in
theorem refBytes_any (ao : Option Addr) (cap : Nat) (l : List Int) (w : World) (hr : Rd w ao l) (hn : ao = none → cap = 0) (hl : l.length + 10 ≤ 140737488355328) :
    Calls Tryz.prog 78 #[.slice ao l.length cap] w fun e w' => Made 5 w w' e (Plain.numL l.length ++ l) := by
  obtain ⟨i0, hi, hz0, hz1, hz2⟩ := info_parts Tryz.info5
  have h10 := Plain.numL_ten l.length (by omega)
  go_enter Tryz.func78, Tryz.ntmps78
  go_wp2_with (first | (go_at_call 75; refine (refNumber_any l.length _ (by omega)).mono ?_; rintro e w1 ⟨ao1, cap1, rfl, hown, hnil, hb⟩; have hr1 := hr.below hb; have hs1 := hb.size) | (at_builtin; refine wpList_append_rd rfl _ _ 29 rfl w.heap.size 5 i0 Tryz.underlying29 hi hz0 hz1 hz2 _ _ rfl hown ao cap l rfl hn hr1 (by omega) hs1 ?_; intro ao2 cap2 w2 hown2 hgrow hnil2; have hb2 := below_own hb hs1 hown hgrow; clear hgrow hown))
  go_ret
  exact ⟨ao2, cap2, by simp, by simpa using hown2, hnil2, hb2⟩

set_option maxHeartbeats 400000 in
set_option maxRecDepth 100000 in
theorem clone_any (ao : Option Addr) (cap : Nat) (l : List Int) (w : World) (hr : Rd w ao l) (hn : ao = none → cap = 0) (hl : l.length ≤ 140737488355328) :
    Calls Tryz.prog 79 #[.slice ao l.length cap] w fun e w' => Made 5 w w' e l := by
  obtain ⟨i0, hi, hz0, hz1, hz2⟩ := info_parts Tryz.info5
  have q23 : ∀ (w : World) (a : Option Addr) (n c n' c' : Nat), (binOp .eql 29 (.slice a n c) (.slice none n' c')).run Tryz.prog w = .ok (.bool a.isNone) w := fun w a n c n' c' => Lib.run_eql_slice_nil w _ _ a n c n' c' Tryz.underlying29
  cases ao with
  | none =>
    have := hr.1 rfl
    subst this
    have := hn rfl
    subst this
    go_enter Tryz.func79, Tryz.ntmps79
    go_wp2
    go_ret
    exact ⟨none, 0, rfl, Own.nil _ _ _, by simp, Below.refl _ _⟩
  | some a =>
    go_enter Tryz.func79, Tryz.ntmps79
    go_wp2_with (at_builtin; refine wpList_append_rd rfl _ _ 29 rfl w.heap.size 5 i0 Tryz.underlying29 hi hz0 hz1 hz2 _ [] rfl (World.ownsRow_lit w #[] 0 (Nat.le_refl _) (by decide) rfl) (some a) cap l rfl hn (hr.below ((Below.refl _ _).alloc (Nat.le_refl _) _)) (by simpa using hl) (by simp) ?_; intro ao2 cap2 w2 hown2 hgrow hnil2)
    have hb2 := below_own (l := []) ((Below.refl w.heap.size w).alloc (Nat.le_refl _) _) (by simp) (World.ownsRow_lit w #[] 0 (Nat.le_refl _) (by decide) rfl) hgrow
    go_ret
    exact ⟨ao2, cap2, by simp, by simpa using hown2, hnil2, hb2⟩

end Go.Proofs.YtkjabnpniingnaaGreatDoor
