/-
  BOTH ENDS OF A TREE, and whether keys fit beside a key: end, fits.
-/
import Derived.Test.YtckkoigghkgfdaaJoining
import Derived.Test.YtckkoigghkgfdaaTakes
import Derived.Scope
import Derived.Deep.LoopGhost
namespace Go.Proofs.Ytckkoigghkgfdaa
open Go.RowKit Go.Shelf
set_option linter.unusedSimpArgs false

theorem In.sub {w : World} {s t : T} (h : Sub s t) : In w t → In w s := by
  induction h with
  | here => exact id
  | left _ ih => exact fun h => ih h.2.1
  | right _ ih => exact fun h => ih h.2.2
theorem first_left {p k v l r} : (T.node p k v l r).first = if l = .nil then .node p k v l r else l.first := by
  cases l with
  | nil => simp [T.first]
  | node => simp [T.first]
theorem last_right {p k v l r} : (T.node p k v l r).last = if r = .nil then .node p k v l r else r.last := by
  cases r with
  | nil => simp [T.last]
  | node => simp [T.last]
theorem ptr_nil {t : T} : t.ptr = .pointer none ↔ t = .nil := by cases t <;> simp [T.ptr]

set_option maxHeartbeats 1000000 in
theorem end_left (t : T) (w : World) (h : In w t) : Calls Try.prog 63 #[t.ptr, .func (.func 57) #[] #[]] w fun e w' => e = .returned t.first.ptr ∧ w' = w := by
  have hL : ∀ s, In w s → Calls Try.prog 57 #[s.ptr] w fun e w' => e = .returned s.left.ptr ∧ w' = w := fun s hs => left_any s w hs
  have h0 := hL t h
  obtain ⟨a, ha⟩ := t.ptr_shape
  obtain ⟨b, hb⟩ := t.left.ptr_shape
  rw [ha, hb] at h0
  rw [ha]
  have H := hide (And.intro ha hb)
  have HL := hide hL
  have HT := hide h
  clear h ha hb hL
  go_enter Try.func63, Try.ntmps63
  go_wp2_with (go_at_call 57; refine h0.mono ?_; rintro e w' ⟨rfl, hw⟩; replace hw := hw.symm; subst hw)
  go_loopg [0, 5] t.h (fun k v0 v5 wr => ∃ (s : T) (a b : Option Addr), v0 = .pointer a ∧ v5 = .pointer b ∧ Hid (s.ptr = .pointer a ∧ s.left.ptr = .pointer b ∧ In w s ∧ s.first = t.first ∧ s.h = k) ∧ wr = w)
  case atStart => exact ⟨t, a, b, rfl, rfl, hide ⟨H.out.1, H.out.2, HT.out, rfl, rfl⟩, rfl⟩
  case round =>
    obtain ⟨s, a, b, rfl, rfl, HS, rfl⟩ := hrel
    cases b with
    | none =>
      have e1 : s.left = .nil := ptr_nil.1 HS.out.2.1
      have e2 : s.first = s := by
        cases s with
        | nil => rfl
        | node p k v l r => rw [first_left, if_pos (by simpa [T.left] using e1)]
      have HE := hide (show t.first.ptr = .pointer a by rw [← HS.out.2.2.2.1, e2]; exact HS.out.1)
      clear e1 e2
      go_wp2
      go_ret
      exact ⟨by rw [HE.out]; rfl, rfl⟩
    | some b =>
      have e1 : s.left ≠ .nil := fun e => by have := HS.out.2.1; rw [e] at this; cases this
      obtain ⟨p, k, v, l, r, rfl⟩ : ∃ p k v l r, s = .node p k v l r := by
        cases s with
        | nil => exact (e1 rfl).elim
        | node p k v l r => exact ⟨_, _, _, _, _, rfl⟩
      have hl := HL.out l (HS.out.2.2.1.2.1)
      have e3 : l.ptr = .pointer (some b) := HS.out.2.1
      have e4 : l.first = t.first := by rw [← HS.out.2.2.2.1, first_left, if_neg (by simpa [T.left] using e1)]
      have e5 : l.h < gk := by have := HS.out.2.2.2.2; rw [T.h_node] at this; omega
      have e6 : In wr l := HS.out.2.2.1.2.1
      obtain ⟨c, hc⟩ := l.left.ptr_shape
      rw [e3, hc] at hl
      have HX := hide (And.intro e3 (And.intro hc (And.intro e6 (And.intro e4 e5))))
      clear e1 e3 e4 e5 e6 hc
      go_wp2_with (go_at_call 57; refine hl.mono ?_; rintro e w' ⟨rfl, hw⟩; replace hw := hw.symm; subst hw)
      go_roundg l.h
      case measure => exact HX.out.2.2.2.2
      case rel => exact ⟨l, _, _, rfl, rfl, hide ⟨HX.out.1, HX.out.2.1, HX.out.2.2.1, HX.out.2.2.2.1, rfl⟩, rfl⟩
set_option maxHeartbeats 1000000 in
theorem end_right (t : T) (w : World) (h : In w t) : Calls Try.prog 63 #[t.ptr, .func (.func 58) #[] #[]] w fun e w' => e = .returned t.last.ptr ∧ w' = w := by
  have hL : ∀ s, In w s → Calls Try.prog 58 #[s.ptr] w fun e w' => e = .returned s.right.ptr ∧ w' = w := fun s hs => right_any s w hs
  have h0 := hL t h
  obtain ⟨a, ha⟩ := t.ptr_shape
  obtain ⟨b, hb⟩ := t.right.ptr_shape
  rw [ha, hb] at h0
  rw [ha]
  have H := hide (And.intro ha hb)
  have HL := hide hL
  have HT := hide h
  clear h ha hb hL
  go_enter Try.func63, Try.ntmps63
  go_wp2_with (go_at_call 58; refine h0.mono ?_; rintro e w' ⟨rfl, hw⟩; replace hw := hw.symm; subst hw)
  go_loopg [0, 5] t.h (fun k v0 v5 wr => ∃ (s : T) (a b : Option Addr), v0 = .pointer a ∧ v5 = .pointer b ∧ Hid (s.ptr = .pointer a ∧ s.right.ptr = .pointer b ∧ In w s ∧ s.last = t.last ∧ s.h = k) ∧ wr = w)
  case atStart => exact ⟨t, a, b, rfl, rfl, hide ⟨H.out.1, H.out.2, HT.out, rfl, rfl⟩, rfl⟩
  case round =>
    obtain ⟨s, a, b, rfl, rfl, HS, rfl⟩ := hrel
    cases b with
    | none =>
      have e1 : s.right = .nil := ptr_nil.1 HS.out.2.1
      have e2 : s.last = s := by
        cases s with
        | nil => rfl
        | node p k v l r => rw [last_right, if_pos (by simpa [T.right] using e1)]
      have HE := hide (show t.last.ptr = .pointer a by rw [← HS.out.2.2.2.1, e2]; exact HS.out.1)
      clear e1 e2
      go_wp2
      go_ret
      exact ⟨by rw [HE.out]; rfl, rfl⟩
    | some b =>
      have e1 : s.right ≠ .nil := fun e => by have := HS.out.2.1; rw [e] at this; cases this
      obtain ⟨p, k, v, l, r, rfl⟩ : ∃ p k v l r, s = .node p k v l r := by
        cases s with
        | nil => exact (e1 rfl).elim
        | node p k v l r => exact ⟨_, _, _, _, _, rfl⟩
      have hl := HL.out r (HS.out.2.2.1.2.2)
      have e3 : r.ptr = .pointer (some b) := HS.out.2.1
      have e4 : r.last = t.last := by rw [← HS.out.2.2.2.1, last_right, if_neg (by simpa [T.right] using e1)]
      have e5 : r.h < gk := by have := HS.out.2.2.2.2; rw [T.h_node] at this; omega
      have e6 : In wr r := HS.out.2.2.1.2.2
      obtain ⟨c, hc⟩ := r.right.ptr_shape
      rw [e3, hc] at hl
      have HX := hide (And.intro e3 (And.intro hc (And.intro e6 (And.intro e4 e5))))
      clear e1 e3 e4 e5 e6 hc
      go_wp2_with (go_at_call 58; refine hl.mono ?_; rintro e w' ⟨rfl, hw⟩; replace hw := hw.symm; subst hw)
      go_roundg r.h
      case measure => exact HX.out.2.2.2.2
      case rel => exact ⟨r, _, _, rfl, rfl, hide ⟨HX.out.1, HX.out.2.1, HX.out.2.2.1, HX.out.2.2.2.1, rfl⟩, rfl⟩
end Go.Proofs.Ytckkoigghkgfdaa
