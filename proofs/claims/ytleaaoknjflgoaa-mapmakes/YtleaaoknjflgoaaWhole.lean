/-
  THE STATEMENT's OWN whole: whether a tree is balanced, in order, and told right.
-/
import Derived.Test.YtleaaoknjflgoaaMaps2
import Derived.BigCall
import Derived.BigGuard
import Derived.BigGuardPart
import Derived.BigRegion
namespace Go.Proofs.Ytleaaoknjflgoaa
open Go.RowKit Go.Shelf
set_option linter.unusedSimpArgs false

set_option maxHeartbeats 4000000 in
set_option maxRecDepth 100000 in
theorem whole_any (t : T) : ∀ (d : Nat) (w : World), In w t → t.bal → Srt t.list → d + t.h ≤ 61 → t.n ≤ 700000 →
    Calls Try.prog 36 #[t.ptr, .int .i64 d] w fun e w' => e = .returned (.tuple #[.int .i64 (t.h : Nat), .int .i64 (t.n : Nat)]) ∧ w' = w := by
  induction t with
  | nil =>
    intro d w _ _ _ _ _
    simp only [T.ptr]
    go_enter Try.func36, Try.ntmps36
    go_wp2
    go_ret2
    exact ⟨rfl, rfl⟩
  | node p k v l r ihl ihr =>
    intro d w h hb hs hd hn
    obtain ⟨b1, b2, b3, b4⟩ := hb
    obtain ⟨s1, s2, s3, s4⟩ := Srt.app.1 hs
    have hh : (T.node p k v l r).h = max l.h r.h + 1 := rfl
    have hnn : (T.node p k v l r).n = l.n + r.n + 1 := rfl
    have hL := left_any (.node p k v l r) w h
    have hR := right_any (.node p k v l r) w h
    have hK := key_any (.node p k v l r) w h
    have hH := height_any (.node p k v l r) w h
    have hN := len_any (.node p k v l r) w h
    have hl := ihl (d + 1) w h.2.1 b3 s1 (by omega) (by omega)
    have hr := ihr (d + 1) w h.2.2 b4 s2 (by omega) (by omega)
    have hlk : l ≠ .nil → Op.bytesLess l.key.toList k.toList = true := fun e => by
      rw [less_B]
      obtain ⟨q, k', v', a, b, rfl⟩ : ∃ q k' v' a b, l = .node q k' v' a b := by cases l with | nil => exact (e rfl).elim | node => exact ⟨_, _, _, _, _, rfl⟩
      have := s3 (k', v') (by simp [T.list])
      simp only at this
      exact decide_eq_true this
    have hrk : r ≠ .nil → Op.bytesLess r.key.toList k.toList = false ∧ (r.key.toList == k.toList) = false := fun e => by
      obtain ⟨q, k', v', a, b, rfl⟩ : ∃ q k' v' a b, r = .node q k' v' a b := by cases r with | nil => exact (e rfl).elim | node => exact ⟨_, _, _, _, _, rfl⟩
      have := s4 (k', v') (by simp [T.list])
      simp only at this
      have h2 : cmpB k' k = 1 := by have := ord_B.anti k' k; omega
      refine ⟨by rw [less_B]; simp [T.key, h2], ?_⟩
      simp only [T.key, beq_eq_false_iff_ne, ne_eq]
      intro e
      rw [ByteArray.toList_eq, ByteArray.toList_eq] at e
      rw [ba_eq e, ord_B.refl] at h2
      omega
    have e1 : ((d + 1 : Nat) : Int) = (d : Int) + 1 := by omega
    rw [e1] at hl hr
    have zd : ¬ (60 : Int) < (d : Int) := by omega
    rw [hh] at hH ⊢
    rw [hnn] at hN ⊢
    have z1 : ¬ (1 : Int) < (l.h : Int) - (r.h : Int) := by omega
    have z2 : ¬ (1 : Int) < (r.h : Int) - (l.h : Int) := by omega
    have e2 : ((max l.h r.h + 1 : Nat) : Int) = max (l.h : Int) (r.h : Int) + 1 := by omega
    have e3 : ((l.n + r.n + 1 : Nat) : Int) = (l.n : Int) + (r.n : Int) + 1 := by omega
    rw [e2] at hH ⊢
    rw [e3] at hN ⊢
    have zz1 := l.h_le_n
    have zz2 := r.h_le_n
    have hdd : (d : Int) ≤ 60 := by omega
    have n1 : l.n ≤ 700000 := by omega
    have n2 : r.n ≤ 700000 := by omega
    have n3 : l.h ≤ 700000 := by omega
    have n4 : r.h ≤ 700000 := by omega
    have y1 : IntKind.i64.wrap ((l.h : Int) - (r.h : Int)) = (l.h : Int) - (r.h : Int) := by rw [IntKind.wrap_i64]; omega
    have y2 : IntKind.i64.wrap ((r.h : Int) - (l.h : Int)) = (r.h : Int) - (l.h : Int) := by rw [IntKind.wrap_i64]; omega
    have y3 : IntKind.i64.wrap (max (l.h : Int) (r.h : Int) + 1) = max (l.h : Int) (r.h : Int) + 1 := by rw [IntKind.wrap_i64]; omega
    have y4 : IntKind.i64.wrap ((l.n : Int) + (r.n : Int)) = (l.n : Int) + (r.n : Int) := by rw [IntKind.wrap_i64]; omega
    have y5 : IntKind.i64.wrap ((l.n : Int) + (r.n : Int) + 1) = (l.n : Int) + (r.n : Int) + 1 := by rw [IntKind.wrap_i64]; omega
    have y6 : IntKind.i64.wrap ((d : Int) + 1) = (d : Int) + 1 := by rw [IntKind.wrap_i64]; omega
    have a1 : ¬ ((l.h : Int) < 0) := by omega
    have a2 : ¬ ((r.h : Int) < 0) := by omega
    rw [node_ptr] at hL hR hK hH hN ⊢
    simp only [T.left, T.right, T.key] at hL hR hK
    clear hs hd hn ihl ihr hh hnn s1 s2 s3 s4 b1 b2 b3 b4 e1 e2 e3 zz1 zz2
    by_cases el : l = .nil
    · by_cases er : r = .nil
      · subst el
        simp only [T.ptr] at hL hl
        subst er
        simp only [T.ptr] at hR hr
        clear hlk hrk h
        simp only [T.h, T.n] at *
        have tk : True := trivial
        go_enter Try.func36, Try.ntmps36
        go_wp2_with (first
          | (go_at_call 24; refine hL.mono ?_; rintro e w' ⟨rfl, hw⟩; replace hw := hw.symm; subst hw; dsimp only)
          | (go_at_call 25; refine hR.mono ?_; rintro e w' ⟨rfl, hw⟩; replace hw := hw.symm; subst hw; dsimp only)
          | (go_at_call 28; refine hH.mono ?_; rintro e w' ⟨rfl, hw⟩; replace hw := hw.symm; subst hw; dsimp only)
          | (go_at_call 29; refine hN.mono ?_; rintro e w' ⟨rfl, hw⟩; replace hw := hw.symm; subst hw; dsimp only)
          | (go_at_call 36; clear tk; refine hl.mono ?_; rintro e w' ⟨rfl, hw⟩; replace hw := hw.symm; subst hw; dsimp only)
          | (go_at_call 36; refine hr.mono ?_; rintro e w' ⟨rfl, hw⟩; replace hw := hw.symm; subst hw; dsimp only))
        go_ret2
        exact ⟨rfl, rfl⟩
      · subst el
        simp only [T.ptr] at hL hl
        obtain ⟨rp, rk, rv, ra, rb, rfl⟩ : ∃ q k' v' a b, r = .node q k' v' a b := by cases r with | nil => exact (er rfl).elim | node => exact ⟨_, _, _, _, _, rfl⟩
        have hKr := key_any _ w h.2.2
        obtain ⟨hq1, hq2⟩ := hrk er
        simp only [T.key] at hq1 hq2 hKr
        rw [node_ptr] at hR hr hKr
        clear hlk hrk h er
        have t0 : T.nil.h = 0 := rfl
        have t1 : T.nil.n = 0 := rfl
        rw [t0] at hH hl z1 z2 y1 y2 y3 a1 ⊢
        rw [t1] at hN hl y4 y5 ⊢
        generalize (T.node rp rk rv ra rb).h = B at *
        generalize (T.node rp rk rv ra rb).n = Y at *
        have tk : True := trivial
        go_enter Try.func36, Try.ntmps36
        go_wp2_with (first
          | (go_at_call 24; refine hL.mono ?_; rintro e w' ⟨rfl, hw⟩; replace hw := hw.symm; subst hw; dsimp only)
          | (go_at_call 25; refine hR.mono ?_; rintro e w' ⟨rfl, hw⟩; replace hw := hw.symm; subst hw; dsimp only)
          | (go_at_call 28; refine hH.mono ?_; rintro e w' ⟨rfl, hw⟩; replace hw := hw.symm; subst hw; dsimp only)
          | (go_at_call 29; refine hN.mono ?_; rintro e w' ⟨rfl, hw⟩; replace hw := hw.symm; subst hw; dsimp only)
          | (go_at_call 36; clear tk; refine hl.mono ?_; rintro e w' ⟨rfl, hw⟩; replace hw := hw.symm; subst hw; dsimp only)
          | (go_at_call 36; refine hr.mono ?_; rintro e w' ⟨rfl, hw⟩; replace hw := hw.symm; subst hw; dsimp only)
          | (go_at_call_of 26 rp; refine hKr.mono ?_; rintro e w' ⟨rfl, hw⟩; replace hw := hw.symm; subst hw; dsimp only)
          | (go_at_call 26; refine hK.mono ?_; rintro e w' ⟨rfl, hw⟩; replace hw := hw.symm; subst hw; dsimp only))
        go_ret2
        exact ⟨rfl, rfl⟩
    · by_cases er : r = .nil
      · obtain ⟨lp, lk, lv, la, lb, rfl⟩ : ∃ q k' v' a b, l = .node q k' v' a b := by cases l with | nil => exact (el rfl).elim | node => exact ⟨_, _, _, _, _, rfl⟩
        have hKl := key_any _ w h.2.1
        have hq := hlk el
        simp only [T.key] at hq hKl
        rw [node_ptr] at hL hl hKl
        subst er
        simp only [T.ptr] at hR hr
        clear hlk hrk h el
        have t0 : T.nil.h = 0 := rfl
        have t1 : T.nil.n = 0 := rfl
        rw [t0] at hH hr z1 z2 y1 y2 y3 a2 ⊢
        rw [t1] at hN hr y4 y5 ⊢
        generalize (T.node lp lk lv la lb).h = A at *
        generalize (T.node lp lk lv la lb).n = X at *
        have n5 : A ≤ 700000 := by omega
        have zx : ¬ (1 : Int) < -(A : Int) := by omega
        have yx : IntKind.i64.wrap (-(A : Int)) = -(A : Int) := by rw [IntKind.wrap_i64]; omega
        have mx : max (A : Int) 0 = (A : Int) := by omega
        have tk : True := trivial
        go_enter Try.func36, Try.ntmps36
        go_wp2_with (first
          | (go_at_call 24; refine hL.mono ?_; rintro e w' ⟨rfl, hw⟩; replace hw := hw.symm; subst hw; dsimp only)
          | (go_at_call 25; refine hR.mono ?_; rintro e w' ⟨rfl, hw⟩; replace hw := hw.symm; subst hw; dsimp only)
          | (go_at_call 28; refine hH.mono ?_; rintro e w' ⟨rfl, hw⟩; replace hw := hw.symm; subst hw; dsimp only)
          | (go_at_call 29; refine hN.mono ?_; rintro e w' ⟨rfl, hw⟩; replace hw := hw.symm; subst hw; dsimp only)
          | (go_at_call 36; clear tk; refine hl.mono ?_; rintro e w' ⟨rfl, hw⟩; replace hw := hw.symm; subst hw; dsimp only)
          | (go_at_call 36; refine hr.mono ?_; rintro e w' ⟨rfl, hw⟩; replace hw := hw.symm; subst hw; dsimp only)
          | (go_at_call_of 26 lp; refine hKl.mono ?_; rintro e w' ⟨rfl, hw⟩; replace hw := hw.symm; subst hw; dsimp only)
          | (go_at_call 26; refine hK.mono ?_; rintro e w' ⟨rfl, hw⟩; replace hw := hw.symm; subst hw; dsimp only))
        go_ret2
        exact ⟨rfl, rfl⟩
      · obtain ⟨lp, lk, lv, la, lb, rfl⟩ : ∃ q k' v' a b, l = .node q k' v' a b := by cases l with | nil => exact (el rfl).elim | node => exact ⟨_, _, _, _, _, rfl⟩
        have hKl := key_any _ w h.2.1
        have hq := hlk el
        simp only [T.key] at hq hKl
        rw [node_ptr] at hL hl hKl
        obtain ⟨rp, rk, rv, ra, rb, rfl⟩ : ∃ q k' v' a b, r = .node q k' v' a b := by cases r with | nil => exact (er rfl).elim | node => exact ⟨_, _, _, _, _, rfl⟩
        have hKr := key_any _ w h.2.2
        obtain ⟨hq1, hq2⟩ := hrk er
        simp only [T.key] at hq1 hq2 hKr
        rw [node_ptr] at hR hr hKr
        clear hlk hrk h el er
        generalize (T.node lp lk lv la lb).h = A at *
        generalize (T.node lp lk lv la lb).n = X at *
        generalize (T.node rp rk rv ra rb).h = B at *
        generalize (T.node rp rk rv ra rb).n = Y at *
        have tk : True := trivial
        go_enter Try.func36, Try.ntmps36
        go_wp2_with (first
          | (go_at_call 24; refine hL.mono ?_; rintro e w' ⟨rfl, hw⟩; replace hw := hw.symm; subst hw; dsimp only)
          | (go_at_call 25; refine hR.mono ?_; rintro e w' ⟨rfl, hw⟩; replace hw := hw.symm; subst hw; dsimp only)
          | (go_at_call 28; refine hH.mono ?_; rintro e w' ⟨rfl, hw⟩; replace hw := hw.symm; subst hw; dsimp only)
          | (go_at_call 29; refine hN.mono ?_; rintro e w' ⟨rfl, hw⟩; replace hw := hw.symm; subst hw; dsimp only)
          | (go_at_call 36; clear tk; refine hl.mono ?_; rintro e w' ⟨rfl, hw⟩; replace hw := hw.symm; subst hw; dsimp only)
          | (go_at_call 36; refine hr.mono ?_; rintro e w' ⟨rfl, hw⟩; replace hw := hw.symm; subst hw; dsimp only)
          | (go_at_call_of 26 lp; refine hKl.mono ?_; rintro e w' ⟨rfl, hw⟩; replace hw := hw.symm; subst hw; dsimp only)
          | (go_at_call_of 26 rp; refine hKr.mono ?_; rintro e w' ⟨rfl, hw⟩; replace hw := hw.symm; subst hw; dsimp only)
          | (go_at_call 26; refine hK.mono ?_; rintro e w' ⟨rfl, hw⟩; replace hw := hw.symm; subst hw; dsimp only))
        go_ret2
        exact ⟨rfl, rfl⟩
end Go.Proofs.Ytleaaoknjflgoaa
