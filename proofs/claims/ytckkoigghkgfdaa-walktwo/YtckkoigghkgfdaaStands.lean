/-
  walk: stands 56: IS A NODE ONE OF A MAP's?
-/
import Derived.Test.YtckkoigghkgfdaaCut
namespace Go.Proofs.Ytckkoigghkgfdaa
open Go.RowKit Go.Shelf
set_option linter.unusedSimpArgs false

/-- Nodes compared. -/
theorem eqT (s n : T) (W : World) (hs : In W s) (hn : In W n) : (binOp .eql 27 s.ptr n.ptr).run Try.prog W = .ok (.bool (decide (s = n))) W := by
  by_cases e : s = n
  · subst e; simp only [decide_true]; exact eql_same s _
  · rw [decide_eq_false e]; exact eql_other hs hn e
set_option maxHeartbeats 4000000 in
theorem stands_any (n t : T) (w : World) (hn : In w n) (ht : In w t) : Calls Try.prog 56 #[n.ptr, mv t] w fun e w' => e = .returned (.bool (decide (t.find n.key = n))) ∧ Below w.heap.size w w' := by
  have hb : Below w.heap.size w (w.alloc (.cells #[t.ptr] 29)) := (Below.refl _ w).alloc (Nat.le_refl _) _
  have r1 := mRoot_any t (w.alloc (.cells #[t.ptr] 29))
  unfold mv at r1 ⊢
  obtain ⟨a, ha⟩ := n.ptr_shape
  obtain ⟨b, hb'⟩ := t.ptr_shape
  rw [hb'] at r1 hb ⊢
  rw [ha]
  have HI := hide (And.intro hn (And.intro ht (And.intro hb (And.intro ha hb'))))
  clear hn ht hb ha hb'
  go_enter Try.func56, Try.ntmps56
  go_wp2_with (go_at_call 50; refine r1.mono ?_; rintro e w1 ⟨rfl, b1⟩; replace b1 := hide b1; dsimp only)
  have bw1 := hide (HI.out.2.2.1.trans (b1.out.mono HI.out.2.2.1.size))
  clear b1 r1
  go_loopg [5] t.h (fun k v5 wr => ∃ (s : T) (b : Option Addr), v5 = .pointer b ∧ Hid (s.ptr = .pointer b ∧ In w1 s ∧ s.find n.key = t.find n.key ∧ s.h = k) ∧ wr = w1)
  case atStart => exact ⟨t, b, rfl, hide ⟨HI.out.2.2.2.2, In.below bw1.out HI.out.2.1, rfl, rfl⟩, rfl⟩
  case round =>
    obtain ⟨s, b, rfl, HS, rfl⟩ := hrel
    obtain ⟨hp, hs, hf, hh⟩ := HS.out
    have hq := eqT s n wr hs (In.below bw1.out HI.out.1)
    rw [hp, HI.out.2.2.2.1] at hq
    have kn : Calls Try.prog 51 #[.pointer a] wr fun e w' => e = .returned (.string n.key) ∧ w' = wr := by
      have := key_any n wr (In.below bw1.out HI.out.1)
      rw [HI.out.2.2.2.1] at this
      exact this
    cases s with
    | nil =>
      have hb0 : b = none := by simpa [T.ptr] using hp.symm
      subst hb0
      have HF := hide hf
      clear hp hs hf hh HS kn
      go_wp2
      go_ret
      refine ⟨?_, bw1.out⟩
      rw [← HF.out]
      rfl
    | node p k v l r =>
      simp only [T.ptr] at hp
      cases hp
      have ks : Calls Try.prog 51 #[.pointer (some ⟨p, 0, none⟩)] wr fun e w' => e = .returned (.string k) ∧ w' = wr := key_any (.node p k v l r) wr hs
      have ls : Calls Try.prog 57 #[.pointer (some ⟨p, 0, none⟩)] wr fun e w' => e = .returned l.ptr ∧ w' = wr := left_any (.node p k v l r) wr hs
      have rs : Calls Try.prog 58 #[.pointer (some ⟨p, 0, none⟩)] wr fun e w' => e = .returned r.ptr ∧ w' = wr := right_any (.node p k v l r) wr hs
      obtain ⟨la, hla⟩ := l.ptr_shape
      obtain ⟨ra, hra⟩ := r.ptr_shape
      rw [hla] at ls
      rw [hra] at rs
      have HX := hide (And.intro hs (And.intro hf (And.intro hh (And.intro hla hra))))
      clear hs hf hh HS hla hra
      obtain ⟨D, hD⟩ : ∃ D, D = decide (T.node p k v l r = n) := ⟨_, rfl⟩
      rw [← hD] at hq
      have HD := hide hD
      clear hD
      by_cases e : k = n.key
      · have HFF := hide (show t.find n.key = .node p k v l r by
          rw [← HX.out.2.1, ← e]
          simp [T.find, ord_B.refl])
        have HE := hide e
        rw [← e] at kn
        clear e
        have tk : True := trivial
        go_wp2_with (first
          | (go_at_call 51; clear tk; refine ks.mono ?_; rintro e w' ⟨rfl, hw⟩; replace hw := hw.symm; subst hw)
          | (go_at_call 51; refine kn.mono ?_; rintro e w' ⟨rfl, hw⟩; replace hw := hw.symm; subst hw))
        go_ret
        exact ⟨by rw [HFF.out, HD.out]; rfl, bw1.out⟩
      · obtain ⟨K, hK⟩ : ∃ K, K = n.key := ⟨_, rfl⟩
        rw [← hK] at kn e
        have e1 : (k.toList == K.toList) = false := by
          simp only [beq_eq_false_iff_ne, ne_eq]
          intro h
          rw [ByteArray.toList_eq, ByteArray.toList_eq] at h
          exact e (ByteArray.ext (Array.toList_inj.1 h))
        have hlb := less_B K k
        have HKK := hide hK
        by_cases hlt : cmpB K k = -1
        · rw [decide_eq_true hlt] at hlb
          have HFF := hide (show l.find n.key = t.find n.key by rw [← HX.out.2.1, ← hK]; simp [T.find, hlt])
          clear hK e hlt hq
          have tk : True := trivial
          have tk2 : True ∧ True := ⟨trivial, trivial⟩
          have tk3 : True ∧ True ∧ True := ⟨trivial, trivial, trivial⟩
          go_wp2_with (first
            | (go_at_call 51; clear tk; refine ks.mono ?_; rintro e w' ⟨rfl, hw⟩; replace hw := hw.symm; subst hw)
            | (go_at_call 51; clear tk2; refine kn.mono ?_; rintro e w' ⟨rfl, hw⟩; replace hw := hw.symm; subst hw)
            | (go_at_call 51; clear tk3; refine kn.mono ?_; rintro e w' ⟨rfl, hw⟩; replace hw := hw.symm; subst hw)
            | (go_at_call 51; refine ks.mono ?_; rintro e w' ⟨rfl, hw⟩; replace hw := hw.symm; subst hw)
            | (go_at_call 57; refine ls.mono ?_; rintro e w' ⟨rfl, hw⟩; replace hw := hw.symm; subst hw))
          go_roundg l.h
          case measure => have := HX.out.2.2.1; simp only [T.h] at this; omega
          case rel => exact ⟨l, la, rfl, hide ⟨HX.out.2.2.2.1, HX.out.1.2.1, HFF.out, rfl⟩, rfl⟩
        · rw [decide_eq_false hlt] at hlb
          have h1 : cmpB K k = 1 := by
            rcases ord_B.range K k with h | h | h
            · exact (hlt h).elim
            · exact (e (ord_B.eq _ _ h).symm).elim
            · exact h
          have HFF := hide (show r.find n.key = t.find n.key by rw [← HX.out.2.1, ← hK]; simp [T.find, h1])
          clear hK e hlt hq h1
          have tk : True := trivial
          have tk2 : True ∧ True := ⟨trivial, trivial⟩
          have tk3 : True ∧ True ∧ True := ⟨trivial, trivial, trivial⟩
          go_wp2_with (first
            | (go_at_call 51; clear tk; refine ks.mono ?_; rintro e w' ⟨rfl, hw⟩; replace hw := hw.symm; subst hw)
            | (go_at_call 51; clear tk2; refine kn.mono ?_; rintro e w' ⟨rfl, hw⟩; replace hw := hw.symm; subst hw)
            | (go_at_call 51; clear tk3; refine kn.mono ?_; rintro e w' ⟨rfl, hw⟩; replace hw := hw.symm; subst hw)
            | (go_at_call 51; refine ks.mono ?_; rintro e w' ⟨rfl, hw⟩; replace hw := hw.symm; subst hw)
            | (go_at_call 58; refine rs.mono ?_; rintro e w' ⟨rfl, hw⟩; replace hw := hw.symm; subst hw))
          go_roundg r.h
          case measure => have := HX.out.2.2.1; simp only [T.h] at this; omega
          case rel => exact ⟨r, ra, rfl, hide ⟨HX.out.2.2.2.2, HX.out.1.2.2, HFF.out, rfl⟩, rfl⟩
end Go.Proofs.Ytckkoigghkgfdaa
