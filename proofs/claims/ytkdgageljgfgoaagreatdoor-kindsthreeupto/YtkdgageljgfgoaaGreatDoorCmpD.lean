/-
  CMPD: branches, names, stamps held against each other by the document.
-/
import Derived.Test.YtkdgageljgfgoaaGreatDoorCmp7
namespace Go.Proofs.YtkdgageljgfgoaaGreatDoor
open Go.RowKit Go.Shelf
set_option linter.unusedSimpArgs false

theorem number6_any (a b : Int) (w : World) : Calls Tryz.prog 86 #[.int .i64 a, .int .i64 b] w fun e w' => e = .returned (.int .i64 (cmpI a b)) ∧ w' = w := by
  unfold cmpI
  by_cases h1 : a < b
  · rw [if_pos h1]
    go_enter Tryz.func86, Tryz.ntmps86
    go_wp2
    go_ret
    exact ⟨rfl, rfl⟩
  · rw [if_neg h1]
    by_cases h2 : b < a
    · rw [if_pos h2]
      go_enter Tryz.func86, Tryz.ntmps86
      go_wp2
      go_ret
      exact ⟨rfl, rfl⟩
    · rw [if_neg h2]
      go_enter Tryz.func86, Tryz.ntmps86
      go_wp2
      go_ret
      exact ⟨rfl, rfl⟩

/-- The first that decides. -/
def lexI (a b : Int) : Int := if a = 0 then b else a

set_option maxHeartbeats 2000000 in
set_option maxRecDepth 100000 in
theorem refCmpB_grow (r : Int) (l : ByteArray) (r' : Int) (l' : ByteArray) (w : World) (hl : l.size ≤ 9223372036854775807) : Calls Tryz.prog 112 #[bv r l, bv r' l'] w fun e w' => e = .returned (.int .i64 (lexI (cmpI r r') (cmpB l l'))) ∧ BelowG w.heap.size w w' := by
  have hb : BelowG w.heap.size w ((w.alloc (.cells #[.int .i64 r, .string l] 48)).alloc (.cells #[.int .i64 r', .string l'] 48)) := (belowG_new w _).alloc (by simp) _
  have HB := hide hb
  clear hb
  have h1 := number6_any r r'
  have h2 := fun W => refCmp_any l l' W hl
  clear hl
  generalize cmpI r r' = c1 at h1 ⊢
  generalize cmpB l l' = c2 at h2 ⊢
  unfold lexI bv
  by_cases hc : c1 = 0
  · rw [if_pos hc]
    subst hc
    go_enter Tryz.func112, Tryz.ntmps112
    go_wp2_with (first | (go_at_call 86; refine (h1 _).mono ?_; rintro e w' ⟨rfl, rfl⟩) | (go_at_call 123; refine (h2 _).mono ?_; rintro e w' ⟨rfl, n, rfl⟩))
    go_ret
    exact ⟨rfl, HB.out.drewN _⟩
  · rw [if_neg hc]
    go_enter Tryz.func112, Tryz.ntmps112
    go_wp2_with (go_at_call 86; refine (h1 _).mono ?_; rintro e w' ⟨rfl, rfl⟩)
    go_ret
    exact ⟨rfl, HB.out⟩

set_option maxHeartbeats 2000000 in
set_option maxRecDepth 100000 in
theorem refCmpN_grow (r : Int) (l : ByteArray) (n r' : Int) (l' : ByteArray) (n' : Int) (w : World) (hl : l.size ≤ 9223372036854775807) : Calls Tryz.prog 87 #[nv r l n, nv r' l' n'] w fun e w' => e = .returned (.int .i64 (lexI (lexI (cmpI r r') (cmpB l l')) (cmpI n n'))) ∧ BelowG w.heap.size w w' := by
  have hb : BelowG w.heap.size w ((w.alloc (.cells #[.int .i64 r, .string l, .int .i64 n] 50)).alloc (.cells #[.int .i64 r', .string l', .int .i64 n'] 50)) := (belowG_new w _).alloc (by simp) _
  obtain ⟨hk1, hk2⟩ := new2 w (.cells #[.int .i64 r, .string l, .int .i64 n] 50) (.cells #[.int .i64 r', .string l', .int .i64 n'] 50)
  have hz1 := (Array.getElem?_eq_some_iff.1 hk1).1
  have hz2 := (Array.getElem?_eq_some_iff.1 hk2).1
  have h2 := number6_any n n'
  have h1 : Calls Tryz.prog 112 #[bv r l, bv r' l'] ((w.alloc (.cells #[.int .i64 r, .string l, .int .i64 n] 50)).alloc (.cells #[.int .i64 r', .string l', .int .i64 n'] 50)) fun e w' => e = .returned (.int .i64 (lexI (cmpI r r') (cmpB l l'))) ∧ w'.cell? ⟨w.heap.size, 2, none⟩ = some (.int .i64 n) ∧ w'.cell? ⟨w.heap.size + 1, 2, none⟩ = some (.int .i64 n') ∧ Hid (BelowG w.heap.size w w') :=
    (refCmpB_grow r l r' l' _ hl).mono fun e w' ⟨he, hw⟩ => ⟨he, (blk3 ((hw.block _ hz1).trans hk1)).2.2.1, (blk3 ((hw.block _ hz2).trans hk2)).2.2.1, hide (hb.trans (hw.mono hb.size))⟩
  clear hb hk1 hk2 hz1 hz2 hl
  generalize lexI (cmpI r r') (cmpB l l') = c1 at h1 ⊢
  generalize cmpI n n' = c2 at h2 ⊢
  unfold bv at h1
  unfold lexI nv
  by_cases hc : c1 = 0
  · rw [if_pos hc]
    subst hc
    go_enter Tryz.func87, Tryz.ntmps87
    go_wp2_with (first | (go_at_call 112; refine h1.mono ?_; rintro e w' ⟨rfl, hc1, hc2, HW⟩) | (go_at_call 86; refine (h2 _).mono ?_; rintro e w' ⟨rfl, rfl⟩))
    go_ret
    exact ⟨rfl, HW.out⟩
  · rw [if_neg hc]
    go_enter Tryz.func87, Tryz.ntmps87
    go_wp2_with (go_at_call 112; refine h1.mono ?_; rintro e w' ⟨rfl, hc1, hc2, HW⟩)
    go_ret
    exact ⟨rfl, HW.out⟩

set_option maxHeartbeats 2000000 in
set_option maxRecDepth 100000 in
theorem refCmpS_grow (g r : Int) (l : ByteArray) (n x g' r' : Int) (l' : ByteArray) (n' x' : Int) (w : World) (hl : l.size ≤ 9223372036854775807) : Calls Tryz.prog 63 #[sv g r l n x, sv g' r' l' n' x'] w fun e w' => e = .returned (.int .i64 (lexI (lexI (cmpI g g') (lexI (lexI (cmpI r r') (cmpB l l')) (cmpI n n'))) (cmpI x x'))) ∧ BelowG w.heap.size w w' := by
  have hb : BelowG w.heap.size w ((w.alloc (.cells #[.int .i64 g, .int .i64 r, .string l, .int .i64 n, .int .i64 x] 52)).alloc (.cells #[.int .i64 g', .int .i64 r', .string l', .int .i64 n', .int .i64 x'] 52)) := (belowG_new w _).alloc (by simp) _
  obtain ⟨hk1, hk2⟩ := new2 w (.cells #[.int .i64 g, .int .i64 r, .string l, .int .i64 n, .int .i64 x] 52) (.cells #[.int .i64 g', .int .i64 r', .string l', .int .i64 n', .int .i64 x'] 52)
  have hz1 := (Array.getElem?_eq_some_iff.1 hk1).1
  have hz2 := (Array.getElem?_eq_some_iff.1 hk2).1
  have h1 := number6_any g g'
  have h3 := number6_any x x'
  have h2 : Calls Tryz.prog 87 #[nv r l n, nv r' l' n'] ((w.alloc (.cells #[.int .i64 g, .int .i64 r, .string l, .int .i64 n, .int .i64 x] 52)).alloc (.cells #[.int .i64 g', .int .i64 r', .string l', .int .i64 n', .int .i64 x'] 52)) fun e w' => e = .returned (.int .i64 (lexI (lexI (cmpI r r') (cmpB l l')) (cmpI n n'))) ∧ w'.cell? ⟨w.heap.size, 4, none⟩ = some (.int .i64 x) ∧ w'.cell? ⟨w.heap.size + 1, 4, none⟩ = some (.int .i64 x') ∧ Hid (BelowG w.heap.size w w') :=
    (refCmpN_grow r l n r' l' n' _ hl).mono fun e w' ⟨he, hw⟩ => ⟨he, (blk5 ((hw.block _ hz1).trans hk1)).2.2.2.2.1, (blk5 ((hw.block _ hz2).trans hk2)).2.2.2.2.1, hide (hb.trans (hw.mono hb.size))⟩
  have HB := hide hb
  clear hb hk1 hk2 hz1 hz2 hl
  generalize lexI (lexI (cmpI r r') (cmpB l l')) (cmpI n n') = c2 at h2 ⊢
  generalize cmpI g g' = c1 at h1 ⊢
  generalize cmpI x x' = c3 at h3 ⊢
  unfold nv at h2
  unfold lexI sv
  by_cases hc : c1 = 0
  · rw [if_pos hc]
    subst hc
    by_cases hd : c2 = 0
    · rw [if_pos hd]
      subst hd
      go_enter Tryz.func63, Tryz.ntmps63
      go_wp2_with (first | (go_at_call 86; refine (h1 _).mono ?_; rintro e w' ⟨rfl, rfl⟩) | (go_at_call 87; refine h2.mono ?_; rintro e w' ⟨rfl, hc1, hc2, HW⟩) | (go_at_call 86; refine (h3 _).mono ?_; rintro e w' ⟨rfl, rfl⟩))
      go_ret
      exact ⟨rfl, HW.out⟩
    · rw [if_neg hd]
      go_enter Tryz.func63, Tryz.ntmps63
      go_wp2_with (first | (go_at_call 86; refine (h1 _).mono ?_; rintro e w' ⟨rfl, rfl⟩) | (go_at_call 87; refine h2.mono ?_; rintro e w' ⟨rfl, hc1, hc2, HW⟩))
      go_ret
      exact ⟨rfl, HW.out⟩
  · rw [if_neg hc, if_neg hc]
    go_enter Tryz.func63, Tryz.ntmps63
    go_wp2_with (go_at_call 86; refine (h1 _).mono ?_; rintro e w' ⟨rfl, rfl⟩)
    go_ret
    exact ⟨rfl, HB.out⟩

theorem lexI_assoc (a b c : Int) : lexI (lexI a b) c = lexI a (lexI b c) := by unfold lexI; split <;> (try split) <;> simp_all
theorem lexI_zero (a : Int) : lexI a 0 = a := by unfold lexI; split <;> simp_all
theorem cmpI_flat {c : Int} (h : c = -1 ∨ c = 0 ∨ c = 1) : cmpI c 0 = c := by rcases h with rfl | rfl | rfl <;> rfl
theorem pairs_lex (a b : Int) (t : List (Int × Int)) : cmpPairs ((a, b) :: t) = lexI (cmpI a b) (cmpPairs t) := by
  rw [cmpPairs]
  unfold lexI cmpI
  dsimp only
  by_cases h1 : a < b
  · rw [if_pos h1, if_pos h1, if_neg (by decide)]
  · rw [if_neg h1, if_neg h1]
    by_cases h2 : b < a
    · rw [if_pos h2, if_pos h2, if_neg (by decide)]
    · rw [if_neg h2, if_neg h2, if_pos rfl]
/-- Both orders are one. -/
theorem cmp_lexS (g r : Int) (l : ByteArray) (n x g' r' : Int) (l' : ByteArray) (n' x' : Int) : cmpS g r l n x g' r' l' n' x' = lexI (lexI (cmpI g g') (lexI (lexI (cmpI r r') (cmpB l l')) (cmpI n n'))) (cmpI x x') := by
  unfold cmpS prs
  rw [pairs_lex, pairs_lex, pairs_lex, pairs_lex, pairs_lex, cmpPairs, lexI_zero, cmpI_flat (ord_B.range l l')]
  simp only [lexI_assoc]
end Go.Proofs.YtkdgageljgfgoaaGreatDoor
