/-
  THE i-TH KEY: At, seek with its closure.
-/
import Derived.Test.YtckkoigghkgfdaaMaps2
import Derived.Scope
import Derived.Deep.LoopGhost
namespace Go.Proofs.Ytckkoigghkgfdaa
open Go.RowKit Go.Shelf
set_option linter.unusedSimpArgs false

def T.nth (i : Int) : T → T
  | .nil => .nil
  | .node p k v l r => if i < l.n then l.nth i else if (l.n : Int) < i then r.nth (i - (l.n + 1)) else .node p k v l r
theorem nth_node {i : Int} {p k v l r} : (T.node p k v l r).nth i = if i < l.n then l.nth i else if (l.n : Int) < i then r.nth (i - (l.n + 1)) else .node p k v l r := rfl
/-- The i-th node has the i-th key. -/
theorem nth_is : ∀ (t : T) (i : Nat), i < t.n → ∃ p k v l r, t.nth (i : Int) = .node p k v l r ∧ t.list[i]? = some (k, v)
  | .nil, i, h => by simp [T.n] at h
  | .node p k v l r, i, h => by
    rw [nth_node]
    by_cases h1 : i < l.n
    · rw [if_pos (by omega)]
      obtain ⟨p', k', v', l', r', e1, e2⟩ := nth_is l i h1
      exact ⟨p', k', v', l', r', e1, by rw [T.list, List.getElem?_append_left (by rw [T.n_eq]; exact h1)]; exact e2⟩
    · rw [if_neg (by omega)]
      by_cases h2 : l.n < i
      · rw [if_pos (by omega)]
        have e : (i : Int) - (l.n + 1) = ((i - (l.n + 1) : Nat) : Int) := by omega
        rw [e]
        obtain ⟨p', k', v', l', r', e1, e2⟩ := nth_is r (i - (l.n + 1)) (by simp only [T.n] at h; omega)
        refine ⟨p', k', v', l', r', e1, ?_⟩
        rw [T.list, List.getElem?_append_right (by rw [T.n_eq]; omega), T.n_eq]
        rw [show i - l.n = (i - (l.n + 1)) + 1 by omega, List.getElem?_cons_succ]
        exact e2
      · rw [if_neg (by omega)]
        refine ⟨p, k, v, l, r, rfl, ?_⟩
        have : i = l.list.length := by rw [T.n_eq]; omega
        rw [T.list, this]
        simp
theorem nth_low : ∀ (t : T) (i : Int), i < 0 → t.nth i = .nil
  | .nil, _, _ => rfl
  | .node p k v l r, i, h => by rw [nth_node, if_pos (by omega)]; exact nth_low l i h
theorem nth_high : ∀ (t : T) (i : Int), (t.n : Int) ≤ i → t.nth i = .nil
  | .nil, _, _ => rfl
  | .node p k v l r, i, h => by
    have hn : (T.node p k v l r).n = l.n + r.n + 1 := rfl
    rw [nth_node, if_neg (by omega), if_pos (by omega)]
    exact nth_high r _ (by omega)
theorem In.nth {w : World} : ∀ {t : T} (i : Int), In w t → In w (t.nth i)
  | .nil, _, _ => trivial
  | .node p k v l r, i, h => by
    rw [nth_node]
    split
    · exact In.nth i h.2.1
    · split
      · exact In.nth _ h.2.2
      · exact h

set_option maxHeartbeats 1000000 in
set_option maxRecDepth 100000 in
theorem at1_any {p : Nat} {k : ByteArray} {v : Int} {l r : T} (L : Nat) (i : Int) (w : World) (h : In w (.node p k v l r)) (hL : w.heap[L]? = some (.cells #[.int .i64 i] 3 (0, 0))) (hi : i ≤ 9223372036854775807) (hlo : -9223372036854775808 ≤ i) (hn : l.n ≤ 700000) :
    Calls Try.prog 46 #[.pointer (some ⟨p, 0, none⟩), .pointer (some ⟨L, 0, none⟩)] w fun e w' => e = .returned (.int .i64 (Lib.compareInt i l.n)) ∧ w' = if (l.n : Int) < i then w.setCell ⟨L, 0, none⟩ (.int .i64 (i - (l.n + 1))) else w := by
  have c2 := h.cells.c2
  have hl := len_any l w h.2.1
  have b0 : w.cell? ⟨L, 0, none⟩ = some (.int .i64 i) := by rw [cell_of_row _ _ 0 _ 3 (0, 0) hL]; rfl
  have b1 : w.frozen? ⟨L, 0, none⟩ = false := frozen_of_row w _ 0 _ 3 hL
  have hc := Try.cmp_Compare_int i l.n w
  obtain ⟨a, ha⟩ := l.ptr_shape
  rw [ha] at c2 hl
  clear h ha hL
  have hcmp : (Lib.compareInt i (l.n : Int) = 1 ∧ (l.n : Int) < i) ∨ (¬ (l.n : Int) < i ∧ (Lib.compareInt i (l.n : Int) = 0 ∨ Lib.compareInt i (l.n : Int) = -1)) := by
    unfold Lib.compareInt
    split
    · right; exact ⟨by omega, .inr rfl⟩
    · split
      · left; exact ⟨rfl, by assumption⟩
      · right; exact ⟨by assumption, .inl rfl⟩
  generalize l.n = N at *
  have w1 : IntKind.i64.wrap ((N : Int) + 1) = (N : Int) + 1 := by rw [IntKind.wrap_i64]; omega
  rcases hcmp with ⟨e, hgt⟩ | ⟨hle, e | e⟩
  · rw [e] at hc ⊢
    rw [if_pos hgt]
    have w2 : IntKind.i64.wrap (i - ((N : Int) + 1)) = i - ((N : Int) + 1) := by rw [IntKind.wrap_i64]; omega
    have w3 : wrap64 (i - ((N : Int) + 1)) = i - ((N : Int) + 1) := by unfold wrap64; omega
    clear e hgt
    go_enter Try.func46, Try.ntmps46
    go_wp2_with (first
      | (go_at_call 30; refine hl.mono ?_; rintro e w' ⟨rfl, hw⟩; replace hw := hw.symm; subst hw)
      | (go_at_call 47; refine hc.mono ?_; rintro e w' ⟨rfl, hw⟩; replace hw := hw.symm; subst hw))
    go_ret
    exact ⟨rfl, rfl⟩
  · rw [e] at hc ⊢
    rw [if_neg hle]
    clear e
    go_enter Try.func46, Try.ntmps46
    go_wp2_with (first
      | (go_at_call 30; refine hl.mono ?_; rintro e w' ⟨rfl, hw⟩; replace hw := hw.symm; subst hw)
      | (go_at_call 47; refine hc.mono ?_; rintro e w' ⟨rfl, hw⟩; replace hw := hw.symm; subst hw))
    go_ret
    exact ⟨rfl, rfl⟩
  · rw [e] at hc ⊢
    rw [if_neg hle]
    clear e
    go_enter Try.func46, Try.ntmps46
    go_wp2_with (first
      | (go_at_call 30; refine hl.mono ?_; rintro e w' ⟨rfl, hw⟩; replace hw := hw.symm; subst hw)
      | (go_at_call 47; refine hc.mono ?_; rintro e w' ⟨rfl, hw⟩; replace hw := hw.symm; subst hw))
    go_ret
    exact ⟨rfl, rfl⟩

/-- The count's box in a later world. -/
structure AtI (w : World) (L : Nat) (i : Int) (W : World) : Prop where
  only : Only (fun j => j = L) w W
  box : W.heap[L]? = some (.cells #[.int .i64 i] 3 (0, 0))
theorem Only.next2 {D : Nat → Prop} {a b c : World} (h : Only D a b) (k : Only D b c) : Only D a c := h.trans k (fun _ _ d => d)
theorem sub_n' {s t : T} (h : Sub s t) : s.n ≤ t.n := by
  induction h with
  | here => exact Nat.le_refl _
  | left _ ih => simp only [T.n]; omega
  | right _ ih => simp only [T.n]; omega
set_option maxHeartbeats 2000000 in
set_option maxRecDepth 100000 in
theorem seek_at (t : T) (L : Nat) (i : Int) (w : World) (h : In w t) (hL : w.heap[L]? = some (.cells #[.int .i64 i] 3 (0, 0))) (hi : i ≤ 9223372036854775807) (hlo : -9223372036854775808 ≤ i) (hn : t.n ≤ 700000) :
    Calls Try.prog 45 #[t.ptr, .func (.func 46) #[] #[.pointer (some ⟨L, 0, none⟩)]] w fun e w' => e = .returned (t.nth i).ptr ∧ Only (fun j => j = L) w w' := by
  have hno : ∀ p, p = L → ¬ ∃ k v l r, Sub (.node p k v l r) t := by
    rintro p rfl ⟨k, v, l, r, hs⟩
    have := (In.sub hs h).1
    rw [hL] at this
    simp at this
  obtain ⟨a, ha⟩ := t.ptr_shape
  rw [ha]
  have H := hide (And.intro ha (And.intro h (And.intro hL (And.intro hn hno))))
  clear h ha hL hn hno
  go_enter Try.func45, Try.ntmps45
  go_upto_region 1 with fail
  refine wp_scope_straight ?_
  go_wp2_with fail
  refine wp_label ?_
  go_wp2_with fail
  go_loopg [0, 5] t.h (fun g v0 _ wr => ∃ (s : T) (a : Option Addr) (j : Int), v0 = .pointer a ∧ Hid (s.ptr = .pointer a ∧ (Sub s t ∨ s = .nil) ∧ s.nth j = t.nth i ∧ s.h = g ∧ AtI w L j wr ∧ j ≤ 9223372036854775807 ∧ -9223372036854775808 ≤ j))
  case atStart => exact ⟨t, a, i, rfl, hide ⟨H.out.1, .inl .here, rfl, rfl, ⟨Only.refl _ _, H.out.2.2.1⟩, hi, hlo⟩⟩
  case round =>
    obtain ⟨s, a, j, rfl, HS⟩ := hrel
    cases s with
    | nil =>
      have e1 : a = none := by have := HS.out.1; simp only [T.ptr, Value.pointer.injEq] at this; exact this.symm
      subst e1
      have HE := hide (show (t.nth i).ptr = .pointer none by rw [← HS.out.2.2.1]; rfl)
      have HO := hide HS.out.2.2.2.2.1.only
      go_wp2
      try rw [Exit.noGoto_ret]
      go_ret
      exact ⟨by rw [HE.out]; rfl, HO.out⟩
    | node p nk nv l r =>
      have e1 : a = some ⟨p, 0, none⟩ := by have := HS.out.1; simp only [T.ptr, Value.pointer.injEq] at this; exact this.symm
      subst e1
      have hsub : Sub (.node p nk nv l r) t := by
        rcases HS.out.2.1 with h | h
        · exact h
        · cases h
      have hA := HS.out.2.2.2.2.1
      have hin : In wr (.node p nk nv l r) := In.sub hsub (In.only hA.only H.out.2.1 (fun p _ e => H.out.2.2.2.2 p e))
      have hln : l.n ≤ 700000 := by have h1 := sub_n' hsub; have h2 := H.out.2.2.2.1; simp only [T.n] at h1; omega
      have hf := at1_any L j wr hin hA.box HS.out.2.2.2.2.2.1 HS.out.2.2.2.2.2.2 hln
      have c2 := hin.cells.c2
      have c3 := hin.cells.c3
      obtain ⟨al, hal⟩ := l.ptr_shape
      obtain ⟨ar, har⟩ := r.ptr_shape
      rw [hal] at c2
      rw [har] at c3
      have hpL : ¬ p = L := fun e => H.out.2.2.2.2 p e ⟨nk, nv, l, r, hsub⟩
      by_cases g1 : (l.n : Int) < j
      · have hcm : Lib.compareInt j (l.n : Int) = 1 := by unfold Lib.compareInt; rw [if_neg (by omega), if_pos g1]
        rw [hcm, if_pos g1] at hf
        have hset := Only.ofGrown (grown_setCell wr ⟨L, 0, none⟩ (.int .i64 (j - (l.n + 1))))
        have hset' : Only (fun q => q = L) wr (wr.setCell ⟨L, 0, none⟩ (.int .i64 (j - (l.n + 1)))) := hset.mono (fun q _ e => by simpa using e.symm)
        have c3' := hset'.cell c3 (fun e => hpL e)
        have HX := hide (show r.ptr = .pointer ar ∧ Sub r t ∧ r.nth (j - (l.n + 1)) = t.nth i ∧ r.h < gk ∧ AtI w L (j - (l.n + 1)) (wr.setCell ⟨L, 0, none⟩ (.int .i64 (j - (l.n + 1)))) ∧ j - (l.n + 1) ≤ 9223372036854775807 ∧ -9223372036854775808 ≤ j - (l.n + 1) from ⟨har, (Sub.right .here).trans hsub, by rw [← HS.out.2.2.1, nth_node, if_neg (by omega), if_pos g1], by have := HS.out.2.2.2.1; rw [T.h_node] at this; omega, ⟨hA.only.next2 hset', by rw [heap_setCell_same _ _ _ _ 3 _ hA.box]; simp⟩, by have := HS.out.2.2.2.2.2.1; omega, by omega⟩)
        clear hal har hcm g1 hin hA hset hset' c2 c3 hsub hln
        go_wp2_with (go_at_call 46; refine hf.mono ?_; rintro e w' ⟨rfl, hw⟩; subst hw)
        go_roundg r.h
        case measure => exact HX.out.2.2.2.1
        case rel => exact ⟨r, ar, _, rfl, hide ⟨HX.out.1, .inl HX.out.2.1, HX.out.2.2.1, rfl, HX.out.2.2.2.2.1, HX.out.2.2.2.2.2.1, HX.out.2.2.2.2.2.2⟩⟩
      · rw [if_neg g1] at hf
        by_cases g2 : j < (l.n : Int)
        · have hcm : Lib.compareInt j (l.n : Int) = -1 := by unfold Lib.compareInt; rw [if_pos g2]
          rw [hcm] at hf
          have HX := hide (show l.ptr = .pointer al ∧ Sub l t ∧ l.nth j = t.nth i ∧ l.h < gk ∧ AtI w L j wr ∧ j ≤ 9223372036854775807 ∧ -9223372036854775808 ≤ j from ⟨hal, (Sub.left .here).trans hsub, by rw [← HS.out.2.2.1, nth_node, if_pos g2], by have := HS.out.2.2.2.1; rw [T.h_node] at this; omega, hA, HS.out.2.2.2.2.2⟩)
          clear hal har hcm g1 g2 hin hA c3 hsub hln
          go_wp2_with (go_at_call 46; refine hf.mono ?_; rintro e w' ⟨rfl, hw⟩; replace hw := hw.symm; subst hw)
          go_roundg l.h
          case measure => exact HX.out.2.2.2.1
          case rel => exact ⟨l, al, _, rfl, hide ⟨HX.out.1, .inl HX.out.2.1, HX.out.2.2.1, rfl, HX.out.2.2.2.2.1, HX.out.2.2.2.2.2.1, HX.out.2.2.2.2.2.2⟩⟩
        · have hcm : Lib.compareInt j (l.n : Int) = 0 := by unfold Lib.compareInt; rw [if_neg g2, if_neg g1]
          rw [hcm] at hf
          have HE := hide (show (t.nth i).ptr = .pointer (some ⟨p, 0, none⟩) ∧ Only (fun q => q = L) w wr from ⟨by rw [← HS.out.2.2.1, nth_node, if_neg g2, if_neg g1]; rfl, hA.only⟩)
          clear hal har hcm g1 g2 hin hA c2 c3 hsub hln
          go_wp2_with (go_at_call 46; refine hf.mono ?_; rintro e w' ⟨rfl, hw⟩; replace hw := hw.symm; subst hw)
          try rw [Exit.noGoto_ret]
          go_ret
          exact ⟨by rw [HE.out.1]; rfl, HE.out.2⟩

set_option maxHeartbeats 1000000 in
theorem mAt_any (t : T) (i : Int) (w : World) (h : In w t) (hi : i ≤ 9223372036854775807) (hlo : -9223372036854775808 ≤ i) (hn : t.n ≤ 700000) : Calls Try.prog 27 #[mv t, .int .i64 i] w fun e w' => e = .returned (.tuple #[.string (t.nth i).key, .int .i64 (t.nth i).val, .bool (t.nth i).isSome]) ∧ Below w.heap.size w w' := by
  obtain ⟨m0, m1⟩ := new2 w (.cells #[t.ptr] 29) (.cells #[.int .i64 i] 3)
  have hb : Below w.heap.size w ((w.alloc (.cells #[t.ptr] 29)).alloc (.cells #[.int .i64 i] 3)) := ((Below.refl _ w).alloc (Nat.le_refl _) _).alloc (by simp) _
  have hs := seek_at t (w.heap.size + 1) i _ (In.below hb h) m1 hi hlo hn
  have h2 : ∀ W, Only (fun j => j = w.heap.size + 1) ((w.alloc (.cells #[t.ptr] 29)).alloc (.cells #[.int .i64 i] 3)) W → Below w.heap.size w W ∧ Calls Try.prog 44 #[(t.nth i).ptr] W (fun e w' => e = .returned (.tuple #[.string (t.nth i).key, .int .i64 (t.nth i).val, .bool (t.nth i).isSome]) ∧ w' = W) := fun W hW => by
    have hbW : Below w.heap.size w W := Below.only hb hW hb.size (fun j e => by omega)
    exact ⟨hbW, told_any _ W (In.below hbW (In.nth i h))⟩
  unfold mv
  obtain ⟨a, ha⟩ := t.ptr_shape
  obtain ⟨b, hb'⟩ := (t.nth i).ptr_shape
  rw [ha] at hb hs h2 ⊢
  rw [hb'] at hs
  simp only [hb'] at h2
  generalize (t.nth i).key = K at *
  generalize (t.nth i).val = V at *
  generalize (t.nth i).isSome = D at *
  clear h ha hb' m0 m1 hn
  go_enter Try.func27, Try.ntmps27
  go_wp2_with (first
    | (go_at_call 45; refine hs.mono ?_; rintro e w1 ⟨rfl, ho⟩; obtain ⟨hb1, h49⟩ := h2 w1 ho)
    | (go_at_call 44; refine h49.mono ?_; rintro e w' ⟨rfl, hw⟩; replace hw := hw.symm; subst hw))
  go_ret3
  exact ⟨rfl, hb1⟩
end Go.Proofs.Ytckkoigghkgfdaa
