/-
  THE i-TH KEY: At, seek with its closure.
  journal: At (103).
  journal: the law's has (98), part (94), single (95).
-/
import Derived.Test.YtkkpdgfllnbigaaGreatMg5
import Derived.Scope
import Derived.Deep.LoopGhost
import Derived.Test.YtkkpdgfllnbigaaGreatMg19
namespace Go.Proofs.YtkkpdgfllnbigaaGreat.Pm
open Go.RowKit Go.Shelf
set_option linter.unusedSimpArgs false

/-- Two numbers compared. -/
def cmpZ (x y : Int) : Int := if x < y then -1 else if y < x then 1 else 0
theorem isNaN234 (x : Int) (w : World) : Calls Tryz.prog 234 #[.int .i64 x] w fun e w' => e = .returned (.bool false) ∧ w' = w := by
  go_enter Tryz.func234, Tryz.ntmps234
  go_wp2
  go_ret
  exact ⟨by simp, rfl⟩
set_option maxHeartbeats 1000000 in
set_option maxRecDepth 100000 in
theorem cmpInt201 (x y : Int) (w : World) : Calls Tryz.prog 201 #[.int .i64 x, .int .i64 y] w fun e w' => e = .returned (.int .i64 (cmpZ x y)) ∧ w' = w := by
  have h1 := fun (z : Int) W => isNaN234 z W
  unfold cmpZ
  by_cases a : x < y
  · rw [if_pos a]
    have d : decide (x < y) = true := by simpa using a
    go_enter Tryz.func201, Tryz.ntmps201
    go_wp2_with (go_at_call 234; refine (h1 _ _).mono ?_; rintro e w' ⟨rfl, hw⟩; replace hw := hw.symm; subst hw)
    go_ret
    exact ⟨rfl, rfl⟩
  · rw [if_neg a]
    have d : decide (x < y) = false := by simpa using a
    by_cases b : y < x
    · rw [if_pos b]
      have d2 : decide (y < x) = true := by simpa using b
      go_enter Tryz.func201, Tryz.ntmps201
      go_wp2_with (go_at_call 234; refine (h1 _ _).mono ?_; rintro e w' ⟨rfl, hw⟩; replace hw := hw.symm; subst hw)
      go_ret
      exact ⟨rfl, rfl⟩
    · rw [if_neg b]
      have d2 : decide (y < x) = false := by simpa using b
      go_enter Tryz.func201, Tryz.ntmps201
      go_wp2_with (go_at_call 234; refine (h1 _ _).mono ?_; rintro e w' ⟨rfl, hw⟩; replace hw := hw.symm; subst hw)
      go_ret
      exact ⟨rfl, rfl⟩
def T.nth (i : Int) : T → T
  | .nil => .nil
  | .node p k v l r => if i < l.n then l.nth i else if (l.n : Int) < i then r.nth (i - (l.n + 1)) else .node p k v l r
theorem nth_node {i : Int} {p k v l r} : (T.node p k v l r).nth i = if i < l.n then l.nth i else if (l.n : Int) < i then r.nth (i - (l.n + 1)) else .node p k v l r := rfl
/-- The i-th node has the i-th key. -/
theorem nth_is : ∀ (t : T) (i : Nat), i < t.n → ∃ p k v l r, t.nth (i : Int) = .node p k v l r ∧ t.list[i]? = some (k, v)
  | .nil, i, h => by simp [T.n] at h
  | .node p k v l r, i, h => by
    rw [nth_node]
    by_cases h1 : i < l.n
    · rw [if_pos (by omega)]
      obtain ⟨p', k', v', l', r', e1, e2⟩ := nth_is l i h1
      exact ⟨p', k', v', l', r', e1, by rw [T.list, List.getElem?_append_left (by rw [T.n_eq]; exact h1)]; exact e2⟩
    · rw [if_neg (by omega)]
      by_cases h2 : l.n < i
      · rw [if_pos (by omega)]
        have e : (i : Int) - (l.n + 1) = ((i - (l.n + 1) : Nat) : Int) := by omega
        rw [e]
        obtain ⟨p', k', v', l', r', e1, e2⟩ := nth_is r (i - (l.n + 1)) (by simp only [T.n] at h; omega)
        refine ⟨p', k', v', l', r', e1, ?_⟩
        rw [T.list, List.getElem?_append_right (by rw [T.n_eq]; omega), T.n_eq]
        rw [show i - l.n = (i - (l.n + 1)) + 1 by omega, List.getElem?_cons_succ]
        exact e2
      · rw [if_neg (by omega)]
        refine ⟨p, k, v, l, r, rfl, ?_⟩
        have : i = l.list.length := by rw [T.n_eq]; omega
        rw [T.list, this]
        simp
theorem nth_low : ∀ (t : T) (i : Int), i < 0 → t.nth i = .nil
  | .nil, _, _ => rfl
  | .node p k v l r, i, h => by rw [nth_node, if_pos (by omega)]; exact nth_low l i h
theorem nth_high : ∀ (t : T) (i : Int), (t.n : Int) ≤ i → t.nth i = .nil
  | .nil, _, _ => rfl
  | .node p k v l r, i, h => by
    have hn : (T.node p k v l r).n = l.n + r.n + 1 := rfl
    rw [nth_node, if_neg (by omega), if_pos (by omega)]
    exact nth_high r _ (by omega)
theorem In.nth {w : World} : ∀ {t : T} (i : Int), In w t → In w (t.nth i)
  | .nil, _, _ => trivial
  | .node p k v l r, i, h => by
    rw [nth_node]
    split
    · exact In.nth i h.2.1
    · split
      · exact In.nth _ h.2.2
      · exact h

set_option maxHeartbeats 1000000 in
set_option maxRecDepth 100000 in
theorem at1_any {p : Nat} {k : ByteArray} {v : ByteArray} {l r : T} (L : Nat) (i : Int) (w : World) (h : In w (.node p k v l r)) (hL : w.heap[L]? = some (.cells #[.int .i64 i] 3 (0, 0))) (hi : i ≤ 9223372036854775807) (hlo : -9223372036854775808 ≤ i) (hn : l.n ≤ 700000) :
    Calls Tryz.prog 200 #[.pointer (some ⟨p, 0, none⟩), .pointer (some ⟨L, 0, none⟩)] w fun e w' => e = .returned (.int .i64 (cmpZ i l.n)) ∧ w' = if (l.n : Int) < i then w.setCell ⟨L, 0, none⟩ (.int .i64 (i - (l.n + 1))) else w := by
  have c2 := h.cells.c2
  have hl := len_any l w h.2.1
  have b0 : w.cell? ⟨L, 0, none⟩ = some (.int .i64 i) := by rw [cell_of_row _ _ 0 _ 3 (0, 0) hL]; rfl
  have b1 : w.frozen? ⟨L, 0, none⟩ = false := frozen_of_row w _ 0 _ 3 hL
  have hc := cmpInt201 i l.n w
  obtain ⟨a, ha⟩ := l.ptr_shape
  rw [ha] at c2 hl
  clear h ha hL
  have hcmp : (cmpZ i (l.n : Int) = 1 ∧ (l.n : Int) < i) ∨ (¬ (l.n : Int) < i ∧ (cmpZ i (l.n : Int) = 0 ∨ cmpZ i (l.n : Int) = -1)) := by
    unfold cmpZ
    split
    · right; exact ⟨by omega, .inr rfl⟩
    · split
      · left; exact ⟨rfl, by assumption⟩
      · right; exact ⟨by assumption, .inl rfl⟩
  generalize l.n = N at *
  have w1 : IntKind.i64.wrap ((N : Int) + 1) = (N : Int) + 1 := by rw [IntKind.wrap_i64]; omega
  rcases hcmp with ⟨e, hgt⟩ | ⟨hle, e | e⟩
  · rw [e] at hc ⊢
    rw [if_pos hgt]
    have w2 : IntKind.i64.wrap (i - ((N : Int) + 1)) = i - ((N : Int) + 1) := by rw [IntKind.wrap_i64]; omega
    have w3 : wrap64 (i - ((N : Int) + 1)) = i - ((N : Int) + 1) := by unfold wrap64; omega
    clear e hgt
    go_enter Tryz.func200, Tryz.ntmps200
    go_wp2_with (first
      | (go_at_call 113; refine hl.mono ?_; rintro e w' ⟨rfl, hw⟩; replace hw := hw.symm; subst hw)
      | (go_at_call 201; refine hc.mono ?_; rintro e w' ⟨rfl, hw⟩; replace hw := hw.symm; subst hw))
    go_ret
    exact ⟨rfl, rfl⟩
  · rw [e] at hc ⊢
    rw [if_neg hle]
    clear e
    go_enter Tryz.func200, Tryz.ntmps200
    go_wp2_with (first
      | (go_at_call 113; refine hl.mono ?_; rintro e w' ⟨rfl, hw⟩; replace hw := hw.symm; subst hw)
      | (go_at_call 201; refine hc.mono ?_; rintro e w' ⟨rfl, hw⟩; replace hw := hw.symm; subst hw))
    go_ret
    exact ⟨rfl, rfl⟩
  · rw [e] at hc ⊢
    rw [if_neg hle]
    clear e
    go_enter Tryz.func200, Tryz.ntmps200
    go_wp2_with (first
      | (go_at_call 113; refine hl.mono ?_; rintro e w' ⟨rfl, hw⟩; replace hw := hw.symm; subst hw)
      | (go_at_call 201; refine hc.mono ?_; rintro e w' ⟨rfl, hw⟩; replace hw := hw.symm; subst hw))
    go_ret
    exact ⟨rfl, rfl⟩

/-- The count's box in a later world. -/
structure AtI (w : World) (L : Nat) (i : Int) (W : World) : Prop where
  only : Only (fun j => j = L) w W
  box : W.heap[L]? = some (.cells #[.int .i64 i] 3 (0, 0))
theorem only_next2 {D : Nat → Prop} {a b c : World} (h : Only D a b) (k : Only D b c) : Only D a c := h.trans k (fun _ _ d => d)
theorem sub_n' {s t : T} (h : Sub s t) : s.n ≤ t.n := by
  induction h with
  | here => exact Nat.le_refl _
  | left _ ih => simp only [T.n]; omega
  | right _ ih => simp only [T.n]; omega
set_option maxHeartbeats 2000000 in
set_option maxRecDepth 100000 in
theorem seek_at (t : T) (L : Nat) (i : Int) (w : World) (h : In w t) (hL : w.heap[L]? = some (.cells #[.int .i64 i] 3 (0, 0))) (hi : i ≤ 9223372036854775807) (hlo : -9223372036854775808 ≤ i) (hn : t.n ≤ 700000) :
    Calls Tryz.prog 173 #[t.ptr, .func (.func 200) #[] #[.pointer (some ⟨L, 0, none⟩)]] w fun e w' => e = .returned (t.nth i).ptr ∧ Only (fun j => j = L) w w' := by
  have hno : ∀ p, p = L → ¬ ∃ k v l r, Sub (.node p k v l r) t := by
    rintro p rfl ⟨k, v, l, r, hs⟩
    have := (In.sub hs h).1
    rw [hL] at this
    simp at this
  obtain ⟨a, ha⟩ := t.ptr_shape
  rw [ha]
  have H := hide (And.intro ha (And.intro h (And.intro hL (And.intro hn hno))))
  clear h ha hL hn hno
  go_enter Tryz.func173, Tryz.ntmps173
  go_upto_region 1 with fail
  refine wp_scope_straight ?_
  go_wp2_with fail
  refine wp_label ?_
  go_wp2_with fail
  go_loopg [0, 5] t.h (fun g v0 _ wr => ∃ (s : T) (a : Option Addr) (j : Int), v0 = .pointer a ∧ Hid (s.ptr = .pointer a ∧ (Sub s t ∨ s = .nil) ∧ s.nth j = t.nth i ∧ s.h = g ∧ AtI w L j wr ∧ j ≤ 9223372036854775807 ∧ -9223372036854775808 ≤ j))
  case atStart => exact ⟨t, a, i, rfl, hide ⟨H.out.1, .inl .here, rfl, rfl, ⟨Only.refl _ _, H.out.2.2.1⟩, hi, hlo⟩⟩
  case round =>
    obtain ⟨s, a, j, rfl, HS⟩ := hrel
    cases s with
    | nil =>
      have e1 : a = none := by have := HS.out.1; simp only [T.ptr, Value.pointer.injEq] at this; exact this.symm
      subst e1
      have HE := hide (show (t.nth i).ptr = .pointer none by rw [← HS.out.2.2.1]; rfl)
      have HO := hide HS.out.2.2.2.2.1.only
      go_wp2
      try rw [Exit.noGoto_ret]
      go_ret
      exact ⟨by rw [HE.out]; rfl, HO.out⟩
    | node p nk nv l r =>
      have e1 : a = some ⟨p, 0, none⟩ := by have := HS.out.1; simp only [T.ptr, Value.pointer.injEq] at this; exact this.symm
      subst e1
      have hsub : Sub (.node p nk nv l r) t := by
        rcases HS.out.2.1 with h | h
        · exact h
        · cases h
      have hA := HS.out.2.2.2.2.1
      have hin : In wr (.node p nk nv l r) := In.sub hsub (In.only hA.only H.out.2.1 (fun p _ e => H.out.2.2.2.2 p e))
      have hln : l.n ≤ 700000 := by have h1 := sub_n' hsub; have h2 := H.out.2.2.2.1; simp only [T.n] at h1; omega
      have hf := at1_any L j wr hin hA.box HS.out.2.2.2.2.2.1 HS.out.2.2.2.2.2.2 hln
      have c2 := hin.cells.c2
      have c3 := hin.cells.c3
      obtain ⟨al, hal⟩ := l.ptr_shape
      obtain ⟨ar, har⟩ := r.ptr_shape
      rw [hal] at c2
      rw [har] at c3
      have hpL : ¬ p = L := fun e => H.out.2.2.2.2 p e ⟨nk, nv, l, r, hsub⟩
      by_cases g1 : (l.n : Int) < j
      · have hcm : cmpZ j (l.n : Int) = 1 := by unfold cmpZ; rw [if_neg (by omega), if_pos g1]
        rw [hcm, if_pos g1] at hf
        have hset := Only.ofGrown (grown_setCell wr ⟨L, 0, none⟩ (.int .i64 (j - (l.n + 1))))
        have hset' : Only (fun q => q = L) wr (wr.setCell ⟨L, 0, none⟩ (.int .i64 (j - (l.n + 1)))) := hset.mono (fun q _ e => by simpa using e.symm)
        have c3' := hset'.cell c3 (fun e => hpL e)
        have HX := hide (show r.ptr = .pointer ar ∧ Sub r t ∧ r.nth (j - (l.n + 1)) = t.nth i ∧ r.h < gk ∧ AtI w L (j - (l.n + 1)) (wr.setCell ⟨L, 0, none⟩ (.int .i64 (j - (l.n + 1)))) ∧ j - (l.n + 1) ≤ 9223372036854775807 ∧ -9223372036854775808 ≤ j - (l.n + 1) from ⟨har, (Sub.right .here).trans hsub, by rw [← HS.out.2.2.1, nth_node, if_neg (by omega), if_pos g1], by have := HS.out.2.2.2.1; rw [T.h_node] at this; omega, ⟨only_next2 hA.only hset', by rw [heap_setCell_same _ _ _ _ 3 _ hA.box]; simp⟩, by have := HS.out.2.2.2.2.2.1; omega, by omega⟩)
        clear hal har hcm g1 hin hA hset hset' c2 c3 hsub hln
        go_wp2_with (go_at_call 200; refine hf.mono ?_; rintro e w' ⟨rfl, hw⟩; subst hw)
        go_roundg r.h
        case measure => exact HX.out.2.2.2.1
        case rel => exact ⟨r, ar, _, rfl, hide ⟨HX.out.1, .inl HX.out.2.1, HX.out.2.2.1, rfl, HX.out.2.2.2.2.1, HX.out.2.2.2.2.2.1, HX.out.2.2.2.2.2.2⟩⟩
      · rw [if_neg g1] at hf
        by_cases g2 : j < (l.n : Int)
        · have hcm : cmpZ j (l.n : Int) = -1 := by unfold cmpZ; rw [if_pos g2]
          rw [hcm] at hf
          have HX := hide (show l.ptr = .pointer al ∧ Sub l t ∧ l.nth j = t.nth i ∧ l.h < gk ∧ AtI w L j wr ∧ j ≤ 9223372036854775807 ∧ -9223372036854775808 ≤ j from ⟨hal, (Sub.left .here).trans hsub, by rw [← HS.out.2.2.1, nth_node, if_pos g2], by have := HS.out.2.2.2.1; rw [T.h_node] at this; omega, hA, HS.out.2.2.2.2.2⟩)
          clear hal har hcm g1 g2 hin hA c3 hsub hln
          go_wp2_with (go_at_call 200; refine hf.mono ?_; rintro e w' ⟨rfl, hw⟩; replace hw := hw.symm; subst hw)
          go_roundg l.h
          case measure => exact HX.out.2.2.2.1
          case rel => exact ⟨l, al, _, rfl, hide ⟨HX.out.1, .inl HX.out.2.1, HX.out.2.2.1, rfl, HX.out.2.2.2.2.1, HX.out.2.2.2.2.2.1, HX.out.2.2.2.2.2.2⟩⟩
        · have hcm : cmpZ j (l.n : Int) = 0 := by unfold cmpZ; rw [if_neg g2, if_neg g1]
          rw [hcm] at hf
          have HE := hide (show (t.nth i).ptr = .pointer (some ⟨p, 0, none⟩) ∧ Only (fun q => q = L) w wr from ⟨by rw [← HS.out.2.2.1, nth_node, if_neg g2, if_neg g1]; rfl, hA.only⟩)
          clear hal har hcm g1 g2 hin hA c2 c3 hsub hln
          go_wp2_with (go_at_call 200; refine hf.mono ?_; rintro e w' ⟨rfl, hw⟩; replace hw := hw.symm; subst hw)
          try rw [Exit.noGoto_ret]
          go_ret
          exact ⟨by rw [HE.out.1]; rfl, HE.out.2⟩

set_option maxHeartbeats 1000000 in
theorem mAt_any (t : T) (i : Int) (w : World) (h : In w t) (hi : i ≤ 9223372036854775807) (hlo : -9223372036854775808 ≤ i) (hn : t.n ≤ 700000) : Calls Tryz.prog 161 #[mv t, .int .i64 i] w fun e w' => e = .returned (.tuple #[.string (t.nth i).key, .string (t.nth i).val, .bool (t.nth i).isSome]) ∧ Below w.heap.size w w' := by
  obtain ⟨m0, m1⟩ := new2 w (.cells #[t.ptr] 27) (.cells #[.int .i64 i] 3)
  have hb : Below w.heap.size w ((w.alloc (.cells #[t.ptr] 27)).alloc (.cells #[.int .i64 i] 3)) := ((Below.refl _ w).alloc (Nat.le_refl _) _).alloc (by simp) _
  have hs := seek_at t (w.heap.size + 1) i _ (In.below hb h) m1 hi hlo hn
  have h2 : ∀ W, Only (fun j => j = w.heap.size + 1) ((w.alloc (.cells #[t.ptr] 27)).alloc (.cells #[.int .i64 i] 3)) W → Below w.heap.size w W ∧ Calls Tryz.prog 189 #[(t.nth i).ptr] W (fun e w' => e = .returned (.tuple #[.string (t.nth i).key, .string (t.nth i).val, .bool (t.nth i).isSome]) ∧ w' = W) := fun W hW => by
    have hbW : Below w.heap.size w W := Below.only hb hW hb.size (fun j e => by omega)
    exact ⟨hbW, told_any _ W (In.below hbW (In.nth i h))⟩
  unfold mv
  obtain ⟨a, ha⟩ := t.ptr_shape
  obtain ⟨b, hb'⟩ := (t.nth i).ptr_shape
  rw [ha] at hb hs h2 ⊢
  rw [hb'] at hs
  simp only [hb'] at h2
  generalize (t.nth i).key = K at *
  generalize (t.nth i).val = V at *
  generalize (t.nth i).isSome = D at *
  clear h ha hb' m0 m1 hn
  go_enter Tryz.func161, Tryz.ntmps161
  go_wp2_with (first
    | (go_at_call 173; refine hs.mono ?_; rintro e w1 ⟨rfl, ho⟩; obtain ⟨hb1, h49⟩ := h2 w1 ho)
    | (go_at_call 189; refine h49.mono ?_; rintro e w' ⟨rfl, hw⟩; replace hw := hw.symm; subst hw))
  go_ret3
  exact ⟨rfl, hb1⟩
end Go.Proofs.YtkkpdgfllnbigaaGreat.Pm
namespace Go.Proofs.YtkkpdgfllnbigaaGreat.Jo
open Go.RowKit Go.Shelf
set_option linter.unusedSimpArgs false
attribute [local go_sem] Oper.semAt_some

theorem set6 {w : World} {B : Nat} {x0 x1 x2 x3 x4 x5 : Value} {ty : TypeId} (a b c d e f : Value) (h : w.heap[B]? = some (.cells #[x0, x1, x2, x3, x4, x5] ty (0, 0))) : ((((((w.setCell ⟨B, 0, none⟩ a).setCell ⟨B, 1, none⟩ b).setCell ⟨B, 2, none⟩ c).setCell ⟨B, 3, none⟩ d).setCell ⟨B, 4, none⟩ e).setCell ⟨B, 5, none⟩ f).heap[B]? = some (.cells #[a, b, c, d, e, f] ty (0, 0)) ∧ Only (fun j => j = B) w ((((((w.setCell ⟨B, 0, none⟩ a).setCell ⟨B, 1, none⟩ b).setCell ⟨B, 2, none⟩ c).setCell ⟨B, 3, none⟩ d).setCell ⟨B, 4, none⟩ e).setCell ⟨B, 5, none⟩ f) := by
  obtain ⟨h1, o1⟩ := set_one (i := 0) a h
  obtain ⟨h2, o2⟩ := set_one (i := 1) b h1
  obtain ⟨h3, o3⟩ := set_one (i := 2) c h2
  obtain ⟨h4, o4⟩ := set_one (i := 3) d h3
  obtain ⟨h5, o5⟩ := set_one (i := 4) e h4
  obtain ⟨h6, o6⟩ := set_one (i := 5) f h5
  exact ⟨by simpa using h6, ((((o1.next o2).next o3).next o4).next o5).next o6⟩
theorem T53 : (Tryz.prog.info? 53).map (·.size) = some 6 := by kernel_rfl
theorem cells_of_enc {W : World} {B : Nat} {g r : Int} {lb : ByteArray} {n ix : Int} {X : ByteArray} (h : W.heap[B]? = some (.cells #[.int .i64 g, .int .i64 r, .string lb, .int .i64 n, .int .i64 ix, .string X] 53 (0, 0))) : W.cell? ⟨B, 0, none⟩ = some (.int .i64 g) ∧ W.cell? ⟨B, 1, none⟩ = some (.int .i64 r) ∧ W.cell? ⟨B, 2, none⟩ = some (.string lb) ∧ W.cell? ⟨B, 3, none⟩ = some (.int .i64 n) ∧ W.cell? ⟨B, 4, none⟩ = some (.int .i64 ix) ∧ W.cell? ⟨B, 5, none⟩ = some (.string X) :=
  ⟨(cell_of_row _ _ 0 _ 53 (0, 0) h).trans rfl, (cell_of_row _ _ 1 _ 53 (0, 0) h).trans rfl, (cell_of_row _ _ 2 _ 53 (0, 0) h).trans rfl, (cell_of_row _ _ 3 _ 53 (0, 0) h).trans rfl, (cell_of_row _ _ 4 _ 53 (0, 0) h).trans rfl, (cell_of_row _ _ 5 _ 53 (0, 0) h).trans rfl⟩
def zE : El := (zS, ⟨#[]⟩)
/-- The i-th entry. -/
def atL (l : List Kv) (i : Int) : El × Bool := if mayL l = true ∧ 0 ≤ i then (match (elsL l)[i.toNat]? with | some x => (x, true) | none => (zE, false)) else (zE, false)
theorem nth_cases (t : Pm.T) (i : Int) : ((t.nth i).isSome = false ∧ atL t.list i = (zE, false)) ∨ ((t.nth i).isSome = true ∧ mayL t.list = false ∧ atL t.list i = (zE, false)) ∨ ((t.nth i).isSome = true ∧ mayL t.list = true ∧ okV (t.nth i).key = true ∧ (t.nth i).key.size ≤ 9223372036854775807 ∧ atL t.list i = ((ofT (t.nth i).key, (t.nth i).val), true)) ∨ ((t.nth i).key.size > 9223372036854775807) := by
  by_cases h0 : i < 0
  · left
    rw [Pm.nth_low t i h0]
    exact ⟨rfl, by unfold atL; rw [if_neg (by omega)]⟩
  by_cases h1 : (t.n : Int) ≤ i
  · left
    rw [Pm.nth_high t i h1]
    refine ⟨rfl, ?_⟩
    unfold atL
    split
    · rename_i hm
      have : (elsL t.list)[i.toNat]? = none := by
        rw [List.getElem?_eq_none_iff, elsL, if_pos hm.1, elsM, List.length_map, Pm.T.n_eq]
        omega
      rw [this]
    · rfl
  obtain ⟨j, rfl⟩ : ∃ j : Nat, i = j := ⟨i.toNat, by omega⟩
  obtain ⟨p, k, v, l, r, e1, e2⟩ := Pm.nth_is t j (by omega)
  rw [e1]
  by_cases hs : k.size ≤ 9223372036854775807
  · right
    cases hm : mayL t.list with
    | false => exact .inl ⟨rfl, rfl, by unfold atL; rw [if_neg (by simp [hm])]⟩
    | true =>
      refine .inr (.inl ⟨rfl, rfl, (okKv_el (may_mem hm (List.mem_of_getElem? e2))).1, hs, ?_⟩)
      unfold atL
      rw [if_pos ⟨hm, by omega⟩, elsL, if_pos hm, elsM, List.getElem?_map, Int.toNat_natCast, e2]
      rfl
  · exact .inr (.inr (.inr (by show k.size > _; omega)))
set_option maxHeartbeats 4000000 in
set_option maxRecDepth 100000 in
theorem jAt_any {w : World} {t : Pm.T} {pm : Option Addr} (i : Int) (h : Mg w t) (hp : t.ptr = .pointer pm) (hi : i ≤ 9223372036854775807) (hlo : -9223372036854775808 ≤ i) : Calls Tryz.prog 103 #[.agg #[.pointer pm], .int .i64 i] w fun e w' => e = .returned (.tuple #[ev (atL t.list i).1, .bool (atL t.list i).2]) ∧ Below w.heap.size w w' := by
  obtain ⟨w0, hw0⟩ : ∃ q, q = (w.alloc (.cells #[.pointer pm] 27)).alloc (.cells #[.int .i64 0, .int .i64 0, .string ⟨#[]⟩, .int .i64 0, .int .i64 0, .string ⟨#[]⟩] 53) := ⟨_, rfl⟩
  obtain ⟨m0, m1⟩ := new2 w (.cells #[.pointer pm] 27) (.cells #[.int .i64 0, .int .i64 0, .string ⟨#[]⟩, .int .i64 0, .int .i64 0, .string ⟨#[]⟩] 53)
  have b0 : Below w.heap.size w w0 := by rw [hw0]; exact ((Below.refl _ w).alloc (Nat.le_refl _) _).alloc (by simp) _
  have s0 : w0.heap.size = w.heap.size + 2 := by rw [hw0]; simp
  rw [← hw0] at m0 m1
  obtain ⟨Mb, hMb⟩ : ∃ q, q = w.heap.size := ⟨_, rfl⟩
  obtain ⟨Eb, hEb⟩ : ∃ q, q = w.heap.size + 1 := ⟨_, rfl⟩
  rw [← hMb] at m0
  rw [← hEb] at m1
  have HC : Hid (∀ W, Below w0.heap.size w0 W → W.cell? ⟨Mb, 0, none⟩ = some (.pointer pm) ∧ W.heap[Eb]? = some (.cells #[.int .i64 0, .int .i64 0, .string ⟨#[]⟩, .int .i64 0, .int .i64 0, .string ⟨#[]⟩] 53 (0, 0)) ∧ Below w.heap.size w W) := hide (fun W hW => ⟨cell_stays ((cell_of_row _ _ 0 _ 27 (0, 0) m0).trans rfl) hW, (hW.block _ (gI m1).1).trans m1, b0.trans (hW.mono b0.size)⟩)
  have HW0 := hide (And.intro hw0 (And.intro hEb hMb))
  have HL0 : Hid (w0.heap.size = w.heap.size + 2 ∧ Mb = w.heap.size ∧ Eb = w.heap.size + 1) := hide ⟨s0, hMb, hEb⟩
  have hat := Pm.mAt_any t i w0 (Pm.In.below b0 h.inn) hi hlo (by have := h.few; omega)
  have hmay := fun W (hW : Below w.heap.size w W) => jmayP h hp W hW
  have hofk := fun W (hk : (t.nth i).key.size ≤ 9223372036854775807) => ofKeyT_any (t.nth i).key W hk
  unfold Pm.mv at hat
  rw [hp] at hat
  have hcs := nth_cases t i
  have hkb : (t.nth i).key.size ≤ 9223372036854775807 := by
    by_cases h0 : 0 ≤ i ∧ i < t.n
    · obtain ⟨j, rfl⟩ : ∃ j : Nat, i = j := ⟨i.toNat, by omega⟩
      obtain ⟨p, k, v, l, r, e1, e2⟩ := Pm.nth_is t j (by omega)
      rw [e1]
      exact h.key _ (List.mem_of_getElem? e2)
    · rcases (by omega : i < 0 ∨ (t.n : Int) ≤ i) with h1 | h1
      · rw [Pm.nth_low t i h1]; show (0 : Nat) ≤ _; omega
      · rw [Pm.nth_high t i h1]; show (0 : Nat) ≤ _; omega
  replace hofk := fun W => hofk W hkb
  obtain ⟨c0, -⟩ := HC.out w0 (Below.refl _ _)
  generalize (t.nth i).key = K at *
  generalize (t.nth i).val = X at *
  generalize (t.nth i).isSome = S at *
  generalize atL t.list i = R at *
  generalize mayL t.list = M at *
  clear h hp m0 m1 b0 hw0 hMb hEb s0 hi hlo
  rcases hcs with ⟨rfl, rfl⟩ | ⟨rfl, rfl, rfl⟩ | ⟨rfl, rfl, hok, -, rfl⟩ | hbad
  · clear hmay hofk
    go_enter Tryz.func103, Tryz.ntmps103
    go_upto_region 1 with fail
    rw [← HW0.out.1, ← HW0.out.2.1, ← HW0.out.2.2]
    go_upto_region 3 with (go_at_call 161; refine hat.mono ?_; rintro e w1 ⟨rfl, b1⟩; have H1 := hide b1; clear b1; dsimp only)
    have b2 := H1.out
    obtain ⟨x0, e5, bw5⟩ := HC.out w1 b2
    obtain ⟨z1, z2, z3⟩ := HL0.out
    obtain ⟨u7, o7⟩ := set6 (.int .i64 0) (.int .i64 0) (.string ⟨#[]⟩) (.int .i64 0) (.int .i64 0) (.string ⟨#[]⟩) e5
    have b7 := Below.only bw5 o7 bw5.size (fun j e => by have e' : j = Eb := e; omega)
    have HE := hide (And.intro u7 b7)
    obtain ⟨d0, d1, d2, d3, d4, d5⟩ := cells_of_enc e5
    have g0 := frozen_of_row w1 Eb 0 _ 53 e5
    have g1 := frozen_of_row w1 Eb 1 _ 53 e5
    have g2 := frozen_of_row w1 Eb 2 _ 53 e5
    have g3 := frozen_of_row w1 Eb 3 _ 53 e5
    have g4 := frozen_of_row w1 Eb 4 _ 53 e5
    have g5 := frozen_of_row w1 Eb 5 _ 53 e5
    clear u7 o7 e5 bw5 b7 b2 z1 z2 z3 c0 hat
    go_wp2
    refine ret_row_tmp Eb [.int .i64 0, .int .i64 0, .string ⟨#[]⟩, .int .i64 0, .int .i64 0, .string ⟨#[]⟩] rfl rfl rfl Tryz.underlying53 rfl T53 HE.out.1 rfl ?_
    exact ⟨rfl, HE.out.2⟩
  · clear hofk
    go_enter Tryz.func103, Tryz.ntmps103
    go_upto_region 1 with fail
    rw [← HW0.out.1, ← HW0.out.2.1, ← HW0.out.2.2]
    go_upto_region 3 with (first
      | (go_at_call 161; refine hat.mono ?_; rintro e w1 ⟨rfl, b1⟩; have H1 := hide b1; obtain ⟨x0, -, y0⟩ := HC.out w1 b1; have hmy := hmay w1 y0; clear b1 y0; dsimp only)
      | (go_at_call 100; refine hmy.mono ?_; rintro e w2 ⟨rfl, b2⟩; have H2 := hide (H1.out.trans (b2.mono H1.out.size)); clear b2; dsimp only))
    clear x0 hmy
    have b2 := H2.out
    obtain ⟨x0, e5, bw5⟩ := HC.out w2 b2
    obtain ⟨z1, z2, z3⟩ := HL0.out
    obtain ⟨u7, o7⟩ := set6 (.int .i64 0) (.int .i64 0) (.string ⟨#[]⟩) (.int .i64 0) (.int .i64 0) (.string ⟨#[]⟩) e5
    have b7 := Below.only bw5 o7 bw5.size (fun j e => by have e' : j = Eb := e; omega)
    have HE := hide (And.intro u7 b7)
    obtain ⟨d0, d1, d2, d3, d4, d5⟩ := cells_of_enc e5
    have g0 := frozen_of_row w2 Eb 0 _ 53 e5
    have g1 := frozen_of_row w2 Eb 1 _ 53 e5
    have g2 := frozen_of_row w2 Eb 2 _ 53 e5
    have g3 := frozen_of_row w2 Eb 3 _ 53 e5
    have g4 := frozen_of_row w2 Eb 4 _ 53 e5
    have g5 := frozen_of_row w2 Eb 5 _ 53 e5
    clear u7 o7 e5 bw5 b7 b2 z1 z2 z3 c0 hat hmay
    go_wp2
    refine ret_row_tmp Eb [.int .i64 0, .int .i64 0, .string ⟨#[]⟩, .int .i64 0, .int .i64 0, .string ⟨#[]⟩] rfl rfl rfl Tryz.underlying53 rfl T53 HE.out.1 rfl ?_
    exact ⟨rfl, HE.out.2⟩
  · rw [if_pos hok] at hofk
    clear hok
    obtain ⟨⟨g, r, lb, n, ix⟩, hs⟩ : ∃ s, s = ofT K := ⟨_, rfl⟩
    rw [← hs] at hofk ⊢
    dsimp only [svT, sv] at hofk
    clear hs
    go_enter Tryz.func103, Tryz.ntmps103
    go_upto_region 1 with fail
    rw [← HW0.out.1, ← HW0.out.2.1, ← HW0.out.2.2]
    go_upto_region 5 with (first
      | (go_at_call 161; refine hat.mono ?_; rintro e w1 ⟨rfl, b1⟩; have H1 := hide b1; obtain ⟨x0, -, y0⟩ := HC.out w1 b1; have hmy := hmay w1 y0; clear b1 y0; dsimp only)
      | (go_at_call 100; refine hmy.mono ?_; rintro e w2 ⟨rfl, b2⟩; have H2 := hide (H1.out.trans (b2.mono H1.out.size)); clear b2; dsimp only)
      | (go_at_call 140; refine (hofk _).mono ?_; rintro e w3 ⟨rfl, b3⟩; have H3 := hide (H2.out.trans (b3.mono H2.out.size)); clear b3; dsimp only))
    clear x0 hmy
    obtain ⟨w4, hw4⟩ : ∃ q, q = w3.alloc (.cells #[.int .i64 g, .int .i64 r, .string lb, .int .i64 n, .int .i64 ix] 43) := ⟨_, rfl⟩
    have m4 := heap_alloc_new w3 (.cells #[.int .i64 g, .int .i64 r, .string lb, .int .i64 n, .int .i64 ix] 43)
    rw [← hw4] at m4
    have b2 : Below w0.heap.size w0 w4 := H3.out.trans ((by rw [hw4]; exact (Below.refl _ w3).alloc (Nat.le_refl _) _ : Below w3.heap.size w3 w4).mono H3.out.size)
    obtain ⟨Sb, hSb⟩ : ∃ q, q = w3.heap.size := ⟨_, rfl⟩
    rw [← hw4, ← hSb]
    rw [← hSb] at m4
    have k0 : w4.cell? ⟨Sb, 0, none⟩ = some (.int .i64 g) := (cell_of_row _ _ 0 _ 43 (0, 0) m4).trans rfl
    have k1 : w4.cell? ⟨Sb, 1, none⟩ = some (.int .i64 r) := (cell_of_row _ _ 1 _ 43 (0, 0) m4).trans rfl
    have k2 : w4.cell? ⟨Sb, 2, none⟩ = some (.string lb) := (cell_of_row _ _ 2 _ 43 (0, 0) m4).trans rfl
    have k3 : w4.cell? ⟨Sb, 3, none⟩ = some (.int .i64 n) := (cell_of_row _ _ 3 _ 43 (0, 0) m4).trans rfl
    have k4 : w4.cell? ⟨Sb, 4, none⟩ = some (.int .i64 ix) := (cell_of_row _ _ 4 _ 43 (0, 0) m4).trans rfl
    obtain ⟨x0, e5, bw5⟩ := HC.out w4 b2
    obtain ⟨z1, z2, z3⟩ := HL0.out
    obtain ⟨u7, o7⟩ := set6 (.int .i64 g) (.int .i64 r) (.string lb) (.int .i64 n) (.int .i64 ix) (.string X) e5
    have b7 := Below.only bw5 o7 bw5.size (fun j e => by have e' : j = Eb := e; omega)
    have HE := hide (And.intro u7 b7)
    obtain ⟨d0, d1, d2, d3, d4, d5⟩ := cells_of_enc e5
    have g0 := frozen_of_row w4 Eb 0 _ 53 e5
    have g1 := frozen_of_row w4 Eb 1 _ 53 e5
    have g2 := frozen_of_row w4 Eb 2 _ 53 e5
    have g3 := frozen_of_row w4 Eb 3 _ 53 e5
    have g4 := frozen_of_row w4 Eb 4 _ 53 e5
    have g5 := frozen_of_row w4 Eb 5 _ 53 e5
    have ne1 : ¬ Sb = Eb := by have := H3.out.size; omega
    have ne2 : ¬ Eb = Sb := by omega
    clear u7 o7 e5 bw5 b7 b2 z1 z2 z3 c0 hat hmay hofk m4 hw4 hSb
    go_wp2
    refine ret_row_tmp Eb [.int .i64 g, .int .i64 r, .string lb, .int .i64 n, .int .i64 ix, .string X] rfl rfl rfl Tryz.underlying53 rfl T53 HE.out.1 rfl ?_
    exact ⟨rfl, HE.out.2⟩
  · omega
end Go.Proofs.YtkkpdgfllnbigaaGreat.Jo
namespace Go.Proofs.YtkkpdgfllnbigaaGreat.Jo
open Go.RowKit Go.Shelf
set_option linter.unusedSimpArgs false
attribute [local go_sem] Oper.semAt_some

/-- Is it there? -/
def inB (x : El) (l : List El) : Bool := l.any fun y => decide (y = x)
end Go.Proofs.YtkkpdgfllnbigaaGreat.Jo
