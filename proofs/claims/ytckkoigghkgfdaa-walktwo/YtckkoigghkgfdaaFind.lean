/-
  A KEY LOOKED FOR: find, seek with its closure; Get.
-/
import Derived.Test.YtckkoigghkgfdaaPut
import Derived.Scope
import Derived.Deep.LoopGhost
namespace Go.Proofs.Ytckkoigghkgfdaa
open Go.RowKit Go.Shelf
set_option linter.unusedSimpArgs false

set_option maxHeartbeats 1000000 in
set_option maxRecDepth 100000 in
theorem find1_any {p : Nat} {nk : ByteArray} {nv : Int} {l r : T} (L : Nat) (k : ByteArray) (w : World) (h : In w (.node p nk nv l r)) (hL : w.cell? ⟨L, 0, none⟩ = some (.string k)) :
    Calls Try.prog 48 #[.pointer (some ⟨p, 0, none⟩), .pointer (some ⟨L, 0, none⟩)] w fun e w' => e = .returned (.int .i64 (cmpB k nk)) ∧ ∃ n, w' = w.drewN n := by
  have c0 := h.cells.c0
  have hc := fun W => compare_B k nk W
  generalize cmpB k nk = X at *
  clear h
  go_enter Try.func48, Try.ntmps48
  go_wp2_with fail
  go_quiet (first | (go_at_call 49; refine Calls.quiet_of_same (hc _)))
  go_wp2
  go_ret
  exact ⟨rfl, _, rfl⟩

theorem In.drewN {w : World} {t : T} (h : In w t) (n : Nat) : In (w.drewN n) t := In.below (below_drew w n) h
theorem find_node {k : ByteArray} {p nk nv l r} : (T.node p nk nv l r).find k = if cmpB k nk = -1 then l.find k else if cmpB k nk = 1 then r.find k else .node p nk nv l r := rfl

set_option maxHeartbeats 2000000 in
set_option maxRecDepth 100000 in
theorem seek_find (t : T) (L : Nat) (k : ByteArray) (w : World) (h : In w t) (hL : w.cell? ⟨L, 0, none⟩ = some (.string k)) :
    Calls Try.prog 45 #[t.ptr, .func (.func 48) #[] #[.pointer (some ⟨L, 0, none⟩)]] w fun e w' => e = .returned (t.find k).ptr ∧ ∃ n, w' = w.drewN n := by
  obtain ⟨a, ha⟩ := t.ptr_shape
  rw [ha]
  have H := hide (And.intro ha (And.intro h hL))
  clear h ha
  go_enter Try.func45, Try.ntmps45
  go_upto_region 1 with fail
  refine wp_scope_straight ?_
  go_wp2_with fail
  refine wp_label ?_
  go_wp2_with fail
  go_loopg [0, 5] t.h (fun g v0 _ wr => ∃ (s : T) (a : Option Addr) (m : Nat), v0 = .pointer a ∧ Hid (s.ptr = .pointer a ∧ In w s ∧ s.find k = t.find k ∧ s.h = g) ∧ wr = w.drewN m)
  case atStart => exact ⟨t, a, 0, rfl, hide ⟨H.out.1, H.out.2.1, rfl, rfl⟩, rfl⟩
  case round =>
    obtain ⟨s, a, m, rfl, HS, rfl⟩ := hrel
    cases s with
    | nil =>
      have e1 : a = none := by have := HS.out.1; simp only [T.ptr, Value.pointer.injEq] at this; exact this.symm
      subst e1
      have HE := hide (show (t.find k).ptr = .pointer none by rw [← HS.out.2.2.1]; rfl)
      go_wp2
      rw [Exit.noGoto_ret]
      go_ret
      exact ⟨by rw [HE.out]; rfl, m, rfl⟩
    | node p nk nv l r =>
      have e1 : a = some ⟨p, 0, none⟩ := by have := HS.out.1; simp only [T.ptr, Value.pointer.injEq] at this; exact this.symm
      subst e1
      have hn := HS.out.2.1.drewN m
      have hf := find1_any L k (w.drewN m) hn H.out.2.2
      have c2 := HS.out.2.1.cells.c2
      have c3 := HS.out.2.1.cells.c3
      obtain ⟨al, hal⟩ := l.ptr_shape
      obtain ⟨ar, har⟩ := r.ptr_shape
      rw [hal] at c2
      rw [har] at c3
      clear hn
      rcases ord_B.range k nk with hc | hc | hc
      · rw [hc] at hf
        have HX := hide (show l.ptr = .pointer al ∧ In w l ∧ l.find k = t.find k ∧ l.h < gk from ⟨hal, HS.out.2.1.2.1, by rw [← HS.out.2.2.1, find_node, if_pos hc], by have := HS.out.2.2.2; rw [T.h_node] at this; omega⟩)
        clear hal har hc
        go_wp2_with (go_at_call 48; refine hf.mono ?_; rintro e w' ⟨rfl, n, rfl⟩)
        go_roundg l.h
        case measure => exact HX.out.2.2.2
        case rel => exact ⟨l, al, m + n, rfl, hide ⟨HX.out.1, HX.out.2.1, HX.out.2.2.1, rfl⟩, rfl⟩
      · rw [hc] at hf
        have HE := hide (show (t.find k).ptr = .pointer (some ⟨p, 0, none⟩) by rw [← HS.out.2.2.1, find_node, if_neg (by omega), if_neg (by omega)]; rfl)
        clear hal har hc
        go_wp2_with (go_at_call 48; refine hf.mono ?_; rintro e w' ⟨rfl, n, rfl⟩)
        rw [Exit.noGoto_ret]
        go_ret
        exact ⟨by rw [HE.out]; rfl, m + n, rfl⟩
      · rw [hc] at hf
        have HX := hide (show r.ptr = .pointer ar ∧ In w r ∧ r.find k = t.find k ∧ r.h < gk from ⟨har, HS.out.2.1.2.2, by rw [← HS.out.2.2.1, find_node, if_neg (by omega), if_pos hc], by have := HS.out.2.2.2; rw [T.h_node] at this; omega⟩)
        clear hal har hc
        go_wp2_with (go_at_call 48; refine hf.mono ?_; rintro e w' ⟨rfl, n, rfl⟩)
        go_roundg r.h
        case measure => exact HX.out.2.2.2
        case rel => exact ⟨r, ar, m + n, rfl, hide ⟨HX.out.1, HX.out.2.1, HX.out.2.2.1, rfl⟩, rfl⟩
end Go.Proofs.Ytckkoigghkgfdaa
