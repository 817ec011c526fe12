/-
  kinds: Show 24.
-/
import Derived.Test.YtkdgageljgfgoaaDoorShow9
namespace Go.Proofs.YtkdgageljgfgoaaDoor
open Go.RowKit Go.Shelf Go.Sort
set_option linter.unusedSimpArgs false
attribute [local go_sem] Oper.semAt_some

theorem Nt.own {w : World} {B B' : Nat} {ao : Option Addr} {n c : Nat} {l : List ByteArray} (h : Ot w B' (.slice ao n c) l) (hB : B ≤ B') (hl : l.length ≤ 100000) : Nt w B ao c l := by
  rcases h.shape with ⟨e, rfl⟩ | ⟨g, cap, e, h1, h2, h3, h4⟩
  · cases e
    exact ⟨⟨⟨fun _ => rfl, by simp⟩, by simp, fun _ => rfl, by simp⟩, by simp⟩
  · cases e
    exact ⟨⟨⟨by simp, fun a ha j s hj => by cases ha; rw [add_lit, Nat.zero_add]; exact h.cells hj⟩, h3, by simp, by omega⟩, fun a ha => by cases ha; exact Nat.le_trans hB h1⟩
/-- What stands behind a sort and a compaction. -/
def SetT (w : World) (L : List ByteArray) (ao : Option Addr) (c M : Nat) (w' : World) : Prop := M = (setL L).length ∧ Nt w' w.heap.size ao c (setL L) ∧ Below w.heap.size w w'
theorem sets_any {w wr : World} {B : Nat} {ao : Option Addr} {c : Nat} {L : List ByteArray} (hB : w.heap.size ≤ B) (hBr : B ≤ wr.heap.size) (hb : Below w.heap.size w wr) (h : Ot wr B (.slice ao L.length c) L) (hl : L.length ≤ 100000) :
    Calls Tryd.prog 28 #[.slice ao L.length c, .func (.func 29) #[] #[]] wr fun e w2 => e = .returned (.tuple #[]) ∧ Hid (Only (fun j => B ≤ j) wr w2 ∧ Calls Tryd.prog 30 #[.slice ao L.length c] w2 fun e w3 => ∃ M, e = .returned (.slice ao M c) ∧ Hid (Only (fun j => B ≤ j) w2 w3 ∧ SetT w L ao c M w3)) := by
  rcases h.shape with ⟨e, hn⟩ | ⟨g, cap, e, h1, h2, h3, h4⟩
  · injection e with e1 e2 e3
    subst e1 e3
    rw [e2]
    refine (Tryd.slices_SortFunc_none (α := Nat) none 0 (.func (.func 29) #[] #[]) wr).mono ?_
    rintro e w2 ⟨rfl, rfl⟩
    refine ⟨rfl, hide ⟨Only.refl _ _, (Tryd.slices_Compact_string_empty none 0 w2).mono ?_⟩⟩
    rintro e w3 ⟨rfl, rfl⟩
    refine ⟨0, rfl, hide ⟨Only.refl _ _, ?_⟩⟩
    rw [hn]
    exact ⟨rfl, ⟨⟨⟨fun _ => rfl, by simp [setL]⟩, by simp [setL], fun _ => rfl, by simp [setL]⟩, by simp⟩, hb⟩
  · injection e with e1 e2 e3
    subst e1 e3
    refine (sortT_any h hl).mono ?_
    rintro e w2 ⟨rfl, zs, hz⟩
    obtain ⟨z1, z2, z3, z4, z5⟩ := hz
    refine ⟨rfl, hide ⟨z5.mono (fun j _ e => by rw [e]; exact h1), ?_⟩⟩
    have hc := compactT_any (cap := c) z4 (by omega) (by omega)
    rw [z1] at hc
    refine hc.mono ?_
    rintro e w3 ⟨rfl, c1, c2⟩
    have hset := set_is z2 z3
    have hlen : (setL L).length = (Lib.compact zs).length := by rw [← hset]; simp
    refine ⟨_, rfl, hide ⟨c2.mono (fun j _ e => by rw [e]; exact h1), hlen.symm, ⟨⟨⟨by simp, fun a ha j s hj => ?_⟩, ?_, by simp, ?_⟩, fun a ha => by cases ha; exact Nat.le_trans hB h1⟩, ?_⟩⟩
    · cases ha
      rw [add_lit, Nat.zero_add]
      rw [← hset] at hj
      exact c1 j s hj
    · rw [hlen]; have := Lib.compact_length_le zs; omega
    · rw [hlen]; have := Lib.compact_length_le zs; omega
    · have hb2 := Below.only hb z5 hb.size (fun j e => by omega)
      exact Below.only hb2 c2 hb2.size (fun j e => by omega)

set_option maxHeartbeats 8000000 in
set_option maxRecDepth 100000 in
theorem show_any {w : World} (k n : Int) {ao : Option Addr} {c : Nat} {l : List El} (h : Rv w ao c l) (hl : l.length ≤ 90000) : Calls Tryd.prog 15 #[vv k n ao l.length c] w (TxtE w (showV k n l)) := by
  obtain ⟨N, hN⟩ : ∃ N, N = l.length := ⟨_, rfl⟩
  obtain ⟨w1, hw1⟩ : ∃ w1, w1 = w.alloc (.cells #[.int .i64 k, .int .i64 n, .slice ao N c] 30) := ⟨_, rfl⟩
  have b1 : Below w.heap.size w w1 := by rw [hw1]; exact (Below.refl _ w).alloc (Nat.le_refl _) _
  have m0 := heap_alloc_new w (.cells #[.int .i64 k, .int .i64 n, .slice ao N c] 30)
  rw [← hw1] at m0
  have h1 := h.below b1
  have k25 := value_any k n h1 (by omega)
  have hap : showV k n l = if valB k n l = true then (n, showL k l, 0) else (0, [], 2) := rfl
  rw [hap]
  rw [← hN] at k25 hl ⊢
  generalize valB k n l = V at *
  obtain ⟨X, hX⟩ : ∃ X, X = w.heap.size := ⟨_, rfl⟩
  rw [← hX] at m0
  have HW := hide (And.intro hw1 (And.intro b1 (And.intro m0 (And.intro hN (And.intro hX h1.re)))))
  clear h h1 hap hN m0 b1 hw1 hX
  cases V
  · rw [if_neg (by decide)]
    go_enter Tryd.func15, Tryd.ntmps15
    go_upto_region 1 with fail
    have e1 := HW.out.1
    have e2 := HW.out.2.2.2.2.1
    rw [← e1, ← e2]
    clear e1 e2
    obtain ⟨x0, x1, x2⟩ : w1.cell? ⟨X, 0, none⟩ = some (.int .i64 k) ∧ w1.cell? ⟨X, 1, none⟩ = some (.int .i64 n) ∧ w1.cell? ⟨X, 2, none⟩ = some (.slice ao N c) := ⟨(cell_of_row _ _ 0 _ 30 (0, 0) HW.out.2.2.1).trans rfl, (cell_of_row _ _ 1 _ 30 (0, 0) HW.out.2.2.1).trans rfl, (cell_of_row _ _ 2 _ 30 (0, 0) HW.out.2.2.1).trans rfl⟩
    go_wp2_with (go_at_call 23; refine k25.mono ?_; rintro e w2 ⟨rfl, b2⟩; have H2 := hide b2; clear b2)
    go_ret3
    exact ⟨none, 0, rfl, ⟨⟨⟨fun _ => rfl, by simp⟩, by simp, fun _ => rfl, by simp⟩, by simp⟩, HW.out.2.1.trans (H2.out.mono HW.out.2.1.size)⟩
  · rw [if_pos rfl]
    go_enter Tryd.func15, Tryd.ntmps15
    go_upto_region 1 with fail
    have e1 := HW.out.1
    have e2 := HW.out.2.2.2.2.1
    rw [← e1, ← e2]
    clear e1 e2
    obtain ⟨x0, x1, x2⟩ : w1.cell? ⟨X, 0, none⟩ = some (.int .i64 k) ∧ w1.cell? ⟨X, 1, none⟩ = some (.int .i64 n) ∧ w1.cell? ⟨X, 2, none⟩ = some (.slice ao N c) := ⟨(cell_of_row _ _ 0 _ 30 (0, 0) HW.out.2.2.1).trans rfl, (cell_of_row _ _ 1 _ 30 (0, 0) HW.out.2.2.1).trans rfl, (cell_of_row _ _ 2 _ 30 (0, 0) HW.out.2.2.1).trans rfl⟩
    have up : ∀ W, Below w1.heap.size w1 W → W.cell? ⟨X, 0, none⟩ = some (.int .i64 k) ∧ W.cell? ⟨X, 1, none⟩ = some (.int .i64 n) ∧ W.cell? ⟨X, 2, none⟩ = some (.slice ao N c) := fun W hW => ⟨cell_stays x0 hW, cell_stays x1 hW, cell_stays x2 hW⟩
    replace up := hide up
    go_upto_region 4 with (go_at_call 23; refine k25.mono ?_; rintro e w2 ⟨rfl, b2⟩; have H2 := hide b2; clear b2)
    clear x0 x1 x2
    obtain ⟨x0, x1, x2⟩ := up.out w2 H2.out
    go_wp2
    go_loopw [5, 14] (fun s iv wr => ∃ (q : Nat) (p : List ByteArray) (bo : Option Addr) (d : Nat), q ≤ N ∧ p.length ≤ q ∧ iv = .int .i64 q ∧ s = .slice bo p.length d ∧ Hid (p = (l.take q).map Prod.snd ∧ Below w1.heap.size w1 wr ∧ Ot wr w1.heap.size (.slice bo p.length d) p)) (fun _ iv _ => N - (intOf iv).toNat)
    case atStart => exact ⟨0, [], none, 0, Nat.zero_le _, Nat.le_refl _, rfl, rfl, hide ⟨rfl, H2.out, Ot.nil _ _⟩⟩
    case round =>
      obtain ⟨q, p, bo, d, hq, hpq, rfl, rfl, hP⟩ := hrel
      clear x0 x1 x2
      by_cases hlt : q < N
      · have d1 : decide (q < N) = true := by simpa using hlt
        have d1' : (q : Int) < (N : Int) := by omega
        obtain ⟨x, hx⟩ : ∃ x, l[q]? = some x := ⟨_, List.getElem?_eq_getElem (by rw [← HW.out.2.2.2.1]; exact hlt)⟩
        have hre := HW.out.2.2.2.2.2.below hP.out.2.1
        obtain ⟨bk, off, hao, q0, q1, q2, q3, q4, q5⟩ := hre.cells hx
        have HX := hide hx
        subst hao
        obtain ⟨⟨g, r, l0, n0, i0⟩, t0⟩ := x
        dsimp only at q0 q1 q2 q3 q4 q5
        have H4 : Hid (Below w1.heap.size w1 (wr.alloc (.cells #[.int .i64 g, .int .i64 r, .string l0, .int .i64 n0, .int .i64 i0, .string t0] 58)) ∧ Ot (wr.alloc (.cells #[.int .i64 g, .int .i64 r, .string l0, .int .i64 n0, .int .i64 i0, .string t0] 58)) w1.heap.size (.slice bo p.length d) p) := hide ⟨hP.out.2.1.alloc hP.out.2.1.size _, hP.out.2.2.alloc _⟩
        clear hre hx
        go_wp2_with (refine pushS (G := wr.heap.size + 1) t0 (by simp) H4 (Nat.le_refl _) (by omega) rfl _ _ rfl rfl rfl ?_; intro a5 c5 w5 H5)
        go_roundw
        case rel => exact ⟨q + 1, p ++ [t0], a5, c5, by omega, by rw [List.length_append]; simp; omega, by go_num, by rw [List.length_append]; rfl, hide ⟨by rw [hP.out.1, List.take_add_one, HX.out, List.map_append]; rfl, H5.out.1, by rw [List.length_append]; exact H5.out.2⟩⟩
        case measure => simp [intOf]; omega
      · obtain rfl : q = N := by omega
        have d1 : decide (q < q) = false := by simp
        have hp : p = l.map Prod.snd := by have := hP.out.1; rwa [HW.out.2.2.2.1, List.take_length] at this
        obtain ⟨x0, x1, x2⟩ := up.out wr hP.out.2.1
        have hbw := HW.out.2.1.trans (hP.out.2.1.mono HW.out.2.1.size)
        have hs1 : w1.heap.size = w.heap.size + 1 := by rw [HW.out.1]; simp
        by_cases hk : k = 2
        · have hS := sets_any (by omega) hP.out.2.1.size hbw hP.out.2.2 (by omega)
          have HX := hide (And.intro hp (And.intro hbw hs1))
          clear hp hbw hs1
          have HK := hide hk
          subst hk
          go_wp2_with (first
            | (go_at_call 28; refine hS.mono ?_; rintro e w5 ⟨rfl, H5⟩; have k59 := H5.out.2; clear x0 x1 x2 hS)
            | (go_at_call 30; refine k59.mono ?_; rintro e w6 ⟨M, rfl, H6⟩; clear k59; obtain ⟨x0, x1, x2⟩ := up.out w6 (Below.only (Below.only hP.out.2.1 H5.out.1 hP.out.2.1.size (fun j e => e)) H6.out.1 (Nat.le_trans hP.out.2.1.size H5.out.1.size) (fun j e => e))))
          go_ret3
          refine ⟨bo, d, ?_, ?_, H6.out.2.2.2⟩
          · have : showL 2 l = setL p := by unfold showL; rw [if_pos rfl, HX.out.1]
            rw [this, ← H6.out.2.1]; rfl
          · have : showL 2 l = setL p := by unfold showL; rw [if_pos rfl, HX.out.1]
            rw [this]; exact H6.out.2.2.1
        · have ek : (k == 2) = false := by simpa using hk
          have hsh : showL k l = p := by unfold showL; rw [if_neg hk, hp]
          have HX := hide (And.intro hsh (And.intro hbw hs1))
          clear hp hbw hs1 hsh
          go_wp2
          go_ret3
          exact ⟨bo, d, by rw [HX.out.1]; rfl, by rw [HX.out.1]; exact Nt.own hP.out.2.2 (by have := HX.out.2.2; omega) (by dsimp only; omega), HX.out.2.1⟩
end Go.Proofs.YtkdgageljgfgoaaDoor
