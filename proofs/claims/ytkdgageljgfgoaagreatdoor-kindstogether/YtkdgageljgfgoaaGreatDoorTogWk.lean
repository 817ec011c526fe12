/-
  KindsTogether 6: the walk.
-/
import Derived.Test.YtkdgageljgfgoaaGreatDoorTogC
import Derived.BigCall
import Derived.BigGuard
import Derived.BigGuardPart
import Derived.BigRegion
namespace Go.Proofs.YtkdgageljgfgoaaGreatDoor
open Go.RowKit Go.Shelf
set_option linter.unusedSimpArgs false
attribute [local go_sem] Oper.semAt_some

/-- A value in its box, with its elements. -/
def Bx (w : World) (B : Nat) (F : Int × Int × List El) (a : Option Addr) (c : Nat) : Prop := w.heap[B]? = some (.cells #[.int .i64 F.1, .int .i64 F.2.1, .slice a F.2.2.length c] 46 (0, 0)) ∧ Rv w a c F.2.2
theorem Bx.below {w w' : World} {B : Nat} {F : Int × Int × List El} {a : Option Addr} {c : Nat} (h : Bx w B F a c) (hb : Below w.heap.size w w') : Bx w' B F a c := ⟨(hb.block _ (Array.getElem?_eq_some_iff.1 h.1).1).trans h.1, h.2.below hb⟩
theorem Bx.cells {w : World} {B : Nat} {F : Int × Int × List El} {a : Option Addr} {c : Nat} (h : Bx w B F a c) : w.cell? ⟨B, 0, none⟩ = some (.int .i64 F.1) ∧ w.cell? ⟨B, 1, none⟩ = some (.int .i64 F.2.1) ∧ w.cell? ⟨B, 2, none⟩ = some (.slice a F.2.2.length c) := ⟨(cell_of_row _ _ 0 _ 46 (0, 0) h.1).trans rfl, (cell_of_row _ _ 1 _ 46 (0, 0) h.1).trans rfl, (cell_of_row _ _ 2 _ 46 (0, 0) h.1).trans rfl⟩
theorem Bx.new {w : World} {F : Int × Int × List El} {a : Option Addr} {c : Nat} (h : Rv w a c F.2.2) : Bx (w.alloc (.cells #[.int .i64 F.1, .int .i64 F.2.1, .slice a F.2.2.length c] 46)) w.heap.size F a c := ⟨heap_alloc_new w _, h.below ((Below.refl _ w).alloc (Nat.le_refl _) _)⟩

set_option maxHeartbeats 16000000 in
set_option maxRecDepth 100000 in
theorem together_walk {w : World} (k : Int) {oo oa ob : Option Addr} {co ca cb : Nat} {lo la lb : List OpM} (ho : Ro w oo lo) (ha : Ro w oa la) (hb : Ro w ob lb) (nlo : lo.length ≤ 8796093021952) (nla : la.length ≤ 8796093021952) (nlb : lb.length ≤ 8796093021952) (hT : Tabs w) :
    Calls Tryz.prog 6 #[.agg #[.int .i64 k, .slice oo lo.length co, .slice oa la.length ca, .slice ob lb.length cb]] w fun e w' => e = .returned (.bool true) ∧ Below w.heap.size w w' := by
  obtain ⟨NO, hNO⟩ : ∃ N, N = lo.length := ⟨_, rfl⟩
  obtain ⟨NA, hNA⟩ : ∃ N, N = la.length := ⟨_, rfl⟩
  obtain ⟨NB, hNB⟩ : ∃ N, N = lb.length := ⟨_, rfl⟩
  obtain ⟨w1, hw1⟩ : ∃ w1, w1 = w.alloc (.cells #[.int .i64 k, .slice oo NO co, .slice oa NA ca, .slice ob NB cb] 72) := ⟨_, rfl⟩
  have b1 : Below w.heap.size w w1 := by rw [hw1]; exact (Below.refl _ w).alloc (Nat.le_refl _) _
  have m0 := heap_alloc_new w (.cells #[.int .i64 k, .slice oo NO co, .slice oa NA ca, .slice ob NB cb] 72)
  rw [← hw1] at m0
  obtain ⟨X, hX⟩ : ∃ X, X = w.heap.size := ⟨_, rfl⟩
  rw [← hX] at m0
  have up : ∀ W, Below w1.heap.size w1 W → W.cell? ⟨X, 0, none⟩ = some (.int .i64 k) ∧ W.cell? ⟨X, 1, none⟩ = some (.slice oo NO co) ∧ W.cell? ⟨X, 2, none⟩ = some (.slice oa NA ca) ∧ W.cell? ⟨X, 3, none⟩ = some (.slice ob NB cb) := fun W hW => by
    have q := (hW.block _ (Array.getElem?_eq_some_iff.1 m0).1).trans m0
    exact ⟨(cell_of_row _ _ 0 _ 72 (0, 0) q).trans rfl, (cell_of_row _ _ 1 _ 72 (0, 0) q).trans rfl, (cell_of_row _ _ 2 _ 72 (0, 0) q).trans rfl, (cell_of_row _ _ 3 _ 72 (0, 0) q).trans rfl⟩
  have k7 := known_any (hT.below b1)
  have k35w := fun W => empty_any k W
  rw [← hNO, ← hNA, ← hNB]
  have H := hide (And.intro ho (And.intro ha (And.intro hb (And.intro hT (And.intro hNO (And.intro hNA (And.intro hNB (And.intro nlo (And.intro nla nlb)))))))))
  have HW := hide (And.intro hw1 (And.intro b1 hX))
  replace up := hide up
  clear ho ha hb hT hNO hNA hNB nlo nla nlb hw1 b1 hX m0
  by_cases hv : valuedK k = true
  rotate_left
  · have hvf : valuedK k = false := by simpa using hv
    have k35x : ∀ W, Calls Tryz.prog 35 #[.int .i64 k] W fun e w' => e = .returned (.tuple #[vv 0 0 none 0 0, .int .i64 2]) ∧ Below W.heap.size W w' := fun W => by
      have := k35w W
      rw [hvf] at this
      exact this
    have hk : k < 1 ∨ 5 < k := by unfold valuedK at hvf; simp at hvf; omega
    clear k35w hv hvf
    have arm : True := trivial
    by_cases hk1 : k < 1
    · have ek : decide (k < 1) = true := by simpa using hk1
      go_enter Tryz.func6, Tryz.ntmps6
      go_upto_region 1 with fail
      obtain ⟨t1, -, t2⟩ := HW.out
      rw [← t1, ← t2]
      clear t1 t2
      go_wp2_with (first
        | (go_at_call 7; refine k7.mono ?_; rintro e w2 ⟨rfl, b2⟩; obtain ⟨x0, x1, x2, x3⟩ := up.out w2 b2; have H2 := hide b2; clear b2 k7; dsimp only)
        | (go_at_call 35; refine (k35x _).mono ?_; rintro e w3 ⟨rfl, b3⟩; have H3 := hide (H2.out.trans (b3.mono H2.out.size)); clear x0 x1 x2 x3 b3; obtain ⟨x0, x1, x2, x3⟩ := up.out _ (H3.out.trans (((Below.refl _ w3).alloc (Nat.le_refl _) (.cells #[.int .i64 0, .int .i64 0, .slice none 0 0] 46)).mono H3.out.size)); dsimp only)
        | (go_at_call 12; refine (num_any _ _).mono ?_; rintro e wn ⟨rfl, hwn⟩; subst hwn; dsimp only))
      go_ret
      exact ⟨rfl, nextB (nextB HW.out.2.1 H3.out) ((Below.refl _ w3).alloc (Nat.le_refl _) _)⟩
    · have ek : decide (k < 1) = false := by simpa using hk1
      have hk5 : 5 < k := by omega
      have ek5 : decide (5 < k) = true := by simpa using hk5
      go_enter Tryz.func6, Tryz.ntmps6
      go_upto_region 1 with fail
      obtain ⟨t1, -, t2⟩ := HW.out
      rw [← t1, ← t2]
      clear t1 t2
      go_wp2_with (first
        | (go_at_call 7; refine k7.mono ?_; rintro e w2 ⟨rfl, b2⟩; obtain ⟨x0, x1, x2, x3⟩ := up.out w2 b2; have H2 := hide b2; clear b2 k7; dsimp only)
        | (go_at_call 35; refine (k35x _).mono ?_; rintro e w3 ⟨rfl, b3⟩; have H3 := hide (H2.out.trans (b3.mono H2.out.size)); clear x0 x1 x2 x3 b3; obtain ⟨x0, x1, x2, x3⟩ := up.out _ (H3.out.trans (((Below.refl _ w3).alloc (Nat.le_refl _) (.cells #[.int .i64 0, .int .i64 0, .slice none 0 0] 46)).mono H3.out.size)); dsimp only)
        | (go_at_call 12; refine (num_any _ _).mono ?_; rintro e wn ⟨rfl, hwn⟩; subst hwn; dsimp only))
      go_ret
      exact ⟨rfl, nextB (nextB HW.out.2.1 H3.out) ((Below.refl _ w3).alloc (Nat.le_refl _) _)⟩
  · have k35x : ∀ W, Calls Tryz.prog 35 #[.int .i64 k] W fun e w' => e = .returned (.tuple #[vv k 0 none 0 0, .int .i64 0]) ∧ Below W.heap.size W w' := fun W => by
      have := k35w W
      rw [hv] at this
      exact this
    have hv0 : valB k 0 [] = true := by
      unfold valB
      split
      · rfl
      · rw [hv]; rfl
    obtain ⟨FO, hFO⟩ : ∃ F, F = doneF 1 ⟨#[98, 97, 115, 101]⟩ (k, 0, []) lo (min NO 40) := ⟨_, rfl⟩
    obtain ⟨FA, hFA⟩ : ∃ F, F = doneF 100 ⟨#[97]⟩ FO la (min NA 40) := ⟨_, rfl⟩
    obtain ⟨FB, hFB⟩ : ∃ F, F = doneF 100 ⟨#[98]⟩ FO lb (min NB 40) := ⟨_, rfl⟩
    have hTr : Trio k FO FA FB := trio_of (by omega) (by omega) (by omega) hv0 hFO hFA hFB
    have HF := hide (And.intro hFO (And.intro hFA (And.intro hFB (And.intro hTr hv0))))
    clear k35w hv hFO hFA hFB hTr hv0
    go_enter Tryz.func6, Tryz.ntmps6
    go_upto_region 1 with fail
    obtain ⟨t1, -, t2⟩ := HW.out
    rw [← t1, ← t2]
    clear t1 t2
    go_upto_region 6 with (first
      | (go_at_call 7; refine k7.mono ?_; rintro e w2 ⟨rfl, b2⟩; obtain ⟨x0, x1, x2, x3⟩ := up.out w2 b2; have H2 := hide b2; clear b2 k7; dsimp only)
      | (go_at_call 35; refine (k35x _).mono ?_; rintro e w3 ⟨rfl, b3⟩; have H3 := hide (H2.out.trans (b3.mono H2.out.size)); clear x0 x1 x2 x3 b3; dsimp only)
      | (go_at_call 12; refine (num_any _ _).mono ?_; rintro e wn ⟨rfl, hwn⟩; subst hwn; dsimp only))
    obtain ⟨w4, hw4⟩ : ∃ w4, w4 = w3.alloc (.cells #[.int .i64 k, .int .i64 0, .slice none 0 0] 46) := ⟨_, rfl⟩
    have b4 : Below w3.heap.size w3 w4 := by rw [hw4]; exact (Below.refl _ w3).alloc (Nat.le_refl _) _
    obtain ⟨B3, hB3⟩ : ∃ B, B = w3.heap.size := ⟨_, rfl⟩
    have hx4 : Bx w4 B3 (k, 0, []) none 0 := by rw [hw4, hB3]; exact Bx.new (F := (k, 0, [])) (Rv.none w3)
    rw [← hw4, ← hB3]
    have H4 := hide (And.intro (nextB H3.out b4) (And.intro (nextB (nextB HW.out.2.1 H3.out) b4) hx4))
    clear hw4 b4 hB3
    obtain ⟨x0, x1, x2, x3⟩ := up.out w4 H4.out.1
    obtain ⟨y0, y1, y2⟩ := hx4.cells
    have k36 := done_any k 0 1 ⟨#[98, 97, 115, 101]⟩ (oc := co) HF.out.2.2.2.2 (Rv.none w4) (by simp) (H.out.1.below H4.out.2.1) H.out.2.2.2.2.2.2.2.1 (H.out.2.2.2.1.below H4.out.2.1)
    rw [← H.out.2.2.2.2.1, ← HF.out.1] at k36
    clear hx4
    go_upto_region 7 with (go_at_call 36; refine k36.mono ?_; rintro e w5 ⟨a5, c5, rfl, hr5, b5⟩; have H5 := hide (And.intro hr5 b5); clear hr5 b5 k36 x0 x1 x2 x3 y0 y1 y2; dsimp only)
    obtain ⟨w6, hw6⟩ : ∃ w6, w6 = w5.alloc (.cells #[.int .i64 FO.1, .int .i64 FO.2.1, .slice a5 FO.2.2.length c5] 46) := ⟨_, rfl⟩
    have bw6 : Below w5.heap.size w5 w6 := by rw [hw6]; exact (Below.refl _ w5).alloc (Nat.le_refl _) _
    obtain ⟨B5, hB5⟩ : ∃ B, B = w5.heap.size := ⟨_, rfl⟩
    have nB5 : Bx w6 B5 FO a5 c5 := by rw [hw6, hB5]; exact Bx.new (F := FO) H5.out.1
    rw [← hw6, ← hB5]
    have sw6 : Below w4.heap.size w4 w6 := nextB H5.out.2 bw6
    have Hw6 := hide (And.intro (nextB H4.out.1 sw6) (And.intro (nextB H4.out.2.1 sw6) (nB5)))
    clear hw6 bw6 hB5 nB5 sw6
    obtain ⟨x0, x1, x2, x3⟩ := up.out w6 Hw6.out.1
    obtain ⟨y0, y1, y2⟩ := (Hw6.out.2.2).cells
    have k36 : Calls Tryz.prog 36 #[vv FO.1 FO.2.1 a5 FO.2.2.length c5, .slice oa NA ca, .int .i64 100, .string ⟨#[97]⟩] w6 (DoneE w6 FA) := by
      rw [HF.out.2.1, H.out.2.2.2.2.2.1]
      exact done_any FO.1 FO.2.1 100 ⟨#[97]⟩ HF.out.2.2.2.1.vO Hw6.out.2.2.2 (by have := HF.out.2.2.2.1.lO; omega) (H.out.2.1.below Hw6.out.2.1) H.out.2.2.2.2.2.2.2.2.1 (H.out.2.2.2.1.below Hw6.out.2.1)
    go_upto_region 8 with (go_at_call 36; refine k36.mono ?_; rintro e w7 ⟨a7, c7, rfl, hr7, b7⟩; have H7 := hide (And.intro hr7 b7); clear hr7 b7 k36 x0 x1 x2 x3 y0 y1 y2; dsimp only)
    obtain ⟨w8, hw8⟩ : ∃ w8, w8 = w7.alloc (.cells #[.int .i64 FA.1, .int .i64 FA.2.1, .slice a7 FA.2.2.length c7] 46) := ⟨_, rfl⟩
    have bw8 : Below w7.heap.size w7 w8 := by rw [hw8]; exact (Below.refl _ w7).alloc (Nat.le_refl _) _
    obtain ⟨B7, hB7⟩ : ∃ B, B = w7.heap.size := ⟨_, rfl⟩
    have nB7 : Bx w8 B7 FA a7 c7 := by rw [hw8, hB7]; exact Bx.new (F := FA) H7.out.1
    rw [← hw8, ← hB7]
    have sw8 : Below w6.heap.size w6 w8 := nextB H7.out.2 bw8
    have Hw8 := hide (And.intro (nextB Hw6.out.1 sw8) (And.intro (nextB Hw6.out.2.1 sw8) (And.intro (Hw6.out.2.2.below sw8) (nB7))))
    clear hw8 bw8 hB7 nB7 sw8
    obtain ⟨x0, x1, x2, x3⟩ := up.out w8 Hw8.out.1
    obtain ⟨y0, y1, y2⟩ := (Hw8.out.2.2.1).cells
    have k36 : Calls Tryz.prog 36 #[vv FO.1 FO.2.1 a5 FO.2.2.length c5, .slice ob NB cb, .int .i64 100, .string ⟨#[98]⟩] w8 (DoneE w8 FB) := by
      rw [HF.out.2.2.1, H.out.2.2.2.2.2.2.1]
      exact done_any FO.1 FO.2.1 100 ⟨#[98]⟩ HF.out.2.2.2.1.vO Hw8.out.2.2.1.2 (by have := HF.out.2.2.2.1.lO; omega) (H.out.2.2.1.below Hw8.out.2.1) H.out.2.2.2.2.2.2.2.2.2 (H.out.2.2.2.1.below Hw8.out.2.1)
    go_upto_region 9 with (go_at_call 36; refine k36.mono ?_; rintro e w9 ⟨a9, c9, rfl, hr9, b9⟩; have H9 := hide (And.intro hr9 b9); clear hr9 b9 k36 x0 x1 x2 x3 y0 y1 y2; dsimp only)
    obtain ⟨w10, hw10⟩ : ∃ w10, w10 = w9.alloc (.cells #[.int .i64 FB.1, .int .i64 FB.2.1, .slice a9 FB.2.2.length c9] 46) := ⟨_, rfl⟩
    have bw10 : Below w9.heap.size w9 w10 := by rw [hw10]; exact (Below.refl _ w9).alloc (Nat.le_refl _) _
    obtain ⟨B9, hB9⟩ : ∃ B, B = w9.heap.size := ⟨_, rfl⟩
    have nB9 : Bx w10 B9 FB a9 c9 := by rw [hw10, hB9]; exact Bx.new (F := FB) H9.out.1
    rw [← hw10, ← hB9]
    have sw10 : Below w8.heap.size w8 w10 := nextB H9.out.2 bw10
    have Hw10 := hide (And.intro (nextB Hw8.out.1 sw10) (And.intro (nextB Hw8.out.2.1 sw10) (And.intro (Hw8.out.2.2.1.below sw10) (And.intro (Hw8.out.2.2.2.below sw10) (nB9)))))
    clear hw10 bw10 hB9 nB9 sw10
    obtain ⟨FM, hFM⟩ : ∃ F, F = togF k FO FA FB := ⟨_, rfl⟩
    have HFM := hide hFM
    clear hFM
    obtain ⟨y0, y1, y2⟩ := (Hw10.out.2.2.1).cells
    obtain ⟨u0, u1, u2⟩ := (Hw10.out.2.2.2.1).cells
    obtain ⟨v0, v1, v2⟩ := (Hw10.out.2.2.2.2).cells
    have k33w := HF.out.2.2.2.1.m (Hw10.out.2.2.1.2) (Hw10.out.2.2.2.1.2) (Hw10.out.2.2.2.2.2)
    have eFM := HFM.out
    rw [← eFM] at k33w
    clear eFM
    go_upto_region 10 with (go_at_call 33; refine k33w.mono ?_; rintro e w11 ⟨a11, c11, rfl, hn, bn⟩; have Hw11 := hide (And.intro hn bn); clear hn bn k33w y0 y1 y2 u0 u1 u2 v0 v1 v2; dsimp only)
    obtain ⟨w12, hw12⟩ : ∃ w12, w12 = w11.alloc (.cells #[.int .i64 FM.1, .int .i64 FM.2.1, .slice a11 FM.2.2.length c11] 46) := ⟨_, rfl⟩
    have bw12 : Below w11.heap.size w11 w12 := by rw [hw12]; exact (Below.refl _ w11).alloc (Nat.le_refl _) _
    obtain ⟨B11, hB11⟩ : ∃ B, B = w11.heap.size := ⟨_, rfl⟩
    have nB11 : Bx w12 B11 FM a11 c11 := by rw [hw12, hB11]; exact Bx.new (F := FM) Hw11.out.1.rv
    rw [← hw12, ← hB11]
    have sw12 : Below w10.heap.size w10 w12 := nextB Hw11.out.2 bw12
    have Hw12 := hide (And.intro (nextB Hw10.out.1 sw12) (And.intro (nextB Hw10.out.2.1 sw12) (And.intro (Hw10.out.2.2.1.below sw12) (And.intro (Hw10.out.2.2.2.1.below sw12) (And.intro (Hw10.out.2.2.2.2.below sw12) (nB11))))))
    clear hw12 bw12 hB11 nB11 sw12
    obtain ⟨y0, y1, y2⟩ := (Hw12.out.2.2.1).cells
    obtain ⟨u0, u1, u2⟩ := (Hw12.out.2.2.2.1).cells
    obtain ⟨v0, v1, v2⟩ := (Hw12.out.2.2.2.2.1).cells
    have k33w := HF.out.2.2.2.1.n (Hw12.out.2.2.1.2) (Hw12.out.2.2.2.1.2) (Hw12.out.2.2.2.2.1.2)
    have eFM := HFM.out
    rw [← eFM] at k33w
    clear eFM
    go_upto_region 11 with (go_at_call 33; refine k33w.mono ?_; rintro e w13 ⟨a13, c13, rfl, hn, bn⟩; have Hw13 := hide (And.intro hn bn); clear hn bn k33w y0 y1 y2 u0 u1 u2 v0 v1 v2; dsimp only)
    obtain ⟨w14, hw14⟩ : ∃ w14, w14 = w13.alloc (.cells #[.int .i64 FM.1, .int .i64 FM.2.1, .slice a13 FM.2.2.length c13] 46) := ⟨_, rfl⟩
    have bw14 : Below w13.heap.size w13 w14 := by rw [hw14]; exact (Below.refl _ w13).alloc (Nat.le_refl _) _
    obtain ⟨B13, hB13⟩ : ∃ B, B = w13.heap.size := ⟨_, rfl⟩
    have nB13 : Bx w14 B13 FM a13 c13 := by rw [hw14, hB13]; exact Bx.new (F := FM) Hw13.out.1.rv
    rw [← hw14, ← hB13]
    have sw14 : Below w12.heap.size w12 w14 := nextB Hw13.out.2 bw14
    have Hw14 := hide (And.intro (nextB Hw12.out.1 sw14) (And.intro (nextB Hw12.out.2.1 sw14) (And.intro (Hw12.out.2.2.1.below sw14) (And.intro (Hw12.out.2.2.2.1.below sw14) (And.intro (Hw12.out.2.2.2.2.1.below sw14) (And.intro (Hw12.out.2.2.2.2.2.below sw14) (nB13)))))))
    clear hw14 bw14 hB13 nB13 sw14
    obtain ⟨y0, y1, y2⟩ := (Hw14.out.2.2.1).cells
    obtain ⟨u0, u1, u2⟩ := (Hw14.out.2.2.2.1).cells
    obtain ⟨v0, v1, v2⟩ := (Hw14.out.2.2.2.2.1).cells
    have k33w := HF.out.2.2.2.1.p (Hw14.out.2.2.1.2) (Hw14.out.2.2.2.1.2)
    go_upto_region 12 with (go_at_call 33; refine k33w.mono ?_; rintro e w15 ⟨a15, c15, rfl, hn, bn⟩; have Hw15 := hide (And.intro hn bn); clear hn bn k33w y0 y1 y2 u0 u1 u2 v0 v1 v2; dsimp only)
    obtain ⟨w16, hw16⟩ : ∃ w16, w16 = w15.alloc (.cells #[.int .i64 FA.1, .int .i64 FA.2.1, .slice a15 FA.2.2.length c15] 46) := ⟨_, rfl⟩
    have bw16 : Below w15.heap.size w15 w16 := by rw [hw16]; exact (Below.refl _ w15).alloc (Nat.le_refl _) _
    obtain ⟨B15, hB15⟩ : ∃ B, B = w15.heap.size := ⟨_, rfl⟩
    have nB15 : Bx w16 B15 FA a15 c15 := by rw [hw16, hB15]; exact Bx.new (F := FA) Hw15.out.1.rv
    rw [← hw16, ← hB15]
    have sw16 : Below w14.heap.size w14 w16 := nextB Hw15.out.2 bw16
    have Hw16 := hide (And.intro (nextB Hw14.out.1 sw16) (And.intro (nextB Hw14.out.2.1 sw16) (And.intro (Hw14.out.2.2.1.below sw16) (And.intro (Hw14.out.2.2.2.1.below sw16) (And.intro (Hw14.out.2.2.2.2.1.below sw16) (And.intro (Hw14.out.2.2.2.2.2.1.below sw16) (And.intro (Hw14.out.2.2.2.2.2.2.below sw16) (nB15))))))))
    clear hw16 bw16 hB15 nB15 sw16
    obtain ⟨y0, y1, y2⟩ := (Hw16.out.2.2.1).cells
    obtain ⟨u0, u1, u2⟩ := (Hw16.out.2.2.2.1).cells
    obtain ⟨v0, v1, v2⟩ := (Hw16.out.2.2.2.2.1).cells
    have k33w := HF.out.2.2.2.1.q (Hw16.out.2.2.1.2) (Hw16.out.2.2.2.2.1.2)
    go_upto_region 13 with (go_at_call 33; refine k33w.mono ?_; rintro e w17 ⟨a17, c17, rfl, hn, bn⟩; have Hw17 := hide (And.intro hn bn); clear hn bn k33w y0 y1 y2 u0 u1 u2 v0 v1 v2; dsimp only)
    obtain ⟨w18, hw18⟩ : ∃ w18, w18 = w17.alloc (.cells #[.int .i64 FB.1, .int .i64 FB.2.1, .slice a17 FB.2.2.length c17] 46) := ⟨_, rfl⟩
    have bw18 : Below w17.heap.size w17 w18 := by rw [hw18]; exact (Below.refl _ w17).alloc (Nat.le_refl _) _
    obtain ⟨B17, hB17⟩ : ∃ B, B = w17.heap.size := ⟨_, rfl⟩
    have nB17 : Bx w18 B17 FB a17 c17 := by rw [hw18, hB17]; exact Bx.new (F := FB) Hw17.out.1.rv
    rw [← hw18, ← hB17]
    have sw18 : Below w16.heap.size w16 w18 := nextB Hw17.out.2 bw18
    have Hw18 := hide (And.intro (nextB Hw16.out.1 sw18) (And.intro (nextB Hw16.out.2.1 sw18) (And.intro (Hw16.out.2.2.1.below sw18) (And.intro (Hw16.out.2.2.2.1.below sw18) (And.intro (Hw16.out.2.2.2.2.1.below sw18) (And.intro (Hw16.out.2.2.2.2.2.1.below sw18) (And.intro (Hw16.out.2.2.2.2.2.2.1.below sw18) (And.intro (Hw16.out.2.2.2.2.2.2.2.below sw18) (nB17)))))))))
    clear hw18 bw18 hB17 nB17 sw18
    have up13 : Hid (∀ W, Below w18.heap.size w18 W → W.cell? ⟨B11, 0, none⟩ = some (.int .i64 FM.1) ∧ W.cell? ⟨B11, 1, none⟩ = some (.int .i64 FM.2.1) ∧ W.cell? ⟨B11, 2, none⟩ = some (.slice a11 FM.2.2.length c11) ∧ W.cell? ⟨B13, 0, none⟩ = some (.int .i64 FM.1) ∧ W.cell? ⟨B13, 1, none⟩ = some (.int .i64 FM.2.1) ∧ W.cell? ⟨B13, 2, none⟩ = some (.slice a13 FM.2.2.length c13) ∧ W.cell? ⟨B15, 0, none⟩ = some (.int .i64 FA.1) ∧ W.cell? ⟨B15, 1, none⟩ = some (.int .i64 FA.2.1) ∧ W.cell? ⟨B15, 2, none⟩ = some (.slice a15 FA.2.2.length c15) ∧ W.cell? ⟨B7, 0, none⟩ = some (.int .i64 FA.1) ∧ W.cell? ⟨B7, 1, none⟩ = some (.int .i64 FA.2.1) ∧ W.cell? ⟨B7, 2, none⟩ = some (.slice a7 FA.2.2.length c7) ∧ W.cell? ⟨B17, 0, none⟩ = some (.int .i64 FB.1) ∧ W.cell? ⟨B17, 1, none⟩ = some (.int .i64 FB.2.1) ∧ W.cell? ⟨B17, 2, none⟩ = some (.slice a17 FB.2.2.length c17) ∧ W.cell? ⟨B9, 0, none⟩ = some (.int .i64 FB.1) ∧ W.cell? ⟨B9, 1, none⟩ = some (.int .i64 FB.2.1) ∧ W.cell? ⟨B9, 2, none⟩ = some (.slice a9 FB.2.2.length c9) ∧ W.cell? ⟨B5, 0, none⟩ = some (.int .i64 FO.1) ∧ W.cell? ⟨B5, 1, none⟩ = some (.int .i64 FO.2.1) ∧ W.cell? ⟨B5, 2, none⟩ = some (.slice a5 FO.2.2.length c5)) := hide (fun W hW => ⟨(Hw18.out.2.2.2.2.2.1.below hW).cells.1, (Hw18.out.2.2.2.2.2.1.below hW).cells.2.1, (Hw18.out.2.2.2.2.2.1.below hW).cells.2.2, (Hw18.out.2.2.2.2.2.2.1.below hW).cells.1, (Hw18.out.2.2.2.2.2.2.1.below hW).cells.2.1, (Hw18.out.2.2.2.2.2.2.1.below hW).cells.2.2, (Hw18.out.2.2.2.2.2.2.2.1.below hW).cells.1, (Hw18.out.2.2.2.2.2.2.2.1.below hW).cells.2.1, (Hw18.out.2.2.2.2.2.2.2.1.below hW).cells.2.2, (Hw18.out.2.2.2.1.below hW).cells.1, (Hw18.out.2.2.2.1.below hW).cells.2.1, (Hw18.out.2.2.2.1.below hW).cells.2.2, (Hw18.out.2.2.2.2.2.2.2.2.below hW).cells.1, (Hw18.out.2.2.2.2.2.2.2.2.below hW).cells.2.1, (Hw18.out.2.2.2.2.2.2.2.2.below hW).cells.2.2, (Hw18.out.2.2.2.2.1.below hW).cells.1, (Hw18.out.2.2.2.2.1.below hW).cells.2.1, (Hw18.out.2.2.2.2.1.below hW).cells.2.2, (Hw18.out.2.2.1.below hW).cells.1, (Hw18.out.2.2.1.below hW).cells.2.1, (Hw18.out.2.2.1.below hW).cells.2.2⟩)
    have lM : FM.2.2.length ≤ 160 := by rw [HFM.out]; exact HF.out.2.2.2.1.len
    have lA : FA.2.2.length ≤ 80 := HF.out.2.2.2.1.lA
    have lB : FB.2.2.length ≤ 80 := HF.out.2.2.2.1.lB
    have lO : FO.2.2.length ≤ 40 := HF.out.2.2.2.1.lO
    have kS1 : ∀ W, Below w18.heap.size w18 W → Calls Tryz.prog 26 #[vv FM.1 FM.2.1 a11 FM.2.2.length c11, vv FM.1 FM.2.1 a13 FM.2.2.length c13] W fun e w' => e = .returned (.bool true) ∧ Below W.heap.size W w' := fun W hW => by
      have := same_any FM.1 FM.2.1 FM.1 FM.2.1 (c := c11) (d := c13) (Hw18.out.2.2.2.2.2.1.2.below hW).re (Hw18.out.2.2.2.2.2.2.1.2.below hW).re (by omega) (by omega)
      rw [show sameV FM.1 FM.2.1 FM.2.2 FM.1 FM.2.1 FM.2.2 = true by simp [sameV]] at this
      exact this
    have kS2 : ∀ W, Below w18.heap.size w18 W → Calls Tryz.prog 26 #[vv FA.1 FA.2.1 a15 FA.2.2.length c15, vv FA.1 FA.2.1 a7 FA.2.2.length c7] W fun e w' => e = .returned (.bool true) ∧ Below W.heap.size W w' := fun W hW => by
      have := same_any FA.1 FA.2.1 FA.1 FA.2.1 (c := c15) (d := c7) (Hw18.out.2.2.2.2.2.2.2.1.2.below hW).re (Hw18.out.2.2.2.1.2.below hW).re (by omega) (by omega)
      rw [show sameV FA.1 FA.2.1 FA.2.2 FA.1 FA.2.1 FA.2.2 = true by simp [sameV]] at this
      exact this
    have kS3 : ∀ W, Below w18.heap.size w18 W → Calls Tryz.prog 26 #[vv FB.1 FB.2.1 a17 FB.2.2.length c17, vv FB.1 FB.2.1 a9 FB.2.2.length c9] W fun e w' => e = .returned (.bool true) ∧ Below W.heap.size W w' := fun W hW => by
      have := same_any FB.1 FB.2.1 FB.1 FB.2.1 (c := c17) (d := c9) (Hw18.out.2.2.2.2.2.2.2.2.2.below hW).re (Hw18.out.2.2.2.2.1.2.below hW).re (by omega) (by omega)
      rw [show sameV FB.1 FB.2.1 FB.2.2 FB.1 FB.2.1 FB.2.2 = true by simp [sameV]] at this
      exact this
    have kV : ∀ W, Below w18.heap.size w18 W → Calls Tryz.prog 25 #[vv FM.1 FM.2.1 a11 FM.2.2.length c11] W fun e w' => e = .returned (.bool true) ∧ Below W.heap.size W w' := fun W hW => by
      have := value_any FM.1 FM.2.1 (Hw18.out.2.2.2.2.2.1.2.below hW) (by omega)
      rw [show valB FM.1 FM.2.1 FM.2.2 = true by rw [HFM.out]; exact HF.out.2.2.2.1.val] at this
      exact this
    replace kS1 := kS1 w18 (Below.refl _ _)
    obtain ⟨p0, p1, p2, q0, q1, q2, r0, r1, r2, m0, m1, m2, s0, s1, s2, v0, v1, v2, y0, y1, y2⟩ := up13.out w18 (Below.refl _ _)
    go_wp2_with (first
      | (go_at_call 12; refine (num_any _ _).mono ?_; rintro e wn ⟨rfl, hwn⟩; obtain rfl : w18 = wn := hwn.symm; clear hwn; dsimp only)
      | (go_at_call 26; refine kS1.mono ?_; rintro e w19 ⟨rfl, bw19⟩; have Gw19 := hide bw19; clear p0 p1 p2 q0 q1 q2 r0 r1 r2 m0 m1 m2 s0 s1 s2 v0 v1 v2 y0 y1 y2 bw19 kS1; obtain ⟨p0, p1, p2, q0, q1, q2, r0, r1, r2, m0, m1, m2, s0, s1, s2, v0, v1, v2, y0, y1, y2⟩ := up13.out w19 Gw19.out; dsimp only)
      | (go_at_call 26; refine (kS2 _ Gw19.out).mono ?_; rintro e w20 ⟨rfl, bw20⟩; have Gw20 := hide (nextB Gw19.out bw20); clear p0 p1 p2 q0 q1 q2 r0 r1 r2 m0 m1 m2 s0 s1 s2 v0 v1 v2 y0 y1 y2 bw20 kS2; obtain ⟨p0, p1, p2, q0, q1, q2, r0, r1, r2, m0, m1, m2, s0, s1, s2, v0, v1, v2, y0, y1, y2⟩ := up13.out w20 Gw20.out; dsimp only)
      | (go_at_call 26; refine (kS3 _ Gw20.out).mono ?_; rintro e w21 ⟨rfl, bw21⟩; have Gw21 := hide (nextB Gw20.out bw21); clear p0 p1 p2 q0 q1 q2 r0 r1 r2 m0 m1 m2 s0 s1 s2 v0 v1 v2 y0 y1 y2 bw21 kS3; obtain ⟨p0, p1, p2, q0, q1, q2, r0, r1, r2, m0, m1, m2, s0, s1, s2, v0, v1, v2, y0, y1, y2⟩ := up13.out w21 Gw21.out; dsimp only)
      | (go_at_call 25; refine (kV _ Gw21.out).mono ?_; rintro e w22 ⟨rfl, bw22⟩; have Gw22 := hide (nextB Gw21.out bw22); clear p0 p1 p2 q0 q1 q2 r0 r1 r2 m0 m1 m2 s0 s1 s2 v0 v1 v2 y0 y1 y2 bw22 kV; obtain ⟨p0, p1, p2, q0, q1, q2, r0, r1, r2, m0, m1, m2, s0, s1, s2, v0, v1, v2, y0, y1, y2⟩ := up13.out w22 Gw22.out; dsimp only))
    go_loopw [19] (fun iv wr => ∃ i : Nat, i ≤ FM.2.2.length ∧ iv = .int .i64 i ∧ Hid (Below w18.heap.size w18 wr)) (fun iv _ => FM.2.2.length - (intOf iv).toNat)
    case atStart => exact ⟨0, Nat.zero_le _, rfl, Gw22⟩
    case round =>
      obtain ⟨i, hi, rfl, hP⟩ := hrel
      clear p0 p1 p2 q0 q1 q2 r0 r1 r2 m0 m1 m2 s0 s1 s2 v0 v1 v2 y0 y1 y2
      obtain ⟨p0, p1, p2, q0, q1, q2, r0, r1, r2, m0, m1, m2, s0, s1, s2, v0, v1, v2, y0, y1, y2⟩ := up13.out wr hP.out
      by_cases hlt : i < FM.2.2.length
      · have d1 : decide (i < FM.2.2.length) = true := by simpa using hlt
        have z1 : (i : Int) < (FM.2.2.length : Int) := by omega
        obtain ⟨z, hz⟩ : ∃ z, FM.2.2[i]? = some z := ⟨_, List.getElem?_eq_getElem hlt⟩
        obtain ⟨bk, off, hao, e0, e1, e2, e3, e4, e5⟩ := (Hw18.out.2.2.2.2.2.1.2.below hP.out).re.cells hz
        have kH5 : ∀ W, Below w18.heap.size w18 W → Calls Tryz.prog 37 #[vv FO.1 FO.2.1 a5 FO.2.2.length c5, ev z] W fun e w' => e = .returned (.bool (hasE FO.2.2 z)) ∧ Below W.heap.size W w' := fun W hW => has_any FO.1 FO.2.1 z (Hw18.out.2.2.1.2.below hW).re (by omega)
        have kH7 : ∀ W, Below w18.heap.size w18 W → Calls Tryz.prog 37 #[vv FA.1 FA.2.1 a7 FA.2.2.length c7, ev z] W fun e w' => e = .returned (.bool (hasE FA.2.2 z)) ∧ Below W.heap.size W w' := fun W hW => has_any FA.1 FA.2.1 z (Hw18.out.2.2.2.1.2.below hW).re (by omega)
        have kH9 : ∀ W, Below w18.heap.size w18 W → Calls Tryz.prog 37 #[vv FB.1 FB.2.1 a9 FB.2.2.length c9, ev z] W fun e w' => e = .returned (.bool (hasE FB.2.2 z)) ∧ Below W.heap.size W w' := fun W hW => has_any FB.1 FB.2.1 z (Hw18.out.2.2.2.2.1.2.below hW).re (by omega)
        have hin : hasE FO.2.2 z = true → hasE FA.2.2 z = true ∧ hasE FB.2.2 z = true := fun hh => by
          have hm : z ∈ togL FO.2.2 FA.2.2 FB.2.2 := by
            have := List.mem_of_getElem? hz
            rw [HFM.out] at this
            exact this
          have := HF.out.2.2.2.1.two.gone hm ((hasE_iff _ _).1 hh)
          exact ⟨(hasE_iff _ _).2 this.1, (hasE_iff _ _).2 this.2⟩
        generalize hasE FO.2.2 z = V1 at kH5 hin
        generalize hasE FA.2.2 z = V2 at kH7 hin
        generalize hasE FB.2.2 z = V3 at kH9 hin
        clear hz
        obtain ⟨⟨g, r, l0, n0, i0⟩, t0⟩ := z
        dsimp only at e0 e1 e2 e3 e4 e5
        obtain ⟨f0, f1, f2, f3, f4, f5⟩ := new6 wr (.int .i64 g) (.int .i64 r) (.string l0) (.int .i64 n0) (.int .i64 i0) (.string t0) 77
        have GA := hide (nextB hP.out ((Below.refl _ wr).alloc (Nat.le_refl _) (.cells #[.int .i64 g, .int .i64 r, .string l0, .int .i64 n0, .int .i64 i0, .string t0] 77)))
        rw [hao] at p2
        cases V1
        · go_upto_region 19 with fail
          clear e0 e1 e2 e3 e4 e5 p0 p1 p2 q0 q1 q2 r0 r1 r2 m0 m1 m2 s0 s1 s2 v0 v1 v2 y0 y1 y2
          obtain ⟨p0, p1, p2, q0, q1, q2, r0, r1, r2, m0, m1, m2, s0, s1, s2, v0, v1, v2, y0, y1, y2⟩ := up13.out _ GA.out
          go_wp2_with (go_at_call 37; refine (kH5 _ GA.out).mono ?_; rintro e w23 ⟨rfl, bw23⟩; have Gw23 := hide (nextB GA.out bw23); replace f0 := cell_stays f0 bw23; replace f1 := cell_stays f1 bw23; replace f2 := cell_stays f2 bw23; replace f3 := cell_stays f3 bw23; replace f4 := cell_stays f4 bw23; replace f5 := cell_stays f5 bw23; clear p0 p1 p2 q0 q1 q2 r0 r1 r2 m0 m1 m2 s0 s1 s2 v0 v1 v2 y0 y1 y2 bw23 kH5; obtain ⟨p0, p1, p2, q0, q1, q2, r0, r1, r2, m0, m1, m2, s0, s1, s2, v0, v1, v2, y0, y1, y2⟩ := up13.out w23 Gw23.out; dsimp only)
          go_roundw
          case rel => exact ⟨i + 1, by omega, by go_num, Gw23⟩
          case measure => simp [intOf]; omega
        · obtain ⟨rfl, rfl⟩ := hin rfl
          go_upto_region 19 with fail
          clear e0 e1 e2 e3 e4 e5 p0 p1 p2 q0 q1 q2 r0 r1 r2 m0 m1 m2 s0 s1 s2 v0 v1 v2 y0 y1 y2
          obtain ⟨p0, p1, p2, q0, q1, q2, r0, r1, r2, m0, m1, m2, s0, s1, s2, v0, v1, v2, y0, y1, y2⟩ := up13.out _ GA.out
          go_wp2_with (first
            | (go_at_call 37; refine (kH5 _ GA.out).mono ?_; rintro e w23 ⟨rfl, bw23⟩; have Gw23 := hide (nextB GA.out bw23); replace f0 := cell_stays f0 bw23; replace f1 := cell_stays f1 bw23; replace f2 := cell_stays f2 bw23; replace f3 := cell_stays f3 bw23; replace f4 := cell_stays f4 bw23; replace f5 := cell_stays f5 bw23; clear p0 p1 p2 q0 q1 q2 r0 r1 r2 m0 m1 m2 s0 s1 s2 v0 v1 v2 y0 y1 y2 bw23 kH5; obtain ⟨p0, p1, p2, q0, q1, q2, r0, r1, r2, m0, m1, m2, s0, s1, s2, v0, v1, v2, y0, y1, y2⟩ := up13.out w23 Gw23.out; dsimp only)
            | (go_at_call 37; refine (kH7 _ Gw23.out).mono ?_; rintro e w24 ⟨rfl, bw24⟩; have Gw24 := hide (nextB Gw23.out bw24); replace f0 := cell_stays f0 bw24; replace f1 := cell_stays f1 bw24; replace f2 := cell_stays f2 bw24; replace f3 := cell_stays f3 bw24; replace f4 := cell_stays f4 bw24; replace f5 := cell_stays f5 bw24; clear p0 p1 p2 q0 q1 q2 r0 r1 r2 m0 m1 m2 s0 s1 s2 v0 v1 v2 y0 y1 y2 bw24 kH7; obtain ⟨p0, p1, p2, q0, q1, q2, r0, r1, r2, m0, m1, m2, s0, s1, s2, v0, v1, v2, y0, y1, y2⟩ := up13.out w24 Gw24.out; dsimp only)
            | (go_at_call 37; refine (kH9 _ Gw24.out).mono ?_; rintro e w25 ⟨rfl, bw25⟩; have Gw25 := hide (nextB Gw24.out bw25); replace f0 := cell_stays f0 bw25; replace f1 := cell_stays f1 bw25; replace f2 := cell_stays f2 bw25; replace f3 := cell_stays f3 bw25; replace f4 := cell_stays f4 bw25; replace f5 := cell_stays f5 bw25; clear p0 p1 p2 q0 q1 q2 r0 r1 r2 m0 m1 m2 s0 s1 s2 v0 v1 v2 y0 y1 y2 bw25 kH9; obtain ⟨p0, p1, p2, q0, q1, q2, r0, r1, r2, m0, m1, m2, s0, s1, s2, v0, v1, v2, y0, y1, y2⟩ := up13.out w25 Gw25.out; dsimp only))
          go_roundw
          case rel => exact ⟨i + 1, by omega, by go_num, Gw25⟩
          case measure => simp [intOf]; omega
      · obtain hie : i = FM.2.2.length := by omega
        have d1 : decide (i < FM.2.2.length) = false := by simpa using hlt
        go_wp2
        go_loopw [21] (fun iv wv => ∃ q : Nat, q ≤ FA.2.2.length ∧ iv = .int .i64 q ∧ Hid (Below w18.heap.size w18 wv)) (fun iv _ => FA.2.2.length - (intOf iv).toNat)
        case atStart => exact ⟨0, Nat.zero_le _, rfl, hP⟩
        case round =>
          obtain ⟨q, hq, rfl, hQ⟩ := hrel
          obtain ⟨wv, hwv⟩ : ∃ wv, wv = wr := ⟨_, rfl⟩
          rw [← hwv] at hQ ⊢
          clear hwv p0 p1 p2 q0 q1 q2 r0 r1 r2 m0 m1 m2 s0 s1 s2 v0 v1 v2 y0 y1 y2
          obtain ⟨p0, p1, p2, q0, q1, q2, r0, r1, r2, m0, m1, m2, s0, s1, s2, v0, v1, v2, y0, y1, y2⟩ := up13.out wv hQ.out
          by_cases hlq : q < FA.2.2.length
          · have d2 : decide (q < FA.2.2.length) = true := by simpa using hlq
            have z2 : (q : Int) < (FA.2.2.length : Int) := by omega
            obtain ⟨z, hz⟩ : ∃ z, FA.2.2[q]? = some z := ⟨_, List.getElem?_eq_getElem hlq⟩
            obtain ⟨bk, off, hao, e0, e1, e2, e3, e4, e5⟩ := (Hw18.out.2.2.2.1.2.below hQ.out).re.cells hz
            have kH5 : ∀ W, Below w18.heap.size w18 W → Calls Tryz.prog 37 #[vv FO.1 FO.2.1 a5 FO.2.2.length c5, ev z] W fun e w' => e = .returned (.bool (hasE FO.2.2 z)) ∧ Below W.heap.size W w' := fun W hW => has_any FO.1 FO.2.1 z (Hw18.out.2.2.1.2.below hW).re (by omega)
            have kH11 : ∀ W, Below w18.heap.size w18 W → Calls Tryz.prog 37 #[vv FM.1 FM.2.1 a11 FM.2.2.length c11, ev z] W fun e w' => e = .returned (.bool (hasE FM.2.2 z)) ∧ Below W.heap.size W w' := fun W hW => has_any FM.1 FM.2.1 z (Hw18.out.2.2.2.2.2.1.2.below hW).re (by omega)
            have hin : hasE FO.2.2 z = false → hasE FM.2.2 z = true := fun hh => by
              have hm := HF.out.2.2.2.1.two.new (List.mem_of_getElem? hz) (fun hc => by rw [(hasE_iff _ _).2 hc] at hh; cases hh)
              rw [hasE_iff, HFM.out]
              exact hm
            generalize hasE FO.2.2 z = V1 at kH5 hin
            generalize hasE FM.2.2 z = V2 at kH11 hin
            clear hz
            obtain ⟨⟨g, r, l0, n0, i0⟩, t0⟩ := z
            dsimp only at e0 e1 e2 e3 e4 e5
            rw [hao] at m2
            have hS : wv.cell? ⟨B5, 0, none⟩ = some (.int .i64 FO.1) ∧ wv.cell? ⟨B5, 1, none⟩ = some (.int .i64 FO.2.1) ∧ wv.cell? ⟨B5, 2, none⟩ = some (.slice a5 FO.2.2.length c5) ∧ wv.cell? ⟨B7, 2, none⟩ = some (.slice (some ⟨bk, off, none⟩) FA.2.2.length c7) ∧ wv.cell? ⟨B11, 0, none⟩ = some (.int .i64 FM.1) ∧ wv.cell? ⟨B11, 1, none⟩ = some (.int .i64 FM.2.1) ∧ wv.cell? ⟨B11, 2, none⟩ = some (.slice a11 FM.2.2.length c11) ∧ wv.cell? ⟨bk, off + q * 6, none⟩ = some (.int .i64 g) ∧ wv.cell? ⟨bk, off + q * 6 + 1, none⟩ = some (.int .i64 r) ∧ wv.cell? ⟨bk, off + q * 6 + 2, none⟩ = some (.string l0) ∧ wv.cell? ⟨bk, off + q * 6 + 3, none⟩ = some (.int .i64 n0) ∧ wv.cell? ⟨bk, off + q * 6 + 4, none⟩ = some (.int .i64 i0) ∧ wv.cell? ⟨bk, off + q * 6 + 5, none⟩ = some (.string t0) ∧ Below w18.heap.size w18 wv := ⟨y0, y1, y2, m2, p0, p1, p2, e0, e1, e2, e3, e4, e5, hQ.out⟩
            cases V1
            · have hV2 := hin rfl
              subst hV2
              go_upto_region 24 with fail
              clear e0 e1 e2 e3 e4 e5 p0 p1 p2 q0 q1 q2 r0 r1 r2 m0 m1 m2 s0 s1 s2 v0 v1 v2 y0 y1 y2
              have qd : wv.drew.cell? ⟨B5, 0, none⟩ = some (.int .i64 FO.1) ∧ wv.drew.cell? ⟨B5, 1, none⟩ = some (.int .i64 FO.2.1) ∧ wv.drew.cell? ⟨B5, 2, none⟩ = some (.slice a5 FO.2.2.length c5) ∧ wv.drew.cell? ⟨B7, 2, none⟩ = some (.slice (some ⟨bk, off, none⟩) FA.2.2.length c7) ∧ wv.drew.cell? ⟨B11, 0, none⟩ = some (.int .i64 FM.1) ∧ wv.drew.cell? ⟨B11, 1, none⟩ = some (.int .i64 FM.2.1) ∧ wv.drew.cell? ⟨B11, 2, none⟩ = some (.slice a11 FM.2.2.length c11) ∧ wv.drew.cell? ⟨bk, off + q * 6, none⟩ = some (.int .i64 g) ∧ wv.drew.cell? ⟨bk, off + q * 6 + 1, none⟩ = some (.int .i64 r) ∧ wv.drew.cell? ⟨bk, off + q * 6 + 2, none⟩ = some (.string l0) ∧ wv.drew.cell? ⟨bk, off + q * 6 + 3, none⟩ = some (.int .i64 n0) ∧ wv.drew.cell? ⟨bk, off + q * 6 + 4, none⟩ = some (.int .i64 i0) ∧ wv.drew.cell? ⟨bk, off + q * 6 + 5, none⟩ = some (.string t0) ∧ Below w18.heap.size w18 wv.drew := ⟨cell_stays hS.1 (drew_below wv), cell_stays hS.2.1 (drew_below wv), cell_stays hS.2.2.1 (drew_below wv), cell_stays hS.2.2.2.1 (drew_below wv), cell_stays hS.2.2.2.2.1 (drew_below wv), cell_stays hS.2.2.2.2.2.1 (drew_below wv), cell_stays hS.2.2.2.2.2.2.1 (drew_below wv), cell_stays hS.2.2.2.2.2.2.2.1 (drew_below wv), cell_stays hS.2.2.2.2.2.2.2.2.1 (drew_below wv), cell_stays hS.2.2.2.2.2.2.2.2.2.1 (drew_below wv), cell_stays hS.2.2.2.2.2.2.2.2.2.2.1 (drew_below wv), cell_stays hS.2.2.2.2.2.2.2.2.2.2.2.1 (drew_below wv), cell_stays hS.2.2.2.2.2.2.2.2.2.2.2.2.1 (drew_below wv), nextB hS.2.2.2.2.2.2.2.2.2.2.2.2.2 (drew_below wv)⟩
              refine wp_region_held_drew (S := (fun w' => w'.cell? ⟨B5, 0, none⟩ = some (.int .i64 FO.1) ∧ w'.cell? ⟨B5, 1, none⟩ = some (.int .i64 FO.2.1) ∧ w'.cell? ⟨B5, 2, none⟩ = some (.slice a5 FO.2.2.length c5) ∧ w'.cell? ⟨B7, 2, none⟩ = some (.slice (some ⟨bk, off, none⟩) FA.2.2.length c7) ∧ w'.cell? ⟨B11, 0, none⟩ = some (.int .i64 FM.1) ∧ w'.cell? ⟨B11, 1, none⟩ = some (.int .i64 FM.2.1) ∧ w'.cell? ⟨B11, 2, none⟩ = some (.slice a11 FM.2.2.length c11) ∧ w'.cell? ⟨bk, off + q * 6, none⟩ = some (.int .i64 g) ∧ w'.cell? ⟨bk, off + q * 6 + 1, none⟩ = some (.int .i64 r) ∧ w'.cell? ⟨bk, off + q * 6 + 2, none⟩ = some (.string l0) ∧ w'.cell? ⟨bk, off + q * 6 + 3, none⟩ = some (.int .i64 n0) ∧ w'.cell? ⟨bk, off + q * 6 + 4, none⟩ = some (.int .i64 i0) ∧ w'.cell? ⟨bk, off + q * 6 + 5, none⟩ = some (.string t0) ∧ Below w18.heap.size w18 w')) (by kernel_rfl) qd (fun hHeld => ?_)
              try dsimp only at hHeld
              refine take_op (i := 0) (d := 170) (OP := Op.load 46 (Operand.tmp 5)) (T := 46) (v := ?vzz1) rfl rfl rfl rfl (by kernel_rfl) (by kernel_rfl) (by kernel_rfl) (fun _ _ _ h => h) (by rfl) ?hzz1 hHeld ?rzz1
              case hzz1 => (intro w' hSw; (try dsimp only at hSw); go_simp <;> with_reducible rfl)
              try simp only [Act.put, List.setIfInBounds_toArray, List.set_cons_zero, List.set_cons_succ]
              refine take_op (i := 1) (d := 171) (OP := Op.fieldAddr 46 (Operand.tmp 7) 2) (T := 0) (v := ?vzz2) rfl rfl rfl rfl (by kernel_rfl) (by kernel_rfl) (by kernel_rfl) (fun _ _ _ h => h) (by rfl) ?hzz2 hHeld ?rzz2
              case hzz2 => (intro w' hSw; (try dsimp only at hSw); go_simp <;> with_reducible rfl)
              try simp only [Act.put, List.setIfInBounds_toArray, List.set_cons_zero, List.set_cons_succ]
              refine take_op (i := 2) (d := 172) (OP := Op.load 44 (Operand.tmp 171)) (T := 44) (v := ?vzz3) rfl rfl rfl rfl (by kernel_rfl) (by kernel_rfl) (by kernel_rfl) (fun _ _ _ h => h) (by rfl) ?hzz3 hHeld ?rzz3
              case hzz3 => (intro w' hSw; (try dsimp only at hSw); go_simp <;> with_reducible rfl)
              try simp only [Act.put, List.setIfInBounds_toArray, List.set_cons_zero, List.set_cons_succ]
              refine take_op (i := 3) (d := 173) (OP := Op.move (Operand.tmp 21)) (T := 3) (v := ?vzz4) rfl rfl rfl rfl (by kernel_rfl) (by kernel_rfl) (by kernel_rfl) (fun _ _ _ h => h) (by rfl) ?hzz4 hHeld ?rzz4
              case hzz4 => (intro w' hSw; (try dsimp only at hSw); go_simp <;> with_reducible rfl)
              try simp only [Act.put, List.setIfInBounds_toArray, List.set_cons_zero, List.set_cons_succ]
              refine take_op (i := 4) (d := 174) (OP := Op.indexAddr 44 (Operand.tmp 172) (Operand.tmp 173)) (T := 0) (v := ?vzz5) rfl rfl rfl rfl (by kernel_rfl) (by kernel_rfl) (by kernel_rfl) (fun _ _ _ h => h) (by rfl) ?hzz5 hHeld ?rzz5
              case hzz5 => (intro w' hSw; (try dsimp only at hSw); go_simp <;> with_reducible rfl)
              try simp only [Act.put, List.setIfInBounds_toArray, List.set_cons_zero, List.set_cons_succ]
              refine take_op (i := 5) (d := 175) (OP := Op.load 77 (Operand.tmp 174)) (T := 77) (v := ?vzz6) rfl rfl rfl rfl (by kernel_rfl) (by kernel_rfl) (by kernel_rfl) (fun _ _ _ h => h) (by rfl) ?hzz6 hHeld ?rzz6
              case hzz6 => (intro w' hSw; (try dsimp only at hSw); go_simp <;> with_reducible rfl)
              try simp only [Act.put, List.setIfInBounds_toArray, List.set_cons_zero, List.set_cons_succ]
              refine call_op (i := 6) (d := 176) (OP := Op.call { callee := Callee.value (Operand.func 37), args := #[Operand.tmp 170, Operand.tmp 175], argTypes := #[46, 77] }) (T := 4) (f := 37) (args := #[vv FO.1 FO.2.1 a5 FO.2.2.length c5, .agg #[.int .i64 g, .int .i64 r, .string l0, .int .i64 n0, .int .i64 i0, .string t0]]) rfl rfl rfl rfl (by kernel_rfl) (by rfl) (by go_simp) ?_
              refine (kH5 _ hHeld.2.2.2.2.2.2.2.2.2.2.2.2.2).mono ?_
              rintro e z1w ⟨rfl, bz1w⟩
              have qz1w : z1w.cell? ⟨B5, 0, none⟩ = some (.int .i64 FO.1) ∧ z1w.cell? ⟨B5, 1, none⟩ = some (.int .i64 FO.2.1) ∧ z1w.cell? ⟨B5, 2, none⟩ = some (.slice a5 FO.2.2.length c5) ∧ z1w.cell? ⟨B7, 2, none⟩ = some (.slice (some ⟨bk, off, none⟩) FA.2.2.length c7) ∧ z1w.cell? ⟨B11, 0, none⟩ = some (.int .i64 FM.1) ∧ z1w.cell? ⟨B11, 1, none⟩ = some (.int .i64 FM.2.1) ∧ z1w.cell? ⟨B11, 2, none⟩ = some (.slice a11 FM.2.2.length c11) ∧ z1w.cell? ⟨bk, off + q * 6, none⟩ = some (.int .i64 g) ∧ z1w.cell? ⟨bk, off + q * 6 + 1, none⟩ = some (.int .i64 r) ∧ z1w.cell? ⟨bk, off + q * 6 + 2, none⟩ = some (.string l0) ∧ z1w.cell? ⟨bk, off + q * 6 + 3, none⟩ = some (.int .i64 n0) ∧ z1w.cell? ⟨bk, off + q * 6 + 4, none⟩ = some (.int .i64 i0) ∧ z1w.cell? ⟨bk, off + q * 6 + 5, none⟩ = some (.string t0) ∧ Below w18.heap.size w18 z1w := ⟨cell_stays hHeld.1 bz1w, cell_stays hHeld.2.1 bz1w, cell_stays hHeld.2.2.1 bz1w, cell_stays hHeld.2.2.2.1 bz1w, cell_stays hHeld.2.2.2.2.1 bz1w, cell_stays hHeld.2.2.2.2.2.1 bz1w, cell_stays hHeld.2.2.2.2.2.2.1 bz1w, cell_stays hHeld.2.2.2.2.2.2.2.1 bz1w, cell_stays hHeld.2.2.2.2.2.2.2.2.1 bz1w, cell_stays hHeld.2.2.2.2.2.2.2.2.2.1 bz1w, cell_stays hHeld.2.2.2.2.2.2.2.2.2.2.1 bz1w, cell_stays hHeld.2.2.2.2.2.2.2.2.2.2.2.1 bz1w, cell_stays hHeld.2.2.2.2.2.2.2.2.2.2.2.2.1 bz1w, nextB hHeld.2.2.2.2.2.2.2.2.2.2.2.2.2 bz1w⟩
              refine ⟨_, rfl, qz1w, ?_⟩
              replace hHeld := qz1w
              try simp only [Act.put, List.setIfInBounds_toArray, List.set_cons_zero, List.set_cons_succ]
              refine take_op (i := 7) (d := 177) (OP := Op.unOp UnOp.not 4 (Operand.tmp 176)) (T := 4) (v := ?vzz7) rfl rfl rfl rfl (by kernel_rfl) (by kernel_rfl) (by kernel_rfl) (fun _ _ _ h => h) (by rfl) ?hzz7 hHeld ?rzz7
              case hzz7 => (intro w' hSw; (try dsimp only at hSw); go_simp <;> with_reducible rfl)
              try simp only [Act.put, List.setIfInBounds_toArray, List.set_cons_zero, List.set_cons_succ]
              refine take_op (i := 8) (d := 178) (OP := Op.move (Operand.tmp 177)) (T := 4) (v := ?vzz8) rfl rfl rfl rfl (by kernel_rfl) (by kernel_rfl) (by kernel_rfl) (fun _ _ _ h => h) (by rfl) ?hzz8 hHeld ?rzz8
              case hzz8 => (intro w' hSw; (try dsimp only at hSw); go_simp <;> with_reducible rfl)
              try simp only [Act.put, List.setIfInBounds_toArray, List.set_cons_zero, List.set_cons_succ]
              refine take_op (i := 9) (d := 179) (OP := Op.load 46 (Operand.tmp 11)) (T := 46) (v := ?vzz9) rfl rfl rfl rfl (by kernel_rfl) (by kernel_rfl) (by kernel_rfl) (fun _ _ _ h => h) (by rfl) ?hzz9 hHeld ?rzz9
              case hzz9 => (intro w' hSw; (try dsimp only at hSw); go_simp <;> with_reducible rfl)
              try simp only [Act.put, List.setIfInBounds_toArray, List.set_cons_zero, List.set_cons_succ]
              refine take_op (i := 10) (d := 180) (OP := Op.fieldAddr 46 (Operand.tmp 7) 2) (T := 0) (v := ?vzz10) rfl rfl rfl rfl (by kernel_rfl) (by kernel_rfl) (by kernel_rfl) (fun _ _ _ h => h) (by rfl) ?hzz10 hHeld ?rzz10
              case hzz10 => (intro w' hSw; (try dsimp only at hSw); go_simp <;> with_reducible rfl)
              try simp only [Act.put, List.setIfInBounds_toArray, List.set_cons_zero, List.set_cons_succ]
              refine take_op (i := 11) (d := 181) (OP := Op.load 44 (Operand.tmp 180)) (T := 44) (v := ?vzz11) rfl rfl rfl rfl (by kernel_rfl) (by kernel_rfl) (by kernel_rfl) (fun _ _ _ h => h) (by rfl) ?hzz11 hHeld ?rzz11
              case hzz11 => (intro w' hSw; (try dsimp only at hSw); go_simp <;> with_reducible rfl)
              try simp only [Act.put, List.setIfInBounds_toArray, List.set_cons_zero, List.set_cons_succ]
              refine take_op (i := 12) (d := 182) (OP := Op.move (Operand.tmp 21)) (T := 3) (v := ?vzz12) rfl rfl rfl rfl (by kernel_rfl) (by kernel_rfl) (by kernel_rfl) (fun _ _ _ h => h) (by rfl) ?hzz12 hHeld ?rzz12
              case hzz12 => (intro w' hSw; (try dsimp only at hSw); go_simp <;> with_reducible rfl)
              try simp only [Act.put, List.setIfInBounds_toArray, List.set_cons_zero, List.set_cons_succ]
              refine take_op (i := 13) (d := 183) (OP := Op.indexAddr 44 (Operand.tmp 181) (Operand.tmp 182)) (T := 0) (v := ?vzz13) rfl rfl rfl rfl (by kernel_rfl) (by kernel_rfl) (by kernel_rfl) (fun _ _ _ h => h) (by rfl) ?hzz13 hHeld ?rzz13
              case hzz13 => (intro w' hSw; (try dsimp only at hSw); go_simp <;> with_reducible rfl)
              try simp only [Act.put, List.setIfInBounds_toArray, List.set_cons_zero, List.set_cons_succ]
              refine take_op (i := 14) (d := 184) (OP := Op.load 77 (Operand.tmp 183)) (T := 77) (v := ?vzz14) rfl rfl rfl rfl (by kernel_rfl) (by kernel_rfl) (by kernel_rfl) (fun _ _ _ h => h) (by rfl) ?hzz14 hHeld ?rzz14
              case hzz14 => (intro w' hSw; (try dsimp only at hSw); go_simp <;> with_reducible rfl)
              try simp only [Act.put, List.setIfInBounds_toArray, List.set_cons_zero, List.set_cons_succ]
              refine call_op (i := 15) (d := 185) (OP := Op.call { callee := Callee.value (Operand.func 37), args := #[Operand.tmp 179, Operand.tmp 184], argTypes := #[46, 77] }) (T := 4) (f := 37) (args := #[vv FM.1 FM.2.1 a11 FM.2.2.length c11, .agg #[.int .i64 g, .int .i64 r, .string l0, .int .i64 n0, .int .i64 i0, .string t0]]) rfl rfl rfl rfl (by kernel_rfl) (by rfl) (by go_simp) ?_
              refine (kH11 _ hHeld.2.2.2.2.2.2.2.2.2.2.2.2.2).mono ?_
              rintro e z2w ⟨rfl, bz2w⟩
              have qz2w : z2w.cell? ⟨B5, 0, none⟩ = some (.int .i64 FO.1) ∧ z2w.cell? ⟨B5, 1, none⟩ = some (.int .i64 FO.2.1) ∧ z2w.cell? ⟨B5, 2, none⟩ = some (.slice a5 FO.2.2.length c5) ∧ z2w.cell? ⟨B7, 2, none⟩ = some (.slice (some ⟨bk, off, none⟩) FA.2.2.length c7) ∧ z2w.cell? ⟨B11, 0, none⟩ = some (.int .i64 FM.1) ∧ z2w.cell? ⟨B11, 1, none⟩ = some (.int .i64 FM.2.1) ∧ z2w.cell? ⟨B11, 2, none⟩ = some (.slice a11 FM.2.2.length c11) ∧ z2w.cell? ⟨bk, off + q * 6, none⟩ = some (.int .i64 g) ∧ z2w.cell? ⟨bk, off + q * 6 + 1, none⟩ = some (.int .i64 r) ∧ z2w.cell? ⟨bk, off + q * 6 + 2, none⟩ = some (.string l0) ∧ z2w.cell? ⟨bk, off + q * 6 + 3, none⟩ = some (.int .i64 n0) ∧ z2w.cell? ⟨bk, off + q * 6 + 4, none⟩ = some (.int .i64 i0) ∧ z2w.cell? ⟨bk, off + q * 6 + 5, none⟩ = some (.string t0) ∧ Below w18.heap.size w18 z2w := ⟨cell_stays hHeld.1 bz2w, cell_stays hHeld.2.1 bz2w, cell_stays hHeld.2.2.1 bz2w, cell_stays hHeld.2.2.2.1 bz2w, cell_stays hHeld.2.2.2.2.1 bz2w, cell_stays hHeld.2.2.2.2.2.1 bz2w, cell_stays hHeld.2.2.2.2.2.2.1 bz2w, cell_stays hHeld.2.2.2.2.2.2.2.1 bz2w, cell_stays hHeld.2.2.2.2.2.2.2.2.1 bz2w, cell_stays hHeld.2.2.2.2.2.2.2.2.2.1 bz2w, cell_stays hHeld.2.2.2.2.2.2.2.2.2.2.1 bz2w, cell_stays hHeld.2.2.2.2.2.2.2.2.2.2.2.1 bz2w, cell_stays hHeld.2.2.2.2.2.2.2.2.2.2.2.2.1 bz2w, nextB hHeld.2.2.2.2.2.2.2.2.2.2.2.2.2 bz2w⟩
              refine ⟨_, rfl, qz2w, ?_⟩
              replace hHeld := qz2w
              try simp only [Act.put, List.setIfInBounds_toArray, List.set_cons_zero, List.set_cons_succ]
              refine take_op (i := 16) (d := 186) (OP := Op.unOp UnOp.not 4 (Operand.tmp 185)) (T := 4) (v := ?vzz15) rfl rfl rfl rfl (by kernel_rfl) (by kernel_rfl) (by kernel_rfl) (fun _ _ _ h => h) (by rfl) ?hzz15 hHeld ?rzz15
              case hzz15 => (intro w' hSw; (try dsimp only at hSw); go_simp <;> with_reducible rfl)
              try simp only [Act.put, List.setIfInBounds_toArray, List.set_cons_zero, List.set_cons_succ]
              refine take_op (i := 17) (d := 187) (OP := Op.pick (Operand.tmp 178) (Operand.tmp 186) (Operand.const (Value.bool false))) (T := 4) (v := ?vzz16) rfl rfl rfl rfl (by kernel_rfl) (by kernel_rfl) (by kernel_rfl) (fun _ _ _ h => h) (by rfl) ?hzz16 hHeld ?rzz16
              case hzz16 => (intro w' hSw; (try dsimp only at hSw); go_simp <;> with_reducible rfl)
              try simp only [Act.put, List.setIfInBounds_toArray, List.set_cons_zero, List.set_cons_succ]
              refine wpAnyH_done (by kernel_rfl) ?_ _
              have HE := hide hHeld.2.2.2.2.2.2.2.2.2.2.2.2.2
              clear hHeld qd hS
              go_wp2
              go_roundw
              case rel => exact ⟨q + 1, by omega, by go_num, HE⟩
              case measure => simp [intOf]; omega
            · go_upto_region 24 with fail
              clear e0 e1 e2 e3 e4 e5 p0 p1 p2 q0 q1 q2 r0 r1 r2 m0 m1 m2 s0 s1 s2 v0 v1 v2 y0 y1 y2
              have qd : wv.drew.cell? ⟨B5, 0, none⟩ = some (.int .i64 FO.1) ∧ wv.drew.cell? ⟨B5, 1, none⟩ = some (.int .i64 FO.2.1) ∧ wv.drew.cell? ⟨B5, 2, none⟩ = some (.slice a5 FO.2.2.length c5) ∧ wv.drew.cell? ⟨B7, 2, none⟩ = some (.slice (some ⟨bk, off, none⟩) FA.2.2.length c7) ∧ wv.drew.cell? ⟨B11, 0, none⟩ = some (.int .i64 FM.1) ∧ wv.drew.cell? ⟨B11, 1, none⟩ = some (.int .i64 FM.2.1) ∧ wv.drew.cell? ⟨B11, 2, none⟩ = some (.slice a11 FM.2.2.length c11) ∧ wv.drew.cell? ⟨bk, off + q * 6, none⟩ = some (.int .i64 g) ∧ wv.drew.cell? ⟨bk, off + q * 6 + 1, none⟩ = some (.int .i64 r) ∧ wv.drew.cell? ⟨bk, off + q * 6 + 2, none⟩ = some (.string l0) ∧ wv.drew.cell? ⟨bk, off + q * 6 + 3, none⟩ = some (.int .i64 n0) ∧ wv.drew.cell? ⟨bk, off + q * 6 + 4, none⟩ = some (.int .i64 i0) ∧ wv.drew.cell? ⟨bk, off + q * 6 + 5, none⟩ = some (.string t0) ∧ Below w18.heap.size w18 wv.drew := ⟨cell_stays hS.1 (drew_below wv), cell_stays hS.2.1 (drew_below wv), cell_stays hS.2.2.1 (drew_below wv), cell_stays hS.2.2.2.1 (drew_below wv), cell_stays hS.2.2.2.2.1 (drew_below wv), cell_stays hS.2.2.2.2.2.1 (drew_below wv), cell_stays hS.2.2.2.2.2.2.1 (drew_below wv), cell_stays hS.2.2.2.2.2.2.2.1 (drew_below wv), cell_stays hS.2.2.2.2.2.2.2.2.1 (drew_below wv), cell_stays hS.2.2.2.2.2.2.2.2.2.1 (drew_below wv), cell_stays hS.2.2.2.2.2.2.2.2.2.2.1 (drew_below wv), cell_stays hS.2.2.2.2.2.2.2.2.2.2.2.1 (drew_below wv), cell_stays hS.2.2.2.2.2.2.2.2.2.2.2.2.1 (drew_below wv), nextB hS.2.2.2.2.2.2.2.2.2.2.2.2.2 (drew_below wv)⟩
              refine wp_region_held_drew (S := (fun w' => w'.cell? ⟨B5, 0, none⟩ = some (.int .i64 FO.1) ∧ w'.cell? ⟨B5, 1, none⟩ = some (.int .i64 FO.2.1) ∧ w'.cell? ⟨B5, 2, none⟩ = some (.slice a5 FO.2.2.length c5) ∧ w'.cell? ⟨B7, 2, none⟩ = some (.slice (some ⟨bk, off, none⟩) FA.2.2.length c7) ∧ w'.cell? ⟨B11, 0, none⟩ = some (.int .i64 FM.1) ∧ w'.cell? ⟨B11, 1, none⟩ = some (.int .i64 FM.2.1) ∧ w'.cell? ⟨B11, 2, none⟩ = some (.slice a11 FM.2.2.length c11) ∧ w'.cell? ⟨bk, off + q * 6, none⟩ = some (.int .i64 g) ∧ w'.cell? ⟨bk, off + q * 6 + 1, none⟩ = some (.int .i64 r) ∧ w'.cell? ⟨bk, off + q * 6 + 2, none⟩ = some (.string l0) ∧ w'.cell? ⟨bk, off + q * 6 + 3, none⟩ = some (.int .i64 n0) ∧ w'.cell? ⟨bk, off + q * 6 + 4, none⟩ = some (.int .i64 i0) ∧ w'.cell? ⟨bk, off + q * 6 + 5, none⟩ = some (.string t0) ∧ Below w18.heap.size w18 w')) (by kernel_rfl) qd (fun hHeld => ?_)
              try dsimp only at hHeld
              refine take_op (i := 0) (d := 170) (OP := Op.load 46 (Operand.tmp 5)) (T := 46) (v := ?vzz17) rfl rfl rfl rfl (by kernel_rfl) (by kernel_rfl) (by kernel_rfl) (fun _ _ _ h => h) (by rfl) ?hzz17 hHeld ?rzz17
              case hzz17 => (intro w' hSw; (try dsimp only at hSw); go_simp <;> with_reducible rfl)
              try simp only [Act.put, List.setIfInBounds_toArray, List.set_cons_zero, List.set_cons_succ]
              refine take_op (i := 1) (d := 171) (OP := Op.fieldAddr 46 (Operand.tmp 7) 2) (T := 0) (v := ?vzz18) rfl rfl rfl rfl (by kernel_rfl) (by kernel_rfl) (by kernel_rfl) (fun _ _ _ h => h) (by rfl) ?hzz18 hHeld ?rzz18
              case hzz18 => (intro w' hSw; (try dsimp only at hSw); go_simp <;> with_reducible rfl)
              try simp only [Act.put, List.setIfInBounds_toArray, List.set_cons_zero, List.set_cons_succ]
              refine take_op (i := 2) (d := 172) (OP := Op.load 44 (Operand.tmp 171)) (T := 44) (v := ?vzz19) rfl rfl rfl rfl (by kernel_rfl) (by kernel_rfl) (by kernel_rfl) (fun _ _ _ h => h) (by rfl) ?hzz19 hHeld ?rzz19
              case hzz19 => (intro w' hSw; (try dsimp only at hSw); go_simp <;> with_reducible rfl)
              try simp only [Act.put, List.setIfInBounds_toArray, List.set_cons_zero, List.set_cons_succ]
              refine take_op (i := 3) (d := 173) (OP := Op.move (Operand.tmp 21)) (T := 3) (v := ?vzz20) rfl rfl rfl rfl (by kernel_rfl) (by kernel_rfl) (by kernel_rfl) (fun _ _ _ h => h) (by rfl) ?hzz20 hHeld ?rzz20
              case hzz20 => (intro w' hSw; (try dsimp only at hSw); go_simp <;> with_reducible rfl)
              try simp only [Act.put, List.setIfInBounds_toArray, List.set_cons_zero, List.set_cons_succ]
              refine take_op (i := 4) (d := 174) (OP := Op.indexAddr 44 (Operand.tmp 172) (Operand.tmp 173)) (T := 0) (v := ?vzz21) rfl rfl rfl rfl (by kernel_rfl) (by kernel_rfl) (by kernel_rfl) (fun _ _ _ h => h) (by rfl) ?hzz21 hHeld ?rzz21
              case hzz21 => (intro w' hSw; (try dsimp only at hSw); go_simp <;> with_reducible rfl)
              try simp only [Act.put, List.setIfInBounds_toArray, List.set_cons_zero, List.set_cons_succ]
              refine take_op (i := 5) (d := 175) (OP := Op.load 77 (Operand.tmp 174)) (T := 77) (v := ?vzz22) rfl rfl rfl rfl (by kernel_rfl) (by kernel_rfl) (by kernel_rfl) (fun _ _ _ h => h) (by rfl) ?hzz22 hHeld ?rzz22
              case hzz22 => (intro w' hSw; (try dsimp only at hSw); go_simp <;> with_reducible rfl)
              try simp only [Act.put, List.setIfInBounds_toArray, List.set_cons_zero, List.set_cons_succ]
              refine call_op (i := 6) (d := 176) (OP := Op.call { callee := Callee.value (Operand.func 37), args := #[Operand.tmp 170, Operand.tmp 175], argTypes := #[46, 77] }) (T := 4) (f := 37) (args := #[vv FO.1 FO.2.1 a5 FO.2.2.length c5, .agg #[.int .i64 g, .int .i64 r, .string l0, .int .i64 n0, .int .i64 i0, .string t0]]) rfl rfl rfl rfl (by kernel_rfl) (by rfl) (by go_simp) ?_
              refine (kH5 _ hHeld.2.2.2.2.2.2.2.2.2.2.2.2.2).mono ?_
              rintro e z1w ⟨rfl, bz1w⟩
              have qz1w : z1w.cell? ⟨B5, 0, none⟩ = some (.int .i64 FO.1) ∧ z1w.cell? ⟨B5, 1, none⟩ = some (.int .i64 FO.2.1) ∧ z1w.cell? ⟨B5, 2, none⟩ = some (.slice a5 FO.2.2.length c5) ∧ z1w.cell? ⟨B7, 2, none⟩ = some (.slice (some ⟨bk, off, none⟩) FA.2.2.length c7) ∧ z1w.cell? ⟨B11, 0, none⟩ = some (.int .i64 FM.1) ∧ z1w.cell? ⟨B11, 1, none⟩ = some (.int .i64 FM.2.1) ∧ z1w.cell? ⟨B11, 2, none⟩ = some (.slice a11 FM.2.2.length c11) ∧ z1w.cell? ⟨bk, off + q * 6, none⟩ = some (.int .i64 g) ∧ z1w.cell? ⟨bk, off + q * 6 + 1, none⟩ = some (.int .i64 r) ∧ z1w.cell? ⟨bk, off + q * 6 + 2, none⟩ = some (.string l0) ∧ z1w.cell? ⟨bk, off + q * 6 + 3, none⟩ = some (.int .i64 n0) ∧ z1w.cell? ⟨bk, off + q * 6 + 4, none⟩ = some (.int .i64 i0) ∧ z1w.cell? ⟨bk, off + q * 6 + 5, none⟩ = some (.string t0) ∧ Below w18.heap.size w18 z1w := ⟨cell_stays hHeld.1 bz1w, cell_stays hHeld.2.1 bz1w, cell_stays hHeld.2.2.1 bz1w, cell_stays hHeld.2.2.2.1 bz1w, cell_stays hHeld.2.2.2.2.1 bz1w, cell_stays hHeld.2.2.2.2.2.1 bz1w, cell_stays hHeld.2.2.2.2.2.2.1 bz1w, cell_stays hHeld.2.2.2.2.2.2.2.1 bz1w, cell_stays hHeld.2.2.2.2.2.2.2.2.1 bz1w, cell_stays hHeld.2.2.2.2.2.2.2.2.2.1 bz1w, cell_stays hHeld.2.2.2.2.2.2.2.2.2.2.1 bz1w, cell_stays hHeld.2.2.2.2.2.2.2.2.2.2.2.1 bz1w, cell_stays hHeld.2.2.2.2.2.2.2.2.2.2.2.2.1 bz1w, nextB hHeld.2.2.2.2.2.2.2.2.2.2.2.2.2 bz1w⟩
              refine ⟨_, rfl, qz1w, ?_⟩
              replace hHeld := qz1w
              try simp only [Act.put, List.setIfInBounds_toArray, List.set_cons_zero, List.set_cons_succ]
              refine take_op (i := 7) (d := 177) (OP := Op.unOp UnOp.not 4 (Operand.tmp 176)) (T := 4) (v := ?vzz23) rfl rfl rfl rfl (by kernel_rfl) (by kernel_rfl) (by kernel_rfl) (fun _ _ _ h => h) (by rfl) ?hzz23 hHeld ?rzz23
              case hzz23 => (intro w' hSw; (try dsimp only at hSw); go_simp <;> with_reducible rfl)
              try simp only [Act.put, List.setIfInBounds_toArray, List.set_cons_zero, List.set_cons_succ]
              refine take_op (i := 8) (d := 178) (OP := Op.move (Operand.tmp 177)) (T := 4) (v := ?vzz24) rfl rfl rfl rfl (by kernel_rfl) (by kernel_rfl) (by kernel_rfl) (fun _ _ _ h => h) (by rfl) ?hzz24 hHeld ?rzz24
              case hzz24 => (intro w' hSw; (try dsimp only at hSw); go_simp <;> with_reducible rfl)
              try simp only [Act.put, List.setIfInBounds_toArray, List.set_cons_zero, List.set_cons_succ]
              refine pass_op (i := 9) (d := 179) rfl rfl (by kernel_rfl) (by kernel_rfl) (by kernel_rfl) (fun _ _ _ h => h) (by rfl) hHeld ?_
              try simp only [Act.put, List.setIfInBounds_toArray, List.set_cons_zero, List.set_cons_succ]
              refine pass_op (i := 10) (d := 180) rfl rfl (by kernel_rfl) (by kernel_rfl) (by kernel_rfl) (fun _ _ _ h => h) (by rfl) hHeld ?_
              try simp only [Act.put, List.setIfInBounds_toArray, List.set_cons_zero, List.set_cons_succ]
              refine pass_op (i := 11) (d := 181) rfl rfl (by kernel_rfl) (by kernel_rfl) (by kernel_rfl) (fun _ _ _ h => h) (by rfl) hHeld ?_
              try simp only [Act.put, List.setIfInBounds_toArray, List.set_cons_zero, List.set_cons_succ]
              refine pass_op (i := 12) (d := 182) rfl rfl (by kernel_rfl) (by kernel_rfl) (by kernel_rfl) (fun _ _ _ h => h) (by rfl) hHeld ?_
              try simp only [Act.put, List.setIfInBounds_toArray, List.set_cons_zero, List.set_cons_succ]
              refine pass_op (i := 13) (d := 183) rfl rfl (by kernel_rfl) (by kernel_rfl) (by kernel_rfl) (fun _ _ _ h => h) (by rfl) hHeld ?_
              try simp only [Act.put, List.setIfInBounds_toArray, List.set_cons_zero, List.set_cons_succ]
              refine pass_op (i := 14) (d := 184) rfl rfl (by kernel_rfl) (by kernel_rfl) (by kernel_rfl) (fun _ _ _ h => h) (by rfl) hHeld ?_
              try simp only [Act.put, List.setIfInBounds_toArray, List.set_cons_zero, List.set_cons_succ]
              refine pass_op (i := 15) (d := 185) rfl rfl (by kernel_rfl) (by kernel_rfl) (by kernel_rfl) (fun _ _ _ h => h) (by rfl) hHeld ?_
              try simp only [Act.put, List.setIfInBounds_toArray, List.set_cons_zero, List.set_cons_succ]
              refine pass_op (i := 16) (d := 186) rfl rfl (by kernel_rfl) (by kernel_rfl) (by kernel_rfl) (fun _ _ _ h => h) (by rfl) hHeld ?_
              try simp only [Act.put, List.setIfInBounds_toArray, List.set_cons_zero, List.set_cons_succ]
              refine take_op (i := 17) (d := 187) (OP := Op.pick (Operand.tmp 178) (Operand.tmp 186) (Operand.const (Value.bool false))) (T := 4) (v := ?vzz25) rfl rfl rfl rfl (by kernel_rfl) (by kernel_rfl) (by kernel_rfl) (fun _ _ _ h => h) (by rfl) ?hzz25 hHeld ?rzz25
              case hzz25 => (intro w' hSw; (try dsimp only at hSw); go_simp <;> with_reducible rfl)
              try simp only [Act.put, List.setIfInBounds_toArray, List.set_cons_zero, List.set_cons_succ]
              refine wpAnyH_done (by kernel_rfl) ?_ _
              have HE := hide hHeld.2.2.2.2.2.2.2.2.2.2.2.2.2
              clear hHeld qd hS
              go_wp2
              go_roundw
              case rel => exact ⟨q + 1, by omega, by go_num, HE⟩
              case measure => simp [intOf]; omega
          · have d2 : decide (q < FA.2.2.length) = false := by simpa using hlq
            have hn : wrap64 (FM.2.1 - FO.2.1) = wrap64 (wrap64 (wrap64 (FA.2.1 - FO.2.1) + FB.2.1) - FO.2.1) := by rw [HFM.out]; exact num_last FA.2.1 FB.2.1 FO.2.1
            have hb2 := Hw18.out.2.1
            have HZ := hide (And.intro (nextB hb2 hQ.out) hn)
            clear hb2 hn
            go_wp2
            go_ret
            refine ⟨?_, HZ.out.1⟩
            have hn := HZ.out.2

            first
              | rfl
              | (show Ending.returned (Value.bool (_ == _)) = _; rw [beq_iff_eq.2 hn])
              | (simp [hn])
end Go.Proofs.YtkdgageljgfgoaaGreatDoor
