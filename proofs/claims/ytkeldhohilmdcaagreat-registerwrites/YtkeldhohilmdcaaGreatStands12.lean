/-
  register: a register tells just these elements (stands 41).
-/
import Derived.Test.YtkeldhohilmdcaaGreatGoes1
import Derived.Test.YtkeldhohilmdcaaGreatRegF
import Derived.Test.YtkeldhohilmdcaaGreatReg9
import Derived.Test.YtkeldhohilmdcaaGreatRegM
namespace Go.Proofs.YtkeldhohilmdcaaGreat
open Go.RowKit Go.Shelf
set_option linter.unusedSimpArgs false
attribute [local go_sem] Oper.semAt_some

theorem elementsP {w : World} {t : Pm.T} {pm : Option Addr} (h : Mg w t) (hp : t.ptr = .pointer pm) : Calls Tryz.prog 47 #[.agg #[.pointer pm]] w fun e w' => ∃ ao c, e = .returned (.tuple #[.slice ao (elsL t.list).length c, .int .i64 (if mayL t.list then 0 else 2)]) ∧ Oe w' w.heap.size (.slice ao (elsL t.list).length c) (elsL t.list) ∧ Below w.heap.size w w' := by
  have := rElements_any t w h.inn h.srt h.key (by have := h.few; omega)
  unfold Pm.mv at this
  rw [hp] at this
  exact this
theorem allP {t : Pm.T} {pm : Option Addr} (w : World) (hp : t.ptr = .pointer pm) : Calls Tryz.prog 53 #[.agg #[.pointer pm]] w fun e w' => e = .returned (.func (.func 118) #[] #[.pointer (some ⟨w.heap.size, 0, none⟩)]) ∧ w' = w.alloc (.cells #[.pointer pm] 27) := by
  have := rAll_any t w
  unfold Pm.mv at this
  rw [hp] at this
  exact this
theorem oneL_els {l : List Kv} (hm : mayL l = true) : (l.length = 1 → ∃ x, elsL l = [x] ∧ oneL l = (x.2, true)) ∧ (l.length ≠ 1 → oneL l = (⟨#[]⟩, false)) := by
  constructor
  · intro h1
    obtain ⟨x, hx⟩ := List.length_eq_one_iff.1 h1
    subst hx
    have hk : okKv x = true := by simpa [mayL] using hm
    refine ⟨(ofT x.1, x.2), by rw [elsL, if_pos hm]; rfl, ?_⟩
    simp [oneL, hk]
  · intro h1
    match l, h1 with
    | [], _ => rfl
    | [x], h => exact absurd rfl h
    | x :: y :: r, _ => rfl
set_option maxHeartbeats 8000000 in
set_option maxRecDepth 100000 in
theorem stands41 {w : World} {t : Pm.T} {pm : Option Addr} {ao : Option Addr} {c : Nat} {l : List El} (h : Mg w t) (hp : t.ptr = .pointer pm) (hm : mayL t.list = true) (hl : l = elsL t.list) (hre : Re w ao l) : Calls Tryz.prog 41 #[.agg #[.pointer pm], .slice ao l.length c] w fun e w' => e = .returned (.bool true) ∧ Below w.heap.size w w' := by
  have hlen : l.length = t.list.length := by rw [hl, elsL, if_pos hm]; simp [elsM]
  have hl4 : l.length ≤ 400 := by rw [hlen, Pm.T.n_eq]; exact h.few
  have hone := oneL_els hm
  rw [← hl, ← hlen] at hone
  obtain ⟨w0, hw0⟩ : ∃ q, q = w.alloc (.cells #[.pointer pm] 27) := ⟨_, rfl⟩
  have m := heap_alloc_new w (.cells #[.pointer pm] 27)
  have b0 : Below w.heap.size w (w.alloc (.cells #[.pointer pm] 27)) := (Below.refl _ w).alloc (Nat.le_refl _) _
  rw [← hw0] at m b0
  obtain ⟨N, hN⟩ : ∃ N, N = l.length := ⟨_, rfl⟩
  obtain ⟨TL, hTL⟩ : ∃ q, q = l.map Prod.snd := ⟨_, rfl⟩
  have hTN : TL.length = N := by rw [hTL, List.length_map, hN]
  have kE : ∀ W, Below w0.heap.size w0 W → Calls Tryz.prog 47 #[.agg #[.pointer pm]] W fun e w' => ∃ ao c, e = .returned (.tuple #[.slice ao N c, .int .i64 0]) ∧ Re w' ao l ∧ Below W.heap.size W w' := fun W hW => (elementsP (h.below (b0.trans (hW.mono b0.size))) hp).mono (fun e w' ⟨ao, c, he, ho, hb⟩ => by rw [← hl, hm, ← hN] at he; rw [← hl] at ho; exact ⟨ao, c, he, ho.re, hb⟩)
  have kT : ∀ W, Below w0.heap.size w0 W → Calls Tryz.prog 48 #[.agg #[.pointer pm]] W fun e w' => ∃ ao c, e = .returned (.tuple #[.slice ao N c, .int .i64 0]) ∧ Rs w' ao TL ∧ Below W.heap.size W w' := fun W hW => (textsP (h.below (b0.trans (hW.mono b0.size))) hp).mono (fun e w' ⟨ao, c, he, ho, hb⟩ => by rw [← hl, hm, ← hTL, hTN] at he; rw [← hl, ← hTL] at ho; exact ⟨ao, c, he, ho.rs, hb⟩)
  have kO : ∀ W, Below w0.heap.size w0 W → Calls Tryz.prog 51 #[.agg #[.pointer pm]] W fun e w' => e = .returned (.tuple #[.string (oneL t.list).1, .bool (oneL t.list).2]) ∧ Below W.heap.size W w' := fun W hW => oneP (h.below (b0.trans (hW.mono b0.size))) hp
  have kS : ∀ W a1 c1, Below w0.heap.size w0 W → Re W a1 l → Calls Tryz.prog 35 #[.slice a1 N c1, .slice ao N c] W fun e w' => e = .returned (.bool true) ∧ Below W.heap.size W w' := fun W a1 c1 hW hr => by
    have := sameEls_any (c := c1) (d := c) hr ((hre.below b0).below hW) (by omega) (by omega)
    rw [← hN] at this
    exact this.mono (fun e w' ⟨he, n, hn⟩ => ⟨by rw [he]; simp, by rw [hn]; exact below_drew _ _⟩)
  have kX : ∀ W, Below w0.heap.size w0 W → Calls Tryz.prog 109 #[.slice ao N c] W fun e w' => ∃ ao c, e = .returned (.slice ao N c) ∧ Rs w' ao TL ∧ Below W.heap.size W w' := fun W hW => by
    have := texts82 (c := c) l ((hre.below b0).below hW) (by omega)
    rw [← hN] at this
    refine this.mono (fun e w' ⟨v, he, ho, hb⟩ => ?_)
    rw [← hTL] at ho
    obtain ⟨a', c', hv, -⟩ := row_form ho
    rw [hTN] at hv
    subst hv
    exact ⟨a', c', he, ho.rs, hb⟩
  have kU : ∀ W a1 c1 a2 c2, Rs W a1 TL → Rs W a2 TL → Calls Tryz.prog 80 #[.slice a1 N c1, .slice a2 N c2] W fun e w' => e = .returned (.bool true) ∧ Below W.heap.size W w' := fun W a1 c1 a2 c2 h1 h2 => by
    have := sameTexts_any (c := c1) (d := c2) h1 h2 (by omega) (by omega)
    rw [hTN] at this
    exact this.mono (fun e w' ⟨he, n, hn⟩ => ⟨by rw [he]; simp, by rw [hn]; exact below_drew _ _⟩)
  have kM : ∀ W, Below w0.heap.size w0 W → Calls Tryz.prog 46 #[.agg #[.pointer pm]] W fun e w' => e = .returned (.bool true) ∧ Below W.heap.size W w' := fun W hW => by
    have := mayP h hp W (b0.trans (hW.mono b0.size))
    rw [hm] at this
    exact this
  have kA : ∀ W, Below w0.heap.size w0 W → Calls Tryz.prog 53 #[.agg #[.pointer pm]] W fun e w' => ∃ L, e = .returned (.func (.func 118) #[] #[.pointer (some ⟨L, 0, none⟩)]) ∧ w'.cell? ⟨L, 0, none⟩ = some (.pointer pm) ∧ Below W.heap.size W w' := fun W hW => (allP W hp).mono (fun e w' ⟨he, hw⟩ => ⟨_, he, by rw [hw]; exact (cell_of_row _ _ 0 _ 27 (0, 0) (heap_alloc_new W _)).trans rfl, by rw [hw]; exact (Below.refl _ W).alloc (Nat.le_refl _) _⟩)
  have kG : ∀ W L lv, Below w0.heap.size w0 W → W.cell? ⟨L, 0, none⟩ = some (.pointer pm) → Calls Tryz.prog 52 #[.func (.func 118) #[] #[.pointer (some ⟨L, 0, none⟩)], .slice ao N c, .int .i64 lv] W fun e w' => e = .returned (.bool true) ∧ Below W.heap.size W w' := fun W L lv hW hL => by
    have := goes_all (c := c) (lv := lv) (h.below (b0.trans (hW.mono b0.size))) hl (by omega) (by rw [hp]; exact hL) (World.block_lt_of_cell? _ _ hL) ((hre.below b0).below hW)
    rw [← hN] at this
    exact this
  have HK := hide (And.intro kE (And.intro kT (And.intro kO (And.intro kS (And.intro kX (And.intro kU (And.intro kM (And.intro kA kG))))))))
  have HC : Hid (∀ W, Below w0.heap.size w0 W → W.cell? ⟨w.heap.size, 0, none⟩ = some (.pointer pm) ∧ Below w.heap.size w W) := hide (fun W hW => ⟨cell_stays ((cell_of_row _ _ 0 _ 27 (0, 0) m).trans rfl) hW, b0.trans (hW.mono b0.size)⟩)
  have HW0 := hide hw0
  have HR := hide (And.intro (hre.below b0) hone)
  have HN := hide hN
  have HM := hide hm
  obtain ⟨c0, -⟩ := HC.out w0 (Below.refl _ _)
  rw [← hN]
  by_cases h1 : N = 1
  · obtain ⟨x, hx, ho⟩ := hone.1 (by rw [← hN]; exact h1)
    have hx0 : l[0]? = some x := by rw [hx]; rfl
    have k0 : ∀ W, Below w0.heap.size w0 W → ∃ b off, ao = some ⟨b, off, none⟩ ∧ W.cell? ⟨b, off + 5, none⟩ = some (.string x.2) := fun W hW => by
      obtain ⟨b, off, e, -, -, -, -, -, c5⟩ := ((hre.below b0).below hW).cells hx0
      exact ⟨b, off, e, by simpa using c5⟩
    obtain ⟨b, off, hao, -⟩ := k0 w0 (Below.refl _ _)
    have K0 : Hid (∀ W, Below w0.heap.size w0 W → W.cell? ⟨b, off + 5, none⟩ = some (.string x.2)) := hide (fun W hW => by
      obtain ⟨b', off', e, c5⟩ := k0 W hW
      rw [hao] at e
      injection e with e
      injection e with e1 e2
      subst e1 e2
      exact c5)
    have HAO := hide hao
    rw [ho] at HK
    subst hao
    obtain ⟨X, hX⟩ : ∃ q, q = x.2 := ⟨_, rfl⟩
    rw [← hX] at K0 HK
    clear kE kT kO kS kX kU kM kA kG hw0 m b0 hN hTL hTN h hp hm hl hre hlen hl4 hone hx ho hx0 k0 hX HN
    subst h1
    go_enter Tryz.func41, Tryz.ntmps41
    go_upto_region 1 with fail
    rw [← HW0.out]
    have tk1 : True := trivial
    have tk2 : True := trivial
    have tk3 : True := trivial
    go_wp2_with (first
      | (go_at_call 47; refine (HK.out.1 _ (Below.refl _ _)).mono ?_; rintro e w1 ⟨aE, cE, rfl, rE, b1⟩; have x1 := (HC.out w1 b1).1; have H1 := hide (And.intro rE b1); clear rE b1; dsimp only)
      | (go_at_call 48; refine (HK.out.2.1 _ H1.out.2).mono ?_; rintro e w2 ⟨aT, cT, rfl, rT, b2⟩; have bb := H1.out.2.trans (b2.mono H1.out.2.size); have x2 := (HC.out w2 bb).1; have H2 := hide (And.intro (H1.out.1.below b2) (And.intro rT bb)); clear rT b2 bb H1; dsimp only)
      | (go_at_call 51; refine (HK.out.2.2.1 _ H2.out.2.2).mono ?_; rintro e w3 ⟨rfl, b3⟩; have bb := H2.out.2.2.trans (b3.mono H2.out.2.2.size); have x3 := (HC.out w3 bb).1; have y3 := K0.out w3 bb; have H3 := hide (And.intro (H2.out.1.below b3) (And.intro (H2.out.2.1.below b3) bb)); clear b3 bb H2; dsimp only)
      | (go_at_call 35; refine (HK.out.2.2.2.1 _ _ _ H3.out.2.2 H3.out.1).mono ?_; rintro e w4 ⟨rfl, b4⟩; have bb := H3.out.2.2.trans (b4.mono H3.out.2.2.size); have H4 := hide (And.intro (H3.out.2.1.below b4) bb); clear b4 bb H3; dsimp only)
      | (go_at_call 109; refine (HK.out.2.2.2.2.1 _ H4.out.2).mono ?_; rintro e w5 ⟨aX, cX, rfl, rX, b5⟩; have bb := H4.out.2.trans (b5.mono H4.out.2.size); have H5 := hide (And.intro (H4.out.1.below b5) (And.intro rX bb)); clear rX b5 bb H4; dsimp only)
      | (go_at_call 80; refine (HK.out.2.2.2.2.2.1 _ _ _ _ _ H5.out.1 H5.out.2.1).mono ?_; rintro e w6 ⟨rfl, b6⟩; have bb := H5.out.2.2.trans (b6.mono H5.out.2.2.size); have x6 := (HC.out w6 bb).1; have H6 := hide bb; clear b6 bb H5; dsimp only)
      | (go_at_call 39; refine (num35 _ _).mono ?_; rintro e wn ⟨rfl, rfl⟩; dsimp only)
      | (go_at_call 46; refine (HK.out.2.2.2.2.2.2.1 _ H6.out).mono ?_; rintro e w7 ⟨rfl, b7⟩; have bb := H6.out.trans (b7.mono H6.out.size); have x7 := (HC.out w7 bb).1; have H7 := hide bb; clear b7 bb H6; dsimp only)
      | (go_at_call 53; clear tk1; refine (HK.out.2.2.2.2.2.2.2.1 _ H7.out).mono ?_; rintro e w8 ⟨L8, rfl, c8, b8⟩; have bb := H7.out.trans (b8.mono H7.out.size); have H8 := hide (And.intro c8 bb); clear c8 b8 bb H7; dsimp only)
      | (go_at_call 52; clear tk2; refine (HK.out.2.2.2.2.2.2.2.2 _ _ _ H8.out.2 H8.out.1).mono ?_; rintro e w9 ⟨rfl, b9⟩; have bb := H8.out.2.trans (b9.mono H8.out.2.size); have x9 := (HC.out w9 bb).1; have H9 := hide bb; clear b9 bb H8; dsimp only)
      | (go_at_call 53; refine (HK.out.2.2.2.2.2.2.2.1 _ H9.out).mono ?_; rintro e w10 ⟨L10, rfl, c10, b10⟩; have bb := H9.out.trans (b10.mono H9.out.size); have H10 := hide (And.intro c10 bb); clear c10 b10 bb H9; dsimp only)
      | (go_at_call 52; refine (HK.out.2.2.2.2.2.2.2.2 _ _ _ H10.out.2 H10.out.1).mono ?_; rintro e w11 ⟨rfl, b11⟩; have bb := H10.out.2.trans (b11.mono H10.out.2.size); have H11 := hide bb; clear b11 bb H10; dsimp only))
    go_ret
    exact ⟨rfl, (HC.out _ H11.out).2⟩
  · have ho := hone.2 (by rw [← hN]; exact h1)
    rw [ho] at HK
    have d1 : ¬ (N : Int) = 1 := by omega
    have d2 : decide (N = 1) = false := by simpa using h1
    clear kE kT kO kS kX kU kM kA kG hw0 m b0 hN hTL hTN h hp hm hl hre hlen hl4 hone ho
    go_enter Tryz.func41, Tryz.ntmps41
    go_upto_region 1 with fail
    rw [← HW0.out]
    have tk1 : True := trivial
    have tk2 : True := trivial
    go_wp2_with (first
      | (go_at_call 47; refine (HK.out.1 _ (Below.refl _ _)).mono ?_; rintro e w1 ⟨aE, cE, rfl, rE, b1⟩; have x1 := (HC.out w1 b1).1; have H1 := hide (And.intro rE b1); clear rE b1; dsimp only)
      | (go_at_call 48; refine (HK.out.2.1 _ H1.out.2).mono ?_; rintro e w2 ⟨aT, cT, rfl, rT, b2⟩; have bb := H1.out.2.trans (b2.mono H1.out.2.size); have x2 := (HC.out w2 bb).1; have H2 := hide (And.intro (H1.out.1.below b2) (And.intro rT bb)); clear rT b2 bb H1; dsimp only)
      | (go_at_call 51; refine (HK.out.2.2.1 _ H2.out.2.2).mono ?_; rintro e w3 ⟨rfl, b3⟩; have bb := H2.out.2.2.trans (b3.mono H2.out.2.2.size); have x3 := (HC.out w3 bb).1; have H3 := hide (And.intro (H2.out.1.below b3) (And.intro (H2.out.2.1.below b3) bb)); clear b3 bb H2; dsimp only)
      | (go_at_call 35; refine (HK.out.2.2.2.1 _ _ _ H3.out.2.2 H3.out.1).mono ?_; rintro e w4 ⟨rfl, b4⟩; have bb := H3.out.2.2.trans (b4.mono H3.out.2.2.size); have H4 := hide (And.intro (H3.out.2.1.below b4) bb); clear b4 bb H3; dsimp only)
      | (go_at_call 109; refine (HK.out.2.2.2.2.1 _ H4.out.2).mono ?_; rintro e w5 ⟨aX, cX, rfl, rX, b5⟩; have bb := H4.out.2.trans (b5.mono H4.out.2.size); have H5 := hide (And.intro (H4.out.1.below b5) (And.intro rX bb)); clear rX b5 bb H4; dsimp only)
      | (go_at_call 80; refine (HK.out.2.2.2.2.2.1 _ _ _ _ _ H5.out.1 H5.out.2.1).mono ?_; rintro e w6 ⟨rfl, b6⟩; have bb := H5.out.2.2.trans (b6.mono H5.out.2.2.size); have x6 := (HC.out w6 bb).1; have H6 := hide bb; clear b6 bb H5; dsimp only)
      | (go_at_call 39; refine (num35 _ _).mono ?_; rintro e wn ⟨rfl, rfl⟩; dsimp only)
      | (go_at_call 46; refine (HK.out.2.2.2.2.2.2.1 _ H6.out).mono ?_; rintro e w7 ⟨rfl, b7⟩; have bb := H6.out.trans (b7.mono H6.out.size); have x7 := (HC.out w7 bb).1; have H7 := hide bb; clear b7 bb H6; dsimp only)
      | (go_at_call 53; clear tk1; refine (HK.out.2.2.2.2.2.2.2.1 _ H7.out).mono ?_; rintro e w8 ⟨L8, rfl, c8, b8⟩; have bb := H7.out.trans (b8.mono H7.out.size); have H8 := hide (And.intro c8 bb); clear c8 b8 bb H7; dsimp only)
      | (go_at_call 52; clear tk2; refine (HK.out.2.2.2.2.2.2.2.2 _ _ _ H8.out.2 H8.out.1).mono ?_; rintro e w9 ⟨rfl, b9⟩; have bb := H8.out.2.trans (b9.mono H8.out.2.size); have x9 := (HC.out w9 bb).1; have H9 := hide bb; clear b9 bb H8; dsimp only)
      | (go_at_call 53; refine (HK.out.2.2.2.2.2.2.2.1 _ H9.out).mono ?_; rintro e w10 ⟨L10, rfl, c10, b10⟩; have bb := H9.out.trans (b10.mono H9.out.size); have H10 := hide (And.intro c10 bb); clear c10 b10 bb H9; dsimp only)
      | (go_at_call 52; refine (HK.out.2.2.2.2.2.2.2.2 _ _ _ H10.out.2 H10.out.1).mono ?_; rintro e w11 ⟨rfl, b11⟩; have bb := H10.out.2.trans (b11.mono H10.out.2.size); have H11 := hide bb; clear b11 bb H10; dsimp only))
    go_ret
    exact ⟨rfl, (HC.out _ H11.out).2⟩
end Go.Proofs.YtkeldhohilmdcaaGreat
