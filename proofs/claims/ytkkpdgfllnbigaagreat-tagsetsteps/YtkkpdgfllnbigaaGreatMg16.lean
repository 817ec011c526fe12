/-
  tagset: Key (109), the stamp in a key (177).
  tagset: the tags of a map (123), May (28).
-/
import Derived.Test.YtkkpdgfllnbigaaGreatMg15
import Derived.Test.YtkkpdgfllnbigaaGreatReg7
import Derived.Test.YtkkpdgfllnbigaaGreatMg10
import Derived.Test.YtkkpdgfllnbigaaGreatMg11
namespace Go.Proofs.YtkkpdgfllnbigaaGreat.Tg
open Go.RowKit Go.Shelf
set_option linter.unusedSimpArgs false
attribute [local go_sem] Oper.semAt_some

theorem mayText129 (s : ByteArray) (w : World) : Calls Tryz.prog 129 #[.string s] w fun e w' => e = .returned (.bool (txtB s)) ∧ w' = w := by
  unfold txtB
  by_cases h : s.size ≤ 256
  · have h1 : (s.size : Int) ≤ 256 := by omega
    have h2 : decide ((s.size : Int) ≤ 256) = true := by simpa using h1
    have h3 : decide (s.size ≤ 256) = true := by simpa using h
    rw [h3]
    go_enter Tryz.func129, Tryz.ntmps129
    go_wp2
    go_ret
    exact ⟨rfl, rfl⟩
  · have h1 : ¬ (s.size : Int) ≤ 256 := by omega
    have h2 : decide ((s.size : Int) ≤ 256) = false := by simpa using h1
    have h3 : decide (s.size ≤ 256) = false := by simpa using h
    rw [h3]
    go_enter Tryz.func129, Tryz.ntmps129
    go_wp2
    go_ret
    exact ⟨rfl, rfl⟩
theorem frB_size {X : ByteArray} (h : txtB X = true) : X.size ≤ 256 ∧ (frB X).size ≤ 514 := by
  have h1 : X.size ≤ 256 := by simpa [txtB] using h
  refine ⟨h1, ?_⟩
  have h2 := (esc_len X.data.toList).2
  have h3 : X.data.toList.length = X.size := (Lib.size_eq X).symm
  have h4 : (frB X).size = (esc X.data.toList ++ [0, 0]).length := by
    show (esc X.data.toList ++ [0, 0]).toArray.size = _
    simp
  rw [h4, List.length_append]
  simp only [List.length_cons, List.length_nil]
  omega
theorem tkey_size {X : ByteArray} {s : St} (hX : txtB X = true) (hs : stV s = true) : (tkey X s).size ≤ 1000 := by
  have h1 := (frB_size hX).2
  have h2 := keyT_size hs
  unfold tkey
  rw [ByteArray.size_append]
  omega
theorem tset5 {w : World} {B : Nat} {x0 x1 x2 x3 x4 : Value} {ty : TypeId} (a b c d e : Value) (h : w.heap[B]? = some (.cells #[x0, x1, x2, x3, x4] ty (0, 0))) : (((((w.setCell ⟨B, 0, none⟩ a).setCell ⟨B, 1, none⟩ b).setCell ⟨B, 2, none⟩ c).setCell ⟨B, 3, none⟩ d).setCell ⟨B, 4, none⟩ e).heap[B]? = some (.cells #[a, b, c, d, e] ty (0, 0)) ∧ Only (fun j => j = B) w (((((w.setCell ⟨B, 0, none⟩ a).setCell ⟨B, 1, none⟩ b).setCell ⟨B, 2, none⟩ c).setCell ⟨B, 3, none⟩ d).setCell ⟨B, 4, none⟩ e) := by
  obtain ⟨h1, o1⟩ := set_one (i := 0) a h
  obtain ⟨h2, o2⟩ := set_one (i := 1) b h1
  obtain ⟨h3, o3⟩ := set_one (i := 2) c h2
  obtain ⟨h4, o4⟩ := set_one (i := 3) d h3
  obtain ⟨h5, o5⟩ := set_one (i := 4) e h4
  exact ⟨by simpa using h5, (((o1.next o2).next o3).next o4).next o5⟩
theorem T43 : (Tryz.prog.info? 43).map (·.size) = some 5 := by kernel_rfl
/-- A tag's key, or that it may not be. -/
def keyE (x : El) : ByteArray := if okEl x = true then tkey x.2 x.1 else ⟨#[]⟩
set_option maxHeartbeats 2000000 in
theorem key109 (X : ByteArray) (s : St) (w : World) : Calls Tryz.prog 109 #[.string X, svT s] w fun e w' => e = .returned (.tuple #[.string (keyE (s, X)), .int .i64 (if okEl (s, X) = true then 0 else 2)]) ∧ Below w.heap.size w w' := by
  obtain ⟨g, r, lb, n, ix⟩ := s
  obtain ⟨w0, hw0⟩ : ∃ q, q = w.alloc (.cells #[.int .i64 g, .int .i64 r, .string lb, .int .i64 n, .int .i64 ix] 43) := ⟨_, rfl⟩
  have m := heap_alloc_new w (.cells #[.int .i64 g, .int .i64 r, .string lb, .int .i64 n, .int .i64 ix] 43)
  have b0 : Below w.heap.size w (w.alloc (.cells #[.int .i64 g, .int .i64 r, .string lb, .int .i64 n, .int .i64 ix] 43)) := (Below.refl _ w).alloc (Nat.le_refl _) _
  rw [← hw0] at m b0
  have hk := keyT_any (g, r, lb, n, ix) w0
  have htx := fun W => mayText129 X W
  have hfr := fun W (h : txtB X = true) => front165 X W (frB_size h).1
  have hsz := fun (h : txtB X = true) (h2 : stV (g, r, lb, n, ix) = true) => tkey_size h h2
  have hsz2 := fun (h : txtB X = true) => (frB_size h).2
  have c0 := (cell_of_row _ _ 0 _ 43 (0, 0) m).trans rfl
  have c1 := (cell_of_row _ _ 1 _ 43 (0, 0) m).trans rfl
  have c2 := (cell_of_row _ _ 2 _ 43 (0, 0) m).trans rfl
  have c3 := (cell_of_row _ _ 3 _ 43 (0, 0) m).trans rfl
  have c4 := (cell_of_row _ _ 4 _ 43 (0, 0) m).trans rfl
  have HB := hide b0
  have HW0 := hide hw0
  have hok : okEl ((g, r, lb, n, ix), X) = (stV (g, r, lb, n, ix) && txtB X) := rfl
  unfold keyE
  rw [hok]
  have hks := fun (h : stV (g, r, lb, n, ix) = true) => keyT_size h
  unfold tkey at hsz ⊢
  dsimp only [svT, sv] at hk ⊢
  generalize keyT (g, r, lb, n, ix) = KT at *
  generalize frB X = FR at *
  generalize stV (g, r, lb, n, ix) = V at *
  generalize txtB X = TX at *
  clear hok m b0 hw0
  cases V with
  | false =>
    clear hks hsz hsz2 hfr
    go_enter Tryz.func109, Tryz.ntmps109
    go_upto_region 1 with fail
    rw [← HW0.out]
    go_wp2_with (go_at_call 135; refine hk.mono ?_; rintro e w1 ⟨rfl, b1⟩; replace HB := hide (HB.out.trans (b1.mono HB.out.size)); clear b1; dsimp only)
    go_ret2
    exact ⟨rfl, HB.out⟩
  | true =>
    cases TX with
    | false =>
      clear hks hsz hsz2 hfr
      go_enter Tryz.func109, Tryz.ntmps109
      go_upto_region 1 with fail
      rw [← HW0.out]
      go_wp2_with (first
        | (go_at_call 135; refine hk.mono ?_; rintro e w1 ⟨rfl, b1⟩; replace HB := hide (HB.out.trans (b1.mono HB.out.size)); clear b1; dsimp only)
        | (go_at_call 129; refine (htx _).mono ?_; rintro e w2 ⟨rfl, hw⟩; replace hw := hw.symm; subst hw; dsimp only))
      go_ret2
      exact ⟨rfl, HB.out⟩
    | true =>
      have h1 := hks rfl
      have h2 := hsz2 rfl
      have f1 : ¬ 9223372036854775807 < FR.size + KT.size := by omega
      clear hks hsz hsz2 h1 h2
      replace hfr := fun W => hfr W rfl
      go_enter Tryz.func109, Tryz.ntmps109
      go_upto_region 1 with fail
      rw [← HW0.out]
      go_wp2_with (first
        | (go_at_call 135; refine hk.mono ?_; rintro e w1 ⟨rfl, b1⟩; replace HB := hide (HB.out.trans (b1.mono HB.out.size)); clear b1; dsimp only)
        | (go_at_call 129; refine (htx _).mono ?_; rintro e w2 ⟨rfl, hw⟩; replace hw := hw.symm; subst hw; dsimp only)
        | (go_at_call 165; refine (hfr _).mono ?_; rintro e w3 ⟨rfl, b3⟩; replace HB := hide (HB.out.trans (b3.mono HB.out.size)); clear b3; dsimp only))
      go_ret2
      exact ⟨rfl, HB.out⟩
set_option maxHeartbeats 4000000 in
set_option maxRecDepth 100000 in
theorem tag177 (K X : ByteArray) (w : World) (hK : K.size ≤ 9223372036854775807) : Calls Tryz.prog 177 #[.string K, .string X] w fun e w' => e = .returned (.tuple #[svT (tgS K X), .bool (tgV K X)]) ∧ Below w.heap.size w w' := by
  obtain ⟨w0, hw0⟩ : ∃ q, q = w.alloc (.cells #[.int .i64 0, .int .i64 0, .string ⟨#[]⟩, .int .i64 0, .int .i64 0] 43) := ⟨_, rfl⟩
  have m := heap_alloc_new w (.cells #[.int .i64 0, .int .i64 0, .string ⟨#[]⟩, .int .i64 0, .int .i64 0] 43)
  have b0 : Below w.heap.size w (w.alloc (.cells #[.int .i64 0, .int .i64 0, .string ⟨#[]⟩, .int .i64 0, .int .i64 0] 43)) := (Below.refl _ w).alloc (Nat.le_refl _) _
  rw [← hw0] at m b0
  obtain ⟨Eb, hEb⟩ : ∃ q, q = w.heap.size := ⟨_, rfl⟩
  rw [← hEb] at m
  have HC : Hid (∀ W, Below w0.heap.size w0 W → W.heap[Eb]? = some (.cells #[.int .i64 0, .int .i64 0, .string ⟨#[]⟩, .int .i64 0, .int .i64 0] 43 (0, 0)) ∧ Below w.heap.size w W) := hide (fun W hW => ⟨(hW.block _ (gI m).1).trans m, b0.trans (hW.mono b0.size)⟩)
  have HW0 := hide (And.intro hw0 hEb)
  have HLT := hide (gI m).1
  have htx := fun W => mayText129 X W
  have hfr := fun W (h : txtB X = true) => front165 X W (frB_size h).1
  have hcp := fun W => cutPrefix211 K (frB X) W
  have hok := fun W => ofKeyT_any (rest (frB X) K) W (by
    have h1 : (rest (frB X) K).size ≤ K.size := by unfold rest; rw [ByteArray.size_extract]; omega
    omega)
  have hS : tgS K X = if (txtB X && pre (frB X) K) = true then ofT (rest (frB X) K) else zS := rfl
  have hV : tgV K X = (txtB X && (pre (frB X) K && okV (rest (frB X) K))) := rfl
  rw [hS, hV]
  clear hS hV m b0 hw0 hEb hK
  generalize ofT (rest (frB X) K) = S at *
  generalize okV (rest (frB X) K) = V at *
  generalize rest (frB X) K = RS at *
  generalize pre (frB X) K = P at *
  generalize frB X = FR at *
  generalize txtB X = TX at *
  cases TX with
  | false =>
    clear hfr hcp hok
    go_enter Tryz.func177, Tryz.ntmps177
    go_upto_region 1 with fail
    rw [← HW0.out.1, ← HW0.out.2]
    go_upto_region 2 with (go_at_call 129; refine (htx _).mono ?_; rintro e w2 ⟨rfl, hw⟩; replace hw := hw.symm; subst hw; dsimp only)
    obtain ⟨e5, bw5⟩ := HC.out w0 (Below.refl _ _)
    obtain ⟨u7, o7⟩ := tset5 (.int .i64 0) (.int .i64 0) (.string ⟨#[]⟩) (.int .i64 0) (.int .i64 0) e5
    have b7 := Below.only bw5 o7 bw5.size (fun j e => by have e' : j = Eb := e; have := HW0.out.2; omega)
    have HE := hide (And.intro u7 b7)
    have d0 : w0.cell? ⟨Eb, 0, none⟩ = some (.int .i64 0) := (cell_of_row _ _ 0 _ 43 (0, 0) e5).trans rfl
    have d1 : w0.cell? ⟨Eb, 1, none⟩ = some (.int .i64 0) := (cell_of_row _ _ 1 _ 43 (0, 0) e5).trans rfl
    have d2 : w0.cell? ⟨Eb, 2, none⟩ = some (.string ⟨#[]⟩) := (cell_of_row _ _ 2 _ 43 (0, 0) e5).trans rfl
    have d3 : w0.cell? ⟨Eb, 3, none⟩ = some (.int .i64 0) := (cell_of_row _ _ 3 _ 43 (0, 0) e5).trans rfl
    have d4 : w0.cell? ⟨Eb, 4, none⟩ = some (.int .i64 0) := (cell_of_row _ _ 4 _ 43 (0, 0) e5).trans rfl
    have g0 := frozen_of_row w0 Eb 0 _ 43 e5
    have g1 := frozen_of_row w0 Eb 1 _ 43 e5
    have g2 := frozen_of_row w0 Eb 2 _ 43 e5
    have g3 := frozen_of_row w0 Eb 3 _ 43 e5
    have g4 := frozen_of_row w0 Eb 4 _ 43 e5
    clear u7 o7 e5 bw5 b7
    go_wp2
    refine ret_row_tmp Eb [.int .i64 0, .int .i64 0, .string ⟨#[]⟩, .int .i64 0, .int .i64 0] rfl rfl rfl Tryz.underlying43 rfl T43 HE.out.1 rfl ?_
    exact ⟨rfl, HE.out.2⟩
  | true =>
    replace hfr := fun W => hfr W rfl
    cases P with
    | false =>
      clear hok
      rw [show (true && false) = false from rfl]
      go_enter Tryz.func177, Tryz.ntmps177
      go_upto_region 1 with fail
      rw [← HW0.out.1, ← HW0.out.2]
      go_upto_region 5 with (first
        | (go_at_call 129; refine (htx _).mono ?_; rintro e w2 ⟨rfl, hw⟩; replace hw := hw.symm; subst hw; dsimp only)
        | (go_at_call 165; refine (hfr _).mono ?_; rintro e w3 ⟨rfl, b3⟩; have H3 := hide b3; clear b3; dsimp only)
        | (go_at_call 211; refine (hcp _).mono ?_; rintro e w4 ⟨rfl, hw⟩; replace hw := hw.symm; subst hw; dsimp only))
      obtain ⟨w5, hw5⟩ : ∃ q, w3 = q := ⟨_, rfl⟩
      rw [hw5] at H3 ⊢
      clear hw5
      obtain ⟨e5, bw5⟩ := HC.out w5 H3.out
      obtain ⟨u7, o7⟩ := tset5 (.int .i64 0) (.int .i64 0) (.string ⟨#[]⟩) (.int .i64 0) (.int .i64 0) e5
      have b7 := Below.only bw5 o7 bw5.size (fun j e => by have e' : j = Eb := e; have := HW0.out.2; omega)
      have HE := hide (And.intro u7 b7)
      have d0 : w5.cell? ⟨Eb, 0, none⟩ = some (.int .i64 0) := (cell_of_row _ _ 0 _ 43 (0, 0) e5).trans rfl
      have d1 : w5.cell? ⟨Eb, 1, none⟩ = some (.int .i64 0) := (cell_of_row _ _ 1 _ 43 (0, 0) e5).trans rfl
      have d2 : w5.cell? ⟨Eb, 2, none⟩ = some (.string ⟨#[]⟩) := (cell_of_row _ _ 2 _ 43 (0, 0) e5).trans rfl
      have d3 : w5.cell? ⟨Eb, 3, none⟩ = some (.int .i64 0) := (cell_of_row _ _ 3 _ 43 (0, 0) e5).trans rfl
      have d4 : w5.cell? ⟨Eb, 4, none⟩ = some (.int .i64 0) := (cell_of_row _ _ 4 _ 43 (0, 0) e5).trans rfl
      have g0 := frozen_of_row w5 Eb 0 _ 43 e5
      have g1 := frozen_of_row w5 Eb 1 _ 43 e5
      have g2 := frozen_of_row w5 Eb 2 _ 43 e5
      have g3 := frozen_of_row w5 Eb 3 _ 43 e5
      have g4 := frozen_of_row w5 Eb 4 _ 43 e5
      clear u7 o7 e5 bw5 b7
      go_wp2
      refine ret_row_tmp Eb [.int .i64 0, .int .i64 0, .string ⟨#[]⟩, .int .i64 0, .int .i64 0] rfl rfl rfl Tryz.underlying43 rfl T43 HE.out.1 rfl ?_
      exact ⟨rfl, HE.out.2⟩
    | true =>
      rw [show (true && true) = true from rfl, if_pos rfl] at *
      obtain ⟨g, r, lb, n, ix⟩ := S
      dsimp only [svT, sv] at hok ⊢
      obtain ⟨EC, hEC⟩ : ∃ q : Int, q = (if V = true then 0 else 4) := ⟨_, rfl⟩
      rw [← hEC] at hok
      have HEC : Hid ((EC = 0) ↔ V = true) := hide (by rw [hEC]; cases V <;> simp)
      clear hEC
      go_enter Tryz.func177, Tryz.ntmps177
      go_upto_region 1 with fail
      rw [← HW0.out.1, ← HW0.out.2]
      go_upto_region 7 with (first
        | (go_at_call 129; refine (htx _).mono ?_; rintro e w2 ⟨rfl, hw⟩; replace hw := hw.symm; subst hw; dsimp only)
        | (go_at_call 165; refine (hfr _).mono ?_; rintro e w3 ⟨rfl, b3⟩; have H3 := hide b3; clear b3; dsimp only)
        | (go_at_call 211; refine (hcp _).mono ?_; rintro e w4 ⟨rfl, hw⟩; replace hw := hw.symm; subst hw; dsimp only)
        | (go_at_call 140; refine (hok _).mono ?_; rintro e w6 ⟨rfl, b6⟩; have H6 := hide (H3.out.trans (b6.mono H3.out.size)); clear b6; dsimp only))
      obtain ⟨w7, hw7⟩ : ∃ q, q = w6.alloc (.cells #[.int .i64 g, .int .i64 r, .string lb, .int .i64 n, .int .i64 ix] 43) := ⟨_, rfl⟩
      have m7 := heap_alloc_new w6 (.cells #[.int .i64 g, .int .i64 r, .string lb, .int .i64 n, .int .i64 ix] 43)
      rw [← hw7] at m7
      have b7' : Below w0.heap.size w0 w7 := H6.out.trans ((by rw [hw7]; exact (Below.refl _ w6).alloc (Nat.le_refl _) _ : Below w6.heap.size w6 w7).mono H6.out.size)
      obtain ⟨Sb, hSb⟩ : ∃ q, q = w6.heap.size := ⟨_, rfl⟩
      rw [← hw7, ← hSb]
      rw [← hSb] at m7
      have k0 : w7.cell? ⟨Sb, 0, none⟩ = some (.int .i64 g) := (cell_of_row _ _ 0 _ 43 (0, 0) m7).trans rfl
      have k1 : w7.cell? ⟨Sb, 1, none⟩ = some (.int .i64 r) := (cell_of_row _ _ 1 _ 43 (0, 0) m7).trans rfl
      have k2 : w7.cell? ⟨Sb, 2, none⟩ = some (.string lb) := (cell_of_row _ _ 2 _ 43 (0, 0) m7).trans rfl
      have k3 : w7.cell? ⟨Sb, 3, none⟩ = some (.int .i64 n) := (cell_of_row _ _ 3 _ 43 (0, 0) m7).trans rfl
      have k4 : w7.cell? ⟨Sb, 4, none⟩ = some (.int .i64 ix) := (cell_of_row _ _ 4 _ 43 (0, 0) m7).trans rfl
      have ne1 : ¬ Sb = Eb := by have := H6.out.size; have := HLT.out; omega
      have ne2 : ¬ Eb = Sb := by omega
      clear hSb hw7
      obtain ⟨e5, bw5⟩ := HC.out w7 b7'
      obtain ⟨u7, o7⟩ := tset5 (.int .i64 g) (.int .i64 r) (.string lb) (.int .i64 n) (.int .i64 ix) e5
      have b7 := Below.only bw5 o7 bw5.size (fun j e => by have e' : j = Eb := e; have := HW0.out.2; omega)
      have HE := hide (And.intro u7 b7)
      have d0 : w7.cell? ⟨Eb, 0, none⟩ = some (.int .i64 0) := (cell_of_row _ _ 0 _ 43 (0, 0) e5).trans rfl
      have d1 : w7.cell? ⟨Eb, 1, none⟩ = some (.int .i64 0) := (cell_of_row _ _ 1 _ 43 (0, 0) e5).trans rfl
      have d2 : w7.cell? ⟨Eb, 2, none⟩ = some (.string ⟨#[]⟩) := (cell_of_row _ _ 2 _ 43 (0, 0) e5).trans rfl
      have d3 : w7.cell? ⟨Eb, 3, none⟩ = some (.int .i64 0) := (cell_of_row _ _ 3 _ 43 (0, 0) e5).trans rfl
      have d4 : w7.cell? ⟨Eb, 4, none⟩ = some (.int .i64 0) := (cell_of_row _ _ 4 _ 43 (0, 0) e5).trans rfl
      have g0 := frozen_of_row w7 Eb 0 _ 43 e5
      have g1 := frozen_of_row w7 Eb 1 _ 43 e5
      have g2 := frozen_of_row w7 Eb 2 _ 43 e5
      have g3 := frozen_of_row w7 Eb 3 _ 43 e5
      have g4 := frozen_of_row w7 Eb 4 _ 43 e5
      clear u7 o7 e5 bw5 b7
      clear m7 b7'
      go_wp2
      refine ret_row_tmp Eb [.int .i64 g, .int .i64 r, .string lb, .int .i64 n, .int .i64 ix] rfl rfl rfl Tryz.underlying43 rfl T43 HE.out.1 rfl ?_
      have hbv : (EC == 0) = V := by rw [Bool.eq_iff_iff, beq_iff_eq]; exact HEC.out
      exact ⟨by rw [hbv]; rfl, HE.out.2⟩
end Go.Proofs.YtkkpdgfllnbigaaGreat.Tg
namespace Go.Proofs.YtkkpdgfllnbigaaGreat.Tg
open Go.RowKit Go.Shelf
set_option linter.unusedSimpArgs false
attribute [local go_sem] Oper.semAt_some

/-- An operation of a plain region within a round that turns the world. -/
theorem turn_in {r n : Nat} {P : Program} {ops : Array Oper} {rest : List Oper} {o : Oper} {a : Act} {w w' : World} {Q : Exit → Act → World → Prop} {OP : Op} {T : TypeId} {v : Value} (hgd : o.guard = none) (ho : o.op = OP) (ht : o.type = T) (hd : ∀ c, OP ≠ .defer c)
    (hy : (execOp a.eval { dst := none, op := OP, type := T, pos := "", after := #[], guard := none }).run P w = .ok (.value v) w') (h : wpListIn (Fence.wide.inRound r) n P ops Q rest (a.put o.dst v) w') : wpListIn (Fence.wide.inRound r) n P ops Q (o :: rest) a w :=
  wpListIn_plain hgd fun K hK => by
    refine ⟨fun _ _ => trivial, ?_⟩
    rw [Oper.semAt_eq _ _ _ (by rw [ho]; exact hd), exec_same a.eval o ho ht, hy]
    exact hK _ _ h
/-- One is laid behind; where the row then lies. -/
theorem push_OeW {w : World} {B b : Nat} {v : Value} {p : List El} {y : El} (hown : Oe w B v p) (hcell : w.heap[b]? = some (.cells (encE y).toArray 53 (0, 0))) (hp : p.length + 1 ≤ 1000000) (hB : B ≤ w.heap.size) :
    ∃ a' c' w', (Builtin.append_ #[22, 22] 22 #[v, .slice (some ⟨b, 0, none⟩) 1 1]).run Tryz.prog w = .ok (.slice a' (p.length + 1) c') w' ∧ Oe w' B (.slice a' (p.length + 1) c') (p ++ [y]) ∧ Only (fun k => v.ownBlock = some k) w w' ∧ Where w v (.slice a' (p.length + 1) c') := by
  obtain ⟨i0, hi, hz0, hz1, hz2⟩ := info_of info77
  obtain ⟨v', w', hr, h2, h3, h4⟩ := append_where (P := Tryz.prog) w 22 22 53 i0 zeroE 6 64 Tryz.underlying22 hi hz0 hz1 hz2 rfl (by decide) v p.length (flatE p) (Oe.lift hown (Nat.zero_le _)) ⟨b, 0, none⟩ 1 1 (encE y) (by simp [encE]) (fun j u hj => by rw [add_lit, cell_of_row _ _ (0 + j) (encE y).toArray 53 (0, 0) hcell, Nat.zero_add]; simpa using hj) (fun u hu => flatE_one [y] u (by simpa [flatE] using hu)) (by unfold maxLen; omega) (by omega)
  have hO : Oe w' 0 v' (p ++ [y]) := by
    unfold Oe
    rw [flatE_app, List.length_append, flatE_cons, flatE_nil, List.append_nil]
    exact h2
  obtain ⟨a', c', hv, _, _⟩ := row_form hO
  subst hv
  rw [List.length_append] at hO hr h4
  refine ⟨a', c', w', hr, ?_, Only.ofGrown h3, h4⟩
  rcases hO with ⟨q1, q2⟩
  refine ⟨q1, ?_⟩
  rcases q2 with q2 | ⟨g, cap, cur, e, hb, r⟩
  · exact .inl q2
  · refine .inr ⟨g, cap, cur, e, ?_, r⟩
    rcases h4 g (by rw [show (Value.slice a' (p.length + [y].length) c') = _ from e]; rfl) with h | h
    · exact (World.ownsRow.lt hown g h).1
    · omega
theorem leave_cells2 {fn : Func} {tmps : Array Value} {p q : Tmp} (b c : Nat) {ao : Option Addr} {n cap : Nat} {x : Bool} {R : Ending → World → Prop} {W : World} (h : fn.results = #[.cell p 22, .cell q 4]) (hp : tmps.getD p undef = .pointer (some ⟨b, 0, none⟩)) (hq : tmps.getD q undef = .pointer (some ⟨c, 0, none⟩))
    (hb : W.cell? ⟨b, 0, none⟩ = some (.slice ao n cap)) (hc : W.cell? ⟨c, 0, none⟩ = some (.bool x)) (hR : R (.returned (.tuple #[.slice ao n cap, .bool x])) W) : LeavesInM Fence.wide 6 Tryz.prog fn tmps R [] .returning W := by
  refine leave_none (v := .tuple #[.slice ao n cap, .bool x]) ?_ hR
  have h1 : (loadVar 22 ⟨b, 0, none⟩).run Tryz.prog W = .ok (.slice ao n cap) W := by go_simp
  have h2 : (loadVar 4 ⟨c, 0, none⟩).run Tryz.prog W = .ok (.bool x) W := by go_simp
  have hp' : tmps[p]?.getD undef = .pointer (some ⟨b, 0, none⟩) := by simpa using hp
  have hq' : tmps[q]?.getD undef = .pointer (some ⟨c, 0, none⟩) := by simpa using hq
  simp [results, h, hp', hq', asAddr, Sem.run_bind, Result.andThen, h1, h2]
theorem make53 (n : Nat) (hn : n ≤ 100000) (W : World) : ∃ W', (Instr.makeSlice 22 (.int .i64 0) (.int .i64 (n : Int))).run Tryz.prog W = .ok (.slice (some ⟨W.heap.size, 0, none⟩) 0 n) W' ∧ Oe W' W.heap.size (.slice (some ⟨W.heap.size, 0, none⟩) 0 n) [] ∧ Below W.heap.size W W' := by
  obtain ⟨i0, hi, hz0, hz1, hz2⟩ := info_of info77
  obtain ⟨W1, hmk, hown, hg⟩ := run_makeSlice_owned (P := Tryz.prog) W W.heap.size 22 53 i0 zeroE 6 Tryz.underlying22 hi hz0 hz1 .i64 .i64 n (by omega) (by rw [hz2]; omega) (by unfold maxLen; omega) (Nat.le_refl _)
  exact ⟨W1, hmk, hown, below_own (Below.refl _ W) (Nat.le_refl _) (Own.nil 5 W _) hg⟩
/-- What stands between rounds. -/
structure TgI (wA : World) (Lb Ob R2 R3 B : Nat) (l : List Kv) (k : Nat) (W : World) : Prop where
  only : Only (fun j => (j = Lb ∨ j = Ob ∨ j = R2 ∨ j = R3) ∨ wA.heap.size + 4 ≤ j) wA W
  r2 : W.heap[R2]? = some (.cells #[.slice none 0 0] 22 (0, 0))
  r3 : W.heap[R3]? = some (.cells #[.bool false] 4 (0, 0))
  ok : ∀ j x, j < k → l[j]? = some x → tgV x.1 x.2 = true
  len : k ≤ l.length
  box : ∃ ao c, W.heap[Lb]? = some (.cells #[.slice ao k c] 22 (0, 0)) ∧ Oe W B (.slice ao k c) ((l.map tgE).take k) ∧ ∀ j, (Value.slice ao k c).ownBlock = some j → j = Ob ∨ wA.heap.size + 4 ≤ j
/-- What stands behind a key that is no tag's. -/
structure TgX (wA : World) (Lb Ob R2 R3 : Nat) (l : List Kv) (W : World) : Prop where
  only : Only (fun j => (j = Lb ∨ j = Ob ∨ j = R2 ∨ j = R3) ∨ wA.heap.size + 4 ≤ j) wA W
  r2 : W.heap[R2]? = some (.cells #[.slice none 0 0] 22 (0, 0))
  r3 : W.heap[R3]? = some (.cells #[.bool false] 4 (0, 0))
  bad : mayT l = false
theorem TgI.other {wA : World} {Lb Ob R2 R3 B k : Nat} {l : List Kv} {W W' : World} (h : TgI wA Lb Ob R2 R3 B l k W) (hz : Lb < wA.heap.size ∧ Ob < wA.heap.size ∧ R2 < wA.heap.size ∧ R3 < wA.heap.size) (ho : Only (fun j => j = wA.heap.size + 1) W W') : TgI wA Lb Ob R2 R3 B l k W' := by
  obtain ⟨ao, c, hb, hO, hw⟩ := h.box
  refine ⟨h.only.trans ho (fun j hj e => by have e' : j = wA.heap.size + 1 := e; omega), (ho.block _ (gI h.r2).1 (by omega)).trans h.r2, (ho.block _ (gI h.r3).1 (by omega)).trans h.r3, h.ok, h.len, ao, c, (ho.block _ (gI hb).1 (by omega)).trans hb, hO.only ho (fun j hj e => ?_), hw⟩
  have e' : j = wA.heap.size + 1 := e
  have := hw j hj
  omega
theorem TgX.other {wA : World} {Lb Ob R2 R3 : Nat} {l : List Kv} {W W' : World} (h : TgX wA Lb Ob R2 R3 l W) (hz : Lb < wA.heap.size ∧ Ob < wA.heap.size ∧ R2 < wA.heap.size ∧ R3 < wA.heap.size) (ho : Only (fun j => j = wA.heap.size + 1) W W') : TgX wA Lb Ob R2 R3 l W' :=
  ⟨h.only.trans ho (fun j hj e => by have e' : j = wA.heap.size + 1 := e; omega), (ho.block _ (gI h.r2).1 (by omega)).trans h.r2, (ho.block _ (gI h.r3).1 (by omega)).trans h.r3, h.bad⟩

set_option maxHeartbeats 8000000 in
set_option maxRecDepth 100000 in
theorem tags123 (t : Pm.T) (w : World) (ht : Pm.In w t) (hs : Pm.Srt t.list) (hk : ∀ x ∈ t.list, x.1.size ≤ 9223372036854775807) (hn : t.n ≤ 100000) :
    Calls Tryz.prog 123 #[Pm.mv t] w fun e w' => ∃ ao c, e = .returned (.tuple #[.slice ao (tagsL t.list).length c, .bool (mayT t.list)]) ∧ Oe w' w.heap.size (.slice ao (tagsL t.list).length c) (tagsL t.list) ∧ Below w.heap.size w w' := by
  obtain ⟨l, hl⟩ : ∃ l, l = t.list := ⟨_, rfl⟩
  obtain ⟨a, ha⟩ := t.ptr_shape
  have hll : l.length = t.n := by rw [hl, Pm.T.n_eq]
  obtain ⟨w1, hw1⟩ : ∃ w1, w1 = ((w.alloc (.cells #[.pointer a] 27)).alloc (.cells #[.slice none 0 0] 22)).alloc (.cells #[.bool false] 4) := ⟨_, rfl⟩
  obtain ⟨m0, m1, m2, b1⟩ := new3r w (.cells #[.pointer a] 27) (.cells #[.slice none 0 0] 22) (.cells #[.bool false] 4)
  rw [← hw1] at m0 m1 m2 b1
  have s1 : w1.heap.size = w.heap.size + 3 := by rw [hw1]; simp
  obtain ⟨Mb, hMb⟩ : ∃ q, q = w.heap.size := ⟨_, rfl⟩
  obtain ⟨R2, hR2⟩ : ∃ q, q = w.heap.size + 1 := ⟨_, rfl⟩
  obtain ⟨R3, hR3⟩ : ∃ q, q = w.heap.size + 1 + 1 := ⟨_, rfl⟩
  rw [← hMb] at m0
  rw [← hR2] at m1
  rw [show w.heap.size + 2 = R3 by omega] at m2
  have hlen := Pm.mLen_any t w1 (Pm.In.below b1 ht)
  have hAll := fun W => Pm.mAll_any t W
  unfold Pm.mv at hlen ⊢
  simp only [Pm.mv] at hAll
  simp only [ha] at hlen hAll ⊢
  have HW1 := hide (And.intro hw1 (And.intro hMb (And.intro hR2 hR3)))
  have HB := hide (And.intro b1 (And.intro ht (And.intro hs (And.intro hk (And.intro hl (And.intro hll hn))))))
  have HM := hide (And.intro m0 (And.intro m1 (And.intro m2 s1)))
  have cM := (cell_of_row w1 Mb 0 _ 27 (0, 0) m0).trans rfl
  have HA := hide ha
  have HMK := hide (fun W => make53 t.n hn W)
  clear b1 ht hs hk hl hll hn m0 m1 m2 s1 hw1 hMb hR2 hR3 ha
  rw [← HB.out.2.2.2.2.1]
  refine calls_marks Tryz.func123 rfl ?_
  simp only [Tryz.ntmps123, List.size_toArray, List.length_cons, List.length_nil, Nat.reduceAdd, Nat.reduceSub, Array.replicate_succ, Array.replicate_zero, List.push_toArray, List.append_toArray, List.nil_append, List.cons_append]
  go_upto_region 1 with fail
  rw [← HW1.out.1]
  rw [← HW1.out.2.2.2]
  rw [← HW1.out.2.2.1]
  rw [← HW1.out.2.1]
  go_upto_region 2 with (go_at_call 21; refine hlen.mono ?_; rintro e w2 ⟨rfl, b2⟩; obtain ⟨w3, mk3, ho3, b3⟩ := HMK.out w2; have H2 := hide (And.intro b2 (And.intro ho3 b3)); clear b2 ho3 b3; dsimp only)
  obtain ⟨b2, ho3, b3⟩ := H2.out
  obtain ⟨w4, hw4⟩ : ∃ q, q = w3.alloc (.cells #[.slice (some ⟨w2.heap.size, 0, none⟩) 0 t.n] 22) := ⟨_, rfl⟩
  have m4 := heap_alloc_new w3 (.cells #[.slice (some ⟨w2.heap.size, 0, none⟩) 0 t.n] 22)
  have b4 : Below w3.heap.size w3 w4 := by rw [hw4]; exact (Below.refl _ w3).alloc (Nat.le_refl _) _
  rw [← hw4] at m4
  have ho4 := ho3.below b4
  have hOlt := (World.ownsRow.lt ho3 w2.heap.size rfl).2
  have b34 := b3.trans (b4.mono b3.size)
  have b14 : Below w1.heap.size w1 w4 := b2.trans (b34.mono b2.size)
  have hs2 := b2.size
  have hs3 := b4.size
  obtain ⟨Ob, hOb⟩ : ∃ q, q = w2.heap.size := ⟨_, rfl⟩
  obtain ⟨Lb, hLb⟩ : ∃ q, q = w3.heap.size := ⟨_, rfl⟩
  rw [← hw4, ← hLb, ← hOb]
  rw [← hOb] at m4 ho4 hOlt hs2
  rw [← hLb] at m4 hOlt
  have hL4 := (gI m4).1
  have bw4 : Below w.heap.size w w4 := HB.out.1.trans (b14.mono HB.out.1.size)
  have cM4 := cell_stays cM b14
  have hAll4 := hAll w4
  obtain ⟨wA, hwA⟩ : ∃ q, q = ((w4.alloc (.cells #[.pointer a] 27)).alloc (.cells #[.pointer a] 27)).alloc (.cells #[.string ⟨#[]⟩] 9) := ⟨_, rfl⟩
  rw [← hwA] at hAll4
  have sA : wA.heap.size = w4.heap.size + 3 := by rw [hwA]; simp
  obtain ⟨-, n1, n2, bA⟩ := new3r w4 (.cells #[.pointer a] 27) (.cells #[.pointer a] 27) (.cells #[.string ⟨#[]⟩] 9)
  rw [← hwA] at n1 n2 bA
  have cLA : wA.cell? ⟨w4.heap.size + 2, 0, none⟩ = some (.string ⟨#[]⟩) := (cell_of_row _ _ 0 _ 9 (0, 0) n2).trans rfl
  have cMA : wA.cell? ⟨w4.heap.size + 1, 0, none⟩ = some t.ptr := by rw [HA.out]; exact (cell_of_row _ _ 0 _ 27 (0, 0) n1).trans rfl
  have bwA := bw4.trans (bA.mono bw4.size)
  have iA : Pm.In wA t := Pm.In.below bwA HB.out.2.1
  have hit := Pm.iter_from t ⟨#[]⟩ (w4.heap.size + 2) (w4.heap.size + 1) wA iA cLA cMA
  rw [Pm.all_is HB.out.2.2.1, ← HB.out.2.2.2.2.1] at hit
  have hz : Lb < wA.heap.size ∧ Ob < wA.heap.size ∧ R2 < wA.heap.size ∧ R3 < wA.heap.size := by
    have h1 := HW1.out; have h2 := HM.out.2.2.2; omega
  have hlow : w.heap.size ≤ Mb ∧ Mb < R2 ∧ R2 < R3 ∧ R3 < Ob ∧ Ob < Lb ∧ Lb < w4.heap.size := by
    have h1 := HW1.out; have h2 := HM.out.2.2.2; omega
  have hKlt : ∀ j, Pm.KF t (w4.heap.size + 2) (w4.heap.size + 1) j → j < wA.heap.size := fun j hj => by
    rcases hj with rfl | rfl | hj
    · omega
    · omega
    · exact iA.blk_lt hj
  have hDK : ∀ j, (j = Lb ∨ j = Ob ∨ j = R2 ∨ j = R3) ∨ wA.heap.size + 4 ≤ j → ¬ Pm.KF t (w4.heap.size + 2) (w4.heap.size + 1) j := fun j d hj => by
    rcases hj with rfl | rfl | hj
    · omega
    · omega
    · have h1 := HB.out.2.1.blk_lt hj
      have h2 := iA.blk_lt hj
      omega
  have hDout : ∀ j, wA.heap.size ≤ j → j < wA.heap.size + 4 → ¬ ((j = Lb ∨ j = Ob ∨ j = R2 ∨ j = R3) ∨ wA.heap.size + 4 ≤ j) := fun j h1 h2 d => by omega
  have h0 : TgI wA Lb Ob R2 R3 w.heap.size l 0 wA := by
    have b1A := b14.trans (bA.mono b14.size)
    refine ⟨Only.refl _ _, (b1A.block _ (gI HM.out.2.1).1).trans HM.out.2.1, (b1A.block _ (gI HM.out.2.2.1).1).trans HM.out.2.2.1, fun j x hj => by omega, Nat.zero_le _, some ⟨Ob, 0, none⟩, t.n, (bA.block _ hL4).trans m4, ?_, fun j hj => by injection hj with hj; exact .inl hj.symm⟩
    rw [List.take_zero]
    exact (ho4.below bA).lift (by omega)
  have HZ := hide (And.intro hz (And.intro hlow (And.intro bwA (And.intro sA h0))))
  clear b2 ho3 b3 hw4 m4 b4 ho4 hOlt b34 b14 hs2 hs3 hOb hLb hL4 bw4 hwA n1 n2 bA cLA cMA bwA iA hz hlow h0 sA hAll hlen mk3 H2
  go_wp2_with (go_at_call 139; refine hAll4.mono ?_; rintro e w' ⟨rfl, hw'⟩; obtain rfl : wA = w' := hw'.symm; clear hw'; dsimp only)
  clear hAll4 cM4 cM
  refine Pm.range_it (Q := _) 202 enters202 _ l (fun x => #[.string x.1, .string x.2]) _ hit rfl (fun _ _ => rfl) hKlt (fun j => (j = Lb ∨ j = Ob ∨ j = R2 ∨ j = R3) ∨ wA.heap.size + 4 ≤ j) hDK (hDout _ (by omega) (by omega)) (hDout _ (by omega) (by omega)) (hDout _ (by omega) (by omega)) (hDout _ (by omega) (by omega))
    (fun k W' => TgI wA Lb Ob R2 R3 w.heap.size l k W') (fun cd W' => cd = .ret ∧ TgX wA Lb Ob R2 R3 l W') (fun k A A' hi ho => hi.other HZ.out.1 ho) (fun c A A' hi ho => ⟨hi.1, hi.2.other HZ.out.1 ho⟩) HZ.out.2.2.2.2 ?hround ?hdone ?hstop
  case hdone =>
    rintro W hi hlt hk0
    obtain ⟨ao, cp, hbx, hO, hwh⟩ := hi.box
    rw [List.take_of_length_le (by rw [List.length_map]; exact Nat.le_refl _)] at hO
    have hm : mayT l = true := List.all_eq_true.2 (fun x hx => by obtain ⟨j, hj, rfl⟩ := List.getElem_of_mem hx; exact hi.ok j _ hj (List.getElem?_eq_getElem hj))
    have hbW : Below w.heap.size w W := Below.only HZ.out.2.2.1 hi.only HZ.out.2.2.1.size (fun j e => by have := HZ.out; omega)
    obtain ⟨hz, hlow, -, sA, -⟩ := HZ.out
    have hlt3 := (gI hi.r3).1
    obtain ⟨u2, o2⟩ := set_one (i := 0) (.slice ao l.length cp) hi.r2
    have r3' := (o2.block R3 hlt3 (fun e => by have e' : R3 = R2 := e; omega)).trans hi.r3
    obtain ⟨u3, o3⟩ := set_one (i := 0) (.bool true) r3'
    have u2' := (o3.block R2 (gI u2).1 (fun e => by have e' : R2 = R3 := e; omega)).trans u2
    have k2 := (o2.block wA.heap.size hlt (fun e => by have e' : wA.heap.size = R2 := e; omega)).trans hk0
    have k3 := (o3.block wA.heap.size (gI k2).1 (fun e => by have e' : wA.heap.size = R3 := e; omega)).trans k2
    have cL : W.cell? ⟨Lb, 0, none⟩ = some (.slice ao l.length cp) := (cell_of_row _ _ 0 _ 22 (0, 0) hbx).trans rfl
    have c2 : W.cell? ⟨R2, 0, none⟩ = some (.slice none 0 0) := (cell_of_row _ _ 0 _ 22 (0, 0) hi.r2).trans rfl
    have f2 := frozen_of_row _ _ 0 _ 22 hi.r2
    have c3 : (W.setCell ⟨R2, 0, none⟩ (.slice ao l.length cp)).cell? ⟨R3, 0, none⟩ = some (.bool false) := (cell_of_row _ _ 0 _ 4 (0, 0) r3').trans rfl
    have f3 := frozen_of_row _ _ 0 _ 4 r3'
    have hO2 := (hO.only o2 (fun j hj e => by have e' : j = R2 := e; have := hwh j hj; omega)).only o3 (fun j hj e => by have e' : j = R3 := e; have := hwh j hj; omega)
    have hb3 : Below w.heap.size w ((W.setCell ⟨R2, 0, none⟩ (.slice ao l.length cp)).setCell ⟨R3, 0, none⟩ (.bool true)) := (Below.only hbW o2 hbW.size (fun j e => by have e' : j = R2 := e; omega)) |> fun h => Below.only h o3 h.size (fun j e => by have e' : j = R3 := e; omega)
    have HE := hide (And.intro k3 (And.intro u2' (And.intro u3 (And.intro hO2 (And.intro hb3 (And.intro hm hwh))))))
    clear hit hKlt hDK hDout hbx hO hwh hm hbW u2 o2 u3 o3 u2' k2 k3 hO2 hb3 r3' hk0 hlt hlt3 sA hi
    go_wp2
    refine ret_lv ?_
    dsimp only
    obtain ⟨hk3, hu2, hu3, hO2, hb3, hm, hwh⟩ := HE.out
    obtain ⟨hz, hlow, -, sA, -⟩ := HZ.out
    have o9 := only_putObj ((W.setCell ⟨R2, 0, none⟩ (.slice ao l.length cp)).setCell ⟨R3, 0, none⟩ (.bool true)) wA.heap.size (.deferred none)
    have v2 := (o9.block R2 (gI hu2).1 (fun e => by have e' : R2 = wA.heap.size := e; omega)).trans hu2
    have v3 := (o9.block R3 (gI hu3).1 (fun e => by have e' : R3 = wA.heap.size := e; omega)).trans hu3
    refine leave_mark hk3 (leave_cells2 R2 R3 rfl rfl rfl ((cell_of_row _ _ 0 _ 22 (0, 0) v2).trans rfl) ((cell_of_row _ _ 0 _ 4 (0, 0) v3).trans rfl) ?_)
    have hL : tagsL l = l.map tgE := by unfold tagsL; rw [if_pos hm]
    rw [hL, hm, List.length_map]
    refine ⟨ao, cp, rfl, ?_, Below.only hb3 o9 hb3.size (fun j e => by have e' : j = wA.heap.size := e; omega)⟩
    exact hO2.only o9 (fun j hj e => by have e' : j = wA.heap.size := e; have := hwh j hj; omega)
  case hstop =>
    rintro c W ⟨rfl, hi⟩ hlt hk0
    have hbW : Below w.heap.size w W := Below.only HZ.out.2.2.1 hi.only HZ.out.2.2.1.size (fun j e => by have := HZ.out; omega)
    have HE := hide (And.intro hk0 (And.intro hi hbW))
    clear hit hKlt hDK hDout hi hbW hk0 hlt
    go_wp2
    refine ret_lv ?_
    dsimp only
    obtain ⟨hk3, hi, hbW⟩ := HE.out
    obtain ⟨hz, hlow, -, sA, -⟩ := HZ.out
    have o9 := only_putObj W wA.heap.size (.deferred none)
    have v2 := (o9.block R2 (gI hi.r2).1 (fun e => by have e' : R2 = wA.heap.size := e; omega)).trans hi.r2
    have v3 := (o9.block R3 (gI hi.r3).1 (fun e => by have e' : R3 = wA.heap.size := e; omega)).trans hi.r3
    refine leave_mark hk3 (leave_cells2 R2 R3 rfl rfl rfl ((cell_of_row _ _ 0 _ 22 (0, 0) v2).trans rfl) ((cell_of_row _ _ 0 _ 4 (0, 0) v3).trans rfl) ?_)
    have hL : tagsL l = [] := by unfold tagsL; rw [hi.bad]; rfl
    rw [hL, hi.bad]
    exact ⟨none, 0, rfl, Oe.nil _ _, Below.only hbW o9 hbW.size (fun j e => by have e' : j = wA.heap.size := e; omega)⟩
  case hround =>
    rintro c ⟨k, x⟩ W hx hi hSame hsz
    have hks := HB.out.2.2.2.1 _ (by rw [← HB.out.2.2.2.2.1]; exact List.mem_of_getElem? hx)
    have hn := HB.out.2.2.2.2.2
    clear hit hKlt hDK hDout hSame
    dsimp only
    gi_wp2
    refine ⟨Only.refl _ _, fun W2 ho2 => ?_⟩
    have hi2 := hi.other HZ.out.1 ho2
    have hz2 : wA.heap.size + 4 ≤ W2.heap.size := Nat.le_trans hsz ho2.size
    have h177 := tag177 k x W2 hks
    clear hi ho2 hsz hks
    cases hv : tgV k x with
    | false =>
      rw [hv] at h177
      have hbad : mayT l = false := by
        rw [Bool.eq_false_iff]
        intro hm
        have := mayT_mem hm (List.mem_of_getElem? hx)
        rw [hv] at this
        cases this
      have hX : ∀ W3, Below W2.heap.size W2 W3 → W3.cell? ⟨R2, 0, none⟩ = some (.slice none 0 0) ∧ W3.frozen? ⟨R2, 0, none⟩ = false ∧ (W3.setCell ⟨R2, 0, none⟩ (.slice none 0 0)).cell? ⟨R3, 0, none⟩ = some (.bool false) ∧ (W3.setCell ⟨R2, 0, none⟩ (.slice none 0 0)).frozen? ⟨R3, 0, none⟩ = false ∧ Hid (Only (fun j => (j = Lb ∨ j = Ob ∨ j = R2 ∨ j = R3) ∨ wA.heap.size + 4 ≤ j) W2 ((W3.setCell ⟨R2, 0, none⟩ (.slice none 0 0)).setCell ⟨R3, 0, none⟩ (.bool false)) ∧ TgX wA Lb Ob R2 R3 l ((W3.setCell ⟨R2, 0, none⟩ (.slice none 0 0)).setCell ⟨R3, 0, none⟩ (.bool false))) := fun W3 h3 => by
        obtain ⟨hz, hlow, -, sA, -⟩ := HZ.out
        have r2 := (h3.block _ (gI hi2.r2).1).trans hi2.r2
        have r3 := (h3.block _ (gI hi2.r3).1).trans hi2.r3
        obtain ⟨u2, o2⟩ := set_one (i := 0) (.slice none 0 0) r2
        have r3' := (o2.block R3 (gI r3).1 (fun e => by have e' : R3 = R2 := e; omega)).trans r3
        obtain ⟨u3, o3⟩ := set_one (i := 0) (.bool false) r3'
        have u2' := (o3.block R2 (gI u2).1 (fun e => by have e' : R2 = R3 := e; omega)).trans u2
        have oo : Only (fun j => (j = Lb ∨ j = Ob ∨ j = R2 ∨ j = R3) ∨ wA.heap.size + 4 ≤ j) W2 ((W3.setCell ⟨R2, 0, none⟩ (.slice none 0 0)).setCell ⟨R3, 0, none⟩ (.bool false)) := ((below_only h3).next (o2.mono (fun j _ e => .inl (.inr (.inr (.inl e)))))).next (o3.mono (fun j _ e => .inl (.inr (.inr (.inr e)))))
        exact ⟨(cell_of_row _ _ 0 _ 22 (0, 0) r2).trans rfl, frozen_of_row _ _ 0 _ 22 r2, (cell_of_row _ _ 0 _ 4 (0, 0) r3').trans rfl, frozen_of_row _ _ 0 _ 4 r3', hide ⟨oo, hi2.only.next oo, by simpa using u2', by simpa using u3, hbad⟩⟩
      have HX := hide hX
      obtain ⟨s, hs⟩ : ∃ s, s = tgS k x := ⟨_, rfl⟩
      rw [← hs] at h177
      clear hs hX hi2 hv hbad hx hn hz2
      obtain ⟨g, r, lb, n, ix⟩ := s
      dsimp only [svT] at h177
      gi_wp2_with (refine ⟨trivial, CallsIn.inRound _ (callsIn_wide.2 (Calls.mono h177 ?_))⟩; rintro e w5 ⟨rfl, b5⟩; obtain ⟨e1, e2, e3, e4, HY⟩ := HX.out (w5.alloc (.cells #[.int .i64 g, .int .i64 r, .string lb, .int .i64 n, .int .i64 ix] 43)) (b5.trans (((Below.refl _ w5).alloc (Nat.le_refl _) _).mono b5.size)); clear b5; dsimp only)
      exact ⟨HY.out.1, rfl, HY.out.2⟩
    | true =>
      rw [hv] at h177
      obtain ⟨s, hs⟩ : ∃ s, s = tgS k x := ⟨_, rfl⟩
      rw [← hs] at h177
      obtain ⟨ao, cp, hbx, hO, hwh⟩ := hi2.box
      have hcl := (List.getElem?_eq_some_iff.1 hx).1
      have hpl : ((l.map tgE).take c).length = c := by rw [List.length_take, List.length_map]; omega
      have htk : (l.map tgE).take (c + 1) = (l.map tgE).take c ++ [(s, x)] := by
        rw [List.take_add_one, List.getElem?_map, hx, hs]
        rfl
      obtain ⟨g, r, lb, n, ix⟩ := s
      dsimp only [svT] at h177
      have hR : ∀ w5, Below W2.heap.size W2 w5 → ∃ a' c' w8, (Builtin.append_ #[22, 22] 22 #[.slice ao c cp, .slice (some ⟨w5.heap.size + 1, 0, none⟩) 1 1]).run Tryz.prog ((w5.alloc (.cells #[.int .i64 g, .int .i64 r, .string lb, .int .i64 n, .int .i64 ix] 43)).alloc (.cells #[.int .i64 g, .int .i64 r, .string lb, .int .i64 n, .int .i64 ix, .string x] 53)) = .ok (.slice a' (c + 1) c') w8 ∧ (w5.alloc (.cells #[.int .i64 g, .int .i64 r, .string lb, .int .i64 n, .int .i64 ix] 43)).cell? ⟨Lb, 0, none⟩ = some (.slice ao c cp) ∧ w8.cell? ⟨Lb, 0, none⟩ = some (.slice ao c cp) ∧ w8.frozen? ⟨Lb, 0, none⟩ = false ∧ Hid (Only (fun j => (j = Lb ∨ j = Ob ∨ j = R2 ∨ j = R3) ∨ wA.heap.size + 4 ≤ j) W2 (w8.setCell ⟨Lb, 0, none⟩ (.slice a' (c + 1) c')) ∧ TgI wA Lb Ob R2 R3 w.heap.size l (c + 1) (w8.setCell ⟨Lb, 0, none⟩ (.slice a' (c + 1) c'))) := fun w5 h5 => by
        obtain ⟨hz, hlow, bwA, sA, -⟩ := HZ.out
        have b6 : Below w5.heap.size w5 (w5.alloc (.cells #[.int .i64 g, .int .i64 r, .string lb, .int .i64 n, .int .i64 ix] 43)) := (Below.refl _ w5).alloc (Nat.le_refl _) _
        have b7 : Below (w5.alloc (.cells #[.int .i64 g, .int .i64 r, .string lb, .int .i64 n, .int .i64 ix] 43)).heap.size (w5.alloc (.cells #[.int .i64 g, .int .i64 r, .string lb, .int .i64 n, .int .i64 ix] 43)) ((w5.alloc (.cells #[.int .i64 g, .int .i64 r, .string lb, .int .i64 n, .int .i64 ix] 43)).alloc (.cells #[.int .i64 g, .int .i64 r, .string lb, .int .i64 n, .int .i64 ix, .string x] 53)) := (Below.refl _ _).alloc (Nat.le_refl _) _
        have h6 := h5.trans (b6.mono h5.size)
        have h7 := h6.trans (b7.mono h6.size)
        have hm := heap_alloc_new (w5.alloc (.cells #[.int .i64 g, .int .i64 r, .string lb, .int .i64 n, .int .i64 ix] 43)) (.cells #[.int .i64 g, .int .i64 r, .string lb, .int .i64 n, .int .i64 ix, .string x] 53)
        have hsz6 : (w5.alloc (.cells #[.int .i64 g, .int .i64 r, .string lb, .int .i64 n, .int .i64 ix] 43)).heap.size = w5.heap.size + 1 := by simp
        rw [hsz6] at hm
        generalize hw7 : (w5.alloc (.cells #[.int .i64 g, .int .i64 r, .string lb, .int .i64 n, .int .i64 ix] 43)).alloc (.cells #[.int .i64 g, .int .i64 r, .string lb, .int .i64 n, .int .i64 ix, .string x] 53) = w7 at h7 hm ⊢
        clear hw7 b7
        have hO7 := hO.below h7
        obtain ⟨a', c', w8, hr, hO8, ho8, hW8⟩ := push_OeW (y := ((g, r, lb, n, ix), x)) hO7 hm (by rw [hpl]; omega) (by have := h7.size; have := bwA.size; omega)
        rw [hpl] at hr hO8 hW8
        have bx7 := (h7.block _ (gI hbx).1).trans hbx
        have nown : ∀ j, j < wA.heap.size → j ≠ Ob → ¬ (Value.slice ao c cp).ownBlock = some j := fun j h1 h2 e => by have := hwh j e; omega
        have bx8 := (ho8.block Lb (gI bx7).1 (nown Lb (by omega) (by omega))).trans bx7
        obtain ⟨u9, o9⟩ := set_one (i := 0) (.slice a' (c + 1) c') bx8
        have q2 := (h7.block _ (gI hi2.r2).1).trans hi2.r2
        have q3 := (h7.block _ (gI hi2.r3).1).trans hi2.r3
        have q2' := (ho8.block R2 (gI q2).1 (nown R2 (by omega) (by omega))).trans q2
        have q3' := (ho8.block R3 (gI q3).1 (nown R3 (by omega) (by omega))).trans q3
        have q2'' := (o9.block R2 (gI q2').1 (fun e => by have e' : R2 = Lb := e; omega)).trans q2'
        have q3'' := (o9.block R3 (gI q3').1 (fun e => by have e' : R3 = Lb := e; omega)).trans q3'
        have hW9 : ∀ j, (Value.slice a' (c + 1) c').ownBlock = some j → j = Ob ∨ wA.heap.size + 4 ≤ j := fun j hj => by
          rcases hW8 j hj with h | h
          · exact hwh j h
          · have := h7.size; omega
        have oo : Only (fun j => (j = Lb ∨ j = Ob ∨ j = R2 ∨ j = R3) ∨ wA.heap.size + 4 ≤ j) W2 (w8.setCell ⟨Lb, 0, none⟩ (.slice a' (c + 1) c')) := ((below_only h7).next (ho8.mono (fun j _ e => by have := hwh j e; omega))).next (o9.mono (fun j _ e => .inl (.inl e)))
        have c6 := cell_stays ((cell_of_row _ _ 0 _ 22 (0, 0) hbx).trans rfl : W2.cell? ⟨Lb, 0, none⟩ = some (.slice ao c cp)) h6
        refine ⟨a', c', w8, hr, c6, (cell_of_row _ _ 0 _ 22 (0, 0) bx8).trans rfl, frozen_of_row _ _ 0 _ 22 bx8, hide ⟨oo, hi2.only.next oo, q2'', q3'', fun j y hj hy => ?_, by omega, a', c', by simpa using u9, ?_, hW9⟩⟩
        · by_cases h : j < c
          · exact hi2.ok j y h hy
          · obtain rfl : j = c := by omega
            rw [hx] at hy
            injection hy with hy
            rw [← hy]; exact hv
        · rw [htk]
          exact hO8.only o9 (fun j hj e => by have e' : j = Lb := e; have := hW9 j hj; omega)
      have HR := hide hR
      clear hs hR hi2 hv hbx hO hwh hcl hpl htk hx hn hz2
      gi_wp2_with (first
        | (refine ⟨trivial, CallsIn.inRound _ (callsIn_wide.2 (Calls.mono h177 ?_))⟩; rintro e w5 ⟨rfl, b5⟩; obtain ⟨a', c', w8, r1, e1, e2, e3, HY⟩ := HR.out w5 b5; clear b5; dsimp only)
        | (gi_at_builtin; refine turn_in (OP := .call { callee := .builtin .append, args := #[.tmp 24, .tmp 28], argTypes := #[22, 22] }) (T := 22) rfl rfl rfl (by intro c e; cases e) (exec_append rfl rfl r1) ?_))
      exact HY.out
end Go.Proofs.YtkkpdgfllnbigaaGreat.Tg
