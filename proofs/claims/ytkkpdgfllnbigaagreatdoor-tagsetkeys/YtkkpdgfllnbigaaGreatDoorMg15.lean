/-
  tagset: Key (71), the stamp in a key (102).
  tagset: the document's Key (65).
-/
import Derived.Test.YtkkpdgfllnbigaaGreatDoorMg14
import Derived.Test.YtkkpdgfllnbigaaGreatDoorMg12
import Derived.Test.YtkkpdgfllnbigaaGreatDoorRefKey
namespace Go.Proofs.YtkkpdgfllnbigaaGreatDoor.Tg
open Go.RowKit Go.Shelf
set_option linter.unusedSimpArgs false
attribute [local go_sem] Oper.semAt_some

theorem mayText129 (s : ByteArray) (w : World) : Calls Tryz.prog 21 #[.string s] w fun e w' => e = .returned (.bool (txtB s)) ∧ w' = w := by
  unfold txtB
  by_cases h : s.size ≤ 256
  · have h1 : (s.size : Int) ≤ 256 := by omega
    have h2 : decide ((s.size : Int) ≤ 256) = true := by simpa using h1
    have h3 : decide (s.size ≤ 256) = true := by simpa using h
    rw [h3]
    go_enter Tryz.func21, Tryz.ntmps21
    go_wp2
    go_ret
    exact ⟨rfl, rfl⟩
  · have h1 : ¬ (s.size : Int) ≤ 256 := by omega
    have h2 : decide ((s.size : Int) ≤ 256) = false := by simpa using h1
    have h3 : decide (s.size ≤ 256) = false := by simpa using h
    rw [h3]
    go_enter Tryz.func21, Tryz.ntmps21
    go_wp2
    go_ret
    exact ⟨rfl, rfl⟩
theorem frB_size {X : ByteArray} (h : txtB X = true) : X.size ≤ 256 ∧ (frB X).size ≤ 514 := by
  have h1 : X.size ≤ 256 := by simpa [txtB] using h
  refine ⟨h1, ?_⟩
  have h2 := (esc_len X.data.toList).2
  have h3 : X.data.toList.length = X.size := (Lib.size_eq X).symm
  have h4 : (frB X).size = (esc X.data.toList ++ [0, 0]).length := by
    show (esc X.data.toList ++ [0, 0]).toArray.size = _
    simp
  rw [h4, List.length_append]
  simp only [List.length_cons, List.length_nil]
  omega
theorem tkey_size {X : ByteArray} {s : St} (hX : txtB X = true) (hs : stV s = true) : (tkey X s).size ≤ 1000 := by
  have h1 := (frB_size hX).2
  have h2 := keyT_size hs
  unfold tkey
  rw [ByteArray.size_append]
  omega
theorem tset5 {w : World} {B : Nat} {x0 x1 x2 x3 x4 : Value} {ty : TypeId} (a b c d e : Value) (h : w.heap[B]? = some (.cells #[x0, x1, x2, x3, x4] ty (0, 0))) : (((((w.setCell ⟨B, 0, none⟩ a).setCell ⟨B, 1, none⟩ b).setCell ⟨B, 2, none⟩ c).setCell ⟨B, 3, none⟩ d).setCell ⟨B, 4, none⟩ e).heap[B]? = some (.cells #[a, b, c, d, e] ty (0, 0)) ∧ Only (fun j => j = B) w (((((w.setCell ⟨B, 0, none⟩ a).setCell ⟨B, 1, none⟩ b).setCell ⟨B, 2, none⟩ c).setCell ⟨B, 3, none⟩ d).setCell ⟨B, 4, none⟩ e) := by
  obtain ⟨h1, o1⟩ := set_one (i := 0) a h
  obtain ⟨h2, o2⟩ := set_one (i := 1) b h1
  obtain ⟨h3, o3⟩ := set_one (i := 2) c h2
  obtain ⟨h4, o4⟩ := set_one (i := 3) d h3
  obtain ⟨h5, o5⟩ := set_one (i := 4) e h4
  exact ⟨by simpa using h5, (((o1.next o2).next o3).next o4).next o5⟩
theorem T43 : (Tryz.prog.info? 27).map (·.size) = some 5 := by kernel_rfl
/-- A tag's key, or that it may not be. -/
def keyE (x : El) : ByteArray := if okEl x = true then tkey x.2 x.1 else ⟨#[]⟩
set_option maxHeartbeats 2000000 in
theorem key109 (X : ByteArray) (s : St) (w : World) : Calls Tryz.prog 5 #[.string X, svT s] w fun e w' => e = .returned (.tuple #[.string (keyE (s, X)), .int .i64 (if okEl (s, X) = true then 0 else 2)]) ∧ Below w.heap.size w w' := by
  obtain ⟨g, r, lb, n, ix⟩ := s
  obtain ⟨w0, hw0⟩ : ∃ q, q = w.alloc (.cells #[.int .i64 g, .int .i64 r, .string lb, .int .i64 n, .int .i64 ix] 27) := ⟨_, rfl⟩
  have m := heap_alloc_new w (.cells #[.int .i64 g, .int .i64 r, .string lb, .int .i64 n, .int .i64 ix] 27)
  have b0 : Below w.heap.size w (w.alloc (.cells #[.int .i64 g, .int .i64 r, .string lb, .int .i64 n, .int .i64 ix] 27)) := (Below.refl _ w).alloc (Nat.le_refl _) _
  rw [← hw0] at m b0
  have hk := keyT_any (g, r, lb, n, ix) w0
  have htx := fun W => mayText129 X W
  have hfr := fun W (h : txtB X = true) => front165 X W (frB_size h).1
  have hsz := fun (h : txtB X = true) (h2 : stV (g, r, lb, n, ix) = true) => tkey_size h h2
  have hsz2 := fun (h : txtB X = true) => (frB_size h).2
  have c0 := (cell_of_row _ _ 0 _ 27 (0, 0) m).trans rfl
  have c1 := (cell_of_row _ _ 1 _ 27 (0, 0) m).trans rfl
  have c2 := (cell_of_row _ _ 2 _ 27 (0, 0) m).trans rfl
  have c3 := (cell_of_row _ _ 3 _ 27 (0, 0) m).trans rfl
  have c4 := (cell_of_row _ _ 4 _ 27 (0, 0) m).trans rfl
  have HB := hide b0
  have HW0 := hide hw0
  have hok : okEl ((g, r, lb, n, ix), X) = (stV (g, r, lb, n, ix) && txtB X) := rfl
  unfold keyE
  rw [hok]
  have hks := fun (h : stV (g, r, lb, n, ix) = true) => keyT_size h
  unfold tkey at hsz ⊢
  dsimp only [svT, sv] at hk ⊢
  generalize keyT (g, r, lb, n, ix) = KT at *
  generalize frB X = FR at *
  generalize stV (g, r, lb, n, ix) = V at *
  generalize txtB X = TX at *
  clear hok m b0 hw0
  cases V with
  | false =>
    clear hks hsz hsz2 hfr
    go_enter Tryz.func5, Tryz.ntmps5
    go_upto_region 1 with fail
    rw [← HW0.out]
    go_wp2_with (go_at_call 20; refine hk.mono ?_; rintro e w1 ⟨rfl, b1⟩; replace HB := hide (HB.out.trans (b1.mono HB.out.size)); clear b1; dsimp only)
    go_ret2
    exact ⟨rfl, HB.out⟩
  | true =>
    cases TX with
    | false =>
      clear hks hsz hsz2 hfr
      go_enter Tryz.func5, Tryz.ntmps5
      go_upto_region 1 with fail
      rw [← HW0.out]
      go_wp2_with (first
        | (go_at_call 20; refine hk.mono ?_; rintro e w1 ⟨rfl, b1⟩; replace HB := hide (HB.out.trans (b1.mono HB.out.size)); clear b1; dsimp only)
        | (go_at_call 21; refine (htx _).mono ?_; rintro e w2 ⟨rfl, hw⟩; replace hw := hw.symm; subst hw; dsimp only))
      go_ret2
      exact ⟨rfl, HB.out⟩
    | true =>
      have h1 := hks rfl
      have h2 := hsz2 rfl
      have f1 : ¬ 9223372036854775807 < FR.size + KT.size := by omega
      clear hks hsz hsz2 h1 h2
      replace hfr := fun W => hfr W rfl
      go_enter Tryz.func5, Tryz.ntmps5
      go_upto_region 1 with fail
      rw [← HW0.out]
      go_wp2_with (first
        | (go_at_call 20; refine hk.mono ?_; rintro e w1 ⟨rfl, b1⟩; replace HB := hide (HB.out.trans (b1.mono HB.out.size)); clear b1; dsimp only)
        | (go_at_call 21; refine (htx _).mono ?_; rintro e w2 ⟨rfl, hw⟩; replace hw := hw.symm; subst hw; dsimp only)
        | (go_at_call 22; refine (hfr _).mono ?_; rintro e w3 ⟨rfl, b3⟩; replace HB := hide (HB.out.trans (b3.mono HB.out.size)); clear b3; dsimp only))
      go_ret2
      exact ⟨rfl, HB.out⟩
set_option maxHeartbeats 4000000 in
set_option maxRecDepth 100000 in
theorem tag177 (K X : ByteArray) (w : World) (hK : K.size ≤ 9223372036854775807) : Calls Tryz.prog 25 #[.string K, .string X] w fun e w' => e = .returned (.tuple #[svT (tgS K X), .bool (tgV K X)]) ∧ Below w.heap.size w w' := by
  obtain ⟨w0, hw0⟩ : ∃ q, q = w.alloc (.cells #[.int .i64 0, .int .i64 0, .string ⟨#[]⟩, .int .i64 0, .int .i64 0] 27) := ⟨_, rfl⟩
  have m := heap_alloc_new w (.cells #[.int .i64 0, .int .i64 0, .string ⟨#[]⟩, .int .i64 0, .int .i64 0] 27)
  have b0 : Below w.heap.size w (w.alloc (.cells #[.int .i64 0, .int .i64 0, .string ⟨#[]⟩, .int .i64 0, .int .i64 0] 27)) := (Below.refl _ w).alloc (Nat.le_refl _) _
  rw [← hw0] at m b0
  obtain ⟨Eb, hEb⟩ : ∃ q, q = w.heap.size := ⟨_, rfl⟩
  rw [← hEb] at m
  have HC : Hid (∀ W, Below w0.heap.size w0 W → W.heap[Eb]? = some (.cells #[.int .i64 0, .int .i64 0, .string ⟨#[]⟩, .int .i64 0, .int .i64 0] 27 (0, 0)) ∧ Below w.heap.size w W) := hide (fun W hW => ⟨(hW.block _ (gI m).1).trans m, b0.trans (hW.mono b0.size)⟩)
  have HW0 := hide (And.intro hw0 hEb)
  have HLT := hide (gI m).1
  have htx := fun W => mayText129 X W
  have hfr := fun W (h : txtB X = true) => front165 X W (frB_size h).1
  have hcp := fun W => cutPrefix211 K (frB X) W
  have hok := fun W => ofKeyT_any (rest (frB X) K) W (by
    have h1 : (rest (frB X) K).size ≤ K.size := by unfold rest; rw [ByteArray.size_extract]; omega
    omega)
  have hS : tgS K X = if (txtB X && pre (frB X) K) = true then ofT (rest (frB X) K) else zS := rfl
  have hV : tgV K X = (txtB X && (pre (frB X) K && okV (rest (frB X) K))) := rfl
  rw [hS, hV]
  clear hS hV m b0 hw0 hEb hK
  generalize ofT (rest (frB X) K) = S at *
  generalize okV (rest (frB X) K) = V at *
  generalize rest (frB X) K = RS at *
  generalize pre (frB X) K = P at *
  generalize frB X = FR at *
  generalize txtB X = TX at *
  cases TX with
  | false =>
    clear hfr hcp hok
    go_enter Tryz.func25, Tryz.ntmps25
    go_upto_region 1 with fail
    rw [← HW0.out.1, ← HW0.out.2]
    go_upto_region 2 with (go_at_call 21; refine (htx _).mono ?_; rintro e w2 ⟨rfl, hw⟩; replace hw := hw.symm; subst hw; dsimp only)
    obtain ⟨e5, bw5⟩ := HC.out w0 (Below.refl _ _)
    obtain ⟨u7, o7⟩ := tset5 (.int .i64 0) (.int .i64 0) (.string ⟨#[]⟩) (.int .i64 0) (.int .i64 0) e5
    have b7 := Below.only bw5 o7 bw5.size (fun j e => by have e' : j = Eb := e; have := HW0.out.2; omega)
    have HE := hide (And.intro u7 b7)
    have d0 : w0.cell? ⟨Eb, 0, none⟩ = some (.int .i64 0) := (cell_of_row _ _ 0 _ 27 (0, 0) e5).trans rfl
    have d1 : w0.cell? ⟨Eb, 1, none⟩ = some (.int .i64 0) := (cell_of_row _ _ 1 _ 27 (0, 0) e5).trans rfl
    have d2 : w0.cell? ⟨Eb, 2, none⟩ = some (.string ⟨#[]⟩) := (cell_of_row _ _ 2 _ 27 (0, 0) e5).trans rfl
    have d3 : w0.cell? ⟨Eb, 3, none⟩ = some (.int .i64 0) := (cell_of_row _ _ 3 _ 27 (0, 0) e5).trans rfl
    have d4 : w0.cell? ⟨Eb, 4, none⟩ = some (.int .i64 0) := (cell_of_row _ _ 4 _ 27 (0, 0) e5).trans rfl
    have g0 := frozen_of_row w0 Eb 0 _ 27 e5
    have g1 := frozen_of_row w0 Eb 1 _ 27 e5
    have g2 := frozen_of_row w0 Eb 2 _ 27 e5
    have g3 := frozen_of_row w0 Eb 3 _ 27 e5
    have g4 := frozen_of_row w0 Eb 4 _ 27 e5
    clear u7 o7 e5 bw5 b7
    go_wp2
    refine ret_row_tmp Eb [.int .i64 0, .int .i64 0, .string ⟨#[]⟩, .int .i64 0, .int .i64 0] rfl rfl rfl Tryz.underlying27 rfl T43 HE.out.1 rfl ?_
    exact ⟨rfl, HE.out.2⟩
  | true =>
    replace hfr := fun W => hfr W rfl
    cases P with
    | false =>
      clear hok
      rw [show (true && false) = false from rfl]
      go_enter Tryz.func25, Tryz.ntmps25
      go_upto_region 1 with fail
      rw [← HW0.out.1, ← HW0.out.2]
      go_upto_region 5 with (first
        | (go_at_call 21; refine (htx _).mono ?_; rintro e w2 ⟨rfl, hw⟩; replace hw := hw.symm; subst hw; dsimp only)
        | (go_at_call 22; refine (hfr _).mono ?_; rintro e w3 ⟨rfl, b3⟩; have H3 := hide b3; clear b3; dsimp only)
        | (go_at_call 41; refine (hcp _).mono ?_; rintro e w4 ⟨rfl, hw⟩; replace hw := hw.symm; subst hw; dsimp only))
      obtain ⟨w5, hw5⟩ : ∃ q, w3 = q := ⟨_, rfl⟩
      rw [hw5] at H3 ⊢
      clear hw5
      obtain ⟨e5, bw5⟩ := HC.out w5 H3.out
      obtain ⟨u7, o7⟩ := tset5 (.int .i64 0) (.int .i64 0) (.string ⟨#[]⟩) (.int .i64 0) (.int .i64 0) e5
      have b7 := Below.only bw5 o7 bw5.size (fun j e => by have e' : j = Eb := e; have := HW0.out.2; omega)
      have HE := hide (And.intro u7 b7)
      have d0 : w5.cell? ⟨Eb, 0, none⟩ = some (.int .i64 0) := (cell_of_row _ _ 0 _ 27 (0, 0) e5).trans rfl
      have d1 : w5.cell? ⟨Eb, 1, none⟩ = some (.int .i64 0) := (cell_of_row _ _ 1 _ 27 (0, 0) e5).trans rfl
      have d2 : w5.cell? ⟨Eb, 2, none⟩ = some (.string ⟨#[]⟩) := (cell_of_row _ _ 2 _ 27 (0, 0) e5).trans rfl
      have d3 : w5.cell? ⟨Eb, 3, none⟩ = some (.int .i64 0) := (cell_of_row _ _ 3 _ 27 (0, 0) e5).trans rfl
      have d4 : w5.cell? ⟨Eb, 4, none⟩ = some (.int .i64 0) := (cell_of_row _ _ 4 _ 27 (0, 0) e5).trans rfl
      have g0 := frozen_of_row w5 Eb 0 _ 27 e5
      have g1 := frozen_of_row w5 Eb 1 _ 27 e5
      have g2 := frozen_of_row w5 Eb 2 _ 27 e5
      have g3 := frozen_of_row w5 Eb 3 _ 27 e5
      have g4 := frozen_of_row w5 Eb 4 _ 27 e5
      clear u7 o7 e5 bw5 b7
      go_wp2
      refine ret_row_tmp Eb [.int .i64 0, .int .i64 0, .string ⟨#[]⟩, .int .i64 0, .int .i64 0] rfl rfl rfl Tryz.underlying27 rfl T43 HE.out.1 rfl ?_
      exact ⟨rfl, HE.out.2⟩
    | true =>
      rw [show (true && true) = true from rfl, if_pos rfl] at *
      obtain ⟨g, r, lb, n, ix⟩ := S
      dsimp only [svT, sv] at hok ⊢
      obtain ⟨EC, hEC⟩ : ∃ q : Int, q = (if V = true then 0 else 4) := ⟨_, rfl⟩
      rw [← hEC] at hok
      have HEC : Hid ((EC = 0) ↔ V = true) := hide (by rw [hEC]; cases V <;> simp)
      clear hEC
      go_enter Tryz.func25, Tryz.ntmps25
      go_upto_region 1 with fail
      rw [← HW0.out.1, ← HW0.out.2]
      go_upto_region 7 with (first
        | (go_at_call 21; refine (htx _).mono ?_; rintro e w2 ⟨rfl, hw⟩; replace hw := hw.symm; subst hw; dsimp only)
        | (go_at_call 22; refine (hfr _).mono ?_; rintro e w3 ⟨rfl, b3⟩; have H3 := hide b3; clear b3; dsimp only)
        | (go_at_call 41; refine (hcp _).mono ?_; rintro e w4 ⟨rfl, hw⟩; replace hw := hw.symm; subst hw; dsimp only)
        | (go_at_call 42; refine (hok _).mono ?_; rintro e w6 ⟨rfl, b6⟩; have H6 := hide (H3.out.trans (b6.mono H3.out.size)); clear b6; dsimp only))
      obtain ⟨w7, hw7⟩ : ∃ q, q = w6.alloc (.cells #[.int .i64 g, .int .i64 r, .string lb, .int .i64 n, .int .i64 ix] 27) := ⟨_, rfl⟩
      have m7 := heap_alloc_new w6 (.cells #[.int .i64 g, .int .i64 r, .string lb, .int .i64 n, .int .i64 ix] 27)
      rw [← hw7] at m7
      have b7' : Below w0.heap.size w0 w7 := H6.out.trans ((by rw [hw7]; exact (Below.refl _ w6).alloc (Nat.le_refl _) _ : Below w6.heap.size w6 w7).mono H6.out.size)
      obtain ⟨Sb, hSb⟩ : ∃ q, q = w6.heap.size := ⟨_, rfl⟩
      rw [← hw7, ← hSb]
      rw [← hSb] at m7
      have k0 : w7.cell? ⟨Sb, 0, none⟩ = some (.int .i64 g) := (cell_of_row _ _ 0 _ 27 (0, 0) m7).trans rfl
      have k1 : w7.cell? ⟨Sb, 1, none⟩ = some (.int .i64 r) := (cell_of_row _ _ 1 _ 27 (0, 0) m7).trans rfl
      have k2 : w7.cell? ⟨Sb, 2, none⟩ = some (.string lb) := (cell_of_row _ _ 2 _ 27 (0, 0) m7).trans rfl
      have k3 : w7.cell? ⟨Sb, 3, none⟩ = some (.int .i64 n) := (cell_of_row _ _ 3 _ 27 (0, 0) m7).trans rfl
      have k4 : w7.cell? ⟨Sb, 4, none⟩ = some (.int .i64 ix) := (cell_of_row _ _ 4 _ 27 (0, 0) m7).trans rfl
      have ne1 : ¬ Sb = Eb := by have := H6.out.size; have := HLT.out; omega
      have ne2 : ¬ Eb = Sb := by omega
      clear hSb hw7
      obtain ⟨e5, bw5⟩ := HC.out w7 b7'
      obtain ⟨u7, o7⟩ := tset5 (.int .i64 g) (.int .i64 r) (.string lb) (.int .i64 n) (.int .i64 ix) e5
      have b7 := Below.only bw5 o7 bw5.size (fun j e => by have e' : j = Eb := e; have := HW0.out.2; omega)
      have HE := hide (And.intro u7 b7)
      have d0 : w7.cell? ⟨Eb, 0, none⟩ = some (.int .i64 0) := (cell_of_row _ _ 0 _ 27 (0, 0) e5).trans rfl
      have d1 : w7.cell? ⟨Eb, 1, none⟩ = some (.int .i64 0) := (cell_of_row _ _ 1 _ 27 (0, 0) e5).trans rfl
      have d2 : w7.cell? ⟨Eb, 2, none⟩ = some (.string ⟨#[]⟩) := (cell_of_row _ _ 2 _ 27 (0, 0) e5).trans rfl
      have d3 : w7.cell? ⟨Eb, 3, none⟩ = some (.int .i64 0) := (cell_of_row _ _ 3 _ 27 (0, 0) e5).trans rfl
      have d4 : w7.cell? ⟨Eb, 4, none⟩ = some (.int .i64 0) := (cell_of_row _ _ 4 _ 27 (0, 0) e5).trans rfl
      have g0 := frozen_of_row w7 Eb 0 _ 27 e5
      have g1 := frozen_of_row w7 Eb 1 _ 27 e5
      have g2 := frozen_of_row w7 Eb 2 _ 27 e5
      have g3 := frozen_of_row w7 Eb 3 _ 27 e5
      have g4 := frozen_of_row w7 Eb 4 _ 27 e5
      clear u7 o7 e5 bw5 b7
      clear m7 b7'
      go_wp2
      refine ret_row_tmp Eb [.int .i64 g, .int .i64 r, .string lb, .int .i64 n, .int .i64 ix] rfl rfl rfl Tryz.underlying27 rfl T43 HE.out.1 rfl ?_
      have hbv : (EC == 0) = V := by rw [Bool.eq_iff_iff, beq_iff_eq]; exact HEC.out
      exact ⟨by rw [hbv]; rfl, HE.out.2⟩
end Go.Proofs.YtkkpdgfllnbigaaGreatDoor.Tg
namespace Go.Proofs.YtkkpdgfllnbigaaGreatDoor.Tg
open Go.RowKit Go.Shelf
set_option linter.unusedSimpArgs false
set_option linter.unusedVariables false
attribute [local go_sem] Oper.semAt_some

/-- An operation that turns the world and a call come up together, the operation ahead in the list. -/
theorem turn_call_op {P : Program} {md : Region.Mode} {ops : Array Oper} {Q : Exit → Act → World → Prop} {S : World → Prop} {i j : Nat} {oi oj : Oper} {di dj : Tmp} {OPi OPj : Op} {Ti Tj : TypeId} {f : FuncId} {args : Array Value} {u : Value} {fuel : Nat} {listed : Array Bool} {a : Act} {w w' : World}
    (hi : ops[i]? = some oi) (hdi : oi.dst = some di) (hoi : oi.op = OPi) (hti : oi.type = Ti) (hj : ops[j]? = some oj) (hdj : oj.dst = some dj) (hoj : oj.op = OPj) (htj : oj.type = Tj)
    (hr : Region.ready md ops listed = [j, i]) (hwi : Region.wanted oi (yielded ops a.tmps) = true) (hwj : Region.wanted oj (yielded ops a.tmps) = true)
    (hyi : (execOp a.eval { dst := none, op := OPi, type := Ti, pos := "", after := #[], guard := none }).run P w = .ok (.enter f args) w)
    (hyj : (execOp a.eval { dst := none, op := OPj, type := Tj, pos := "", after := #[], guard := none }).run P w = .ok (.value u) w')
    (hS' : S w')
    (h1 : Calls P f args w fun e w1 => ∃ v, e = .returned v ∧ S w1 ∧ wpAnyH P md ops Q S fuel (listed.setIfInBounds i true) (a.put (some di) v) w1) (h2 : wpAnyH P md ops Q S fuel (listed.setIfInBounds j true) (a.put (some dj) u) w') : wpAnyH P md ops Q S (fuel + 1) listed a w := by
  refine wpAnyH_ready hr (by simp) (AllReadyH.cons hj (fun K hK => ?_) (AllReadyH.cons hi (fun K hK => ?_) AllReadyH.nil))
  · rw [if_pos hwj]
    unfold Oper.wp
    rw [exec_same a.eval oj hoj htj, hyj]
    show K (a.put oj.dst u) w'
    rw [hdj]
    exact hK.out _ _ hS' (fun _ => h2)
  · rw [if_pos hwi]
    unfold Oper.wp
    rw [exec_same a.eval oi hoi hti, hyi]
    refine Calls.mono h1 ?_
    rintro e w1 ⟨v, rfl, hS, hx⟩
    show K (a.put oi.dst v) w1
    rw [hdi]
    exact hK.out _ _ hS (fun _ => hx)
theorem exec_bs2 {a : Act} {T : TypeId} (w : World) : (execOp a.eval { dst := none, op := Op.buildSlice 64 2 #[(0, Operand.const (Value.int IntKind.u8 0)), (1, Operand.const (Value.int IntKind.u8 0))], type := T, pos := "", after := #[], guard := none }).run Tryz.prog w = .ok (.value (.slice (some ⟨w.heap.size, 0, none⟩) 2 2)) (w.alloc (.cells #[.int .u8 0, .int .u8 0] 5)) := by
  unfold execOp
  go_simp
theorem exec_cv {ev : Operand → Value} {x : Operand} {T : TypeId} {u v : Value} {w : World} (hx : ev x = u) (hr : (convert 64 9 u).run Tryz.prog w = .ok v w) :
    (execOp ev { dst := none, op := .convert 64 9 x, type := T, pos := "", after := #[], guard := none }).run Tryz.prog w = .ok (.value v) w := by
  simp [execOp, hx, hr, Result.andThen]
theorem conv_own {w : World} {B n c : Nat} {ao : Option Addr} {l : List Int} (h : Own 5 w B (.slice ao n c) l) : (convert 64 9 (.slice ao n c)).run Tryz.prog w = .ok (.string (strOfNums l)) w := by
  obtain ⟨a2, c2, hv2, hrd2, -⟩ := h.shape
  simp only [Value.slice.injEq] at hv2
  obtain ⟨rfl, rfl, rfl⟩ := hv2
  exact conv_rd hrd2 rfl
theorem two_behind {w : World} {B b : Nat} {v : Value} {p : List Int} (hown : Own 5 w B v p) (hcell : w.heap[b]? = some (.cells #[.int .u8 0, .int .u8 0] 5 (0, 0))) (hp : p.length + 2 ≤ 1000000) (hB : B ≤ w.heap.size) :
    ∃ a' c' w', (Builtin.append_ #[64, 64] 64 #[v, .slice (some ⟨b, 0, none⟩) 2 2]).run Tryz.prog w = .ok (.slice a' (p.length + 2) c') w' ∧ Own 5 w' B (.slice a' (p.length + 2) c') (p ++ [0, 0]) ∧ Below B w w' := by
  obtain ⟨i0, hi, hz0, hz1, hz2⟩ := info_parts Tryz.info5
  obtain ⟨v', w', hr, h2, h3, -⟩ := run_append_own (P := Tryz.prog) w B 64 64 5 i0 (.int .u8 0) 1 1 Tryz.underlying64 hi hz0 hz1 hz2 rfl (by decide) v p.length (u8s p) hown ⟨b, 0, none⟩ 2 2 [.int .u8 0, .int .u8 0] (by simp) (fun j u hj => by rw [add_lit, cell_of_row _ _ (0 + j) #[.int .u8 0, .int .u8 0] 5 (0, 0) hcell, Nat.zero_add]; simpa using hj) (fun u hu => u8s_one (l := [0, 0]) u (by simpa [u8s] using hu)) (by unfold maxLen; omega) (by omega) hB
  have hO : Own 5 w' B v' (p ++ [0, 0]) := by
    unfold Own
    rw [u8s_append, List.length_append]
    exact h2
  obtain ⟨a', c', hv, _, _⟩ := row_form hO
  subst hv
  rw [List.length_append] at hO hr
  exact ⟨a', c', w', hr, hO, (Below.refl B w).grown h3 hB (fun k hk => (World.ownsRow.lt hown k hk).1)⟩
set_option maxHeartbeats 4000000 in
set_option maxRecDepth 100000 in
theorem key122 (X : ByteArray) (s : St) (w : World) (hX : X.size ≤ 256) (hs : stV s = true) : Calls Tryz.prog 11 #[.string X, svT s] w fun e w' => e = .returned (.string (tkey X s)) ∧ Below w.heap.size w w' := by
  obtain ⟨g, r, lb, n, ix⟩ := s
  have hkey : ∀ W, Calls Tryz.prog 28 #[.agg #[.int .i64 g, .int .i64 r, .string lb, .int .i64 n, .int .i64 ix]] W fun e w' => e = .returned (.string (keyT (g, r, lb, n, ix))) ∧ Below W.heap.size W w' := fun W => by
    have hb := S_bounds hs
    dsimp only at hb
    exact refKey_any g r lb n ix W (by omega) (by omega) (by omega) (by omega) (by omega) (by omega) (by omega) (by omega) (by omega)
  obtain ⟨w0, hw0⟩ : ∃ q, q = w.alloc (.cells #[.int .i64 g, .int .i64 r, .string lb, .int .i64 n, .int .i64 ix] 27) := ⟨_, rfl⟩
  have m0 := heap_alloc_new w (.cells #[.int .i64 g, .int .i64 r, .string lb, .int .i64 n, .int .i64 ix] 27)
  have d0 : Below w.heap.size w w0 := by rw [hw0]; exact (Below.refl _ w).alloc (Nat.le_refl _) _
  rw [← hw0] at m0
  obtain ⟨Sb, hSb⟩ : ∃ q, q = w.heap.size := ⟨_, rfl⟩
  rw [← hSb] at m0
  have HS : Hid (∀ W, Below w0.heap.size w0 W → W.cell? ⟨Sb, 0, none⟩ = some (.int .i64 g) ∧ W.cell? ⟨Sb, 1, none⟩ = some (.int .i64 r) ∧ W.cell? ⟨Sb, 2, none⟩ = some (.string lb) ∧ W.cell? ⟨Sb, 3, none⟩ = some (.int .i64 n) ∧ W.cell? ⟨Sb, 4, none⟩ = some (.int .i64 ix)) := hide (fun W hW => by
    have q := (hW.block _ (gI m0).1).trans m0
    exact ⟨(cell_of_row _ _ 0 _ 27 (0, 0) q).trans rfl, (cell_of_row _ _ 1 _ 27 (0, 0) q).trans rfl, (cell_of_row _ _ 2 _ 27 (0, 0) q).trans rfl, (cell_of_row _ _ 3 _ 27 (0, 0) q).trans rfl, (cell_of_row _ _ 4 _ 27 (0, 0) q).trans rfl⟩)
  have HW := hide (And.intro hw0 (And.intro hSb d0))
  have hL := ints_size X
  obtain ⟨L, hLL⟩ : ∃ q, q = ints X.data.toList := ⟨_, rfl⟩
  rw [← hLL] at hL
  have hix : ∀ (k : Nat) (b : Int), L[k]? = some b → ∀ W, (Instr.index 9 (.string X) (.int .i64 (k : Int))).run Tryz.prog W = .ok (.int .u8 b) W := fun k b hb W => by
    have hk : k < X.size := by rw [← hL]; exact (List.getElem?_eq_some_iff.1 hb).1
    obtain ⟨x, hx, -, -, hr⟩ := at_string X k hk
    rw [hr W]
    rw [hLL] at hb
    unfold ints at hb
    rw [List.getElem?_map, List.getElem?_eq_getElem (by simpa using hk)] at hb
    simp only [Option.map_some, Option.some.injEq] at hb
    rw [← hb, hx]
    rfl
  have hfr : strOfNums (escI L ++ [0, 0]) = frB X := by
    rw [hLL, escI_ints, show ([0, 0] : List Int) = ints [0, 0] from rfl, ← ints_append, str_ints]
    rfl
  have hcat : ¬ 9223372036854775807 < (frB X).size + (keyT (g, r, lb, n, ix)).size := by
    have h1 := (frB_size (X := X) (by unfold txtB; simpa using hX)).2
    have h2 := keyT_size hs
    omega
  have HFIN : Hid (tkey X (g, r, lb, n, ix) = frB X ++ keyT (g, r, lb, n, ix)) := hide rfl
  have HL := hide (And.intro hL (And.intro hix hfr))
  dsimp only [svT, sv]
  clear hLL hix hfr hw0 hSb d0 m0 hL
  go_enter Tryz.func11, Tryz.ntmps11
  go_upto_region 1 with fail
  rw [← HW.out.1, ← HW.out.2.1]
  go_wp2
  go_loopw [5, 6] (fun v5 v6 wr => ∃ (k : Nat) (p : List Int), k ≤ X.size ∧ v6 = .int .i64 (k : Nat) ∧ Hid (p = escI (L.take k)) ∧ Hid (Own 5 wr w0.heap.size v5 p ∧ Below w0.heap.size w0 wr)) (fun _ v6 _ => X.size - (intOf v6).toNat)
  case atStart => exact ⟨0, [], Nat.zero_le _, rfl, hide rfl, hide ⟨Own.nil 5 _ _, Below.refl _ _⟩⟩
  case round =>
    obtain ⟨k, p, hk, rfl, hp, HI⟩ := hrel
    have hpl : p.length ≤ 512 := by
      rw [hp.out]
      have h1 := escI_len (L.take k)
      have h2 := HL.out.1
      rw [List.length_take] at h1
      omega
    by_cases hc : k < X.size
    · have z1 : (k : Int) < (X.size : Int) := by omega
      obtain ⟨b, hb⟩ : ∃ b, L[k]? = some b := ⟨_, List.getElem?_eq_getElem (by rw [HL.out.1]; exact hc)⟩
      have hix := HL.out.2.1 k b hb
      have hsn := escI_snoc L k b hb
      rw [← hp.out] at hsn
      obtain ⟨a1, c1, W3, hr1, hO1, hg1, -⟩ := pushW (HI.out.1.alloc (.cells #[.int .u8 b] 5)) (heap_alloc_new _ _) (by omega) (by have := HI.out.2.size; simp; omega)
      have bl1 := below_own (HI.out.2.alloc HI.out.2.size (.cells #[.int .u8 b] 5)) (by have := HI.out.2.size; simp; omega) (HI.out.1.alloc _) hg1
      by_cases hz : b = 0
      · subst hz
        rw [if_pos rfl] at hsn
        obtain ⟨a2, c2, W4, hr2, hO2, hg2, -⟩ := pushW (c := 1) (hO1.alloc (.cells #[.int .u8 1] 5)) (heap_alloc_new _ _) (by rw [List.length_append]; simp; omega) (by have := bl1.size; simp; omega)
        have bl2 := below_own (bl1.alloc bl1.size (.cells #[.int .u8 1] 5)) (by have := bl1.size; simp; omega) (hO1.alloc _) hg2
        have HN := hide (And.intro hsn (And.intro hO2 bl2))
        clear hsn hO1 hO2 hg1 hg2 bl1 bl2 hb hp
        go_wp2_with (first
          | (at_builtin; refine wpList_turn (OP := .call { callee := .builtin .append, args := #[.tmp 13, .tmp 17], argTypes := #[64, 64] }) (T := 64) rfl rfl rfl (exec_append rfl rfl hr1) ?_)
          | (at_builtin; refine wpList_turn (OP := .call { callee := .builtin .append, args := #[.tmp 23, .tmp 24], argTypes := #[64, 64] }) (T := 64) rfl rfl rfl (exec_append rfl rfl hr2) ?_))
        go_roundw
        case rel => exact ⟨k + 1, _, by omega, by go_num, hide rfl, hide ⟨by rw [HN.out.1]; simpa using HN.out.2.1, HN.out.2.2⟩⟩
        case measure => simp [intOf]; omega
      · rw [if_neg hz] at hsn
        have HN := hide (And.intro hsn (And.intro hO1 bl1))
        clear hsn hO1 hg1 bl1 hb hp
        go_wp2_with (at_builtin; refine wpList_turn (OP := .call { callee := .builtin .append, args := #[.tmp 13, .tmp 17], argTypes := #[64, 64] }) (T := 64) rfl rfl rfl (exec_append rfl rfl hr1) ?_)
        go_roundw
        case rel => exact ⟨k + 1, _, by omega, by go_num, hide rfl, hide ⟨by rw [HN.out.1]; exact HN.out.2.1, HN.out.2.2⟩⟩
        case measure => simp [intOf]; omega
    · have z1 : ¬ (k : Int) < (X.size : Int) := by omega
      have hE : p = escI L := by rw [hp.out, List.take_of_length_le (by rw [HL.out.1]; omega)]
      have HESC : Hid (strOfNums (p ++ [0, 0]) = frB X) := hide (by rw [hE]; exact HL.out.2.2)
      clear hE hp
      go_upto_region 8 with fail
      have hsd := HS.out wr HI.out.2
      refine wp_region_held_drew (S := fun w' => w'.cell? ⟨Sb, 0, none⟩ = some (.int .i64 g) ∧ w'.cell? ⟨Sb, 1, none⟩ = some (.int .i64 r) ∧ w'.cell? ⟨Sb, 2, none⟩ = some (.string lb) ∧ w'.cell? ⟨Sb, 3, none⟩ = some (.int .i64 n) ∧ w'.cell? ⟨Sb, 4, none⟩ = some (.int .i64 ix)) (by kernel_rfl) hsd (fun hHeld => ?_)
      clear hsd
      obtain ⟨Wd, hWd⟩ : ∃ q, q = wr.drew := ⟨_, rfl⟩
      have O0 := HI.out.1.below (drew_below wr)
      have b0 := HI.out.2.trans ((drew_below wr).mono HI.out.2.size)
      rw [← hWd] at hHeld O0 b0 ⊢
      clear hWd
      refine take_op (i := 0) (d := 26) (OP := Op.move (Operand.tmp 5)) (T := 64) (v := ?vky1) rfl rfl rfl rfl (by kernel_rfl) (by kernel_rfl) (by kernel_rfl) (fun _ _ _ h => h) (by rfl) ?hky1 hHeld ?rky1
      case hky1 => (intro w' hSw; (try dsimp only at hSw); go_simp <;> with_reducible rfl)
      try simp only [Act.put, sI, sZ, sS]
      refine take_op (i := 4) (d := 30) (OP := Op.load 27 (Operand.tmp 3)) (T := 27) (v := ?vky2) rfl rfl rfl rfl (by kernel_rfl) (by kernel_rfl) (by kernel_rfl) (fun _ _ _ h => h) (by rfl) ?hky2 hHeld ?rky2
      case hky2 => (intro w' hSw; (try dsimp only at hSw); go_simp <;> with_reducible rfl)
      try simp only [Act.put, sI, sZ, sS]
      obtain ⟨z1, ez1⟩ : ∃ q, q = Wd.alloc (.cells #[.int .u8 0, .int .u8 0] 5) := ⟨_, rfl⟩
      have mz1 : z1.heap[Wd.heap.size]? = some (.cells #[.int .u8 0, .int .u8 0] 5 (0, 0)) := by rw [ez1]; exact heap_alloc_new Wd _
      have dz1 : Below Wd.heap.size Wd z1 := by rw [ez1]; exact (Below.refl _ Wd).alloc (Nat.le_refl _) _
      have Oz1 := O0.below dz1
      have bz1 := b0.trans (dz1.mono b0.size)
      have sz1 := HS.out z1 bz1
      refine turn_op (i := 1) (d := 27) (OP := Op.buildSlice 64 2 #[(0, Operand.const (Value.int IntKind.u8 0)), (1, Operand.const (Value.int IntKind.u8 0))]) (T := 64) (v := .slice (some ⟨Wd.heap.size, 0, none⟩) 2 2) (w' := z1) rfl rfl rfl rfl (by kernel_rfl) (by rfl) (by rw [ez1]; exact exec_bs2 _) sz1 ?_
      try simp only [Act.put, sI, sZ, sS]
      obtain ⟨Az2, Cz2, z2, rz2, Oz2, dz2⟩ := two_behind Oz1 mz1 (by omega) bz1.size
      have bz2 := bz1.trans dz2
      have sz2 := HS.out z2 bz2
      refine turn_op (i := 2) (d := 28) (OP := Op.call { callee := Callee.builtin Builtin.append, args := #[Operand.tmp 26, Operand.tmp 27], argTypes := #[64, 64] }) (T := 64) (v := .slice Az2 (p.length + 2) Cz2) (w' := z2) rfl rfl rfl rfl (by kernel_rfl) (by rfl) (exec_append rfl rfl rz2) sz2 ?_
      try simp only [Act.put, sI, sZ, sS]
      have hcv := conv_own Oz2
      rw [HESC.out] at hcv
      refine turn_call_op (i := 5) (di := 31) (OPi := Op.call { callee := Callee.value (Operand.func 28), args := #[Operand.tmp 30], argTypes := #[27] }) (Ti := 9) (j := 3) (dj := 29) (OPj := Op.convert 64 9 (Operand.tmp 28)) (Tj := 9) (f := 28) (args := #[.agg #[.int .i64 g, .int .i64 r, .string lb, .int .i64 n, .int .i64 ix]]) (u := .string (frB X)) (w' := z2) rfl rfl rfl rfl rfl rfl rfl rfl (by kernel_rfl) (by rfl) (by rfl) (by go_simp) (exec_cv rfl hcv) sz2 ?_ ?_
      · clear hcv
        refine (hkey _).mono ?_
        rintro e x3 ⟨rfl, dx3⟩
        have bx3 := bz2.trans (dx3.mono bz2.size)
        have sx3 := HS.out x3 bx3
        have Ox3 := Oz2.below dx3
        refine ⟨_, rfl, sx3, ?_⟩
        try simp only [Act.put, sI, sZ, sS]
        have hcv := conv_own Ox3
        rw [HESC.out] at hcv
        refine turn_op (i := 3) (d := 29) (OP := Op.convert 64 9 (Operand.tmp 28)) (T := 9) (v := .string (frB X)) (w' := x3) rfl rfl rfl rfl (by kernel_rfl) (by rfl) (exec_cv rfl hcv) sx3 ?_
        try simp only [Act.put, sI, sZ, sS]
        refine take_op (i := 6) (d := 32) (OP := Op.binOp BinOp.add 9 (Operand.tmp 29) (Operand.tmp 31) 9) (T := 9) (v := ?vky3) rfl rfl rfl rfl (by kernel_rfl) (by kernel_rfl) (by kernel_rfl) (fun _ _ _ h => h) (by rfl) ?hky3 sx3 ?rky3
        case hky3 => (intro w' hSw; (try dsimp only at hSw); go_simp <;> with_reducible rfl)
        try simp only [Act.put, sI, sZ, sS]
        refine take_op (i := 7) (d := 4) (OP := Op.assign (Operand.tmp 32)) (T := 9) (v := ?vky4) rfl rfl rfl rfl (by kernel_rfl) (by kernel_rfl) (by kernel_rfl) (fun _ _ _ h => h) (by rfl) ?hky4 sx3 ?rky4
        case hky4 => (intro w' hSw; (try dsimp only at hSw); go_simp <;> with_reducible rfl)
        try simp only [Act.put, sI, sZ, sS]
        refine wpAnyH_done (by kernel_rfl) ?_ _
        have HB := hide bx3
        clear HI HS hkey
        go_wp2
        go_ret
        exact ⟨by rw [HFIN.out]; rfl, HW.out.2.2.trans (HB.out.mono HW.out.2.2.size)⟩
      · try simp only [Act.put, sI, sZ, sS]
        refine call_op (i := 5) (d := 31) (OP := Op.call { callee := Callee.value (Operand.func 28), args := #[Operand.tmp 30], argTypes := #[27] }) (T := 9) (f := 28) (args := #[.agg #[.int .i64 g, .int .i64 r, .string lb, .int .i64 n, .int .i64 ix]]) rfl rfl rfl rfl (by kernel_rfl) (by rfl) (by go_simp) ?_
        refine (hkey _).mono ?_
        rintro e x4 ⟨rfl, dx4⟩
        have bx4 := bz2.trans (dx4.mono bz2.size)
        have sx4 := HS.out x4 bx4
        refine ⟨_, rfl, sx4, ?_⟩
        try simp only [Act.put, sI, sZ, sS]
        refine take_op (i := 6) (d := 32) (OP := Op.binOp BinOp.add 9 (Operand.tmp 29) (Operand.tmp 31) 9) (T := 9) (v := ?vky5) rfl rfl rfl rfl (by kernel_rfl) (by kernel_rfl) (by kernel_rfl) (fun _ _ _ h => h) (by rfl) ?hky5 sx4 ?rky5
        case hky5 => (intro w' hSw; (try dsimp only at hSw); go_simp <;> with_reducible rfl)
        try simp only [Act.put, sI, sZ, sS]
        refine take_op (i := 7) (d := 4) (OP := Op.assign (Operand.tmp 32)) (T := 9) (v := ?vky6) rfl rfl rfl rfl (by kernel_rfl) (by kernel_rfl) (by kernel_rfl) (fun _ _ _ h => h) (by rfl) ?hky6 sx4 ?rky6
        case hky6 => (intro w' hSw; (try dsimp only at hSw); go_simp <;> with_reducible rfl)
        try simp only [Act.put, sI, sZ, sS]
        refine wpAnyH_done (by kernel_rfl) ?_ _
        have HB := hide bx4
        clear HI HS hkey
        go_wp2
        go_ret
        exact ⟨by rw [HFIN.out]; rfl, HW.out.2.2.trans (HB.out.mono HW.out.2.2.size)⟩
end Go.Proofs.YtkkpdgfllnbigaaGreatDoor.Tg
