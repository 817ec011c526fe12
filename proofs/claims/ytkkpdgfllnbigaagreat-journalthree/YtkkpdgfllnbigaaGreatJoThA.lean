/-
  journal: Three of maps that lie apart; what the law calls besides.
-/
import Derived.Test.YtkkpdgfllnbigaaGreatJoK
import Derived.Test.YtkkpdgfllnbigaaGreatMg24
import Derived.Test.YtkkpdgfllnbigaaGreatMg25
import Derived.Test.YtkkpdgfllnbigaaGreatRefEl
import Derived.Test.YtkkpdgfllnbigaaGreatMg18
namespace Go.Proofs.YtkkpdgfllnbigaaGreat.Jo
open Go.RowKit Go.Shelf
set_option linter.unusedSimpArgs false
attribute [local go_sem] Oper.semAt_some

set_option maxHeartbeats 8000000 in
set_option maxRecDepth 100000 in
theorem three_apart {w : World} {x y z : Pm.T} {px py pz : Option Addr} (hx : Mg w x) (hpx : x.ptr = .pointer px) (hy : Mg w y) (hpy : y.ptr = .pointer py) (hz : Mg w z) (hpz : z.ptr = .pointer pz) (hmx : mayL x.list = true) (hmy : mayL y.list = true) (hmz : mayL z.list = true) (hap : Pm.Apart x y) (hn : y.n + z.n ≤ 400) : Calls Tryz.prog 96 #[.agg #[.pointer px], .agg #[.pointer py], .agg #[.pointer pz]] w fun e w' => ∃ t pt, t.ptr = .pointer pt ∧ e = .returned (.tuple #[.agg #[.pointer pt], .int .i64 0]) ∧ Mg w' t ∧ (∀ k, Pm.look k t.list = Pm.keeps (Pm.look k x.list) (Pm.look k y.list) (Pm.look k z.list)) ∧ Below w.heap.size w w' := by
  have hm1 := jmayP hx hpx
  have hm2 := jmayP hy hpy
  have hm3 := jmayP hz hpz
  rw [hmx] at hm1
  rw [hmy] at hm2
  rw [hmz] at hm3
  have hrun : ∀ W, Below w.heap.size w W → Calls Tryz.prog 132 #[.agg #[.pointer px], .agg #[.pointer py], .agg #[.pointer pz]] W fun e w' => ∃ t pt n1 n2 n3, t.ptr = .pointer pt ∧ e = .returned (.tuple #[.agg #[.pointer pt], .agg #[.int .i64 n1, .int .i64 n2, .int .i64 n3]]) ∧ Mg w' t ∧ (∀ k, Pm.look k t.list = Pm.keeps (Pm.look k x.list) (Pm.look k y.list) (Pm.look k z.list)) ∧ Below W.heap.size W w' := fun W hW => by
    have := Pm.elements_apart x y z W (trioA (hx.below hW) (hy.below hW) (hz.below hW)) hap
    unfold Pm.mv at this
    rw [hpx, hpy, hpz] at this
    refine this.mono fun e w' hh => ?_
    obtain ⟨t, ks, he, -, hi, hs, hb⟩ := hh
    obtain ⟨pt, hpt⟩ := t.ptr_shape
    rw [hpt] at he
    refine ⟨t, pt, _, _, _, hpt, he, ⟨hi, hs.srt, hs.bal, by have := hs.tn; omega, fun u hu => ?_⟩, hs.look, hb⟩
    rcases hs.keys u hu with ⟨v, hv, e⟩ | ⟨v, hv, e⟩
    · rw [← e]; exact hy.key v hv
    · rw [← e]; exact hz.key v hv
  have HRUN := hide hrun
  obtain ⟨w0, hw0⟩ : ∃ w0, w0 = (((w.alloc (.cells #[.pointer px] 27)).alloc (.cells #[.pointer py] 27)).alloc (.cells #[.pointer pz] 27)).alloc (.cells #[.pointer none] 27) := ⟨_, rfl⟩
  have hnn := Pm.new4 w (.cells #[.pointer px] 27) (.cells #[.pointer py] 27) (.cells #[.pointer pz] 27) (.cells #[.pointer none] 27)
  rw [← hw0] at hnn
  obtain ⟨m0, m1, m2, m3, b0⟩ := hnn
  have HC : Hid (∀ W, Below w0.heap.size w0 W → W.cell? ⟨w.heap.size, 0, none⟩ = some (.pointer px) ∧ W.cell? ⟨w.heap.size + 1, 0, none⟩ = some (.pointer py) ∧ W.cell? ⟨w.heap.size + 1 + 1, 0, none⟩ = some (.pointer pz) ∧ Below w.heap.size w W) := hide (fun W hW => ⟨cell_stays ((cell_of_row _ _ 0 _ 27 (0, 0) m0).trans rfl) hW, cell_stays ((cell_of_row _ _ 0 _ 27 (0, 0) m1).trans rfl) hW, cell_stays ((cell_of_row _ _ 0 _ 27 (0, 0) m2).trans rfl) hW, b0.trans (hW.mono b0.size)⟩)
  have HR : Hid (∀ W, Below w0.heap.size w0 W → W.heap[w.heap.size + 1 + 1 + 1]? = some (.cells #[.pointer none] 27 (0, 0))) := hide (fun W hW => (hW.block _ (gI m3).1).trans m3)
  have HW0 := hide hw0
  have HB0 := hide b0
  obtain ⟨c0, c1, c2, -⟩ := HC.out w0 (Below.refl _ _)
  clear m0 m1 m2 m3 b0 hw0 hx hy hz hpx hpy hpz hmx hmy hmz hap hrun hn
  go_enter Tryz.func96, Tryz.ntmps96
  go_upto_region 1 with fail
  rw [← HW0.out]
  go_upto_region 4 with (first
    | (go_at_call 100; refine (hm3 w2 H2.out.2).mono ?_; rintro e w3 ⟨rfl, b3⟩; have bb3 := (H2.out.1.trans (b3.mono H2.out.1.size)); obtain ⟨x31, x32, x33, x34⟩ := HC.out w3 bb3; have H3 := hide (And.intro bb3 x34); clear b3 bb3 x34; dsimp only)
    | (go_at_call 100; refine (hm2 w1 H1.out.2).mono ?_; rintro e w2 ⟨rfl, b2⟩; have bb2 := (H1.out.1.trans (b2.mono H1.out.1.size)); obtain ⟨x21, x22, x23, x24⟩ := HC.out w2 bb2; have H2 := hide (And.intro bb2 x24); clear b2 bb2 x24; dsimp only)
    | (go_at_call 100; refine (hm1 w0 HB0.out).mono ?_; rintro e w1 ⟨rfl, b1⟩; have bb1 := b1; obtain ⟨x11, x12, x13, x14⟩ := HC.out w1 bb1; have H1 := hide (And.intro bb1 x14); clear b1 bb1 x14; dsimp only)
    | (go_at_call 132; refine (HRUN.out w3 H3.out.2).mono ?_; rintro e w4 ⟨t, pt, n1, n2, n3, hpt, rfl, mg, hlk, b4⟩; have H4 := hide (And.intro hpt (And.intro mg (And.intro hlk (H3.out.1.trans (b4.mono H3.out.1.size))))); clear hpt mg hlk b4; dsimp only))
  obtain ⟨hpt, mg, hlk, bb4⟩ := H4.out
  obtain ⟨T8, hT8⟩ : ∃ q, q = w4.heap.size := ⟨_, rfl⟩
  obtain ⟨w5, hw5⟩ : ∃ q, q = (w4.alloc (.cells #[.pointer pt] 27)).alloc (.cells #[.int .i64 n1, .int .i64 n2, .int .i64 n3] 136) := ⟨_, rfl⟩
  obtain ⟨n0, -⟩ := new2 w4 (.cells #[.pointer pt] 27) (.cells #[.int .i64 n1, .int .i64 n2, .int .i64 n3] 136)
  have b45 : Below w4.heap.size w4 w5 := by rw [hw5]; exact ((Below.refl _ w4).alloc (Nat.le_refl _) _).alloc (by simp) _
  rw [← hw5, ← hT8] at n0
  rw [← hw5, ← hT8]
  have bb5 := bb4.trans (b45.mono bb4.size)
  have r5 := HR.out w5 bb5
  have x8 : w5.cell? ⟨T8, 0, none⟩ = some (.pointer pt) := (cell_of_row _ _ 0 _ 27 (0, 0) n0).trans rfl
  have c5 : w5.cell? ⟨w.heap.size + 1 + 1 + 1, 0, none⟩ = some (.pointer none) := (cell_of_row _ _ 0 _ 27 (0, 0) r5).trans rfl
  have f5 : w5.frozen? ⟨w.heap.size + 1 + 1 + 1, 0, none⟩ = false := frozen_of_row _ _ 0 _ 27 r5
  obtain ⟨u6, o6⟩ := set_one (i := 0) (.pointer pt) r5
  have bw5 := (HC.out w5 bb5).2.2.2
  have b6 := Below.only bw5 o6 bw5.size (fun j e => by have e' : j = w.heap.size + 1 + 1 + 1 := e; omega)
  have HE := hide (And.intro u6 (And.intro b6 (And.intro ((mg.below b45).aside r5 o6) (And.intro hlk hpt))))
  clear hpt mg hlk bb4 hT8 hw5 n0 b45 bb5 r5 u6 o6 bw5 b6 H4 H3 H2 H1 HRUN hm1 hm2 hm3 c0 c1 c2
  go_wp2
  refine ret_row_tmp (w.heap.size + 1 + 1 + 1) [.pointer pt] rfl rfl rfl Tryz.underlying27 rfl T27 (by simpa using HE.out.1) rfl ?_
  exact ⟨t, pt, HE.out.2.2.2.2, rfl, HE.out.2.2.1, HE.out.2.2.2.1, HE.out.2.1⟩
set_option maxHeartbeats 1000000 in
theorem refThree {w : World} {oo ao' bo : Option Addr} {co ca cb : Nat} {base a b : List El} (ho : Re w oo base) (ha : Re w ao' a) (hb : Re w bo b) (hlo : base.length ≤ 1000000) (hla : a.length ≤ 1000) (hlb : b.length ≤ 1000) (ua : UpE a) (ub : UpE b) (hsz : ∀ x ∈ a, x.1.2.2.1.size ≤ 9223372036854775807) :
    Calls Tryz.prog 106 #[.slice oo base.length co, .slice ao' a.length ca, .slice bo b.length cb] w (ChgE w (togL base a b)) := by
  have hm := refElements_any (co := co) (ca := ca) (cb := cb) ho ha hb hlo hla hlb ua ub hsz
  unfold ChgE at hm ⊢
  obtain ⟨S, hS⟩ : ∃ S, S = togL base a b := ⟨_, rfl⟩
  rw [← hS] at hm ⊢
  obtain ⟨M, hM⟩ : ∃ N, N = S.length := ⟨_, rfl⟩
  obtain ⟨NO, hNO⟩ : ∃ N, N = base.length := ⟨_, rfl⟩
  obtain ⟨NA, hNA⟩ : ∃ N, N = a.length := ⟨_, rfl⟩
  obtain ⟨NB, hNB⟩ : ∃ N, N = b.length := ⟨_, rfl⟩
  rw [← hM, ← hNO, ← hNA, ← hNB] at hm
  rw [← hM, ← hNO, ← hNA, ← hNB]
  clear hM hNO hNA hNB hlo hla hlb hS ho ha hb ua ub hsz
  go_enter Tryz.func106, Tryz.ntmps106
  go_wp2_with (go_at_call 147; refine hm.mono ?_; rintro e w1 ⟨a1, c1, rfl, o1, b1⟩; have H1 := hide (And.intro o1 b1); clear o1 b1; dsimp only)
  go_ret
  exact ⟨_, _, rfl, H1.out.1, H1.out.2⟩
set_option maxHeartbeats 4000000 in
set_option maxRecDepth 100000 in
theorem stamps_same {w : World} {ao bo : Option Addr} {c d : Nat} {l : List El} (h : Re w ao l) (k : Re w bo l) (hl : l.length ≤ 1000000) : Calls Tryz.prog 107 #[.slice ao l.length c, .slice bo l.length d] w fun e w' => e = .returned (.bool true) ∧ ∃ n, w' = w.drewN n := by
  obtain ⟨N, hN⟩ : ∃ N, N = l.length := ⟨_, rfl⟩
  rw [← hN] at hl ⊢
  have H := hide (And.intro hN (And.intro h k))
  clear hN h k
  go_enter Tryz.func107, Tryz.ntmps107
  go_wp2
  go_loopw [5] (fun iv wr => ∃ i : Nat, i ≤ N ∧ iv = .int .i64 i ∧ ∃ n, wr = w.drewN n) (fun iv _ => N - (intOf iv).toNat)
  case atStart => exact ⟨0, by omega, rfl, 0, rfl⟩
  case round =>
    obtain ⟨i, hi, rfl, n, hwr⟩ := hrel
    have hlr : Re wr ao l := by rw [hwr]; exact ⟨H.out.2.1.1, H.out.2.1.2⟩
    have hmr : Re wr bo l := by rw [hwr]; exact ⟨H.out.2.2.1, H.out.2.2.2⟩
    have HWR := hide hwr
    clear hwr
    by_cases h1 : i < N
    · have z1 : (i : Int) < (N : Int) := by omega
      have d1 : decide (i < N) = true := by simpa using h1
      obtain ⟨x, hx⟩ : ∃ x, l[i]? = some x := ⟨_, List.getElem?_eq_getElem (by rw [← H.out.1]; exact h1)⟩
      obtain ⟨ab, off, rfl, q0, q1, q2, q3, q4, q5⟩ := hlr.cells hx
      obtain ⟨bb, ob, rfl, p0, p1, p2, p3, p4, p5⟩ := hmr.cells hx
      have hne := fun W => run_ne43 x.1 x.1 W
      rw [decide_eq_true rfl] at hne
      clear hx hlr hmr
      obtain ⟨⟨g, r, l0, n0, i0⟩, t0⟩ := x
      dsimp only at q0 q1 q2 q3 q4 q5 p0 p1 p2 p3 p4 p5 hne
      go_wp2
      go_quiet (fail)
      go_wp2
      go_roundw
      case rel => exact ⟨i + 1, by omega, by go_num, _, by rw [HWR.out, World.drewN_drewN]⟩
      case measure => simp [intOf]; omega
    · obtain rfl : i = N := by omega
      have d1 : decide (i < i) = false := by simp
      go_wp2
      go_ret
      exact ⟨rfl, n, HWR.out⟩
theorem ofG {w : World} {ao : Option Addr} {c : Nat} (l : List El) (h : Re w ao l) (hl : l.length ≤ 60) (hg : goodL l = true) : Calls Tryz.prog 85 #[.slice ao l.length c] w fun e w' => ∃ t pt, t.ptr = .pointer pt ∧ e = .returned (.tuple #[.agg #[.pointer pt], .int .i64 0]) ∧ Mg w' t ∧ (mayL t.list = true ∧ elsL t.list = srtE l ∧ t.n ≤ 60 ∧ t.over w.heap.size) ∧ Below w.heap.size w w' := by
  have := jofPO (c := c) l h (by omega)
  refine this.mono (fun e w' hh => ?_)
  obtain ⟨t, pt, h1, h2, h3, h4, h5, h6, h7⟩ := hh
  rw [if_pos hg] at h2
  have e := els_srt hg (h4 hg) h3.srt
  have hn : t.n = l.length := by have := (h4 hg).length_eq; rw [List.length_map, Pm.T.n_eq] at this; exact this
  exact ⟨t, pt, h1, h2, h3, ⟨e.1, e.2, by omega, h7⟩, h6⟩
end Go.Proofs.YtkkpdgfllnbigaaGreat.Jo
