/-
  WalkUnread: THE WALK.
-/
import Derived.Test.YtckkoigghkgfdaaRunU
import Derived.Test.YtckkoigghkgfdaaMapsW
import Derived.Test.YtckkoigghkgfdaaKnownW
namespace Go.Proofs.Ytckkoigghkgfdaa
open Go.RowKit Go.Shelf
set_option linter.unusedSimpArgs false

/-- Three, as it comes in. -/
structure ThreeIs (w : World) (s0 s1 s2 s3 s4 : Value) (ks pa pb : List ByteArray) (ta tb : List Int) : Prop where
  c0 : Cs w s0 (ks.map .string)
  c1 : Cs w s1 (pa.map .string)
  c2 : Cs w s2 (pb.map .string)
  c3 : Cs w s3 (ta.map (.int .i64))
  c4 : Cs w s4 (tb.map (.int .i64))
theorem ThreeIs.below {w w' : World} {s0 s1 s2 s3 s4 : Value} {ks pa pb : List ByteArray} {ta tb : List Int} (h : ThreeIs w s0 s1 s2 s3 s4 ks pa pb ta tb) (hb : Below w.heap.size w w') : ThreeIs w' s0 s1 s2 s3 s4 ks pa pb ta tb := ⟨h.c0.below hb, h.c1.below hb, h.c2.below hb, h.c3.below hb, h.c4.below hb⟩
/-- Are there few enough? -/
def fewB (ks pa pb : List ByteArray) (ta tb : List Int) : Prop := ks.length ≤ 40 ∧ pa.length ≤ 40 ∧ pb.length ≤ 40 ∧ ta.length ≤ 40 ∧ tb.length ≤ 40
theorem ThreeIs.few {w : World} {s0 s1 s2 s3 s4 : Value} {ks pa pb : List ByteArray} {ta tb : List Int} (h : ThreeIs w s0 s1 s2 s3 s4 ks pa pb ta tb) (x y z : Bool) (W : World) : (fewB ks pa pb ta tb → Calls Try.prog 7 #[.agg #[s0, s1, s2, s3, s4, .bool x, .bool y, .bool z]] W fun e w' => e = .returned (.bool true) ∧ Below W.heap.size W w') ∧ (¬ fewB ks pa pb ta tb → Calls Try.prog 7 #[.agg #[s0, s1, s2, s3, s4, .bool x, .bool y, .bool z]] W fun e w' => e = .returned (.bool false) ∧ Below W.heap.size W w') := by
  obtain ⟨a0, n0, rfl, -⟩ := h.c0.ex
  obtain ⟨a1, n1, rfl, -⟩ := h.c1.ex
  obtain ⟨a2, n2, rfl, -⟩ := h.c2.ex
  obtain ⟨a3, n3, rfl, -⟩ := h.c3.ex
  obtain ⟨a4, n4, rfl, -⟩ := h.c4.ex
  simp only [List.length_map]
  have hf := few_any a0 a1 a2 a3 a4 ks.length pa.length pb.length ta.length tb.length n0 n1 n2 n3 n4 x y z W
  refine ⟨fun hh => ?_, fun hh => ?_⟩
  · rw [decide_eq_true (show ks.length ≤ 40 ∧ pa.length ≤ 40 ∧ pb.length ≤ 40 ∧ ta.length ≤ 40 ∧ tb.length ≤ 40 from hh)] at hf; exact hf
  · rw [decide_eq_false (show ¬ (ks.length ≤ 40 ∧ pa.length ≤ 40 ∧ pb.length ≤ 40 ∧ ta.length ≤ 40 ∧ tb.length ≤ 40) from hh)] at hf; exact hf
theorem ThreeIs.shapes {w : World} {s0 s1 s2 s3 s4 : Value} {ks pa pb : List ByteArray} {ta tb : List Int} (h : ThreeIs w s0 s1 s2 s3 s4 ks pa pb ta tb) : ∃ a0 n0 c0 a1 n1 c1 a2 n2 c2 a3 n3 c3 a4 n4 c4, s0 = .slice a0 n0 c0 ∧ s1 = .slice a1 n1 c1 ∧ s2 = .slice a2 n2 c2 ∧ s3 = .slice a3 n3 c3 ∧ s4 = .slice a4 n4 c4 := by
  obtain ⟨a0, n0, r0, -⟩ := h.c0.ex
  obtain ⟨a1, n1, r1, -⟩ := h.c1.ex
  obtain ⟨a2, n2, r2, -⟩ := h.c2.ex
  obtain ⟨a3, n3, r3, -⟩ := h.c3.ex
  obtain ⟨a4, n4, r4, -⟩ := h.c4.ex
  exact ⟨_, _, _, _, _, _, _, _, _, _, _, _, _, _, _, r0, r1, r2, r3, r4⟩
theorem ThreeIs.maps {w : World} {s0 s1 s2 s3 s4 : Value} {ks pa pb : List ByteArray} {ta tb : List Int} (h : ThreeIs w s0 s1 s2 s3 s4 ks pa pb ta tb) (x y z : Bool) (hf : fewB ks pa pb ta tb) : Calls Try.prog 9 #[.agg #[s0, s1, s2, s3, s4, .bool x, .bool y, .bool z]] w fun e w' => ∃ o a b po pa pb, e = .returned (.tuple #[.agg #[.pointer po], .agg #[.pointer pa], .agg #[.pointer pb]]) ∧ (Trio (Told fvL) w' o a b ∧ o.ptr = .pointer po ∧ a.ptr = .pointer pa ∧ b.ptr = .pointer pb ∧ (o.n ≤ 80 ∧ a.n ≤ 80 ∧ b.n ≤ 80)) ∧ Below w.heap.size w w' := by
  refine (maps_any ks pa pb ta tb s0 s1 s2 s3 s4 x y z w h.c0 h.c1 h.c2 h.c3 h.c4 hf.1 hf.2.1 hf.2.2.1 hf.2.2.2.1 hf.2.2.2.2).mono ?_
  rintro e w' ⟨o, a, b, rfl, ht, hn, hb⟩
  obtain ⟨po, ho⟩ := o.ptr_shape
  obtain ⟨pa, ha⟩ := a.ptr_shape
  obtain ⟨pb, hb'⟩ := b.ptr_shape
  exact ⟨o, a, b, po, pa, pb, by rw [mv_ptr ho, mv_ptr ha, mv_ptr hb'], ⟨ht, ho, ha, hb', hn⟩, hb⟩
theorem Trio.below {V : ByteArray → Int × Bool → Prop} {W W' : World} {o a b : T} (h : Trio V W o a b) (hb : Below W.heap.size W W') : Trio V W' o a b := h.goes (Goes.of (B := 0) (Tk := 0) hb (Nat.zero_le _))
def KnownOk : Prop := ∀ w : World, Calls Try.prog 8 #[] w fun e w' => e = .returned (.bool true) ∧ Below w.heap.size w w'
theorem un_run {g : Nat} {caps : Array Value} {o a b : T} {po pa pb : Option Addr} {W : World} (io : In W o) (ia : In W a) (ib : In W b) (so : Srt o.list) (sa : Srt a.list) (sb : Srt b.list) (no : o.n ≤ 1000) (nab : a.n + b.n ≤ 1000) (h : a = b ∨ o = a ∨ o = b) (ho : o.ptr = .pointer po) (ha : a.ptr = .pointer pa) (hb : b.ptr = .pointer pb) {t : T} {pt : Option Addr} (hu : unread o a b = t) (ht : t.ptr = .pointer pt) :
    Calls Try.prog 18 #[.agg #[.pointer po], .agg #[.pointer pa], .agg #[.pointer pb], .func (.func g) #[] caps] W fun e w' => e = .returned (.tuple #[.agg #[.pointer pt], .agg #[.int .i64 0, .int .i64 0, .int .i64 0], .int .i64 0]) ∧ Below W.heap.size W w' := by
  have := walkRun_unread (g := g) (caps := caps) o a b W io ia ib so sa sb no nab h
  rw [hu, mv_ptr ho, mv_ptr ha, mv_ptr hb, mv_ptr ht] at this
  refine this.mono ?_
  rintro e w' ⟨he, _, hb⟩
  exact ⟨he, hb⟩
theorem un_same {o a : T} : unread a a a = a ∧ unread o o a = a ∧ unread o a o = a ∧ unread o a a = a := by
  unfold unread
  refine ⟨by simp, ?_, ?_, by simp⟩
  · split
    · rename_i h; exact h
    · simp
  · split
    · rfl
    · rename_i h; rw [if_neg (fun e => h e.symm)]
set_option maxHeartbeats 8000000 in
set_option maxRecDepth 100000 in
theorem unread_walk (HK : KnownOk) {ks pa pb : List ByteArray} {ta tb : List Int} {s0 s1 s2 s3 s4 : Value} (x y z : Bool) (w : World) (h : ThreeIs w s0 s1 s2 s3 s4 ks pa pb ta tb) :
    Calls Try.prog 4 #[.agg #[s0, s1, s2, s3, s4, .bool x, .bool y, .bool z]] w fun e w' => e = .returned (.bool true) ∧ Below w.heap.size w w' := by
  have hf := h.few x y z (w.alloc (.cells #[s0, s1, s2, s3, s4, .bool x, .bool y, .bool z] 25))
  have b0 : Below w.heap.size w (w.alloc (.cells #[s0, s1, s2, s3, s4, .bool x, .bool y, .bool z] 25)) := (Below.refl _ w).alloc (Nat.le_refl _) _
  have r0 := heap_alloc_new w (.cells #[s0, s1, s2, s3, s4, .bool x, .bool y, .bool z] 25)
  obtain ⟨a0, n0, c0, a1, n1, c1, a2, n2, c2, a3, n3, c3, a4, n4, c4, rfl, rfl, rfl, rfl, rfl⟩ := h.shapes
  have HT := hide (And.intro h (And.intro b0 r0))
  replace HK := hide HK
  clear h b0 r0
  by_cases hfew : fewB ks pa pb ta tb
  · have hf1 := hf.1 hfew
    have HF := hide hfew
    clear hf hfew
    go_enter Try.func4, Try.ntmps4
    go_upto_if 23 with (go_at_call 7; refine hf1.mono ?_; rintro e w1 ⟨rfl, b1⟩; dsimp only)
    clear hf1
    have r1 := (b1.block _ (Array.getElem?_eq_some_iff.1 HT.out.2.2).1).trans HT.out.2.2
    have cx0 : w1.cell? ⟨w.heap.size, 0, none⟩ = some (.slice a0 n0 c0) := (cell_of_row _ _ 0 _ 25 (0, 0) r1).trans rfl
    have cx1 : w1.cell? ⟨w.heap.size, 1, none⟩ = some (.slice a1 n1 c1) := (cell_of_row _ _ 1 _ 25 (0, 0) r1).trans rfl
    have cx2 : w1.cell? ⟨w.heap.size, 2, none⟩ = some (.slice a2 n2 c2) := (cell_of_row _ _ 2 _ 25 (0, 0) r1).trans rfl
    have cx3 : w1.cell? ⟨w.heap.size, 3, none⟩ = some (.slice a3 n3 c3) := (cell_of_row _ _ 3 _ 25 (0, 0) r1).trans rfl
    have cx4 : w1.cell? ⟨w.heap.size, 4, none⟩ = some (.slice a4 n4 c4) := (cell_of_row _ _ 4 _ 25 (0, 0) r1).trans rfl
    have cx5 : w1.cell? ⟨w.heap.size, 5, none⟩ = some (.bool x) := (cell_of_row _ _ 5 _ 25 (0, 0) r1).trans rfl
    have cx6 : w1.cell? ⟨w.heap.size, 6, none⟩ = some (.bool y) := (cell_of_row _ _ 6 _ 25 (0, 0) r1).trans rfl
    have cx7 : w1.cell? ⟨w.heap.size, 7, none⟩ = some (.bool z) := (cell_of_row _ _ 7 _ 25 (0, 0) r1).trans rfl
    have bw1 := HT.out.2.1.trans (b1.mono HT.out.2.1.size)
    have H1 := hide bw1
    have hm := (HT.out.1.below bw1).maps x y z HF.out
    clear r1 b1 bw1
    go_upto_region 4 with (go_at_call 9; refine hm.mono ?_; rintro e w2 ⟨o, a, b, po, pa', pb', rfl, htr, b2⟩; dsimp only)
    clear hm cx0 cx1 cx2 cx3 cx4 cx5 cx6 cx7
    obtain ⟨m0, m1, m2, b3⟩ := new3 w2 (.cells #[.pointer po] 29) (.cells #[.pointer pa'] 29) (.cells #[.pointer pb'] 29)
    obtain ⟨w3, hw3⟩ : ∃ w3, w3 = ((w2.alloc (.cells #[.pointer po] 29)).alloc (.cells #[.pointer pa'] 29)).alloc (.cells #[.pointer pb'] 29) := ⟨_, rfl⟩
    rw [← hw3] at m0 m1 m2 b3 ⊢
    have d0 : w3.cell? ⟨w2.heap.size, 0, none⟩ = some (.pointer po) := (cell_of_row _ _ 0 _ 29 (0, 0) m0).trans rfl
    have d1 : w3.cell? ⟨w2.heap.size + 1, 0, none⟩ = some (.pointer pa') := (cell_of_row _ _ 0 _ 29 (0, 0) m1).trans rfl
    have d2 : w3.cell? ⟨w2.heap.size + 1 + 1, 0, none⟩ = some (.pointer pb') := (cell_of_row _ _ 0 _ 29 (0, 0) m2).trans rfl
    have b23 := b2.trans (b3.mono b2.size)
    have HP := hide htr.2
    have H3 := hide (And.intro (htr.1.below b3) (H1.out.trans (b23.mono H1.out.size)))
    obtain ⟨X0, hX0⟩ : ∃ X, X = w2.heap.size := ⟨_, rfl⟩
    obtain ⟨X1, hX1⟩ : ∃ X, X = w2.heap.size + 1 := ⟨_, rfl⟩
    obtain ⟨X2, hX2⟩ : ∃ X, X = w2.heap.size + 1 + 1 := ⟨_, rfl⟩
    rw [← hX2] at d2 ⊢
    rw [← hX1] at d1 ⊢
    rw [← hX0] at d0 ⊢
    clear hX0 hX1 hX2 hw3 m0 m1 m2 b3 b2 b23 htr H1
    go_upto_region 5 with (fail)
    obtain ⟨w4, hw4, d3, b4⟩ := box_new w3 (.int .i64 0) 3
    rw [← hw4]
    have H4 := hide (And.intro (H3.out.1.below b4) (H3.out.2.trans (b4.mono H3.out.2.size)))
    replace d0 := cell_stays d0 b4
    replace d1 := cell_stays d1 b4
    replace d2 := cell_stays d2 b4
    obtain ⟨X3, hX3⟩ : ∃ X, X = w3.heap.size := ⟨_, rfl⟩
    rw [← hX3] at d3 ⊢
    clear hX3 hw4 b4 H3
    have HN : Hid (o.n ≤ 1000 ∧ a.n + a.n ≤ 1000 ∧ b.n + b.n ≤ 1000 ∧ o.n + b.n ≤ 1000 ∧ a.n + o.n ≤ 1000) := hide (by have := HP.out.2.2.2; omega)
    have g0 := un_run (g := 17) (caps := #[.pointer (some ⟨X3, 0, none⟩)]) H4.out.1.ia H4.out.1.ia H4.out.1.ia H4.out.1.sa H4.out.1.sa H4.out.1.sa (by have := HN.out; omega) (by have := HN.out; omega) (.inl rfl) HP.out.2.1 HP.out.2.1 HP.out.2.1 (un_same (o := o) (a := a)).1 HP.out.2.1
    go_upto_region 7 with (go_at_call 18; refine g0.mono ?_; rintro e u0 ⟨rfl, c0⟩; dsimp only)
    clear g0
    obtain ⟨v1, hv1, e0, ⟨e00, e01, e02⟩, f0⟩ := box_new2 u0 (.pointer pa') (.int .i64 0) (.int .i64 0) (.int .i64 0)
    rw [← hv1]
    have l0 := c0.trans (f0.mono c0.size)
    have H5 := hide (And.intro (H4.out.1.below l0) (H4.out.2.trans (l0.mono H4.out.2.size)))
    replace d0 := cell_stays d0 l0
    replace d1 := cell_stays d1 l0
    replace d2 := cell_stays d2 l0
    replace d3 := cell_stays d3 l0
    obtain ⟨Y0, hY0⟩ : ∃ Y, Y = u0.heap.size := ⟨_, rfl⟩
    rw [← hY0] at e0 e00 e01 e02 ⊢
    clear hY0 hv1 f0 c0 l0 H4
    have g1 := un_run (g := 17) (caps := #[.pointer (some ⟨X3, 0, none⟩)]) H5.out.1.io H5.out.1.io H5.out.1.ib H5.out.1.so H5.out.1.so H5.out.1.sb (by have := HN.out; omega) (by have := HN.out; omega) (.inr (.inl rfl)) HP.out.1 HP.out.1 HP.out.2.2.1 (un_same (o := o) (a := b)).2.1 HP.out.2.2.1
    go_upto_region 8 with (go_at_call 18; refine g1.mono ?_; rintro e u1 ⟨rfl, c1⟩; dsimp only)
    clear g1
    obtain ⟨v2, hv2, e1, ⟨e10, e11, e12⟩, f1⟩ := box_new2 u1 (.pointer pb') (.int .i64 0) (.int .i64 0) (.int .i64 0)
    rw [← hv2]
    have l1 := c1.trans (f1.mono c1.size)
    have H6 := hide (And.intro (H5.out.1.below l1) (H5.out.2.trans (l1.mono H5.out.2.size)))
    replace d0 := cell_stays d0 l1
    replace d1 := cell_stays d1 l1
    replace d2 := cell_stays d2 l1
    replace d3 := cell_stays d3 l1
    replace e0 := cell_stays e0 l1
    replace e00 := cell_stays e00 l1
    replace e01 := cell_stays e01 l1
    replace e02 := cell_stays e02 l1
    obtain ⟨Y1, hY1⟩ : ∃ Y, Y = u1.heap.size := ⟨_, rfl⟩
    rw [← hY1] at e1 e10 e11 e12 ⊢
    clear hY1 hv2 f1 c1 l1 H5
    have g2 := un_run (g := 17) (caps := #[.pointer (some ⟨X3, 0, none⟩)]) H6.out.1.io H6.out.1.ia H6.out.1.io H6.out.1.so H6.out.1.sa H6.out.1.so (by have := HN.out; omega) (by have := HN.out; omega) (.inr (.inr rfl)) HP.out.1 HP.out.2.1 HP.out.1 (un_same (o := o) (a := a)).2.2.1 HP.out.2.1
    go_upto_region 9 with (go_at_call 18; refine g2.mono ?_; rintro e u2 ⟨rfl, c2⟩; dsimp only)
    clear g2
    obtain ⟨v3, hv3, e2, ⟨e20, e21, e22⟩, f2⟩ := box_new2 u2 (.pointer pa') (.int .i64 0) (.int .i64 0) (.int .i64 0)
    rw [← hv3]
    have l2 := c2.trans (f2.mono c2.size)
    have H7 := hide (And.intro (H6.out.1.below l2) (H6.out.2.trans (l2.mono H6.out.2.size)))
    replace d0 := cell_stays d0 l2
    replace d1 := cell_stays d1 l2
    replace d2 := cell_stays d2 l2
    replace d3 := cell_stays d3 l2
    replace e0 := cell_stays e0 l2
    replace e00 := cell_stays e00 l2
    replace e01 := cell_stays e01 l2
    replace e02 := cell_stays e02 l2
    replace e1 := cell_stays e1 l2
    replace e10 := cell_stays e10 l2
    replace e11 := cell_stays e11 l2
    replace e12 := cell_stays e12 l2
    obtain ⟨Y2, hY2⟩ : ∃ Y, Y = u2.heap.size := ⟨_, rfl⟩
    rw [← hY2] at e2 e20 e21 e22 ⊢
    clear hY2 hv3 f2 c2 l2 H6
    have g3 := un_run (g := 17) (caps := #[.pointer (some ⟨X3, 0, none⟩)]) H7.out.1.io H7.out.1.ib H7.out.1.ib H7.out.1.so H7.out.1.sb H7.out.1.sb (by have := HN.out; omega) (by have := HN.out; omega) (.inl rfl) HP.out.1 HP.out.2.2.1 HP.out.2.2.1 (un_same (o := o) (a := b)).2.2.2 HP.out.2.2.1
    go_upto_region 10 with (go_at_call 18; refine g3.mono ?_; rintro e u3 ⟨rfl, c3⟩; dsimp only)
    clear g3
    obtain ⟨v4, hv4, e3, ⟨e30, e31, e32⟩, f3⟩ := box_new2 u3 (.pointer pb') (.int .i64 0) (.int .i64 0) (.int .i64 0)
    rw [← hv4]
    have l3 := c3.trans (f3.mono c3.size)
    have H8 := hide (And.intro (H7.out.1.below l3) (H7.out.2.trans (l3.mono H7.out.2.size)))
    replace d0 := cell_stays d0 l3
    replace d1 := cell_stays d1 l3
    replace d2 := cell_stays d2 l3
    replace d3 := cell_stays d3 l3
    replace e0 := cell_stays e0 l3
    replace e00 := cell_stays e00 l3
    replace e01 := cell_stays e01 l3
    replace e02 := cell_stays e02 l3
    replace e1 := cell_stays e1 l3
    replace e10 := cell_stays e10 l3
    replace e11 := cell_stays e11 l3
    replace e12 := cell_stays e12 l3
    replace e2 := cell_stays e2 l3
    replace e20 := cell_stays e20 l3
    replace e21 := cell_stays e21 l3
    replace e22 := cell_stays e22 l3
    obtain ⟨Y3, hY3⟩ : ∃ Y, Y = u3.heap.size := ⟨_, rfl⟩
    rw [← hY3] at e3 e30 e31 e32 ⊢
    clear hY3 hv4 f3 c3 l3 H7
    go_upto_region 11 with (fail)
    obtain ⟨y0, hy0, z0, z1, z2, bz⟩ : ∃ W, W = v4.alloc (.cells #[.int .i64 0, .int .i64 0, .int .i64 0] 33) ∧ W.cell? ⟨v4.heap.size, 0, none⟩ = some (.int .i64 0) ∧ W.cell? ⟨v4.heap.size, 1, none⟩ = some (.int .i64 0) ∧ W.cell? ⟨v4.heap.size, 2, none⟩ = some (.int .i64 0) ∧ Below v4.heap.size v4 W := ⟨_, rfl, (cell_of_row _ _ 0 _ 33 (0, 0) (heap_alloc_new v4 _)).trans rfl, (cell_of_row _ _ 1 _ 33 (0, 0) (heap_alloc_new v4 _)).trans rfl, (cell_of_row _ _ 2 _ 33 (0, 0) (heap_alloc_new v4 _)).trans rfl, (Below.refl _ v4).alloc (Nat.le_refl _) _⟩
    rw [← hy0]
    have H9 := hide (And.intro (H8.out.1.below bz) (H8.out.2.trans (bz.mono H8.out.2.size)))
    replace d0 := cell_stays d0 bz
    replace d1 := cell_stays d1 bz
    replace d2 := cell_stays d2 bz
    replace d3 := cell_stays d3 bz
    replace e0 := cell_stays e0 bz
    replace e00 := cell_stays e00 bz
    replace e01 := cell_stays e01 bz
    replace e02 := cell_stays e02 bz
    replace e1 := cell_stays e1 bz
    replace e10 := cell_stays e10 bz
    replace e11 := cell_stays e11 bz
    replace e12 := cell_stays e12 bz
    replace e2 := cell_stays e2 bz
    replace e20 := cell_stays e20 bz
    replace e21 := cell_stays e21 bz
    replace e22 := cell_stays e22 bz
    replace e3 := cell_stays e3 bz
    replace e30 := cell_stays e30 bz
    replace e31 := cell_stays e31 bz
    replace e32 := cell_stays e32 bz
    obtain ⟨Z, hZ⟩ : ∃ Z, Z = v4.heap.size := ⟨_, rfl⟩
    rw [← hZ] at z0 z1 z2 ⊢
    clear hZ hy0 bz H8
    have gA : ∀ W, Below y0.heap.size y0 W → Calls Try.prog 19 #[.agg #[.pointer pa'], .agg #[.pointer pa']] W fun e w' => e = .returned (.bool true) ∧ Below W.heap.size W w' := fun W hW => k_same HP.out.2.1 (In.below hW H9.out.1.ia)
    have gB : ∀ W, Below y0.heap.size y0 W → Calls Try.prog 19 #[.agg #[.pointer pb'], .agg #[.pointer pb']] W fun e w' => e = .returned (.bool true) ∧ Below W.heap.size W w' := fun W hW => k_same HP.out.2.2.1 (In.below hW H9.out.1.ib)
    have tk1 : True := trivial
    have tk2 : True := trivial
    have tk3 : True := trivial
    have tk4 : True := trivial
    try dsimp only [List.append]
    go_wp2_with (first
      | (go_at_call 19; clear tk1; refine (gA y0 (Below.refl _ y0)).mono ?_; rintro e x0 ⟨rfl, b0⟩; replace d0 := cell_stays d0 b0; replace d1 := cell_stays d1 b0; replace d2 := cell_stays d2 b0; replace d3 := cell_stays d3 b0; replace e0 := cell_stays e0 b0; replace e00 := cell_stays e00 b0; replace e01 := cell_stays e01 b0; replace e02 := cell_stays e02 b0; replace e1 := cell_stays e1 b0; replace e10 := cell_stays e10 b0; replace e11 := cell_stays e11 b0; replace e12 := cell_stays e12 b0; replace e2 := cell_stays e2 b0; replace e20 := cell_stays e20 b0; replace e21 := cell_stays e21 b0; replace e22 := cell_stays e22 b0; replace e3 := cell_stays e3 b0; replace e30 := cell_stays e30 b0; replace e31 := cell_stays e31 b0; replace e32 := cell_stays e32 b0; replace z0 := cell_stays z0 b0; replace z1 := cell_stays z1 b0; replace z2 := cell_stays z2 b0; have S0 := hide b0; clear b0; dsimp only)
      | (go_at_call 19; clear tk2; refine (gB x0 S0.out).mono ?_; rintro e x1 ⟨rfl, b1⟩; replace d0 := cell_stays d0 b1; replace d1 := cell_stays d1 b1; replace d2 := cell_stays d2 b1; replace d3 := cell_stays d3 b1; replace e0 := cell_stays e0 b1; replace e00 := cell_stays e00 b1; replace e01 := cell_stays e01 b1; replace e02 := cell_stays e02 b1; replace e1 := cell_stays e1 b1; replace e10 := cell_stays e10 b1; replace e11 := cell_stays e11 b1; replace e12 := cell_stays e12 b1; replace e2 := cell_stays e2 b1; replace e20 := cell_stays e20 b1; replace e21 := cell_stays e21 b1; replace e22 := cell_stays e22 b1; replace e3 := cell_stays e3 b1; replace e30 := cell_stays e30 b1; replace e31 := cell_stays e31 b1; replace e32 := cell_stays e32 b1; replace z0 := cell_stays z0 b1; replace z1 := cell_stays z1 b1; replace z2 := cell_stays z2 b1; have S1 := hide (S0.out.trans (b1.mono S0.out.size)); clear b1; dsimp only)
      | (go_at_call 19; clear tk3; refine (gA x1 S1.out).mono ?_; rintro e x2 ⟨rfl, b2⟩; replace d0 := cell_stays d0 b2; replace d1 := cell_stays d1 b2; replace d2 := cell_stays d2 b2; replace d3 := cell_stays d3 b2; replace e0 := cell_stays e0 b2; replace e00 := cell_stays e00 b2; replace e01 := cell_stays e01 b2; replace e02 := cell_stays e02 b2; replace e1 := cell_stays e1 b2; replace e10 := cell_stays e10 b2; replace e11 := cell_stays e11 b2; replace e12 := cell_stays e12 b2; replace e2 := cell_stays e2 b2; replace e20 := cell_stays e20 b2; replace e21 := cell_stays e21 b2; replace e22 := cell_stays e22 b2; replace e3 := cell_stays e3 b2; replace e30 := cell_stays e30 b2; replace e31 := cell_stays e31 b2; replace e32 := cell_stays e32 b2; replace z0 := cell_stays z0 b2; replace z1 := cell_stays z1 b2; replace z2 := cell_stays z2 b2; have S2 := hide (S1.out.trans (b2.mono S1.out.size)); clear b2; dsimp only)
      | (go_at_call 19; clear tk4; refine (gB x2 S2.out).mono ?_; rintro e x3 ⟨rfl, b3⟩; replace d0 := cell_stays d0 b3; replace d1 := cell_stays d1 b3; replace d2 := cell_stays d2 b3; replace d3 := cell_stays d3 b3; replace e0 := cell_stays e0 b3; replace e00 := cell_stays e00 b3; replace e01 := cell_stays e01 b3; replace e02 := cell_stays e02 b3; replace e1 := cell_stays e1 b3; replace e10 := cell_stays e10 b3; replace e11 := cell_stays e11 b3; replace e12 := cell_stays e12 b3; replace e2 := cell_stays e2 b3; replace e20 := cell_stays e20 b3; replace e21 := cell_stays e21 b3; replace e22 := cell_stays e22 b3; replace e3 := cell_stays e3 b3; replace e30 := cell_stays e30 b3; replace e31 := cell_stays e31 b3; replace e32 := cell_stays e32 b3; replace z0 := cell_stays z0 b3; replace z1 := cell_stays z1 b3; replace z2 := cell_stays z2 b3; have S3 := hide (S2.out.trans (b3.mono S2.out.size)); clear b3; dsimp only)
      | (go_at_call 8; refine (HK.out x3).mono ?_; rintro e x4 ⟨rfl, b4⟩; have S4 := hide (S3.out.trans (b4.mono S3.out.size)); clear b4; dsimp only))
    go_ret
    exact ⟨by simp, H9.out.2.trans (S4.out.mono H9.out.2.size)⟩
  · have hf1 := hf.2 hfew
    clear hf hfew
    go_enter Try.func4, Try.ntmps4
    go_wp2_with (first
      | (go_at_call 7; refine hf1.mono ?_; rintro e w1 ⟨rfl, b1⟩; dsimp only)
      | (go_at_call 8; refine (HK.out w1).mono ?_; rintro e w2 ⟨rfl, b2⟩; have S2 := hide (b1.trans (b2.mono b1.size)); clear b2; dsimp only))
    go_ret
    exact ⟨rfl, HT.out.2.1.trans (S2.out.mono HT.out.2.1.size)⟩
end Go.Proofs.Ytckkoigghkgfdaa
