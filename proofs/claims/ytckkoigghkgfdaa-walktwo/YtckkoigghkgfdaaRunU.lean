/-
  walk: Run 18 ONCE MORE, OVER WHATEVER ITS CLOSURE IS KNOWN TO DO; and where it reads nothing.
-/
import Derived.Test.YtckkoigghkgfdaaMapsT
namespace Go.Proofs.Ytckkoigghkgfdaa
open Go.RowKit Go.Shelf
set_option linter.unusedSimpArgs false

/-- What a rule's own memory holds stands while the walk writes its boxes. -/
structure Stays (Tk : Nat) (J : List ByteArray → World → Prop) : Prop where
  stay : ∀ (ks : List ByteArray) (W W' : World), J ks W → (∀ (j : Nat) (cur : Array Value) (e : TypeId) (fr : Nat × Nat), W.heap[j]? = some (Obj.cells cur e fr) → e ≠ 29 → e ≠ 70 → j ≠ Tk → W'.heap[j]? = some (Obj.cells cur e fr)) → J ks W'
theorem Stays.below {Tk : Nat} {J : List ByteArray → World → Prop} (h : Stays Tk J) {ks : List ByteArray} {W W' : World} (hj : J ks W) (hb : Below W.heap.size W W') : J ks W' :=
  h.stay ks W W' hj (fun _ _ _ _ hj _ _ _ => (hb.block _ (Array.getElem?_eq_some_iff.1 hj).1).trans hj)
theorem Stays.box {Tk C : Nat} {J : List ByteArray → World → Prop} (h : Stays Tk J) {ks : List ByteArray} {W W' : World} {u : Value} (hj : J ks W) (hC : W.heap[C]? = some (.cells #[u] 29 (0, 0))) (o : Only (fun j => j = C) W W') : J ks W' :=
  h.stay ks W W' hj (fun j cur e fr hjj h29 _ _ => (o.block _ (Array.getElem?_eq_some_iff.1 hjj).1 (fun d => by rw [d, hC] at hjj; simp only [Option.some.injEq, Obj.cells.injEq] at hjj; exact h29 hjj.2.1.symm)).trans hjj)
set_option maxHeartbeats 8000000 in
set_option maxRecDepth 100000 in
theorem walkRun_core {J : List ByteArray → World → Prop} {RR : T → List ByteArray → Prop} {B g : Nat} {caps : Array Value} (o a b : T) (w : World) (ks : List ByteArray) (hru : ∀ Tk, w.heap.size ≤ Tk → Stays Tk J) (hB : B ≤ w.heap.size) (io : In w o) (ia : In w a) (ib : In w b) (hj : J ks w)
    (hrun0 : ∀ w0 : World, Below w.heap.size w w0 → REnv w0 (w.heap.size + 1 + 1 + 1 + 1 + 1 + 1) (w.heap.size + 1 + 1 + 1 + 1 + 1 + 1 + 1) (w.heap.size + 1 + 1 + 1) (.func (.func g) #[] caps) 0 0 0 → J ks w0 → Calls Try.prog 31 #[mv o, mv a, mv b, .pointer (some ⟨w.heap.size + 1 + 1 + 1 + 1 + 1 + 1, 0, none⟩), .pointer (some ⟨w.heap.size + 1 + 1 + 1 + 1 + 1 + 1 + 1, 0, none⟩), .pointer (some ⟨w.heap.size + 1 + 1 + 1, 0, none⟩)] w0 fun e w' => ∃ t ks', e = .returned (mv t) ∧ RR t ks' ∧ t.n ≤ 2000 ∧ In w' t ∧ J (ks ++ ks') w' ∧ REnv w' (w.heap.size + 1 + 1 + 1 + 1 + 1 + 1) (w.heap.size + 1 + 1 + 1 + 1 + 1 + 1 + 1) (w.heap.size + 1 + 1 + 1) (.func (.func g) #[] caps) (0 + ks'.length) (0 + ks'.length) 0 ∧ Goes B (w.heap.size + 1 + 1 + 1 + 1 + 1 + 1) w0 w') :
    Calls Try.prog 18 #[mv o, mv a, mv b, .func (.func g) #[] caps] w fun e w' => ∃ t ks', e = .returned (.tuple #[mv t, .agg #[.int .i64 (ks'.length : Nat), .int .i64 (ks'.length : Nat), .int .i64 (madeIn [o, a, b] t : Nat)], .int .i64 0]) ∧ RR t ks' ∧ In w' t ∧ J (ks ++ ks') w' ∧ Below B w w' := by
  obtain ⟨po, ho⟩ := o.ptr_shape
  obtain ⟨pa, ha⟩ := a.ptr_shape
  obtain ⟨pb, hb'⟩ := b.ptr_shape
  rw [mv_ptr ho, mv_ptr ha, mv_ptr hb']
  obtain ⟨w0, hw0, m0, m1, m2, m3, m4, m5, m6, m7, hb⟩ := new8 w (.cells #[.pointer po] 29) (.cells #[.pointer pa] 29) (.cells #[.pointer pb] 29) (.cells #[.func (.func g) #[] caps] 42) (.cells #[.pointer none] 29) (.cells #[.int .i64 0, .int .i64 0, .int .i64 0] 33) (.cells #[.int .i64 0, .int .i64 0, .int .i64 0] 33) (.cells #[.func (.func 31) #[] #[.pointer (some ⟨w.heap.size + 1 + 1 + 1 + 1 + 1 + 1, 0, none⟩), .pointer (some ⟨w.heap.size + 1 + 1 + 1 + 1 + 1 + 1 + 1, 0, none⟩), .pointer (some ⟨w.heap.size + 1 + 1 + 1, 0, none⟩)]] 67)
  have hT := hru (w.heap.size + 1 + 1 + 1 + 1 + 1 + 1) (by omega)
  have env : REnv w0 (w.heap.size + 1 + 1 + 1 + 1 + 1 + 1) (w.heap.size + 1 + 1 + 1 + 1 + 1 + 1 + 1) (w.heap.size + 1 + 1 + 1) (.func (.func g) #[] caps) 0 0 0 := ⟨m7, m3, m6⟩
  have hB0 : B ≤ w0.heap.size := Nat.le_trans hB hb.size
  have hrun := hrun0 w0 hb env (hT.below hj hb)
  rw [mv_ptr ho, mv_ptr ha, mv_ptr hb'] at hrun
  have cR : w0.cell? ⟨w.heap.size + 1 + 1 + 1 + 1 + 1 + 1 + 1, 0, none⟩ = some (.func (.func 31) #[] #[.pointer (some ⟨w.heap.size + 1 + 1 + 1 + 1 + 1 + 1, 0, none⟩), .pointer (some ⟨w.heap.size + 1 + 1 + 1 + 1 + 1 + 1 + 1, 0, none⟩), .pointer (some ⟨w.heap.size + 1 + 1 + 1, 0, none⟩)]) := (cell_of_row _ _ 0 _ 67 (0, 0) m7).trans rfl
  have d0 : w0.cell? ⟨w.heap.size, 0, none⟩ = some (.pointer po) := (cell_of_row _ _ 0 _ 29 (0, 0) m0).trans rfl
  have d1 : w0.cell? ⟨w.heap.size + 1, 0, none⟩ = some (.pointer pa) := (cell_of_row _ _ 0 _ 29 (0, 0) m1).trans rfl
  have d2 : w0.cell? ⟨w.heap.size + 1 + 1, 0, none⟩ = some (.pointer pb) := (cell_of_row _ _ 0 _ 29 (0, 0) m2).trans rfl
  have HM := hide (And.intro m0 (And.intro m1 (And.intro m2 (And.intro m4 (And.intro m5 (And.intro hb (And.intro io (And.intro ia (And.intro ib (And.intro ho (And.intro ha hb')))))))))))
  have hnil : ∀ W, (binOp .eql 42 (.func (.func g) #[] caps) .nilFunc).run Try.prog W = .ok (.bool false) W := fun W => by first | rfl | kernel_rfl | simp [binOp, go_sem]
  have hstf : ∀ a f x y m W, (store a (.func f x y) m).run Try.prog W = stored Try.prog W a (.func f x y) m := fun a f x y m W => run_store Try.prog W a _ m rfl
  clear m0 m1 m2 m3 m4 m5 m6 m7 hb env io ia ib ho ha hb' hrun0
  go_enter Try.func18, Try.ntmps18
  go_upto_region 6 with (fail)
  rw [← hw0]
  clear hw0 hstf hnil
  go_upto_region 7 with (go_at_call 31; refine hrun.mono ?_; rintro e w1 ⟨t, ks', he, hruns, htn, it, hj1, he1, hg1⟩; obtain ⟨pt, hpt⟩ := t.ptr_shape; rw [mv_ptr hpt] at he; subst he; have H1 := hide (And.intro hpt (And.intro hruns (And.intro it (And.intro hj1 (And.intro he1 hg1))))); clear hpt hruns it hj1 he1 hg1; dsimp only)
  obtain ⟨hpt, hruns, it, hj1, he1, hg1⟩ := H1.out
  obtain ⟨m0, m1, m2, m4, m5, hb, io, ia, ib, ho, ha, hb'⟩ := HM.out
  have hsz1 : w.heap.size + 1 + 1 + 1 + 1 + 1 < w1.heap.size := Nat.lt_of_lt_of_le (Array.getElem?_eq_some_iff.1 m5).1 hg1.low.size
  have k29 : keepTy 29 := by unfold keepTy; decide
  obtain ⟨w2, hw2⟩ : ∃ w2, w2 = w1.alloc (.cells #[.pointer pt] 29) := ⟨_, rfl⟩
  have b2 : Below w1.heap.size w1 w2 := by rw [hw2]; exact (Below.refl _ w1).alloc (Nat.le_refl _) _
  have r13 : w2.heap[w1.heap.size]? = some (.cells #[.pointer pt] 29 (0, 0)) := by rw [hw2]; exact heap_alloc_new w1 _
  have g2 : Goes B (w.heap.size + 1 + 1 + 1 + 1 + 1 + 1) w0 w2 := hg1.trans (Goes.of b2 (Nat.le_trans hB0 hg1.low.size))
  have n0 := g2.own _ _ _ _ m0 k29
  have n1 := g2.own _ _ _ _ m1 k29
  have n2 := g2.own _ _ _ _ m2 k29
  have n4 := g2.own _ _ _ _ m4 k29
  have n5 := g2.cnt _ _ _ m5 (by omega)
  have he2 := he1.below b2
  obtain ⟨w3, hw3⟩ : ∃ w3, w3 = w2.alloc (.cells #[.pointer po, .pointer pa, .pointer pb] 29) := ⟨_, rfl⟩
  have b3 : Below w2.heap.size w2 w3 := by rw [hw3]; exact (Below.refl _ w2).alloc (Nat.le_refl _) _
  have r3 : w3.heap[w2.heap.size]? = some (.cells #[.pointer po, .pointer pa, .pointer pb] 29 (0, 0)) := by rw [hw3]; exact heap_alloc_new w2 _
  have hmd := made36_any [o, a, b] t w2.heap.size 0 3 w3 (by simp) (In.below b3 (In.below b2 it)) (by omega) (fun s hs => by
    simp only [List.mem_cons, List.not_mem_nil, or_false] at hs
    rcases hs with rfl | rfl | rfl
    · exact In.below b3 (In.goes g2 (In.below hb io))
    · exact In.below b3 (In.goes g2 (In.below hb ia))
    · exact In.below b3 (In.goes g2 (In.below hb ib))) (fun i s hs => by
    rw [Nat.zero_add, cell_of_row _ _ i _ 29 (0, 0) r3]
    match i, hs with
    | 0, hs => simp at hs; subst hs; rw [ho]; rfl
    | 1, hs => simp at hs; subst hs; rw [ha]; rfl
    | 2, hs => simp at hs; subst hs; rw [hb']; rfl)
  rw [mv_ptr hpt] at hmd
  have hml := madeIn_le [o, a, b] t
  generalize hMM : madeIn [o, a, b] t = MM at *
  have c13 : w2.cell? ⟨w1.heap.size, 0, none⟩ = some (.pointer pt) := (cell_of_row _ _ 0 _ 29 (0, 0) r13).trans rfl
  have d0 : w2.cell? ⟨w.heap.size, 0, none⟩ = some (.pointer po) := (cell_of_row _ _ 0 _ 29 (0, 0) n0).trans rfl
  have d1 : w2.cell? ⟨w.heap.size + 1, 0, none⟩ = some (.pointer pa) := (cell_of_row _ _ 0 _ 29 (0, 0) n1).trans rfl
  have d2 : w2.cell? ⟨w.heap.size + 1 + 1, 0, none⟩ = some (.pointer pb) := (cell_of_row _ _ 0 _ 29 (0, 0) n2).trans rfl
  obtain ⟨L, hL⟩ : ∃ L : Nat, L = ks'.length := ⟨_, rfl⟩
  have htk2 : w2.heap[w.heap.size + 1 + 1 + 1 + 1 + 1 + 1]? = some (.cells #[.int .i64 (L : Nat), .int .i64 (L : Nat), .int .i64 0] 33 (0, 0)) := by have := he2.took; rw [hL]; simpa using this
  have HA := hide (And.intro (hb.mono hB) (And.intro g2 (And.intro b3 (And.intro n4 (And.intro n5 (And.intro htk2 (And.intro r13 (And.intro (In.below b2 it) (And.intro hpt (And.intro hruns (And.intro (hT.below hj1 b2) (And.intro hMM hL))))))))))))
  rw [← hw2]
  clear hpt hruns it hj1 he1 hg1 m0 m1 m2 m4 m5 hb io ia ib ho ha hb' htn b2 r13 g2 n0 n1 n2 n4 n5 he2 r3 hml hMM hL htk2 hrun H1 HM b3 hw2
  go_upto_region 7 with (fail)
  go_upto_region 8 with (go_at_call 36; rw [← hw3]; refine hmd.mono ?_; rintro e w4 ⟨rfl, b4⟩; obtain ⟨hb, g2, b3, n4, n5, htk2, r13, it, hpt, hruns, hj2, hMM, hL⟩ := HA.out; have b24 : Below w2.heap.size w2 w4 := b3.trans (b4.mono b3.size); have t4 := (b24.block _ (Array.getElem?_eq_some_iff.1 htk2).1).trans htk2; have e2 : w4.cell? ⟨w.heap.size + 1 + 1 + 1 + 1 + 1 + 1, 2, none⟩ = some (.int .i64 0) := (cell_of_row _ _ 2 _ 33 (0, 0) t4).trans rfl; have f2 : w4.frozen? ⟨w.heap.size + 1 + 1 + 1 + 1 + 1 + 1, 2, none⟩ = false := frozen_of_row _ _ 2 _ 33 t4; have HB4 := hide (And.intro b24 t4); clear hb g2 b3 n4 n5 htk2 r13 it hpt hruns hj2 hMM hL b24 t4 b4; dsimp only)
  obtain ⟨hb, g2, b3, n4, n5, htk2, r13, it, hpt, hruns, hj2, hMM, hL⟩ := HA.out
  obtain ⟨b24, t4⟩ := HB4.out
  obtain ⟨u5, o5⟩ := set_one (i := 2) (.int .i64 (MM : Nat)) t4
  obtain ⟨w5, hw5⟩ : ∃ w5, w5 = w4.setCell ⟨w.heap.size + 1 + 1 + 1 + 1 + 1 + 1, 2, none⟩ (.int .i64 (MM : Nat)) := ⟨_, rfl⟩
  rw [← hw5] at u5 o5
  have u5 : w5.heap[w.heap.size + 1 + 1 + 1 + 1 + 1 + 1]? = some (.cells #[.int .i64 (L : Nat), .int .i64 (L : Nat), .int .i64 (MM : Nat)] 33 (0, 0)) := by simpa using u5
  have hne13 : w1.heap.size ≠ w.heap.size + 1 + 1 + 1 + 1 + 1 + 1 := fun e => by have h1 := r13; rw [e, htk2] at h1; simp at h1
  have r13' := (o5.block _ (Array.getElem?_eq_some_iff.1 ((b24.block _ (Array.getElem?_eq_some_iff.1 r13).1).trans r13)).1 hne13).trans ((b24.block _ (Array.getElem?_eq_some_iff.1 r13).1).trans r13)
  have n4' := (o5.block _ (Array.getElem?_eq_some_iff.1 ((b24.block _ (Array.getElem?_eq_some_iff.1 n4).1).trans n4)).1 (by omega)).trans ((b24.block _ (Array.getElem?_eq_some_iff.1 n4).1).trans n4)
  have n5' := (o5.block _ (Array.getElem?_eq_some_iff.1 ((b24.block _ (Array.getElem?_eq_some_iff.1 n5).1).trans n5)).1 (by omega)).trans ((b24.block _ (Array.getElem?_eq_some_iff.1 n5).1).trans n5)
  have ty33 : ∀ (W' : World) (Bk : Nat) (cs : Array Value), W'.heap[Bk]? = some (.cells cs 33 (0, 0)) → ∀ j, j = Bk → ∀ o', W'.heap[j]? = some o' → ∃ cur e fr, o' = .cells cur e fr ∧ e ≠ 83 := fun W' Bk cs hr j e o' ho' => by
    subst e
    rw [hr] at ho'
    cases ho'
    exact ⟨_, _, _, rfl, by decide⟩
  have it5 := In.typed o5 (ty33 w4 _ _ t4) (In.below b24 it)
  have j5 : J (ks ++ ks') w5 := hT.stay _ _ _ (hT.below hj2 b24) (fun j cur e fr hjj _ _ hne => (o5.block j (Array.getElem?_eq_some_iff.1 hjj).1 hne).trans hjj)
  have hB2 : B ≤ w2.heap.size := Nat.le_trans hB0 g2.low.size
  have bl5 : Below B w w5 := Below.only ((hb.trans g2.low).trans (b24.mono hB2)) o5 (Nat.le_trans hB2 b24.size) (fun j e => by omega)
  have hB5 : B ≤ w5.heap.size := Nat.le_trans hB bl5.size
  -- the map's box
  obtain ⟨u6, o6⟩ := set_one (w := w5.drew) (i := 0) (.pointer pt) n4'
  obtain ⟨w6, hw6⟩ : ∃ w6, w6 = w5.drew.setCell ⟨w.heap.size + 1 + 1 + 1 + 1, 0, none⟩ (.pointer pt) := ⟨_, rfl⟩
  rw [← hw6] at u6 o6
  have n5'' := (o6.block _ (Array.getElem?_eq_some_iff.1 (show w5.drew.heap[w.heap.size + 1 + 1 + 1 + 1 + 1]? = _ from n5')).1 (by omega)).trans (show w5.drew.heap[w.heap.size + 1 + 1 + 1 + 1 + 1]? = _ from n5')
  obtain ⟨u7, o7⟩ := set3 (.int .i64 (L : Nat)) (.int .i64 (L : Nat)) (.int .i64 (MM : Nat)) n5''
  obtain ⟨w7, hw7⟩ : ∃ w7, w7 = (((w6.setCell ⟨w.heap.size + 1 + 1 + 1 + 1 + 1, 0, none⟩ (.int .i64 (L : Nat))).setCell ⟨w.heap.size + 1 + 1 + 1 + 1 + 1, 1, none⟩ (.int .i64 (L : Nat))).setCell ⟨w.heap.size + 1 + 1 + 1 + 1 + 1, 2, none⟩ (.int .i64 (MM : Nat))) := ⟨_, rfl⟩
  rw [← hw7] at u7 o7
  have u6' := (o7.block _ (Array.getElem?_eq_some_iff.1 u6).1 (by omega)).trans u6
  have it7 : In w7 t := In.typed o7 (ty33 w6 _ _ n5'') (In.aside (show w5.drew.heap[w.heap.size + 1 + 1 + 1 + 1]? = _ from n4') o6 (In.below (drew_below w5) it5))
  have j6 : J (ks ++ ks') w6 := hT.box (hT.below j5 (drew_below w5)) (show w5.drew.heap[w.heap.size + 1 + 1 + 1 + 1]? = _ from n4') o6
  have j7 : J (ks ++ ks') w7 := (hru (w.heap.size + 1 + 1 + 1 + 1 + 1) (by omega)).stay _ _ _ j6 (fun j cur e fr hjj _ _ hne => (o7.block j (Array.getElem?_eq_some_iff.1 hjj).1 hne).trans hjj)
  have bl6 : Below B w w6 := Below.only (bl5.trans ((drew_below w5).mono hB5)) o6 hB5 (fun j e => by omega)
  have bl7 : Below B w w7 := Below.only bl6 o7 (Nat.le_trans hB bl6.size) (fun j e => by omega)
  have q0 : w5.cell? ⟨w1.heap.size, 0, none⟩ = some (.pointer pt) ∧ w5.cell? ⟨w.heap.size + 1 + 1 + 1 + 1 + 1 + 1, 0, none⟩ = some (.int .i64 (L : Nat)) ∧ w5.cell? ⟨w.heap.size + 1 + 1 + 1 + 1 + 1 + 1, 1, none⟩ = some (.int .i64 (L : Nat)) ∧ w5.cell? ⟨w.heap.size + 1 + 1 + 1 + 1 + 1 + 1, 2, none⟩ = some (.int .i64 (MM : Nat)) := ⟨(cell_of_row _ _ 0 _ 29 (0, 0) r13').trans rfl, (cell_of_row _ _ 0 _ 33 (0, 0) u5).trans rfl, (cell_of_row _ _ 1 _ 33 (0, 0) u5).trans rfl, (cell_of_row _ _ 2 _ 33 (0, 0) u5).trans rfl⟩
  have hne4 : w1.heap.size ≠ w.heap.size + 1 + 1 + 1 + 1 := by omega
  have hne5 : w1.heap.size ≠ w.heap.size + 1 + 1 + 1 + 1 + 1 := by omega
  have q6 : w6.cell? ⟨w1.heap.size, 0, none⟩ = some (.pointer pt) ∧ w6.cell? ⟨w.heap.size + 1 + 1 + 1 + 1 + 1 + 1, 0, none⟩ = some (.int .i64 (L : Nat)) ∧ w6.cell? ⟨w.heap.size + 1 + 1 + 1 + 1 + 1 + 1, 1, none⟩ = some (.int .i64 (L : Nat)) ∧ w6.cell? ⟨w.heap.size + 1 + 1 + 1 + 1 + 1 + 1, 2, none⟩ = some (.int .i64 (MM : Nat)) := ⟨o6.cell (show w5.drew.cell? _ = _ from q0.1) hne4, o6.cell (show w5.drew.cell? _ = _ from q0.2.1) (fun e => by simp only at e; omega), o6.cell (show w5.drew.cell? _ = _ from q0.2.2.1) (fun e => by simp only at e; omega), o6.cell (show w5.drew.cell? _ = _ from q0.2.2.2) (fun e => by simp only at e; omega)⟩
  have q7 : w7.cell? ⟨w1.heap.size, 0, none⟩ = some (.pointer pt) ∧ w7.cell? ⟨w.heap.size + 1 + 1 + 1 + 1 + 1 + 1, 0, none⟩ = some (.int .i64 (L : Nat)) ∧ w7.cell? ⟨w.heap.size + 1 + 1 + 1 + 1 + 1 + 1, 1, none⟩ = some (.int .i64 (L : Nat)) ∧ w7.cell? ⟨w.heap.size + 1 + 1 + 1 + 1 + 1 + 1, 2, none⟩ = some (.int .i64 (MM : Nat)) := ⟨o7.cell q6.1 hne5, o7.cell q6.2.1 (fun e => by simp only at e; omega), o7.cell q6.2.2.1 (fun e => by simp only at e; omega), o7.cell q6.2.2.2 (fun e => by simp only at e; omega)⟩
  have c4 : w5.drew.cell? ⟨w.heap.size + 1 + 1 + 1 + 1, 0, none⟩ = some (.pointer none) := (cell_of_row w5.drew _ 0 _ 29 (0, 0) n4').trans rfl
  have f4 : w5.drew.frozen? ⟨w.heap.size + 1 + 1 + 1 + 1, 0, none⟩ = false := frozen_of_row w5.drew _ 0 _ 29 n4'
  have c50 : w6.cell? ⟨w.heap.size + 1 + 1 + 1 + 1 + 1, 0, none⟩ = some (.int .i64 0) := (cell_of_row _ _ 0 _ 33 (0, 0) n5'').trans rfl
  have c51 : w6.cell? ⟨w.heap.size + 1 + 1 + 1 + 1 + 1, 1, none⟩ = some (.int .i64 0) := (cell_of_row _ _ 1 _ 33 (0, 0) n5'').trans rfl
  have c52 : w6.cell? ⟨w.heap.size + 1 + 1 + 1 + 1 + 1, 2, none⟩ = some (.int .i64 0) := (cell_of_row _ _ 2 _ 33 (0, 0) n5'').trans rfl
  have f50 : w6.frozen? ⟨w.heap.size + 1 + 1 + 1 + 1 + 1, 0, none⟩ = false := frozen_of_row _ _ 0 _ 33 n5''
  have f51 : w6.frozen? ⟨w.heap.size + 1 + 1 + 1 + 1 + 1, 1, none⟩ = false := frozen_of_row _ _ 1 _ 33 n5''
  have f52 : w6.frozen? ⟨w.heap.size + 1 + 1 + 1 + 1 + 1, 2, none⟩ = false := frozen_of_row _ _ 2 _ 33 n5''
  have HFI := hide (And.intro u6' (And.intro u7 (And.intro it7 (And.intro j7 (And.intro bl7 (And.intro hpt (And.intro hruns (And.intro hMM hL))))))))
  rw [← hw5]
  clear hb g2 b3 n4 n5 htk2 r13 it hpt hruns hj2 hMM hL b24 t4 u5 o5 hw5 r13' n4' n5' ty33 it5 j5 bl5 u6 o6 n5'' u7 o7 u6' it7 j6 j7 bl6 bl7 e2 f2 hmd hw3 HA HB4 c13 d0 d1 d2 cR
  have qd : w5.drew.cell? ⟨w1.heap.size, 0, none⟩ = some (.pointer pt) ∧ w5.drew.cell? ⟨w.heap.size + 1 + 1 + 1 + 1 + 1 + 1, 0, none⟩ = some (.int .i64 (L : Nat)) ∧ w5.drew.cell? ⟨w.heap.size + 1 + 1 + 1 + 1 + 1 + 1, 1, none⟩ = some (.int .i64 (L : Nat)) ∧ w5.drew.cell? ⟨w.heap.size + 1 + 1 + 1 + 1 + 1 + 1, 2, none⟩ = some (.int .i64 (MM : Nat)) := q0
  refine wp_region_held_drew (S := (fun w' => w'.cell? ⟨w1.heap.size, 0, none⟩ = some (.pointer pt) ∧ w'.cell? ⟨w.heap.size + 1 + 1 + 1 + 1 + 1 + 1, 0, none⟩ = some (.int .i64 (L : Nat)) ∧ w'.cell? ⟨w.heap.size + 1 + 1 + 1 + 1 + 1 + 1, 1, none⟩ = some (.int .i64 (L : Nat)) ∧ w'.cell? ⟨w.heap.size + 1 + 1 + 1 + 1 + 1 + 1, 2, none⟩ = some (.int .i64 (MM : Nat)))) (by kernel_rfl) qd (fun hHeld => ?_)
  try dsimp only at hHeld
  refine take_op (i := 0) (d := 31) (OP := Op.load 29 (Operand.tmp 13)) (T := 29) (v := ?vzz1) rfl rfl rfl rfl (by kernel_rfl) (by kernel_rfl) (by kernel_rfl) (fun _ _ _ h => h) (by rfl) ?hzz1 hHeld ?rzz1
  case hzz1 => (intro w' hSw; (try dsimp only at hSw); go_simp <;> with_reducible rfl)
  try simp only [Act.put, List.setIfInBounds_toArray, List.set_cons_zero, List.set_cons_succ]
  refine take_op (i := 1) (d := 32) (OP := Op.load 33 (Operand.tmp 11)) (T := 33) (v := ?vzz2) rfl rfl rfl rfl (by kernel_rfl) (by kernel_rfl) (by kernel_rfl) (fun _ _ _ h => h) (by rfl) ?hzz2 hHeld ?rzz2
  case hzz2 => (intro w' hSw; (try dsimp only at hSw); go_simp <;> with_reducible rfl)
  try simp only [Act.put, List.setIfInBounds_toArray, List.set_cons_zero, List.set_cons_succ]
  refine skip_op (i := 2) (OP := Op.store 29 (Operand.tmp 8) (Operand.tmp 31)) (T := 0) (w' := w6) rfl rfl rfl rfl (by kernel_rfl) (by rfl) (by rw [hw6]; go_simp) ⟨q6, ?_⟩
  try simp only [Act.put, List.setIfInBounds_toArray, List.set_cons_zero, List.set_cons_succ]
  replace hHeld := q6
  clear hw6
  refine skip_op (i := 3) (OP := Op.store 33 (Operand.tmp 9) (Operand.tmp 32)) (T := 0) (w' := w7) rfl rfl rfl rfl (by kernel_rfl) (by rfl) (by rw [hw7]; go_simp) ⟨q7, ?_⟩
  try simp only [Act.put, List.setIfInBounds_toArray, List.set_cons_zero, List.set_cons_succ]
  replace hHeld := q7
  refine take_op (i := 4) (d := 10) (OP := Op.assign (Operand.const (Value.int IntKind.i64 0))) (T := 46) (v := ?vzz3) rfl rfl rfl rfl (by kernel_rfl) (by kernel_rfl) (by kernel_rfl) (fun _ _ _ h => h) (by rfl) ?hzz3 hHeld ?rzz3
  case hzz3 => (intro w' hSw; (try dsimp only at hSw); go_simp <;> with_reducible rfl)
  try simp only [Act.put, List.setIfInBounds_toArray, List.set_cons_zero, List.set_cons_succ]
  refine wpAnyH_done (by kernel_rfl) ?_ _
  go_wp2
  refine ret_rr_t (w.heap.size + 1 + 1 + 1 + 1) (w.heap.size + 1 + 1 + 1 + 1 + 1) [.pointer pt] [.int .i64 (L : Nat), .int .i64 (L : Nat), .int .i64 (MM : Nat)] rfl rfl rfl rfl Try.underlying29 rfl Try.underlying33 rfl Try.info29 Try.info33 HFI.out.1 HFI.out.2.1 rfl ?_
  obtain ⟨_, _, it7, j7, bl7, hpt, hruns, hMM, hL⟩ := HFI.out
  exact ⟨t, ks', by rw [mv_ptr hpt, hMM, ← hL]; rfl, hruns, it7, j7, bl7⟩
/-- Run where it reads nothing. -/
theorem walkRun_unread {g : Nat} {caps : Array Value} (o a b : T) (w : World) (io : In w o) (ia : In w a) (ib : In w b) (so : Srt o.list) (sa : Srt a.list) (sb : Srt b.list) (no : o.n ≤ 1000) (nab : a.n + b.n ≤ 1000) (h : a = b ∨ o = a ∨ o = b) :
    Calls Try.prog 18 #[mv o, mv a, mv b, .func (.func g) #[] caps] w fun e w' => e = .returned (.tuple #[mv (unread o a b), .agg #[.int .i64 0, .int .i64 0, .int .i64 0], .int .i64 0]) ∧ In w' (unread o a b) ∧ Below w.heap.size w w' := by
  refine (walkRun_core (J := fun _ _ => True) (RR := fun t ks => t = unread o a b ∧ ks = []) (B := w.heap.size) o a b w [] (fun _ _ => ⟨fun _ _ _ _ _ => trivial⟩) (Nat.le_refl _) io ia ib trivial ?_).mono ?_
  · intro w0 hb he _
    refine (run_unread o a b _ _ _ w0 (In.below hb io) (In.below hb ia) (In.below hb ib) h).mono ?_
    rintro e w' ⟨rfl, iu, hb'⟩
    have hm := unread_mem o a b
    have hn : (unread o a b).n ≤ 2000 := by
      simp only [List.mem_cons, List.not_mem_nil, or_false] at hm
      rcases hm with e | e | e <;> rw [e] <;> omega
    exact ⟨unread o a b, [], rfl, ⟨rfl, rfl⟩, hn, iu, trivial, by simpa using he.below hb', Goes.of hb' hb.size⟩
  · rintro e w' ⟨t, ks, rfl, ⟨rfl, rfl⟩, it, _, hb⟩
    have hm := unread_mem o a b
    have hs : Srt (unread o a b).list := by
      simp only [List.mem_cons, List.not_mem_nil, or_false] at hm
      rcases hm with e | e | e <;> rw [e] <;> assumption
    rw [madeIn_self hm hs]
    exact ⟨rfl, it, hb⟩
end Go.Proofs.Ytckkoigghkgfdaa
