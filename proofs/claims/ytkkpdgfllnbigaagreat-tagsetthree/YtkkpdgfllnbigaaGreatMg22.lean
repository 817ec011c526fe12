/-
  walk: Run, the base apart from the first side.
  walk: Elements, the base apart from the first side, whatever the values are.
  Three maps of elements run together, against the document's lists: plainly.
  tagset: Insert (30).
-/
import Derived.Test.YtkkpdgfllnbigaaGreatPARun
import Derived.Test.YtkkpdgfllnbigaaGreatMg14
import Derived.Test.YtkkpdgfllnbigaaGreatMg15
import Derived.Test.YtkkpdgfllnbigaaGreatMg21
import Derived.Test.YtkkpdgfllnbigaaGreatMg18
import Derived.Test.YtkkpdgfllnbigaaGreatMg20
namespace Go.Proofs.YtkkpdgfllnbigaaGreat.Pm
open Go.RowKit Go.Shelf
set_option linter.unusedSimpArgs false
set_option maxHeartbeats 8000000 in
set_option maxRecDepth 100000 in
theorem walkRun_apart {V : ByteArray → ByteArray × Bool → Prop} {R : ByteArray → ByteArray × Bool → ByteArray × Bool → ByteArray × Bool → ByteArray × Bool} {J : List ByteArray → World → Prop} {A : ByteArray → ByteArray × Bool → ByteArray × Bool → ByteArray × Bool → Prop} {B g : Nat} {caps : Array Value} (hR : FairA V R) (o a b : T) (w : World) (ks : List ByteArray) (hru : ∀ Tk, w.heap.size ≤ Tk → RuleOk A B Tk g caps R J) (hB : B ≤ w.heap.size) (ht : Trio V w o a b) (hap : Apart o a) (hask : AskOk A o a b) (hks : ks.length ≤ 1000) (hj : J ks w) :
    Calls Tryz.prog 184 #[mv o, mv a, mv b, .func (.func g) #[] caps] w fun e w' => ∃ t ks', e = .returned (.tuple #[mv t, .agg #[.int .i64 (ks'.length : Nat), .int .i64 (ks'.length : Nat), .int .i64 (madeIn [o, a, b] t : Nat)], .int .i64 0]) ∧ RunsA w.heap.size R o a b t ks' ∧ In w' t ∧ J (ks ++ ks') w' ∧ Below B w w' := by
  obtain ⟨po, ho⟩ := o.ptr_shape
  obtain ⟨pa, ha⟩ := a.ptr_shape
  obtain ⟨pb, hb'⟩ := b.ptr_shape
  rw [mv_ptr ho, mv_ptr ha, mv_ptr hb']
  obtain ⟨w0, hw0, m0, m1, m2, m3, m4, m5, m6, m7, hb⟩ := new8 w (.cells #[.pointer po] 27) (.cells #[.pointer pa] 27) (.cells #[.pointer pb] 27) (.cells #[.func (.func g) #[] caps] 180) (.cells #[.pointer none] 27) (.cells #[.int .i64 0, .int .i64 0, .int .i64 0] 136) (.cells #[.int .i64 0, .int .i64 0, .int .i64 0] 136) (.cells #[.func (.func 223) #[] #[.pointer (some ⟨w.heap.size + 1 + 1 + 1 + 1 + 1 + 1, 0, none⟩), .pointer (some ⟨w.heap.size + 1 + 1 + 1 + 1 + 1 + 1 + 1, 0, none⟩), .pointer (some ⟨w.heap.size + 1 + 1 + 1, 0, none⟩)]] 208)
  have hT := hru (w.heap.size + 1 + 1 + 1 + 1 + 1 + 1) (by omega)
  have env : REnv w0 (w.heap.size + 1 + 1 + 1 + 1 + 1 + 1) (w.heap.size + 1 + 1 + 1 + 1 + 1 + 1 + 1) (w.heap.size + 1 + 1 + 1) (.func (.func g) #[] caps) 0 0 0 := ⟨m7, m3, m6⟩
  have ht0 : Trio V w0 o a b := ht.goes (Goes.of (B := B) (Tk := w.heap.size + 1 + 1 + 1 + 1 + 1 + 1) hb hB)
  have hB0 : B ≤ w0.heap.size := Nat.le_trans hB hb.size
  have hnab := ht.nab
  have hrun := run_apart hR hT (by omega) (a.n + b.n) o a b w0 ks 0 0 0 (Nat.le_refl _) (by omega) (by omega) (by omega) (by omega) (by omega) ht0 hap hask env (hT.below hj hb) hB0
  rw [mv_ptr ho, mv_ptr ha, mv_ptr hb'] at hrun
  have cR : w0.cell? ⟨w.heap.size + 1 + 1 + 1 + 1 + 1 + 1 + 1, 0, none⟩ = some (.func (.func 223) #[] #[.pointer (some ⟨w.heap.size + 1 + 1 + 1 + 1 + 1 + 1, 0, none⟩), .pointer (some ⟨w.heap.size + 1 + 1 + 1 + 1 + 1 + 1 + 1, 0, none⟩), .pointer (some ⟨w.heap.size + 1 + 1 + 1, 0, none⟩)]) := (cell_of_row _ _ 0 _ 208 (0, 0) m7).trans rfl
  have d0 : w0.cell? ⟨w.heap.size, 0, none⟩ = some (.pointer po) := (cell_of_row _ _ 0 _ 27 (0, 0) m0).trans rfl
  have d1 : w0.cell? ⟨w.heap.size + 1, 0, none⟩ = some (.pointer pa) := (cell_of_row _ _ 0 _ 27 (0, 0) m1).trans rfl
  have d2 : w0.cell? ⟨w.heap.size + 1 + 1, 0, none⟩ = some (.pointer pb) := (cell_of_row _ _ 0 _ 27 (0, 0) m2).trans rfl
  have HM := hide (And.intro m0 (And.intro m1 (And.intro m2 (And.intro m4 (And.intro m5 (And.intro hb (And.intro ht0 (And.intro ho (And.intro ha hb')))))))))
  have hnil : ∀ W, (binOp .eql 180 (.func (.func g) #[] caps) .nilFunc).run Tryz.prog W = .ok (.bool false) W := fun W => by first | rfl | kernel_rfl | simp [binOp, go_sem]
  have hstf : ∀ a f x y m W, (store a (.func f x y) m).run Tryz.prog W = stored Tryz.prog W a (.func f x y) m := fun a f x y m W => run_store Tryz.prog W a _ m rfl
  clear m0 m1 m2 m3 m4 m5 m6 m7 hb env ht0 ho ha hb' ht hap
  go_enter Tryz.func184, Tryz.ntmps184
  go_upto_region 6 with (fail)
  rw [← hw0]
  clear hw0 hstf hnil
  go_upto_region 7 with (go_at_call 223; refine hrun.mono ?_; rintro e w1 ⟨t, ks', he, hruns, it, hj1, he1, hg1⟩; obtain ⟨pt, hpt⟩ := t.ptr_shape; rw [mv_ptr hpt] at he; subst he; have H1 := hide (And.intro hpt (And.intro hruns (And.intro it (And.intro hj1 (And.intro he1 hg1))))); clear hpt hruns it hj1 he1 hg1; dsimp only)
  obtain ⟨hpt, hruns, it, hj1, he1, hg1⟩ := H1.out
  obtain ⟨m0, m1, m2, m4, m5, hb, ht0, ho, ha, hb'⟩ := HM.out
  have hsz1 : w.heap.size + 1 + 1 + 1 + 1 + 1 < w1.heap.size := Nat.lt_of_lt_of_le (gI m5).1 hg1.low.size
  have k29 : keepTy 27 := by unfold keepTy; decide
  have sy := hruns.says hR ht0.so ht0.sa ht0.sb ht0.bo ht0.ba ht0.bb ht0.vo ht0.va ht0.vb
  have htn := sy.tn
  obtain ⟨w2, hw2⟩ : ∃ w2, w2 = w1.alloc (.cells #[.pointer pt] 27) := ⟨_, rfl⟩
  have b2 : Below w1.heap.size w1 w2 := by rw [hw2]; exact (Below.refl _ w1).alloc (Nat.le_refl _) _
  have r13 : w2.heap[w1.heap.size]? = some (.cells #[.pointer pt] 27 (0, 0)) := by rw [hw2]; exact heap_alloc_new w1 _
  have g2 : Goes B (w.heap.size + 1 + 1 + 1 + 1 + 1 + 1) w0 w2 := hg1.trans (Goes.of b2 (Nat.le_trans hB0 hg1.low.size))
  have n0 := g2.own _ _ _ _ m0 k29
  have n1 := g2.own _ _ _ _ m1 k29
  have n2 := g2.own _ _ _ _ m2 k29
  have n4 := g2.own _ _ _ _ m4 k29
  have n5 := g2.cnt _ _ _ m5 (by omega)
  have he2 := he1.below b2
  obtain ⟨w3, hw3⟩ : ∃ w3, w3 = w2.alloc (.cells #[.pointer po, .pointer pa, .pointer pb] 27) := ⟨_, rfl⟩
  have b3 : Below w2.heap.size w2 w3 := by rw [hw3]; exact (Below.refl _ w2).alloc (Nat.le_refl _) _
  have r3 : w3.heap[w2.heap.size]? = some (.cells #[.pointer po, .pointer pa, .pointer pb] 27 (0, 0)) := by rw [hw3]; exact heap_alloc_new w2 _
  have hmd := made36_any [o, a, b] t w2.heap.size 0 3 w3 (by simp) (In.below b3 (In.below b2 it)) (by omega) (fun s hs => by
    simp only [List.mem_cons, List.not_mem_nil, or_false] at hs
    rcases hs with rfl | rfl | rfl
    · exact In.below b3 (In.goes g2 ht0.io)
    · exact In.below b3 (In.goes g2 ht0.ia)
    · exact In.below b3 (In.goes g2 ht0.ib)) (fun i s hs => by
    rw [Nat.zero_add, cell_of_row _ _ i _ 27 (0, 0) r3]
    match i, hs with
    | 0, hs => simp at hs; subst hs; rw [ho]; rfl
    | 1, hs => simp at hs; subst hs; rw [ha]; rfl
    | 2, hs => simp at hs; subst hs; rw [hb']; rfl)
  rw [mv_ptr hpt] at hmd
  have hml := madeIn_le [o, a, b] t
  generalize hMM : madeIn [o, a, b] t = MM at *
  have c13 : w2.cell? ⟨w1.heap.size, 0, none⟩ = some (.pointer pt) := (cell_of_row _ _ 0 _ 27 (0, 0) r13).trans rfl
  have d0 : w2.cell? ⟨w.heap.size, 0, none⟩ = some (.pointer po) := (cell_of_row _ _ 0 _ 27 (0, 0) n0).trans rfl
  have d1 : w2.cell? ⟨w.heap.size + 1, 0, none⟩ = some (.pointer pa) := (cell_of_row _ _ 0 _ 27 (0, 0) n1).trans rfl
  have d2 : w2.cell? ⟨w.heap.size + 1 + 1, 0, none⟩ = some (.pointer pb) := (cell_of_row _ _ 0 _ 27 (0, 0) n2).trans rfl
  obtain ⟨L, hL⟩ : ∃ L : Nat, L = ks'.length := ⟨_, rfl⟩
  have htk2 : w2.heap[w.heap.size + 1 + 1 + 1 + 1 + 1 + 1]? = some (.cells #[.int .i64 (L : Nat), .int .i64 (L : Nat), .int .i64 0] 136 (0, 0)) := by have := he2.took; rw [hL]; simpa using this
  have HA := hide (And.intro (hb.mono hB) (And.intro g2 (And.intro b3 (And.intro n4 (And.intro n5 (And.intro htk2 (And.intro r13 (And.intro (In.below b2 it) (And.intro hpt (And.intro (hruns.mono hb.size) (And.intro (hT.below hj1 b2) (And.intro hMM hL))))))))))))
  rw [← hw2]
  clear hpt hruns it hj1 he1 hg1 m0 m1 m2 m4 m5 hb ht0 ho ha hb' sy htn b2 r13 g2 n0 n1 n2 n4 n5 he2 r3 hml hMM hL htk2 hrun H1 HM b3 hw2
  go_upto_region 7 with (fail)
  go_upto_region 8 with (go_at_call 228; rw [← hw3]; refine hmd.mono ?_; rintro e w4 ⟨rfl, b4⟩; obtain ⟨hb, g2, b3, n4, n5, htk2, r13, it, hpt, hruns, hj2, hMM, hL⟩ := HA.out; have b24 : Below w2.heap.size w2 w4 := b3.trans (b4.mono b3.size); have t4 := (b24.block _ (gI htk2).1).trans htk2; have e2 : w4.cell? ⟨w.heap.size + 1 + 1 + 1 + 1 + 1 + 1, 2, none⟩ = some (.int .i64 0) := (cell_of_row _ _ 2 _ 136 (0, 0) t4).trans rfl; have f2 : w4.frozen? ⟨w.heap.size + 1 + 1 + 1 + 1 + 1 + 1, 2, none⟩ = false := frozen_of_row _ _ 2 _ 136 t4; have HB4 := hide (And.intro b24 t4); clear hb g2 b3 n4 n5 htk2 r13 it hpt hruns hj2 hMM hL b24 t4 b4; dsimp only)
  obtain ⟨hb, g2, b3, n4, n5, htk2, r13, it, hpt, hruns, hj2, hMM, hL⟩ := HA.out
  obtain ⟨b24, t4⟩ := HB4.out
  obtain ⟨u5, o5⟩ := set_one (i := 2) (.int .i64 (MM : Nat)) t4
  obtain ⟨w5, hw5⟩ : ∃ w5, w5 = w4.setCell ⟨w.heap.size + 1 + 1 + 1 + 1 + 1 + 1, 2, none⟩ (.int .i64 (MM : Nat)) := ⟨_, rfl⟩
  rw [← hw5] at u5 o5
  have u5 : w5.heap[w.heap.size + 1 + 1 + 1 + 1 + 1 + 1]? = some (.cells #[.int .i64 (L : Nat), .int .i64 (L : Nat), .int .i64 (MM : Nat)] 136 (0, 0)) := by simpa using u5
  have hne13 : w1.heap.size ≠ w.heap.size + 1 + 1 + 1 + 1 + 1 + 1 := fun e => by have h1 := r13; rw [e, htk2] at h1; simp at h1
  have r13' := (o5.block _ (gI ((b24.block _ (gI r13).1).trans r13)).1 hne13).trans ((b24.block _ (gI r13).1).trans r13)
  have n4' := (o5.block _ (gI ((b24.block _ (gI n4).1).trans n4)).1 (by omega)).trans ((b24.block _ (gI n4).1).trans n4)
  have n5' := (o5.block _ (gI ((b24.block _ (gI n5).1).trans n5)).1 (by omega)).trans ((b24.block _ (gI n5).1).trans n5)
  have ty33 : ∀ (W' : World) (Bk : Nat) (cs : Array Value), W'.heap[Bk]? = some (.cells cs 136 (0, 0)) → ∀ j, j = Bk → ∀ o', W'.heap[j]? = some o' → ∃ cur e fr, o' = .cells cur e fr ∧ e ≠ 162 := fun W' Bk cs hr j e o' ho' => by
    subst e
    rw [hr] at ho'
    cases ho'
    exact ⟨_, _, _, rfl, by decide⟩
  have it5 := In.typed o5 (ty33 w4 _ _ t4) (In.below b24 it)
  have j5 : J (ks ++ ks') w5 := hT.set (hT.below hj2 b24) o5 (by omega) t4
  have hB2 : B ≤ w2.heap.size := Nat.le_trans hB0 g2.low.size
  have bl5 : Below B w w5 := Below.only ((hb.trans g2.low).trans (b24.mono hB2)) o5 (Nat.le_trans hB2 b24.size) (fun j e => by omega)
  have hB5 : B ≤ w5.heap.size := Nat.le_trans hB bl5.size
  -- the map's box
  obtain ⟨u6, o6⟩ := set_one (w := w5.drew) (i := 0) (.pointer pt) n4'
  obtain ⟨w6, hw6⟩ : ∃ w6, w6 = w5.drew.setCell ⟨w.heap.size + 1 + 1 + 1 + 1, 0, none⟩ (.pointer pt) := ⟨_, rfl⟩
  rw [← hw6] at u6 o6
  have n5'' := (o6.block _ (gI (show w5.drew.heap[w.heap.size + 1 + 1 + 1 + 1 + 1]? = _ from n5')).1 (by omega)).trans (show w5.drew.heap[w.heap.size + 1 + 1 + 1 + 1 + 1]? = _ from n5')
  obtain ⟨u7, o7⟩ := set3 (.int .i64 (L : Nat)) (.int .i64 (L : Nat)) (.int .i64 (MM : Nat)) n5''
  obtain ⟨w7, hw7⟩ : ∃ w7, w7 = (((w6.setCell ⟨w.heap.size + 1 + 1 + 1 + 1 + 1, 0, none⟩ (.int .i64 (L : Nat))).setCell ⟨w.heap.size + 1 + 1 + 1 + 1 + 1, 1, none⟩ (.int .i64 (L : Nat))).setCell ⟨w.heap.size + 1 + 1 + 1 + 1 + 1, 2, none⟩ (.int .i64 (MM : Nat))) := ⟨_, rfl⟩
  rw [← hw7] at u7 o7
  have u6' := (o7.block _ (gI u6).1 (by omega)).trans u6
  have it7 : In w7 t := In.typed o7 (ty33 w6 _ _ n5'') (In.aside (show w5.drew.heap[w.heap.size + 1 + 1 + 1 + 1]? = _ from n4') o6 (In.below (drew_below w5) it5))
  have j6 : J (ks ++ ks') w6 := hT.box (hT.below j5 (drew_below w5)) (show w5.drew.heap[w.heap.size + 1 + 1 + 1 + 1]? = _ from n4') o6 (by omega)
  have j7 : J (ks ++ ks') w7 := (hru (w.heap.size + 1 + 1 + 1 + 1 + 1) (by omega)).set j6 o7 (by omega) n5''
  have bl6 : Below B w w6 := Below.only (bl5.trans ((drew_below w5).mono hB5)) o6 hB5 (fun j e => by omega)
  have bl7 : Below B w w7 := Below.only bl6 o7 (Nat.le_trans hB bl6.size) (fun j e => by omega)
  have q0 : w5.cell? ⟨w1.heap.size, 0, none⟩ = some (.pointer pt) ∧ w5.cell? ⟨w.heap.size + 1 + 1 + 1 + 1 + 1 + 1, 0, none⟩ = some (.int .i64 (L : Nat)) ∧ w5.cell? ⟨w.heap.size + 1 + 1 + 1 + 1 + 1 + 1, 1, none⟩ = some (.int .i64 (L : Nat)) ∧ w5.cell? ⟨w.heap.size + 1 + 1 + 1 + 1 + 1 + 1, 2, none⟩ = some (.int .i64 (MM : Nat)) := ⟨(cell_of_row _ _ 0 _ 27 (0, 0) r13').trans rfl, (cell_of_row _ _ 0 _ 136 (0, 0) u5).trans rfl, (cell_of_row _ _ 1 _ 136 (0, 0) u5).trans rfl, (cell_of_row _ _ 2 _ 136 (0, 0) u5).trans rfl⟩
  have hne4 : w1.heap.size ≠ w.heap.size + 1 + 1 + 1 + 1 := by omega
  have hne5 : w1.heap.size ≠ w.heap.size + 1 + 1 + 1 + 1 + 1 := by omega
  have q6 : w6.cell? ⟨w1.heap.size, 0, none⟩ = some (.pointer pt) ∧ w6.cell? ⟨w.heap.size + 1 + 1 + 1 + 1 + 1 + 1, 0, none⟩ = some (.int .i64 (L : Nat)) ∧ w6.cell? ⟨w.heap.size + 1 + 1 + 1 + 1 + 1 + 1, 1, none⟩ = some (.int .i64 (L : Nat)) ∧ w6.cell? ⟨w.heap.size + 1 + 1 + 1 + 1 + 1 + 1, 2, none⟩ = some (.int .i64 (MM : Nat)) := ⟨o6.cell (show w5.drew.cell? _ = _ from q0.1) hne4, o6.cell (show w5.drew.cell? _ = _ from q0.2.1) (fun e => by simp only at e; omega), o6.cell (show w5.drew.cell? _ = _ from q0.2.2.1) (fun e => by simp only at e; omega), o6.cell (show w5.drew.cell? _ = _ from q0.2.2.2) (fun e => by simp only at e; omega)⟩
  have q7 : w7.cell? ⟨w1.heap.size, 0, none⟩ = some (.pointer pt) ∧ w7.cell? ⟨w.heap.size + 1 + 1 + 1 + 1 + 1 + 1, 0, none⟩ = some (.int .i64 (L : Nat)) ∧ w7.cell? ⟨w.heap.size + 1 + 1 + 1 + 1 + 1 + 1, 1, none⟩ = some (.int .i64 (L : Nat)) ∧ w7.cell? ⟨w.heap.size + 1 + 1 + 1 + 1 + 1 + 1, 2, none⟩ = some (.int .i64 (MM : Nat)) := ⟨o7.cell q6.1 hne5, o7.cell q6.2.1 (fun e => by simp only at e; omega), o7.cell q6.2.2.1 (fun e => by simp only at e; omega), o7.cell q6.2.2.2 (fun e => by simp only at e; omega)⟩
  have c4 : w5.drew.cell? ⟨w.heap.size + 1 + 1 + 1 + 1, 0, none⟩ = some (.pointer none) := (cell_of_row w5.drew _ 0 _ 27 (0, 0) n4').trans rfl
  have f4 : w5.drew.frozen? ⟨w.heap.size + 1 + 1 + 1 + 1, 0, none⟩ = false := frozen_of_row w5.drew _ 0 _ 27 n4'
  have c50 : w6.cell? ⟨w.heap.size + 1 + 1 + 1 + 1 + 1, 0, none⟩ = some (.int .i64 0) := (cell_of_row _ _ 0 _ 136 (0, 0) n5'').trans rfl
  have c51 : w6.cell? ⟨w.heap.size + 1 + 1 + 1 + 1 + 1, 1, none⟩ = some (.int .i64 0) := (cell_of_row _ _ 1 _ 136 (0, 0) n5'').trans rfl
  have c52 : w6.cell? ⟨w.heap.size + 1 + 1 + 1 + 1 + 1, 2, none⟩ = some (.int .i64 0) := (cell_of_row _ _ 2 _ 136 (0, 0) n5'').trans rfl
  have f50 : w6.frozen? ⟨w.heap.size + 1 + 1 + 1 + 1 + 1, 0, none⟩ = false := frozen_of_row _ _ 0 _ 136 n5''
  have f51 : w6.frozen? ⟨w.heap.size + 1 + 1 + 1 + 1 + 1, 1, none⟩ = false := frozen_of_row _ _ 1 _ 136 n5''
  have f52 : w6.frozen? ⟨w.heap.size + 1 + 1 + 1 + 1 + 1, 2, none⟩ = false := frozen_of_row _ _ 2 _ 136 n5''
  have HFI := hide (And.intro u6' (And.intro u7 (And.intro it7 (And.intro j7 (And.intro bl7 (And.intro hpt (And.intro hruns (And.intro hMM hL))))))))
  rw [← hw5]
  clear hb g2 b3 n4 n5 htk2 r13 it hpt hruns hj2 hMM hL b24 t4 u5 o5 hw5 r13' n4' n5' ty33 it5 j5 bl5 u6 o6 n5'' u7 o7 u6' it7 j6 j7 bl6 bl7 e2 f2 hmd hw3 HA HB4 c13 d0 d1 d2 cR
  have qd : w5.drew.cell? ⟨w1.heap.size, 0, none⟩ = some (.pointer pt) ∧ w5.drew.cell? ⟨w.heap.size + 1 + 1 + 1 + 1 + 1 + 1, 0, none⟩ = some (.int .i64 (L : Nat)) ∧ w5.drew.cell? ⟨w.heap.size + 1 + 1 + 1 + 1 + 1 + 1, 1, none⟩ = some (.int .i64 (L : Nat)) ∧ w5.drew.cell? ⟨w.heap.size + 1 + 1 + 1 + 1 + 1 + 1, 2, none⟩ = some (.int .i64 (MM : Nat)) := q0
  refine wp_region_held_drew (S := (fun w' => w'.cell? ⟨w1.heap.size, 0, none⟩ = some (.pointer pt) ∧ w'.cell? ⟨w.heap.size + 1 + 1 + 1 + 1 + 1 + 1, 0, none⟩ = some (.int .i64 (L : Nat)) ∧ w'.cell? ⟨w.heap.size + 1 + 1 + 1 + 1 + 1 + 1, 1, none⟩ = some (.int .i64 (L : Nat)) ∧ w'.cell? ⟨w.heap.size + 1 + 1 + 1 + 1 + 1 + 1, 2, none⟩ = some (.int .i64 (MM : Nat)))) (by kernel_rfl) qd (fun hHeld => ?_)
  try dsimp only at hHeld
  refine take_op (i := 0) (d := 31) (OP := Op.load 27 (Operand.tmp 13)) (T := 27) (v := ?v1) rfl rfl rfl rfl (by kernel_rfl) (by kernel_rfl) (by kernel_rfl) (fun _ _ _ h => h) (by rfl) ?h1 hHeld ?r1
  case h1 => (intro w' hSw; (try dsimp only at hSw); go_simp <;> with_reducible rfl)
  try simp only [Act.put, sI, sZ, sS]
  refine take_op (i := 1) (d := 32) (OP := Op.load 136 (Operand.tmp 11)) (T := 136) (v := ?v2) rfl rfl rfl rfl (by kernel_rfl) (by kernel_rfl) (by kernel_rfl) (fun _ _ _ h => h) (by rfl) ?h2 hHeld ?r2
  case h2 => (intro w' hSw; (try dsimp only at hSw); go_simp <;> with_reducible rfl)
  try simp only [Act.put, sI, sZ, sS]
  refine skip_op (i := 2) (OP := Op.store 27 (Operand.tmp 8) (Operand.tmp 31)) (T := 0) (w' := w6) rfl rfl rfl rfl (by kernel_rfl) (by rfl) (by rw [hw6]; go_simp) ⟨q6, ?_⟩
  try simp only [Act.put, sI, sZ, sS]
  replace hHeld := q6
  clear hw6
  refine skip_op (i := 3) (OP := Op.store 136 (Operand.tmp 9) (Operand.tmp 32)) (T := 0) (w' := w7) rfl rfl rfl rfl (by kernel_rfl) (by rfl) (by rw [hw7]; go_simp) ⟨q7, ?_⟩
  try simp only [Act.put, sI, sZ, sS]
  replace hHeld := q7
  refine take_op (i := 4) (d := 10) (OP := Op.assign (Operand.const (Value.int IntKind.i64 0))) (T := 28) (v := ?v3) rfl rfl rfl rfl (by kernel_rfl) (by kernel_rfl) (by kernel_rfl) (fun _ _ _ h => h) (by rfl) ?h3 hHeld ?r3
  case h3 => (intro w' hSw; (try dsimp only at hSw); go_simp <;> with_reducible rfl)
  try simp only [Act.put, sI, sZ, sS]
  refine wpAnyH_done (by kernel_rfl) ?_ _
  go_wp2
  refine ret_rr_t (w.heap.size + 1 + 1 + 1 + 1) (w.heap.size + 1 + 1 + 1 + 1 + 1) [.pointer pt] [.int .i64 (L : Nat), .int .i64 (L : Nat), .int .i64 (MM : Nat)] rfl rfl rfl rfl Tryz.underlying27 rfl Tryz.underlying136 rfl Tryz.info27 Tryz.info136 HFI.out.1 HFI.out.2.1 rfl ?_
  obtain ⟨_, _, it7, j7, bl7, hpt, hruns, hMM, hL⟩ := HFI.out
  exact ⟨t, ks', by rw [mv_ptr hpt, hMM, ← hL]; rfl, hruns, it7, j7, bl7⟩
end Go.Proofs.YtkkpdgfllnbigaaGreat.Pm
namespace Go.Proofs.YtkkpdgfllnbigaaGreat.Pm
open Go.RowKit Go.Shelf
set_option linter.unusedSimpArgs false
/-- What is not there has no value. -/
def NormV (_ : ByteArray) (p : ByteArray × Bool) : Prop := p.2 = false → p = (⟨#[]⟩, false)
theorem look_norm (k : ByteArray) : ∀ l : List (ByteArray × ByteArray), NormV k (look k l)
  | [] => fun _ => rfl
  | x :: l => fun h => by
    unfold look at h ⊢
    by_cases e : x.1 = k
    · rw [if_pos e] at h; simp at h
    · rw [if_neg e] at h ⊢; exact look_norm k l h
theorem keeps_apart : FairA NormV (fun _ p q r => keeps p q r) := by
  refine ⟨fun k _ => rfl, fun k p q hp hq => ?_, fun k r hr => ?_, fun k p q hp hq => ?_, fun k p q r h => ?_⟩
  · obtain ⟨q1, q2⟩ := q
    cases q2
    · have := hq rfl; simp at this; subst this; simp [keeps]
    · simp [keeps]
  · obtain ⟨r1, r2⟩ := r
    cases r2
    · have := hr rfl; simp at this; subst this; simp [keeps]
    · simp [keeps]
  · obtain ⟨q1, q2⟩ := q
    obtain ⟨p1, p2⟩ := p
    cases q2
    · have := hq rfl; simp at this; subst this; cases p2 <;> simp [keeps]
    · cases p2 <;> simp [keeps]
  · unfold keeps at h ⊢
    split
    · rename_i h1; simp [h1] at h
    · split
      · rename_i h1 h2; simp [h1, h2] at h
      · rfl
theorem runKeep_apart (o a b : T) (w : World) (ht : Trio NormV w o a b) (hap : Apart o a) :
    Calls Tryz.prog 184 #[mv o, mv a, mv b, .func (.func 185) #[] #[]] w fun e w' => ∃ t ks, e = .returned (.tuple #[mv t, .agg #[.int .i64 (ks.length : Nat), .int .i64 (ks.length : Nat), .int .i64 (madeIn [o, a, b] t : Nat)], .int .i64 0]) ∧ RunsA w.heap.size (fun _ p q r => keeps p q r) o a b t ks ∧ In w' t ∧ RunSays (fun _ p q r => keeps p q r) o a b t ks ∧ Below w.heap.size w w' := by
  refine (walkRun_apart (B := w.heap.size) (J := fun _ _ => True) keeps_apart o a b w [] (fun Tk _ => keep_ok _ Tk) (Nat.le_refl _) ht hap (fun _ _ => trivial) (by simp) trivial).mono ?_
  rintro e w' ⟨t, ks, he, hr, it, _, hb⟩
  exact ⟨t, ks, he, hr, it, hr.says keeps_apart ht.so ht.sa ht.sb ht.bo ht.ba ht.bb ht.vo ht.va ht.vb, hb⟩
set_option maxHeartbeats 8000000 in
set_option maxRecDepth 100000 in
theorem elements_apart (o a b : T) (w : World) (ht : Trio NormV w o a b) (hap : Apart o a) :
    Calls Tryz.prog 132 #[mv o, mv a, mv b] w fun e w' => ∃ t ks, e = .returned (.tuple #[mv t, .agg #[.int .i64 (ks.length : Nat), .int .i64 (ks.length : Nat), .int .i64 (madeIn [o, a, b] t : Nat)]]) ∧ RunsA w.heap.size (fun _ p q r => keeps p q r) o a b t ks ∧ In w' t ∧ RunSays (fun _ p q r => keeps p q r) o a b t ks ∧ Below w.heap.size w w' := by
  obtain ⟨po, ho⟩ := o.ptr_shape
  obtain ⟨pa, ha⟩ := a.ptr_shape
  obtain ⟨pb, hb'⟩ := b.ptr_shape
  rw [mv_ptr ho, mv_ptr ha, mv_ptr hb']
  obtain ⟨w0, hw0, m0, m1, m2, m3, m4, hb⟩ := new5 w (.cells #[.pointer po] 27) (.cells #[.pointer pa] 27) (.cells #[.pointer pb] 27) (.cells #[.pointer none] 27) (.cells #[.int .i64 0, .int .i64 0, .int .i64 0] 136)
  have hrun := runKeep_apart o a b w0 (ht.goes (Goes.of (B := 0) (Tk := 0) hb (Nat.zero_le _))) hap
  rw [mv_ptr ho, mv_ptr ha, mv_ptr hb'] at hrun
  have d0 : w0.cell? ⟨w.heap.size, 0, none⟩ = some (.pointer po) := (cell_of_row _ _ 0 _ 27 (0, 0) m0).trans rfl
  have d1 : w0.cell? ⟨w.heap.size + 1, 0, none⟩ = some (.pointer pa) := (cell_of_row _ _ 0 _ 27 (0, 0) m1).trans rfl
  have d2 : w0.cell? ⟨w.heap.size + 1 + 1, 0, none⟩ = some (.pointer pb) := (cell_of_row _ _ 0 _ 27 (0, 0) m2).trans rfl
  have HM := hide (And.intro m3 (And.intro m4 hb))
  clear m0 m1 m2 m3 m4 hb ho ha hb' ht hap
  go_enter Tryz.func132, Tryz.ntmps132
  go_upto_region 1 with (fail)
  rw [← hw0]
  clear hw0
  go_upto_region 2 with (go_at_call 184; refine hrun.mono ?_; rintro e w1 ⟨t, ks, he, hruns, it, sy, b1⟩; obtain ⟨pt, hpt⟩ := t.ptr_shape; rw [mv_ptr hpt] at he; subst he; have H1 := hide (And.intro hpt (And.intro hruns (And.intro it (And.intro sy b1)))); clear hpt hruns it sy b1; dsimp only)
  obtain ⟨hpt, hruns, it, sy, b1⟩ := H1.out
  obtain ⟨m3, m4, hb⟩ := HM.out
  generalize hMM : madeIn [o, a, b] t = MM at *
  obtain ⟨L, hL⟩ : ∃ L : Nat, L = ks.length := ⟨_, rfl⟩
  rw [← hL]
  obtain ⟨r8, r9⟩ := new2 w1 (.cells #[.pointer pt] 27) (.cells #[.int .i64 (L : Nat), .int .i64 (L : Nat), .int .i64 (MM : Nat)] 136)
  have b2 : Below w1.heap.size w1 ((w1.alloc (.cells #[.pointer pt] 27)).alloc (.cells #[.int .i64 (L : Nat), .int .i64 (L : Nat), .int .i64 (MM : Nat)] 136)) := ((Below.refl _ w1).alloc (Nat.le_refl _) _).alloc (by simp) _
  obtain ⟨w2, hw2⟩ : ∃ w2, w2 = ((w1.alloc (.cells #[.pointer pt] 27)).alloc (.cells #[.int .i64 (L : Nat), .int .i64 (L : Nat), .int .i64 (MM : Nat)] 136)) := ⟨_, rfl⟩
  rw [← hw2] at r8 r9 b2 ⊢
  have b02 := b1.trans (b2.mono b1.size)
  have k3 := (b02.block _ (gI m3).1).trans m3
  have k4 := (b02.block _ (gI m4).1).trans m4
  have hsz : w.heap.size + 1 + 1 + 1 + 1 < w1.heap.size := Nat.lt_of_lt_of_le (gI m4).1 b1.size
  have bw2 := hb.trans (b02.mono hb.size)
  obtain ⟨u6, o6⟩ := set_one (w := w2.drew) (i := 0) (.pointer pt) k3
  obtain ⟨w6, hw6⟩ : ∃ w6, w6 = w2.drew.setCell ⟨w.heap.size + 1 + 1 + 1, 0, none⟩ (.pointer pt) := ⟨_, rfl⟩
  rw [← hw6] at u6 o6
  have k4' := (o6.block _ (gI (show w2.drew.heap[w.heap.size + 1 + 1 + 1 + 1]? = _ from k4)).1 (by omega)).trans (show w2.drew.heap[w.heap.size + 1 + 1 + 1 + 1]? = _ from k4)
  obtain ⟨u7, o7⟩ := set3 (.int .i64 (L : Nat)) (.int .i64 (L : Nat)) (.int .i64 (MM : Nat)) k4'
  obtain ⟨w7, hw7⟩ : ∃ w7, w7 = (((w6.setCell ⟨w.heap.size + 1 + 1 + 1 + 1, 0, none⟩ (.int .i64 (L : Nat))).setCell ⟨w.heap.size + 1 + 1 + 1 + 1, 1, none⟩ (.int .i64 (L : Nat))).setCell ⟨w.heap.size + 1 + 1 + 1 + 1, 2, none⟩ (.int .i64 (MM : Nat))) := ⟨_, rfl⟩
  rw [← hw7] at u7 o7
  have u6' := (o7.block _ (gI u6).1 (by omega)).trans u6
  have it7 : In w7 t := In.typed o7 (fun j e o' ho' => by subst e; rw [k4'] at ho'; cases ho'; exact ⟨_, _, _, rfl, by decide⟩) (In.aside (show w2.drew.heap[w.heap.size + 1 + 1 + 1]? = _ from k3) o6 (In.below (drew_below w2) (In.below b2 it)))
  have bl6 : Below w.heap.size w w6 := Below.only (bw2.trans ((drew_below w2).mono bw2.size)) o6 bw2.size (fun j e => by omega)
  have bl7 : Below w.heap.size w w7 := Below.only bl6 o7 bl6.size (fun j e => by omega)
  have q0 : w2.cell? ⟨w1.heap.size, 0, none⟩ = some (.pointer pt) ∧ w2.cell? ⟨w1.heap.size + 1, 0, none⟩ = some (.int .i64 (L : Nat)) ∧ w2.cell? ⟨w1.heap.size + 1, 1, none⟩ = some (.int .i64 (L : Nat)) ∧ w2.cell? ⟨w1.heap.size + 1, 2, none⟩ = some (.int .i64 (MM : Nat)) := ⟨(cell_of_row _ _ 0 _ 27 (0, 0) r8).trans rfl, (cell_of_row _ _ 0 _ 136 (0, 0) r9).trans rfl, (cell_of_row _ _ 1 _ 136 (0, 0) r9).trans rfl, (cell_of_row _ _ 2 _ 136 (0, 0) r9).trans rfl⟩
  have q6 : w6.cell? ⟨w1.heap.size, 0, none⟩ = some (.pointer pt) ∧ w6.cell? ⟨w1.heap.size + 1, 0, none⟩ = some (.int .i64 (L : Nat)) ∧ w6.cell? ⟨w1.heap.size + 1, 1, none⟩ = some (.int .i64 (L : Nat)) ∧ w6.cell? ⟨w1.heap.size + 1, 2, none⟩ = some (.int .i64 (MM : Nat)) := ⟨o6.cell (show w2.drew.cell? _ = _ from q0.1) (fun e => by simp only at e; omega), o6.cell (show w2.drew.cell? _ = _ from q0.2.1) (fun e => by simp only at e; omega), o6.cell (show w2.drew.cell? _ = _ from q0.2.2.1) (fun e => by simp only at e; omega), o6.cell (show w2.drew.cell? _ = _ from q0.2.2.2) (fun e => by simp only at e; omega)⟩
  have q7 : w7.cell? ⟨w1.heap.size, 0, none⟩ = some (.pointer pt) ∧ w7.cell? ⟨w1.heap.size + 1, 0, none⟩ = some (.int .i64 (L : Nat)) ∧ w7.cell? ⟨w1.heap.size + 1, 1, none⟩ = some (.int .i64 (L : Nat)) ∧ w7.cell? ⟨w1.heap.size + 1, 2, none⟩ = some (.int .i64 (MM : Nat)) := ⟨o7.cell q6.1 (fun e => by simp only at e; omega), o7.cell q6.2.1 (fun e => by simp only at e; omega), o7.cell q6.2.2.1 (fun e => by simp only at e; omega), o7.cell q6.2.2.2 (fun e => by simp only at e; omega)⟩
  have c4 : w2.drew.cell? ⟨w.heap.size + 1 + 1 + 1, 0, none⟩ = some (.pointer none) := (cell_of_row w2.drew _ 0 _ 27 (0, 0) k3).trans rfl
  have f4 : w2.drew.frozen? ⟨w.heap.size + 1 + 1 + 1, 0, none⟩ = false := frozen_of_row w2.drew _ 0 _ 27 k3
  have c50 : w6.cell? ⟨w.heap.size + 1 + 1 + 1 + 1, 0, none⟩ = some (.int .i64 0) := (cell_of_row _ _ 0 _ 136 (0, 0) k4').trans rfl
  have c51 : w6.cell? ⟨w.heap.size + 1 + 1 + 1 + 1, 1, none⟩ = some (.int .i64 0) := (cell_of_row _ _ 1 _ 136 (0, 0) k4').trans rfl
  have c52 : w6.cell? ⟨w.heap.size + 1 + 1 + 1 + 1, 2, none⟩ = some (.int .i64 0) := (cell_of_row _ _ 2 _ 136 (0, 0) k4').trans rfl
  have f50 : w6.frozen? ⟨w.heap.size + 1 + 1 + 1 + 1, 0, none⟩ = false := frozen_of_row _ _ 0 _ 136 k4'
  have f51 : w6.frozen? ⟨w.heap.size + 1 + 1 + 1 + 1, 1, none⟩ = false := frozen_of_row _ _ 1 _ 136 k4'
  have f52 : w6.frozen? ⟨w.heap.size + 1 + 1 + 1 + 1, 2, none⟩ = false := frozen_of_row _ _ 2 _ 136 k4'
  have HFI := hide (And.intro u6' (And.intro u7 (And.intro it7 (And.intro bl7 (And.intro hpt (And.intro (hruns.mono hb.size) (And.intro hMM (And.intro hL sy))))))))
  clear hpt hruns it sy b1 m3 m4 hb hMM hL r8 r9 b2 hw2 b02 k3 k4 bw2 u6 o6 k4' u7 o7 u6' it7 bl6 bl7 H1 HM hrun d0 d1 d2
  have qd : w2.drew.cell? ⟨w1.heap.size, 0, none⟩ = some (.pointer pt) ∧ w2.drew.cell? ⟨w1.heap.size + 1, 0, none⟩ = some (.int .i64 (L : Nat)) ∧ w2.drew.cell? ⟨w1.heap.size + 1, 1, none⟩ = some (.int .i64 (L : Nat)) ∧ w2.drew.cell? ⟨w1.heap.size + 1, 2, none⟩ = some (.int .i64 (MM : Nat)) := q0
  refine wp_region_held_drew (S := (fun w' => w'.cell? ⟨w1.heap.size, 0, none⟩ = some (.pointer pt) ∧ w'.cell? ⟨w1.heap.size + 1, 0, none⟩ = some (.int .i64 (L : Nat)) ∧ w'.cell? ⟨w1.heap.size + 1, 1, none⟩ = some (.int .i64 (L : Nat)) ∧ w'.cell? ⟨w1.heap.size + 1, 2, none⟩ = some (.int .i64 (MM : Nat)))) (by kernel_rfl) qd (fun hHeld => ?_)
  try dsimp only at hHeld
  refine take_op (i := 0) (d := 19) (OP := Op.load 27 (Operand.tmp 8)) (T := 27) (v := ?v1) rfl rfl rfl rfl (by kernel_rfl) (by kernel_rfl) (by kernel_rfl) (fun _ _ _ h => h) (by rfl) ?h1 hHeld ?r1
  case h1 => (intro w' hSw; (try dsimp only at hSw); go_simp <;> with_reducible rfl)
  try simp only [Act.put, sI, sZ, sS]
  refine take_op (i := 1) (d := 20) (OP := Op.load 136 (Operand.tmp 9)) (T := 136) (v := ?v2) rfl rfl rfl rfl (by kernel_rfl) (by kernel_rfl) (by kernel_rfl) (fun _ _ _ h => h) (by rfl) ?h2 hHeld ?r2
  case h2 => (intro w' hSw; (try dsimp only at hSw); go_simp <;> with_reducible rfl)
  try simp only [Act.put, sI, sZ, sS]
  refine skip_op (i := 2) (OP := Op.store 27 (Operand.tmp 6) (Operand.tmp 19)) (T := 0) (w' := w6) rfl rfl rfl rfl (by kernel_rfl) (by rfl) (by rw [hw6]; go_simp) ⟨q6, ?_⟩
  try simp only [Act.put, sI, sZ, sS]
  replace hHeld := q6
  clear hw6
  refine skip_op (i := 3) (OP := Op.store 136 (Operand.tmp 7) (Operand.tmp 20)) (T := 0) (w' := w7) rfl rfl rfl rfl (by kernel_rfl) (by rfl) (by rw [hw7]; go_simp) ⟨q7, ?_⟩
  try simp only [Act.put, sI, sZ, sS]
  replace hHeld := q7
  clear hw7
  refine wpAnyH_done (by kernel_rfl) ?_ _
  go_wp2
  refine ret_rr (w.heap.size + 1 + 1 + 1) (w.heap.size + 1 + 1 + 1 + 1) [.pointer pt] [.int .i64 (L : Nat), .int .i64 (L : Nat), .int .i64 (MM : Nat)] rfl rfl rfl Tryz.underlying27 rfl Tryz.underlying136 rfl Tryz.info27 Tryz.info136 HFI.out.1 HFI.out.2.1 rfl ?_
  obtain ⟨_, _, it7, bl7, hpt, hruns, hMM, hL, sy⟩ := HFI.out
  exact ⟨t, ks, by rw [mv_ptr hpt, hMM, ← hL], hruns, it7, sy, bl7⟩
end Go.Proofs.YtkkpdgfllnbigaaGreat.Pm
namespace Go.Proofs.YtkkpdgfllnbigaaGreat
open Go.RowKit Go.Shelf

theorem look_at {k v : ByteArray} : ∀ {l : List Kv}, Pm.Srt l → ((k, v) ∈ l ↔ Pm.look k l = (v, true))
  | [], _ => by simp [Pm.look]
  | x :: l, h => by
    obtain ⟨h1, h2⟩ := List.pairwise_cons.1 h
    rw [Pm.look]
    by_cases e : x.1 = k
    · rw [if_pos e]
      constructor
      · intro hm
        rcases List.mem_cons.1 hm with rfl | hm
        · rfl
        · have := Pm.cmp_ne (h1 _ hm)
          exact absurd e this
      · intro hm
        have : x = (k, v) := Prod.ext e (by simpa using hm)
        rw [this]; exact List.mem_cons_self
    · rw [if_neg e, ← look_at h2]
      constructor
      · intro hm
        rcases List.mem_cons.1 hm with rfl | hm
        · exact absurd rfl e
        · exact hm
      · exact fun hm => List.mem_cons_of_mem _ hm
theorem trioA {w : World} {x y z : Pm.T} (hx : Mg w x) (hy : Mg w y) (hz : Mg w z) : Pm.Trio Pm.NormV w x y z :=
  ⟨hx.inn, hy.inn, hz.inn, hx.srt, hy.srt, hz.srt, hx.bal, hy.bal, hz.bal, fun k => Pm.look_norm k _, fun k => Pm.look_norm k _, fun k => Pm.look_norm k _, by have := hx.few; omega, by have := hy.few; have := hz.few; omega⟩
end Go.Proofs.YtkkpdgfllnbigaaGreat
namespace Go.Proofs.YtkkpdgfllnbigaaGreat.Tg
open Go.RowKit Go.Shelf
set_option linter.unusedSimpArgs false
attribute [local go_sem] Oper.semAt_some

theorem look_some {k v : ByteArray} {l : List Kv} (hs : Pm.Srt l) (h : Pm.look k l = (v, true)) : (k, v) ∈ l := (look_at hs).2 h
/-- Where a key stands with its value, putting it once more tells nothing new. -/
theorem tins_same {k v : ByteArray} {l : List Kv} (hs : Pm.Srt l) (h : (k, v) ∈ l) : Pm.ins k v l = l := by
  have h1 := Pm.srt_insP hs k v
  refine Rise.Up.same (f := Pm.cmpB) (st := Prod.fst) ordS_B h1 hs (fun z => ?_)
  rw [Pm.mem_ins hs]
  constructor
  · rintro (rfl | hh)
    · exact h
    · exact hh.1
  · intro hz
    by_cases e : z.1 = k
    · left
      have h2 := (look_at hs).1 h
      have h3 : (k, z.2) ∈ l := by rw [← e]; exact hz
      have h4 := (look_at hs).1 h3
      rw [h2] at h4
      injection h4 with h4
      exact Prod.ext e h4.symm
    · exact .inr ⟨hz, e⟩
/-- May a tag be put? -/
def okI (l : List Kv) (x : El) : Bool := okEl x && mayT l
def insI (l : List Kv) (x : El) : List Kv := if okI l x = true then Pm.ins (tkey x.2 x.1) x.2 l else []
def InsE (w : World) (l : List Kv) (x : El) (e : Ending) (w' : World) : Prop := ∃ t' pt, t'.ptr = .pointer pt ∧ e = .returned (.tuple #[.agg #[.pointer pt], .int .i64 (if okI l x = true then 0 else 2)]) ∧ Mg w' t' ∧ t'.list = insI l x ∧ Below w.heap.size w w'
theorem T27' : (Tryz.prog.info? 27).map (·.size) = some 1 := by kernel_rfl
set_option maxHeartbeats 4000000 in
set_option maxRecDepth 100000 in
theorem insert30 {w : World} {t : Pm.T} {pm : Option Addr} (s : St) (X : ByteArray) (h : Mg w t) (hp : t.ptr = .pointer pm) (hn : t.n < 400) : Calls Tryz.prog 30 #[.agg #[.pointer pm], svT s, .string X] w (InsE w t.list (s, X)) := by
  obtain ⟨g, r, lb, n, ix⟩ := s
  obtain ⟨w0, hw0⟩ : ∃ q, q = ((w.alloc (.cells #[.pointer pm] 27)).alloc (.cells #[.int .i64 g, .int .i64 r, .string lb, .int .i64 n, .int .i64 ix] 43)).alloc (.cells #[.pointer none] 27) := ⟨_, rfl⟩
  obtain ⟨m0, m1, m2, b0⟩ := new4r w _ _ _ w0 hw0
  obtain ⟨Mb, hMb⟩ : ∃ q, q = w.heap.size := ⟨_, rfl⟩
  obtain ⟨Sb, hSb⟩ : ∃ q, q = w.heap.size + 1 := ⟨_, rfl⟩
  obtain ⟨Rb, hRb⟩ : ∃ q, q = w.heap.size + 1 + 1 := ⟨_, rfl⟩
  rw [← hMb] at m0
  rw [← hSb] at m1
  rw [← hRb] at m2
  have HW := hide (And.intro hw0 (And.intro hRb (And.intro hSb hMb)))
  have HC : Hid (∀ W, Below w0.heap.size w0 W → W.cell? ⟨Mb, 0, none⟩ = some (.pointer pm) ∧ Mg W t ∧ ∀ pt, W.cell? ⟨Rb, 0, none⟩ = some (.pointer none) ∧ W.frozen? ⟨Rb, 0, none⟩ = false ∧ Hid ((W.setCell ⟨Rb, 0, none⟩ (.pointer pt)).heap[Rb]? = some (.cells #[.pointer pt] 27 (0, 0)) ∧ Below w.heap.size w (W.setCell ⟨Rb, 0, none⟩ (.pointer pt)) ∧ ∀ t', Mg W t' → Mg (W.setCell ⟨Rb, 0, none⟩ (.pointer pt)) t')) := hide (fun W hW => by
    have q2 := (hW.block _ (gI m2).1).trans m2
    have hb := b0.trans (hW.mono b0.size)
    refine ⟨cell_stays ((cell_of_row _ _ 0 _ 27 (0, 0) m0).trans rfl) hW, h.below hb, fun pt => ?_⟩
    obtain ⟨u, o⟩ := set_one (i := 0) (.pointer pt) q2
    exact ⟨(cell_of_row _ _ 0 _ 27 (0, 0) q2).trans rfl, frozen_of_row _ _ 0 _ 27 q2, hide ⟨by simpa using u, Below.only hb o hb.size (fun j e => by have e' : j = Rb := e; omega), fun t' ht' => ht'.aside q2 o⟩⟩)
  have hkey := key109 X (g, r, lb, n, ix) w0
  have hmay := fun W (hW : Mg W t) => may28 hW hp
  have hget := fun W (hW : Mg W t) => Pm.get_any t (tkey X (g, r, lb, n, ix)) W hW.inn
  have hput := fun W (hW : Mg W t) => Pm.mPut_any t (tkey X (g, r, lb, n, ix)) X W hW.inn (by have := h.few; omega)
  unfold Pm.mv at hget hput
  simp only [hp] at hget hput
  have hke : okEl ((g, r, lb, n, ix), X) = true → keyE ((g, r, lb, n, ix), X) = tkey X (g, r, lb, n, ix) := fun h => by unfold keyE; rw [if_pos h]
  obtain ⟨EC, hEC⟩ : ∃ q : Int, q = (if okI t.list ((g, r, lb, n, ix), X) = true then 0 else 2) := ⟨_, rfl⟩
  have HE0 : Hid (∀ W t' pt, t'.ptr = .pointer pt → Mg W t' → t'.list = insI t.list ((g, r, lb, n, ix), X) → Below w.heap.size w W → InsE w t.list ((g, r, lb, n, ix), X) (.returned (.tuple #[.agg #[.pointer pt], .int .i64 EC])) W) := hide (fun W t' pt h1 h2 h3 h4 => ⟨t', pt, h1, by rw [hEC], h2, h3, h4⟩)
  have hsz : okEl ((g, r, lb, n, ix), X) = true → (tkey X (g, r, lb, n, ix)).size ≤ 9223372036854775807 := fun h => by
    simp only [okEl, Bool.and_eq_true] at h
    have := tkey_size h.2 h.1
    omega
  have HF := hide (And.intro h (And.intro hn (And.intro hEC (And.intro hke (And.intro hp hsz)))))
  generalize InsE w t.list ((g, r, lb, n, ix), X) = PE at HE0 ⊢
  obtain ⟨s0, -, -⟩ := HC.out w0 (Below.refl _ _)
  have d0 : w0.cell? ⟨Sb, 0, none⟩ = some (.int .i64 g) := (cell_of_row _ _ 0 _ 43 (0, 0) m1).trans rfl
  have d1 : w0.cell? ⟨Sb, 1, none⟩ = some (.int .i64 r) := (cell_of_row _ _ 1 _ 43 (0, 0) m1).trans rfl
  have d2 : w0.cell? ⟨Sb, 2, none⟩ = some (.string lb) := (cell_of_row _ _ 2 _ 43 (0, 0) m1).trans rfl
  have d3 : w0.cell? ⟨Sb, 3, none⟩ = some (.int .i64 n) := (cell_of_row _ _ 3 _ 43 (0, 0) m1).trans rfl
  have d4 : w0.cell? ⟨Sb, 4, none⟩ = some (.int .i64 ix) := (cell_of_row _ _ 4 _ 43 (0, 0) m1).trans rfl
  dsimp only [svT] at hkey ⊢
  generalize keyE ((g, r, lb, n, ix), X) = KE at hkey hke
  clear h hp hn m0 m1 m2 b0 hw0 hMb hSb hRb hEC hsz
  cases hok : okEl ((g, r, lb, n, ix), X) with
  | false =>
    rw [hok] at hkey
    have hE2 : EC = 2 := by rw [HF.out.2.2.1]; unfold okI; rw [hok]; rfl
    subst hE2
    have HI : Hid (insI t.list ((g, r, lb, n, ix), X) = []) := hide (by unfold insI okI; rw [hok]; rfl)
    clear hok hke
    go_enter Tryz.func30, Tryz.ntmps30
    go_upto_region 1 with fail
    rw [← HW.out.1, ← HW.out.2.1, ← HW.out.2.2.1, ← HW.out.2.2.2]
    go_upto_region 3 with (go_at_call 109; refine hkey.mono ?_; rintro e w1 ⟨rfl, b1⟩; have H1 := hide b1; clear b1; dsimp only)
    obtain ⟨-, -, hfin⟩ := HC.out w1 H1.out
    obtain ⟨e1, e2, HE⟩ := hfin none
    clear hfin
    go_wp2
    refine ret_row_tmp Rb [.pointer none] rfl rfl rfl Tryz.underlying27 rfl T27' HE.out.1 rfl ?_
    exact HE0.out _ .nil none rfl (Mg.nil _) (by rw [HI.out]; rfl) HE.out.2.1
  | true =>
    rw [hok] at hkey
    have hk := hke hok
    subst hk
    cases hmt : mayT t.list with
    | false =>
      rw [hmt] at hmay
      have hE2 : EC = 2 := by rw [HF.out.2.2.1]; unfold okI; rw [hok, hmt]; rfl
      subst hE2
      have HI : Hid (insI t.list ((g, r, lb, n, ix), X) = []) := hide (by unfold insI okI; rw [hok, hmt]; rfl)
      clear hok hke hmt
      go_enter Tryz.func30, Tryz.ntmps30
      go_upto_region 1 with fail
      rw [← HW.out.1, ← HW.out.2.1, ← HW.out.2.2.1, ← HW.out.2.2.2]
      go_upto_region 3 with (first
        | (go_at_call 109; refine hkey.mono ?_; rintro e w1 ⟨rfl, b1⟩; obtain ⟨s1, mg1, -⟩ := HC.out w1 b1; have hm1 := hmay w1 mg1; have H1 := hide b1; clear b1 mg1; dsimp only)
        | (go_at_call 28; refine hm1.mono ?_; rintro e w2 ⟨rfl, b2⟩; have H2 := hide (H1.out.trans (b2.mono H1.out.size)); clear b2; dsimp only))
      obtain ⟨-, -, hfin⟩ := HC.out w2 H2.out
      obtain ⟨e1, e2, HE⟩ := hfin none
      clear hfin hm1
      go_wp2
      refine ret_row_tmp Rb [.pointer none] rfl rfl rfl Tryz.underlying27 rfl T27' HE.out.1 rfl ?_
      exact HE0.out _ .nil none rfl (Mg.nil _) (by rw [HI.out]; rfl) HE.out.2.1
    | true =>
      rw [hmt] at hmay
      have hE2 : EC = 0 := by rw [HF.out.2.2.1]; unfold okI; rw [hok, hmt]; rfl
      subst hE2
      have HI : Hid (insI t.list ((g, r, lb, n, ix), X) = Pm.ins (tkey X (g, r, lb, n, ix)) X t.list) := hide (by unfold insI okI; rw [hok, hmt]; rfl)
      have HO := hide (And.intro hok hmt)
      have hfl := Pm.find_look t (tkey X (g, r, lb, n, ix)) HF.out.1.srt
      obtain ⟨V, hV⟩ : ∃ V, V = (t.find (tkey X (g, r, lb, n, ix))).val := ⟨_, rfl⟩
      obtain ⟨HS, hHS⟩ : ∃ V, V = (t.find (tkey X (g, r, lb, n, ix))).isSome := ⟨_, rfl⟩
      rw [← hV, ← hHS] at hget hfl
      have hin : HS = true → (tkey X (g, r, lb, n, ix), X) ∈ t.list := fun hh => by
        rw [hh] at hfl
        have h1 := look_some HF.out.1.srt hfl.symm
        have h2 := mayT_mem hmt h1
        have h3 := hok
        simp only [okEl, Bool.and_eq_true] at h3
        have h4 := (tgV_text h2).1 (tgV_key h3.2 h3.1).1
        have h5 : X = V := h4
        rw [← h5] at h1
        exact h1
      have HL := hide hin
      clear hok hke hmt hV hHS hfl hin
      generalize tkey X (g, r, lb, n, ix) = K at *
      cases HS with
      | true =>
        go_enter Tryz.func30, Tryz.ntmps30
        go_upto_region 1 with fail
        rw [← HW.out.1, ← HW.out.2.1, ← HW.out.2.2.1, ← HW.out.2.2.2]
        go_upto_region 6 with (first
          | (go_at_call 26; refine hg2.mono ?_; rintro e w3 ⟨rfl, b3⟩; have H3 := hide (H2.out.trans (b3.mono H2.out.size)); have s3 := cell_stays s2 b3; clear b3; dsimp only)
          | (go_at_call 28; refine hm1.mono ?_; rintro e w2 ⟨rfl, b2⟩; have H2 := hide (H1.out.trans (b2.mono H1.out.size)); obtain ⟨s2, mg2, -⟩ := HC.out w2 H2.out; have hg2 := hget w2 mg2; clear b2 mg2; dsimp only)
          | (go_at_call 109; refine hkey.mono ?_; rintro e w1 ⟨rfl, b1⟩; obtain ⟨s1, mg1, -⟩ := HC.out w1 b1; have hm1 := hmay w1 mg1; have H1 := hide b1; clear b1 mg1; dsimp only))
        obtain ⟨-, mg3, hfin⟩ := HC.out w3 H3.out
        obtain ⟨e1, e2, HE⟩ := hfin pm
        have HM3 := hide mg3
        clear hfin hm1 hg2 s1 s2 mg3
        go_wp2
        refine ret_row_tmp Rb [.pointer pm] rfl rfl rfl Tryz.underlying27 rfl T27' HE.out.1 rfl ?_
        exact HE0.out _ t pm HF.out.2.2.2.2.1 (HE.out.2.2 t HM3.out) (by rw [HI.out, tins_same HF.out.1.srt (HL.out (by first | rfl | trivial))]) HE.out.2.1
      | false =>
        go_enter Tryz.func30, Tryz.ntmps30
        go_upto_region 1 with fail
        rw [← HW.out.1, ← HW.out.2.1, ← HW.out.2.2.1, ← HW.out.2.2.2]
        go_wp2_with (first
          | (go_at_call 25; refine hp3.mono ?_; rintro e w4 ⟨t', rfl, hi4, hpu, b4⟩; obtain ⟨pt, hpt⟩ := t'.ptr_shape; rw [hpt]; obtain ⟨-, -, hfin⟩ := HC.out w4 (H3.out.trans (b4.mono H3.out.size)); obtain ⟨e1, e2, HE⟩ := hfin pt; have H4 := hide (And.intro hpt (And.intro (HM3.out.put hpu hi4 HF.out.2.1 (HF.out.2.2.2.2.2 HO.out.1)) (hpu.list HF.out.1.srt))); clear hi4 hpu b4 hpt hfin hp3; dsimp only)
          | (go_at_call 26; refine hg2.mono ?_; rintro e w3 ⟨rfl, b3⟩; have H3 := hide (H2.out.trans (b3.mono H2.out.size)); obtain ⟨s3, mg3, -⟩ := HC.out w3 H3.out; have hp3 := hput w3 mg3; have HM3 := hide mg3; clear b3 mg3 hg2; dsimp only)
          | (go_at_call 28; refine hm1.mono ?_; rintro e w2 ⟨rfl, b2⟩; have H2 := hide (H1.out.trans (b2.mono H1.out.size)); obtain ⟨s2, mg2, -⟩ := HC.out w2 H2.out; have hg2 := hget w2 mg2; clear b2 mg2 hm1; dsimp only)
          | (go_at_call 109; refine hkey.mono ?_; rintro e w1 ⟨rfl, b1⟩; obtain ⟨s1, mg1, -⟩ := HC.out w1 b1; have hm1 := hmay w1 mg1; have H1 := hide b1; clear b1 mg1 hkey; dsimp only))
        refine ret_row_tmp Rb [.pointer pt] rfl rfl rfl Tryz.underlying27 rfl T27' HE.out.1 rfl ?_
        exact HE0.out _ t' pt H4.out.1 (HE.out.2.2 t' H4.out.2.1) (by rw [HI.out, H4.out.2.2]) HE.out.2.1
end Go.Proofs.YtkkpdgfllnbigaaGreat.Tg
