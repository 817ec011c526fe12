/-
  OPS, forms: ops.Take 26.
  OPS, forms: wire.Take[Op] 110 over ops.Take; takeAll 67, whole 66, ReadAll 24.
  OPS, forms: what is written reads back: numbers, texts, paths, an operation, a list.
  OPS: the document's Form 15, FormAll 21, Wrong 19, Check 13.
  THE DOCUMENT's Join and Split: what they answer.
  OPS: the document's FormAll 21, Text 16, TextAll 22.
  OPS: the document's Copy 10.
  OPS: the rows of the chapter that the law knows, plainly; add 43, pop 42, num 14.
-/
import Derived.Test.YtpepgoelnagoaaaGreatDoorMg15
import Derived.Test.YtpepgoelnagoaaaGreatDoorMg12
import Derived.Test.YtpepgoelnagoaaaGreatDoorMg13
import Derived.Test.YtpepgoelnagoaaaGreatDoorMg10
import Derived.Test.YtpepgoelnagoaaaGreatDoorMg5
import Derived.Test.YtpepgoelnagoaaaGreatDoorMg14
namespace Go.Proofs.YtpepgoelnagoaaaGreatDoor
open Go.RowKit Go.Shelf
variable {K : Nat → Prop}
set_option linter.unusedSimpArgs false
set_option linter.unusedVariables false
attribute [local go_sem] Oper.semAt_some

abbrev aheadK (K : Nat → Prop) (S R : Nat) : Nat → Prop := fun b => (b < S ∧ K b) ∧ b ≠ R
theorem Rdr.copy {w w2 : World} {R S N cap : Nat} {ao : Option Addr} {l : List Int} (h : Rdr K 77 w R S l) (c0 : w.cell? ⟨R, 0, none⟩ = some (.slice ao l.length cap)) (hb : Below w.heap.size w w2) (hS : S ≤ w.heap.size) (hN : w.heap.size ≤ N)
    (hh : w2.heap[N]? = some (.cells #[.slice ao l.length cap, .bool true] 77 (0, 0))) : Rdr (aheadK K S R) 77 w2 N (N + 1) l := by
  obtain ⟨ao', cap', a1, a2, a3, a4, a5, a6, a7, a8⟩ := h
  obtain ⟨d0, _⟩ := cell_blk a1
  rw [d0] at c0
  simp only [Option.some.injEq, Value.slice.injEq, true_and] at c0
  obtain ⟨rfl, rfl⟩ := c0
  exact ⟨ao', cap', hh, a2.below hb, a3, a4, a5, fun a ha => ⟨⟨by have := (a6 a ha).1.1; omega, a6 a ha⟩, by have := (a6 a ha).1.1; omega⟩, by omega, a8⟩
theorem Rdr.back {w : World} {R S N cap : Nat} {ao : Option Addr} {l : List Int} {x y : Value} (h : Rdr (aheadK K S R) 77 w N (N + 1) l) (c0 : w.cell? ⟨N, 0, none⟩ = some (.slice ao l.length cap)) (hR : R < S)
    (hh : w.heap[R]? = some (.cells #[x, y] 77 (0, 0))) : Rdr K 77 ((w.setCell ⟨R, 0, none⟩ (.slice ao l.length cap)).setCell ⟨R, 1, none⟩ (.bool true)) R S l := by
  obtain ⟨ao', cap', a1, a2, a3, a4, a5, a6, a7, a8⟩ := h
  obtain ⟨d0, _⟩ := cell_blk a1
  rw [d0] at c0
  simp only [Option.some.injEq, Value.slice.injEq, true_and] at c0
  obtain ⟨rfl, rfl⟩ := c0
  have e1 := heap_setCell_same w R 0 _ 77 (.slice ao' l.length cap') hh
  have e2 := heap_setCell_same _ R 1 _ 77 (.bool true) e1
  refine ⟨ao', cap', by rw [e2]; simp, ?_, a3, a4, a5, fun a ha => (a6 a ha).1.2, hR, a8⟩
  exact (a2.grown (grown_trans (grown_set w R 0 _) (grown_set _ R 1 _)) (fun a ha => by have := (a6 a ha).1.2.2; simpa using this))

/-- What the forms' source tells, without its memory. -/
def fmZ : Src (List Int) where
  T := 102
  v := .nilIface
  fd := 0
  fp := 0
  fk := 0
  fn := 0
  ft := 0
  D := fun _ => False
  B := 0
  St := fun _ _ => False
  pd := fmD
  pp := rpath
  pk := rtext 64
  pn := fmN
  pt := rtext 256
  okn := fun _ => True
theorem read_fmZ (w0 : World) (R : Nat) (q : List Int) : readS (fmS K w0 R) q = readS fmZ q ∧ rdO (fmS K w0 R) q = rdO fmZ q := ⟨rfl, rfl⟩
/-- What taking an operation answers. -/
def ropF (q : List Int) : Od × Int × List Int := ((readS fmZ q).1, (readS fmZ q).2, if (readS fmZ q).2 = 0 then (rdO fmZ q).2.2 else q)

set_option maxHeartbeats 4000000 in
set_option maxRecDepth 100000 in
theorem take26_any (R S : Nat) (q : List Int) (w : World) (hR : Rdr K 77 w R S q) (hq : q.length ≤ 140737488355328) (hS : S ≤ w.heap.size) (hE : EnvO w) :
    Calls Tryz.prog 26 #[.pointer (some ⟨R, 0, none⟩)] w fun e w' => ∃ pa pc, e = .returned (.tuple #[odv pa (ropF q).1.p.length pc (ropF q).1, .int .i64 (ropF q).2.1]) ∧ Os w' w.heap.size (.slice pa (ropF q).1.p.length pc) (ropF q).1.p ∧ Rdr K 77 w' R S (ropF q).2.2 ∧ w.grownBy w' (some R) ∧ (ropF q).2.2.length ≤ 140737488355328 := by
  have hmi : ∀ (v : Value) (W : World), (Instr.makeInterface 102 (.agg #[v])).run Tryz.prog W = .ok (.iface 102 (.agg #[v])) W := fun _ _ => by kernel_rfl
  obtain ⟨ao, cap, c0, c1, f0, f1, hsz, hl⟩ := hR.cells
  obtain ⟨w1, hw1⟩ : ∃ r, r = w.alloc (.cells (oc6 (.slice none 0 0) 0 ⟨#[]⟩ 0 0 ⟨#[]⟩) 34) := ⟨_, rfl⟩
  have d1 : Below w.heap.size w w1 := by rw [hw1]; exact (Below.refl _ w).alloc (Nat.le_refl _) _
  have m1 : w1.heap[w.heap.size]? = some (.cells (oc6 (.slice none 0 0) 0 ⟨#[]⟩ 0 0 ⟨#[]⟩) 34 (0, 0)) := by rw [hw1]; exact heap_alloc_new _ _
  have s1 : w1.heap.size = w.heap.size + 1 := by rw [hw1]; simp
  obtain ⟨w2, hw2⟩ : ∃ r, r = w1.alloc (.cells #[.slice ao q.length cap, .bool true] 77) := ⟨_, rfl⟩
  have d2 : Below w1.heap.size w1 w2 := by rw [hw2]; exact (Below.refl _ w1).alloc (Nat.le_refl _) _
  have m2 : w2.heap[w1.heap.size]? = some (.cells #[.slice ao q.length cap, .bool true] 77 (0, 0)) := by rw [hw2]; exact heap_alloc_new _ _
  have s2 : w2.heap.size = w.heap.size + 2 := by rw [hw2]; simp [s1]
  have hi : FmIn w1 w1.heap.size := ⟨hE.below d1, Nat.le_refl _⟩
  have hst : FmSt (aheadK K S R) w1 w1.heap.size q w2 := ⟨hR.copy c0 (d1.trans (d2.mono (by omega))) hS (by omega) m2, d2, by omega, hq⟩
  have k70 := read_any (fmOk (K := aheadK K S R) hi) (q := q) (w := w2) hst (fun _ _ => trivial)
  rw [(read_fmZ w1 w1.heap.size q).1, (read_fmZ w1 w1.heap.size q).2] at k70
  have hrop : ropF q = ((readS fmZ q).1, (readS fmZ q).2, if (readS fmZ q).2 = 0 then (rdO fmZ q).2.2 else q) := rfl
  obtain ⟨X, hX⟩ : ∃ r, r = ropF q := ⟨_, rfl⟩
  rw [← hX] at hrop ⊢
  generalize readS fmZ q = Z at k70 hrop
  obtain ⟨Q, hQ⟩ : ∃ r, r = (rdO fmZ q).2.2 := ⟨_, rfl⟩
  rw [← hQ] at hrop
  have k70 : Calls Tryz.prog 70 #[.iface 102 (fmV w1.heap.size)] w2 fun e w' => ∃ pa pc, e = .returned (.tuple #[odv pa Z.1.p.length pc Z.1, .int .i64 Z.2]) ∧ Os w' w2.heap.size (.slice pa Z.1.p.length pc) Z.1.p ∧ FmSt (aheadK K S R) w1 w1.heap.size Q w' ∧ Only (fun j => j = w1.heap.size) w2 w' := by rw [hQ]; exact k70
  have k69 := end_any R S q w1 (hR.below (d1.mono hS))
  have hen : (endE q == 1) = false := by unfold endE; split <;> rfl
  generalize endE q = en at k69 hen
  have mR : w.heap[R]? = some (.cells #[.slice ao q.length cap, .bool true] 77 (0, 0)) := by
    obtain ⟨ao', cap', a1, -⟩ := hR
    obtain ⟨d0, _⟩ := cell_blk a1
    rw [d0] at c0
    simp only [Option.some.injEq, Value.slice.injEq, true_and] at c0
    obtain ⟨rfl, rfl⟩ := c0
    exact a1
  have hRS : R < S := by obtain ⟨_, _, _, _, _, _, _, _, h, _⟩ := hR; exact h
  have mR1 := (d1.block R hsz).trans mR
  obtain ⟨r0, r1, -, -⟩ := cell_blk mR1
  obtain ⟨o, er⟩ := Z
  dsimp only at k70 hrop
  obtain ⟨p, k, ks, d, n, t⟩ := o
  dsimp only at k70 hrop
  have HE := hide hE
  have HW := hide (And.intro hw1 (And.intro hw2 (And.intro d1 (And.intro m1 (And.intro s1 (And.intro d2 (And.intro s2 (And.intro mR1 (And.intro hRS (And.intro hS (And.intro hR (And.intro hq hrop))))))))))))
  clear hX hQ hst hi d1 d2 m1 m2 s1 s2 hw1 hw2 hS hE hq mR mR1 hRS hR c0 c1 f0 f1 hrop
  go_enter Tryz.func26, Tryz.ntmps26
  go_upto_region 1 with fail
  rw [← HW.out.1]
  go_upto_region 3 with (go_at_call 69; refine k69.mono ?_; rintro e wm ⟨rfl, hm⟩; have hm := hm.symm; subst hm)
  go_upto_region 4 with fail
  rw [← HW.out.2.1]
  go_upto_region 5 with (go_at_call 70; refine k70.mono ?_; rintro e w3 ⟨pa, pc, rfl, hos, hst, ho⟩; have H3 := hide (And.intro hos (And.intro hst ho)); clear hos hst ho k70)
  obtain ⟨w4, hw4⟩ : ∃ r, r = w3.alloc (.cells (oc6 (.slice pa p.length pc) k ks d n t) 34) := ⟨_, rfl⟩
  rw [← hw4]
  have d4 : Below w3.heap.size w3 w4 := by rw [hw4]; exact (Below.refl _ _).alloc (Nat.le_refl _) _
  have m4 : w4.heap[w3.heap.size]? = some (.cells (oc6 (.slice pa p.length pc) k ks d n t) 34 (0, 0)) := by rw [hw4]; exact heap_alloc_new _ _
  have s4 : w4.heap.size = w3.heap.size + 1 := by rw [hw4]; simp
  have hF : w4.heap[w.heap.size]? = some (.cells (oc6 (.slice none 0 0) 0 ⟨#[]⟩ 0 0 ⟨#[]⟩) 34 (0, 0)) ∧ w4.heap[R]? = some (.cells #[.slice ao q.length cap, .bool true] 77 (0, 0)) ∧ Below w.heap.size w w4 ∧ FmSt (aheadK K S R) wm wm.heap.size Q w4 ∧ Os w4 w2.heap.size (.slice pa p.length pc) p ∧ w.heap.size + 2 ≤ w3.heap.size := by
    obtain ⟨-, -, d1, m1, s1, d2, s2, mR1, hRS, hS, -, -, -⟩ := HW.out
    obtain ⟨hos, hst, ho⟩ := H3.out
    have z := ho.size
    have hi : FmIn wm wm.heap.size := ⟨EnvO.below HE.out d1, Nat.le_refl _⟩
    have e1 : w3.heap[w.heap.size]? = w2.heap[w.heap.size]? := ho.block _ (by omega) (by omega)
    have e2 : w3.heap[R]? = w2.heap[R]? := ho.block _ (by omega) (by omega)
    refine ⟨(d4.block _ (by omega)).trans (e1.trans ((d2.block _ (by omega)).trans m1)), (d4.block _ (by omega)).trans (e2.trans ((d2.block _ (by omega)).trans mR1)), ((d1.trans (d2.mono (by omega))).trans (ho.below (by omega) (fun j hj => by have : j = wm.heap.size := hj; omega))).trans (d4.mono (by omega)), hst.below hi (d4.mono (by omega)), hos.below d4, by omega⟩
  obtain ⟨⟨x0, x1, x2, x3, x4, x5⟩, -, -, -, -, -, -⟩ := blk6 m4
  have HF := hide (And.intro hF (And.intro m4 s4))
  clear hF m4 s4 d4 hw4
  by_cases her : er = 0
  · subst her
    have hX : X = (⟨p, k, ks, d, n, t⟩, 0, Q) := by have := HW.out.2.2.2.2.2.2.2.2.2.2.2.2; simpa using this
    subst hX
    obtain ⟨ao4, cap4, y0, y1, -, -, -, -⟩ := HF.out.1.2.2.2.1.rd.cells
    obtain ⟨r40, r41, g0, g1⟩ := cell_blk HF.out.1.2.1
    clear x0 x1 x2 x3 x4 x5
    go_upto_region 7 with fail
    obtain ⟨w5, hw5⟩ : ∃ r, r = (w4.setCell ⟨R, 0, none⟩ (.slice ao4 Q.length cap4)).setCell ⟨R, 1, none⟩ (.bool true) := ⟨_, rfl⟩
    rw [← hw5]
    have hb5 : Rdr K 77 w5 R S Q := by rw [hw5]; exact Rdr.back HF.out.1.2.2.2.1.rd y0 HW.out.2.2.2.2.2.2.2.2.1 HF.out.1.2.1
    have ho5 : Only (fun j => j = R) w4 w5 := by rw [hw5]; exact only_grown (grown_trans (grown_set w4 R 0 _) (grown_set _ R 1 _))
    have hRw : R < w.heap.size := by have := HW.out.2.2.2.2.2.2.2.2; omega
    have m5 := (ho5.block _ (by have := HF.out.2.2; omega) (by have := HF.out.1.2.2.2.2.2; omega)).trans HF.out.2.1
    have m5z := (ho5.block _ (by have := HF.out.2.2; have := HF.out.1.2.2.2.2.2; omega) (by omega)).trans HF.out.1.1
    obtain ⟨⟨x0, x1, x2, x3, x4, x5⟩, -, -, -, -, -, -⟩ := blk6 m5
    obtain ⟨⟨z0, z1, z2, z3, z4, z5⟩, h0, h1, h2, h3, h4, h5⟩ := blk6 m5z
    have H5 := hide (And.intro hb5 (And.intro ho5 (And.intro m5z hRw)))
    clear hb5 ho5 m5 m5z hw5 hRw y0 y1 r40 r41 g0 g1
    go_wp2
    refine ret_row_tmp w.heap.size (oc6 (.slice pa p.length pc) k ks d n t).toList rfl rfl rfl Tryz.underlying34 rfl Tryz.info34z (set6 H5.out.2.2.1) rfl ?_
    obtain ⟨⟨_, _, b4, st4, hos4, z3⟩, _, s4⟩ := HF.out
    obtain ⟨hb5, ho5, -, hRw⟩ := H5.out
    have z5 := ho5.size
    have s2 := HW.out.2.2.2.2.2.2.1
    have hS := HW.out.2.2.2.2.2.2.2.2.2.1
    refine ⟨pa, pc, rfl, ?_, ?_, ?_, st4.len⟩
    · exact row_lift ((hos4.only ho5 (fun j hj hd => by have := (World.ownsRow.lt hos4 j hj).1; omega)).only only6 (fun j hj hd => by have := (World.ownsRow.lt hos4 j hj).1; omega)) (by omega)
    · exact hb5.below (only6.below (by omega) (fun j hj => by omega))
    · exact grown_only ((((Only.ofBelow b4).mono (fun _ _ e => e.elim)).trans ho5 (fun _ _ e => e)).trans only6 (fun j hj e => by omega))
  · have her1 : (er == 0) = false := by simpa using her
    have hX : X = (⟨p, k, ks, d, n, t⟩, er, q) := by have := HW.out.2.2.2.2.2.2.2.2.2.2.2.2; simpa [her] using this
    subst hX
    obtain ⟨⟨z0, z1, z2, z3, z4, z5⟩, h0, h1, h2, h3, h4, h5⟩ := blk6 HF.out.1.1
    go_wp2
    refine ret_row_tmp w.heap.size (oc6 (.slice pa p.length pc) k ks d n t).toList rfl rfl rfl Tryz.underlying34 rfl Tryz.info34z (set6 HF.out.1.1) rfl ?_
    obtain ⟨⟨_, mR4, b4, st4, hos4, z3⟩, _, s4⟩ := HF.out
    have s2 := HW.out.2.2.2.2.2.2.1
    have hS := HW.out.2.2.2.2.2.2.2.2.2.1
    have hR := HW.out.2.2.2.2.2.2.2.2.2.2.1
    have hq := HW.out.2.2.2.2.2.2.2.2.2.2.2.1
    refine ⟨pa, pc, rfl, ?_, ?_, ?_, hq⟩
    · exact row_lift (hos4.only only6 (fun j hj hd => by have := (World.ownsRow.lt hos4 j hj).1; omega)) (by omega)
    · exact (hR.below (b4.mono hS)).below (only6.below (by omega) (fun j hj => by omega))
    · exact grown_only (((Only.ofBelow b4).mono (fun _ _ e => e.elim)).trans only6 (fun j hj e => by omega))
end Go.Proofs.YtpepgoelnagoaaaGreatDoor
namespace Go.Proofs.YtpepgoelnagoaaaGreatDoor
open Go.RowKit Go.Shelf
variable {K : Nat → Prop}
set_option linter.unusedSimpArgs false
set_option linter.unusedVariables false
attribute [local go_sem] Oper.semAt_some

theorem ropF_plen (q : List Int) : (ropF q).1.p.length ≤ 1000000 := by
  have hz : odZ.p.length ≤ 1000000 := by show (0 : Nat) ≤ _; omega
  show (readS fmZ q).1.p.length ≤ _
  unfold readS
  split
  · show (fld fmZ.pp [] _ _).1.length ≤ _
    generalize (fld fmZ.pd 0 0 q) = A
    show (if A.2.1 = 0 then rpath A.2.2 else ([], A.2.1, A.2.2)).1.length ≤ _
    split
    · have := (rpath_len A.2.2).1; omega
    · simp
  · exact hz
/-- Taking operations in a row, till one is wrong. -/
def rlist : Nat → List Int → List Od × Int × List Int
  | 0, q => ([], 0, q)
  | n + 1, q => if (ropF q).2.1 = 0 then ((ropF q).1 :: (rlist n (ropF q).2.2).1, (rlist n (ropF q).2.2).2.1, (rlist n (ropF q).2.2).2.2) else ([], (ropF q).2.1, (ropF q).2.2)
theorem rlist_succ (n : Nat) (q : List Int) : rlist (n + 1) q = if (ropF q).2.1 = 0 then ((ropF q).1 :: (rlist n (ropF q).2.2).1, (rlist n (ropF q).2.2).2.1, (rlist n (ropF q).2.2).2.2) else ([], (ropF q).2.1, (ropF q).2.2) := rfl
/-- What taking a list answers. -/
def rops (q : List Int) : List Od × Int × List Int :=
  if (rcount 64 q).2.1 = 0 then (if (rlist (rcount 64 q).1.toNat (rcount 64 q).2.2).2.1 = 0 then rlist (rcount 64 q).1.toNat (rcount 64 q).2.2 else ([], (rlist (rcount 64 q).1.toNat (rcount 64 q).2.2).2.1, q)) else ([], (rcount 64 q).2.1, q)
/-- How far operations are taken. -/
structure OtL (K : Nat → Prop) (w1 : World) (R S n : Nat) (q1 : List Int) (j : Nat) (L : List Ox) (q : List Int) (W : World) : Prop where
  le : j ≤ n
  len : L.length = j
  all : rlist n q1 = (L.map Prod.fst ++ (rlist (n - j) q).1, (rlist (n - j) q).2.1, (rlist (n - j) q).2.2)
  rd : Rdr K 77 W R S q
  only : Only (fun k => k = R) w1 W
  sz : q.length ≤ 140737488355328

set_option maxHeartbeats 4000000 in
set_option maxRecDepth 100000 in
theorem take110_any (R S : Nat) (l : List Int) (w : World) (hR : Rdr K 77 w R S l) (hl47 : l.length ≤ 140737488355328) (hSw : S ≤ w.heap.size) (w0 : World) (hE : EnvO w0) (hB0 : Below w0.heap.size w0 w) (hR0 : w0.heap.size ≤ R) :
    Calls Tryz.prog 110 #[.pointer (some ⟨R, 0, none⟩), .int .i64 64, .func (.func 26) #[] #[]] w fun e w' => ∃ v, e = .returned (.tuple #[v, .int .i64 (rops l).2.1]) ∧ (∃ xs, xs.map Prod.fst = (rops l).1 ∧ Oq w' w.heap.size v xs) ∧ Rdr K 77 w' R S (rops l).2.2 ∧ w.grownBy w' (some R) := by
  obtain ⟨ao, cap, c0, c1, f0, f1, hsz, hl⟩ := hR.cells
  obtain ⟨w1, hw1⟩ : ∃ r, r = w.alloc (.cells #[.slice ao l.length cap, .bool true] 77) := ⟨_, rfl⟩
  have hR1 : Rdr K 77 w1 R S l := by rw [hw1]; exact hR.kept (World.grownBy_alloc w _ none) (by simp)
  have k147 := rcount_any R S 64 l w1 hR1 (by omega)
  have h6 := rcount_le (most := 64) (l := l) (by omega)
  have hn0 := rcount_nonneg 64 l
  have hle := rcount_left 64 l
  have hrp : rops l = if (rcount 64 l).2.1 = 0 then (if (rlist (rcount 64 l).1.toNat (rcount 64 l).2.2).2.1 = 0 then rlist (rcount 64 l).1.toNat (rcount 64 l).2.2 else ([], (rlist (rcount 64 l).1.toNat (rcount 64 l).2.2).2.1, l)) else ([], (rcount 64 l).2.1, l) := rfl
  have he := rcount_err (most := 64) (l := l)
  have hz : (rcount 64 l).2.1 ≠ 0 → (rcount 64 l).1 = 0 := by
    unfold rcount
    rw [if_neg (by omega)]
    split
    · simp
    · split
      · simp
      · simp
  obtain ⟨X, hX⟩ : ∃ r, r = rops l := ⟨_, rfl⟩
  rw [← hX] at hrp ⊢
  clear hX
  generalize rcount 64 l = C at k147 h6 hn0 hle hrp he hz
  obtain ⟨cn, ce, q1⟩ := C
  dsimp only at k147 h6 hn0 hle hrp he hz
  obtain ⟨n, rfl⟩ := Int.eq_ofNat_of_zero_le hn0
  have hn6 : n ≤ 64 := by omega
  rw [show ((n : Int)).toNat = n from rfl] at hrp
  have HRp := hide (And.intro hrp hz)
  have HE0 := hide (And.intro hE (And.intro (show Below w0.heap.size w0 w1 by rw [hw1]; exact hB0.alloc hB0.size _) hR0))
  have HW := hide (And.intro hw1 (And.intro hR hle))
  have km := missing_no R w c1
  have hnf : ∀ W, (binOp BinOp.eql 53 (.func (.func 26) #[] #[]) Value.nilFunc).run Tryz.prog W = .ok (.bool false) W := fun _ => rfl
  clear hrp h6 hn0 hle he hz hw1
  go_enter Tryz.func110, Tryz.ntmps110
  go_upto_region 1 with fail
  go_step3
  go_upto_region 3 with (go_at_call 75; refine km.mono ?_; rintro e wm ⟨rfl, hm⟩; have hm := hm.symm; subst hm)
  go_upto_region 4 with fail
  rw [← HW.out.1]
  go_upto_region 6 with (go_at_call 147; refine k147.mono ?_; rintro e w2 ⟨rfl, hr2, hg2⟩; have H2 := hide (And.intro hr2 (only_grown hg2)); clear hr2 hg2 k147)
  go_step3
  go_wp2
  have h11 : OtL K w1 R S n q1 0 [] q1 w2 := ⟨Nat.zero_le _, rfl, by simp, H2.out.1, H2.out.2, Nat.le_trans HW.out.2.2 hl47⟩
  have H11 := hide h11
  clear h11
  go_loopw [10, 11, 30] (fun v10 v11 v30 wr => ∃ (j : Nat) (L : List Ox) (q : List Int) (a : Option Addr) (c : Nat), v10 = .int .i64 ce ∧ v11 = .slice a L.length c ∧ v30 = .int .i64 (j : Nat) ∧ Hid (Oq wr w1.heap.size (.slice a L.length c) L) ∧ Hid (OtL K w1 R S n q1 j L q wr))
    (fun _ _ v30 _ => n - (intOf v30).toNat)
  case atStart => exact ⟨0, [], q1, none, 0, rfl, rfl, rfl, hide (Oq.nil _ _), H11⟩
  case round =>
    obtain ⟨j, L, q, a, c, rfl, rfl, rfl, HO, HS⟩ := hrel
    have hsz1 : w1.heap.size = wm.heap.size + 1 := by rw [HW.out.1]; simp
    have hos := HS.out.only.size
    by_cases hlt : j < n
    · have hce : ce = 0 := by
        apply Classical.byContradiction
        intro h
        have := HRp.out.2 h
        omega
      subst hce
      have hEr : EnvO wr := HE0.out.1.below (HE0.out.2.1.trans (HS.out.only.below HE0.out.2.1.size (fun k hk => by have := HE0.out.2.2; omega)))
      have k26 := take26_any R S q wr HS.out.rd HS.out.sz (by omega) hEr
      have hpl := ropF_plen q
      have hall := HS.out.all
      obtain ⟨m, hm⟩ : ∃ m, n - j = m + 1 := ⟨n - j - 1, by omega⟩
      rw [hm, rlist_succ] at hall
      generalize ropF q = T at k26 hpl hall
      obtain ⟨o, te, q'⟩ := T
      obtain ⟨p, k, ks, d, m5, t⟩ := o
      dsimp only at k26 hpl hall
      have HA := hide (And.intro hall (And.intro hpl hm))
      clear hall hpl hEr
      by_cases hte : te = 0
      · subst hte
        go_upto_region 9 with (go_at_call 26; refine k26.mono ?_; rintro e w3 ⟨pa, pc, rfl, hos3, hr3, hg3, hl3⟩; have H3 := hide (And.intro hr3 (And.intro (only_grown hg3) (And.intro hos3 hl3))); clear hos3 hr3 hg3 hl3 k26)
        obtain ⟨w4, hw4⟩ : ∃ r, r = w3.alloc (.cells (oc6 (.slice pa p.length pc) k ks d m5 t) 34) := ⟨_, rfl⟩
        rw [← hw4]
        have d4 : Below w3.heap.size w3 w4 := by rw [hw4]; exact (Below.refl _ _).alloc (Nat.le_refl _) _
        have m4 : w4.heap[w3.heap.size]? = some (.cells (oc6 (.slice pa p.length pc) k ks d m5 t) 34 (0, 0)) := by rw [hw4]; exact heap_alloc_new _ _
        obtain ⟨⟨x0, x1, x2, x3, x4, x5⟩, f0, f1, f2, f3, f4, f5⟩ := blk6 m4
        have hRs : R < w1.heap.size := by omega
        have hs3 := H3.out.2.1.size
        have hs4 := d4.size
        have hO4 : Oq w4 w1.heap.size (.slice a L.length c) L := (HO.out.only H3.out.2.1 (fun k hk e => by omega)).below d4
        have hpath : Os w4 w1.heap.size (.slice pa p.length pc) p := row_lift (H3.out.2.2.1.below d4) (by omega)
        have d5 : Below w4.heap.size w4 (w4.alloc (.cells (oc6 (.slice pa p.length pc) k ks d m5 t) 34)) := (Below.refl _ _).alloc (Nat.le_refl _) _
        have hL6 : L.length + 1 ≤ 1000000 := by have := HS.out.len; omega
        obtain ⟨v8, w8, hr8, hO8, hg8, hb8⟩ := push_op (x := (⟨p, k, ks, d, m5, t⟩, pa, pc)) (hO4.below d5) (hpath.below d5) HA.out.2.1 (heap_alloc_new w4 (.cells (oc6 (.slice pa p.length pc) k ks d m5 t) 34)) hL6 (by simp; omega)
        obtain ⟨a8, c8, rfl, -, -, -, -⟩ := hO8.shape
        have hS8 : OtL K w1 R S n q1 (j + 1) (L ++ [(⟨p, k, ks, d, m5, t⟩, pa, pc)]) q' w8 := by
          refine ⟨by omega, by rw [List.length_append, HS.out.len]; rfl, ?_, ?_, ?_, H3.out.2.2.2⟩
          · have := HA.out.1
            simp only [if_true] at this
            rw [this, show n - (j + 1) = m by have := HA.out.2.2; omega, List.map_append, List.append_assoc]
            rfl
          · exact H3.out.1.below (((d4.mono (by omega)).trans (d5.mono (by omega))).trans (hb8.mono (by omega)))
          · exact (((HS.out.only.trans H3.out.2.1 (fun _ _ e => e)).trans (Only.ofBelow d4) (fun _ _ e => e.elim)).alloc (.cells (oc6 (.slice pa p.length pc) k ks d m5 t) 34)).trans (⟨hb8.os, hb8.tape, hb8.output, hb8.size, fun k _ hn => hb8.block k (by omega)⟩ : Only (fun k => w1.heap.size ≤ k) _ _) (fun k hk e => by omega)
        have H8 := hide (And.intro hO8 hS8)
        clear hO4 hpath d5 d4 m4 hw4
        clear hO8 hS8 hg8 hb8 hL6
        go_upto_region 11 with fail
        go_wp2_with (at_builtin; refine wpList_turn (OP := .call { callee := .builtin .append, args := #[.tmp 41, .tmp 43], argTypes := #[22, 22] }) (T := 22) rfl rfl rfl (exec_append rfl rfl hr8) ?_; clear hr8)
        go_roundw
        case rel => exact ⟨j + 1, L ++ [(⟨p, k, ks, d, m5, t⟩, pa, pc)], q', a8, c8, rfl, by simp, by go_num, hide H8.out.1, hide H8.out.2⟩
        case measure => simp [intOf]; omega
      · have hte1 : (te != 0) = true := by simpa using hte
        have hrs : rlist n q1 = (L.map Prod.fst, te, q') := by have := HA.out.1; rw [if_neg hte] at this; simpa using this
        have hXX : X = ([], te, l) := by
          have := HRp.out.1
          rw [if_pos rfl, hrs] at this
          simpa [hte] using this
        have HX := hide hXX
        clear hrs hXX
        go_upto_region 9 with (go_at_call 26; refine k26.mono ?_; rintro e w3 ⟨pa, pc, rfl, hos3, hr3, hg3, hl3⟩; have H3 := hide (And.intro hr3 (only_grown hg3)); clear hos3 hr3 hg3 hl3 k26)
        obtain ⟨w4, hw4⟩ : ∃ r, r = w3.alloc (.cells (oc6 (.slice pa p.length pc) k ks d m5 t) 34) := ⟨_, rfl⟩
        rw [← hw4]
        have d4 : Below w3.heap.size w3 w4 := by rw [hw4]; exact (Below.refl _ _).alloc (Nat.le_refl _) _
        have hs3 := H3.out.2.size
        have ho4 : Only (fun k => k = R) w1 w4 := (HS.out.only.trans H3.out.2 (fun _ _ e => e)).trans (Only.ofBelow d4) (fun _ _ e => e.elim)
        have hr4 : Rdr K 77 w4 R S q' := H3.out.1.below (d4.mono (by omega))
        clear d4 hw4
        go_upto_region 14 with fail
        have mb : w4.heap[wm.heap.size]? = some (.cells #[.slice ao l.length cap, .bool true] 77 (0, 0)) := was_blk (by rw [← HW.out.1]; exact ho4) hsz
        obtain ⟨b0, b1, -, -⟩ := cell_blk mb
        obtain ⟨ao3, cap3, y0, y1, g0, g1, -, -⟩ := hr4.cells
        have hx := Rdr.restore HW.out.2.1 c0 (grown_only (((Only.refl _ wm).alloc (.cells #[.slice ao l.length cap, .bool true] 77)).trans (by rw [← HW.out.1]; exact ho4) (fun _ _ e => e))) hr4
        have HXX := hide hx
        clear hx mb ho4 hr4
        go_wp2
        unfold Exit.noGoto
        try dsimp only
        go_ret2
        rw [HX.out]
        exact ⟨_, rfl, ⟨[], rfl, Oq.nil _ _⟩, HXX.out⟩
    · have hjn : n = j := by have := HS.out.le; omega
      have hfin : rlist n q1 = (L.map Prod.fst, 0, q) := by
        have := HS.out.all
        rw [show n - j = 0 by omega] at this
        simpa [rlist] using this
      by_cases hce : ce = 0
      · have hXX : X = (L.map Prod.fst, 0, q) := by
          have := HRp.out.1
          rw [if_pos hce, hfin] at this
          simpa using this
        have HX := hide hXX
        subst hce
        clear hfin hXX
        go_wp2
        go_ret2
        rw [HX.out]
        exact ⟨_, rfl, ⟨L, rfl, HO.out.lift (by omega)⟩, HS.out.rd, grown_only (((Only.refl _ wm).alloc (.cells #[.slice ao l.length cap, .bool true] 77)).trans (by rw [← HW.out.1]; exact HS.out.only) (fun _ _ e => e))⟩
      · have hce1 : (ce != 0) = true := by simpa using hce
        have hXX : X = ([], ce, l) := by
          have := HRp.out.1
          rw [if_neg hce] at this
          exact this
        have HX := hide hXX
        clear hXX hfin
        have mb : wr.heap[wm.heap.size]? = some (.cells #[.slice ao l.length cap, .bool true] 77 (0, 0)) := was_blk (by rw [← HW.out.1]; exact HS.out.only) hsz
        obtain ⟨b0, b1, -, -⟩ := cell_blk mb
        obtain ⟨ao3, cap3, y0, y1, g0, g1, -, -⟩ := HS.out.rd.cells
        have hx := Rdr.restore HW.out.2.1 c0 (grown_only (((Only.refl _ wm).alloc (.cells #[.slice ao l.length cap, .bool true] 77)).trans (by rw [← HW.out.1]; exact HS.out.only) (fun _ _ e => e))) HS.out.rd
        have HXX := hide hx
        clear hx mb
        go_wp2
        unfold Exit.noGoto
        try dsimp only
        go_ret2
        rw [HX.out]
        exact ⟨_, rfl, ⟨[], rfl, Oq.nil _ _⟩, HXX.out⟩

set_option maxHeartbeats 1000000 in
set_option maxRecDepth 100000 in
theorem takeAll67_any (R S : Nat) (l : List Int) (w : World) (hR : Rdr K 77 w R S l) (hl47 : l.length ≤ 140737488355328) (hSw : S ≤ w.heap.size) (w0 : World) (hE : EnvO w0) (hB0 : Below w0.heap.size w0 w) (hR0 : w0.heap.size ≤ R) :
    Calls Tryz.prog 67 #[.pointer (some ⟨R, 0, none⟩)] w fun e w' => ∃ v, e = .returned (.tuple #[v, .int .i64 (rops l).2.1]) ∧ (∃ xs, xs.map Prod.fst = (rops l).1 ∧ Oq w' w.heap.size v xs) ∧ Rdr K 77 w' R S (rops l).2.2 ∧ w.grownBy w' (some R) := by
  have k := take110_any R S l w hR hl47 hSw w0 hE hB0 hR0
  generalize rops l = X at k ⊢
  obtain ⟨o, er, q⟩ := X
  dsimp only at k ⊢
  go_enter Tryz.func67, Tryz.ntmps67
  go_wp2_with (go_at_call 110; refine k.mono ?_; rintro e w2 ⟨v, rfl, h2⟩; have H2 := hide h2; clear h2)
  go_ret2
  exact ⟨v, rfl, H2.out⟩

/-- What reading all of it answers. -/
def readA (l : List Int) : List Od × Int := if (rops l).2.1 = 0 ∧ (rops l).2.2 = [] then ((rops l).1, 0) else ([], 4)

set_option maxHeartbeats 2000000 in
set_option maxRecDepth 100000 in
theorem readAll24_any (ao : Option Addr) (cap n : Nat) (l : List Int) (w : World) (hn : l.length = n) (hr : Rd w ao l) (hnil : ao = none → cap = 0) (hl : l.length ≤ 140737488355328) (h8 : ∀ x ∈ l, 0 ≤ x ∧ x ≤ 255) (hE : EnvO w) :
    Calls Tryz.prog 24 #[.slice ao n cap] w fun e w' => ∃ v, e = .returned (.tuple #[v, .int .i64 (readA l).2]) ∧ (∃ xs, xs.map Prod.fst = (readA l).1 ∧ Oq w' w.heap.size v xs) ∧ Below w.heap.size w w' := by
  have k25 := open_any ao cap n l w hn hr hnil hl h8
  have hA : readA l = if (rops l).2.1 = 0 ∧ (rops l).2.2 = [] then ((rops l).1, 0) else ([], 4) := rfl
  have HE := hide (And.intro hE hl)
  obtain ⟨X, hX⟩ : ∃ r, r = readA l := ⟨_, rfl⟩
  rw [← hX] at hA ⊢
  obtain ⟨Z, hZ⟩ : ∃ r, r = rops l := ⟨_, rfl⟩
  rw [← hZ] at hA
  have HA := hide (And.intro hA hZ)
  clear hX hA hZ hr hn hnil hl h8 hE
  obtain ⟨o, er, q⟩ := Z
  have k66 : Calls Tryz.prog 66 #[.slice ao n cap, .func (.func 67) #[] #[]] w fun e w' => ∃ v, e = .returned (.tuple #[v, .int .i64 X.2]) ∧ (∃ xs, xs.map Prod.fst = X.1 ∧ Oq w' w.heap.size v xs) ∧ Below w.heap.size w w' := by
    go_enter Tryz.func66, Tryz.ntmps66
    go_upto_region 2 with (go_at_call 25; refine k25.mono ?_; rintro e w1 ⟨R, rfl, hR1, gR, gs, hb1⟩)
    have k67 := takeAll67_any R (R + 1) l w1 hR1 HE.out.2 (by omega) w HE.out.1 hb1 gR
    rw [← HA.out.2] at k67
    dsimp only at k67
    have H1 := hide (And.intro hb1 (And.intro gR gs))
    clear hb1 gR gs hR1
    go_upto_region 3 with (go_at_call 67; refine k67.mono ?_; rintro e w2 ⟨v, rfl, hxs, hR2, hg2⟩; have H2 := hide (And.intro hxs (And.intro hR2 hg2)); clear hxs hR2 hg2 k67)
    have hb2 : Below w.heap.size w w2 := H1.out.1.trans ((only_grown H2.out.2.2).below H1.out.1.size (fun j hj => by have := H1.out.2.1; omega))
    have HB := hide hb2
    have k69 := end_any R (R + 1) q w2 H2.out.2.1
    clear hb2
    by_cases her : er = 0
    · subst her
      by_cases hq : q = []
      · subst hq
        have hX : X = (o, 0) := by have := HA.out.1; simpa using this
        have HX := hide hX
        clear hX
        have hee : endE [] = 0 := rfl
        rw [hee] at k69
        go_wp2_with (go_at_call 69; refine k69.mono ?_; rintro e wm ⟨rfl, hm⟩; have hm := hm.symm; subst hm)
        go_ret2
        rw [HX.out]
        obtain ⟨xs, h1, h2⟩ := H2.out.1
        exact ⟨v, rfl, ⟨xs, h1, h2.lift H1.out.1.size⟩, HB.out⟩
      · have hX : X = ([], 4) := by have := HA.out.1; simpa [hq] using this
        have HX := hide hX
        clear hX
        have hee : endE q = 4 := if_neg hq
        rw [hee] at k69
        go_wp2_with (go_at_call 69; refine k69.mono ?_; rintro e wm ⟨rfl, hm⟩; have hm := hm.symm; subst hm)
        go_ret2
        rw [HX.out]
        exact ⟨_, rfl, ⟨[], rfl, Oq.nil _ _⟩, HB.out⟩
    · have her1 : (er != 0) = true := by simpa using her
      have hX : X = ([], 4) := by have := HA.out.1; simpa [her] using this
      have HX := hide hX
      clear hX
      go_wp2_with (go_at_call 69; refine k69.mono ?_; rintro e wm ⟨rfl, hm⟩; have hm := hm.symm; subst hm)
      go_ret2
      rw [HX.out]
      exact ⟨_, rfl, ⟨[], rfl, Oq.nil _ _⟩, HB.out⟩
  clear k25 HA
  obtain ⟨o, er⟩ := X
  dsimp only at k66 ⊢
  go_enter Tryz.func24, Tryz.ntmps24
  go_wp2_with (go_at_call 66; refine k66.mono ?_; rintro e w2 ⟨v, rfl, h2⟩; have H2 := hide h2; clear h2)
  go_ret2
  exact ⟨v, rfl, H2.out⟩
end Go.Proofs.YtpepgoelnagoaaaGreatDoor
namespace Go.Proofs.YtpepgoelnagoaaaGreatDoor
open Go.RowKit Go.Shelf
set_option linter.unusedSimpArgs false
set_option linter.unusedVariables false

theorem rnum_form (m : Nat) (rest : List Int) (h : m < 18446744073709551616) : rnum (Plain.numL m ++ rest) = (m, 0, rest) := by
  have := Plain.readN_form m 0 0 rest (by omega) (by simp) (fun h => by omega) (by simpa using h)
  have h2 : Plain.readN 0 0 (Plain.numL m ++ rest) = some (m, (Plain.numL m).length) := by simpa using this
  rw [rnum_some h2, List.drop_left]
theorem rcount_form (most : Int) (m : Nat) (rest : List Int) (h : (m : Int) ≤ most) (h2 : m < 18446744073709551616) : rcount most (Plain.numL m ++ rest) = ((m : Int), 0, rest) := by
  have := Plain.readN_form m 0 0 rest (by omega) (by simp) (fun h => by omega) (by simpa using h2)
  have h3 : Plain.readN 0 0 (Plain.numL m ++ rest) = some (m, (Plain.numL m).length) := by simpa using this
  unfold rcount
  rw [if_neg (by omega), h3]
  dsimp only
  rw [if_neg (by omega), List.drop_left]
theorem rbytes_form (most : Int) (b rest : List Int) (h : (b.length : Int) ≤ most) (h2 : b.length < 18446744073709551616) : rbytes most (Plain.numL b.length ++ (b ++ rest)) = (b, 0, rest) := by
  have hc := rcount_form most b.length (b ++ rest) h h2
  unfold rbytes
  rw [hc]
  dsimp only
  rw [if_pos rfl, if_neg (by rw [List.length_append]; omega), Int.toNat_natCast, List.take_left, List.drop_left]
theorem str_ints' (s : ByteArray) : strOfNums (ints s.data.toList) = s := by
  rw [str_ints]
theorem rtext_form (most : Int) (s : ByteArray) (rest : List Int) (h : (s.size : Int) ≤ most) (h2 : s.size < 18446744073709551616) : rtext most (frB s ++ rest) = (s, 0, rest) := by
  have hl : (ints s.data.toList).length = s.size := by rw [ints_length, Lib.size_eq]
  have := rbytes_form most (ints s.data.toList) rest (by rw [hl]; exact h) (by rw [hl]; exact h2)
  rw [hl] at this
  unfold rtext frB
  rw [List.append_assoc, this]
  dsimp only
  rw [str_ints']
theorem rstrs_form : ∀ (p : List ByteArray) (rest : List Int), (∀ s ∈ p, s.size ≤ 64) → rstrs p.length (p.flatMap frB ++ rest) = (p, 0, rest)
  | [], rest, _ => rfl
  | s :: p, rest, h => by
    have h1 := h s (by simp)
    have ih := rstrs_form p rest (fun x hx => h x (List.mem_cons_of_mem _ hx))
    rw [List.length_cons, rstrs_succ, List.flatMap_cons, List.append_assoc, rtext_form 64 s _ (by omega) (by omega)]
    dsimp only
    rw [if_pos rfl, ih]
theorem rpath_form (p : List ByteArray) (rest : List Int) (hl : p.length ≤ 6) (h : ∀ s ∈ p, s.size ≤ 64) : rpath (frP p ++ rest) = (p, 0, rest) := by
  have hc := rcount_form 6 p.length (p.flatMap frB ++ rest) (by omega) (by omega)
  unfold rpath frP
  rw [List.append_assoc, hc]
  dsimp only
  rw [if_pos rfl, Int.toNat_natCast, rstrs_form p rest h]
  rfl
theorem unfold_fold (n : Int) : unfoldN (Plain.fold n) = n := by
  unfold unfoldN
  by_cases h : n < 0
  · have := Plain.fold_neg h
    rw [if_pos (by omega)]
    omega
  · have := Plain.fold_pos h
    rw [if_neg (by omega)]
    omega
theorem fmN_form (n : Int) (rest : List Int) (h : I64 n) : fmN (Plain.numL (Plain.fold n) ++ rest) = (n, 0, rest) := by
  have hr := rnum_form (Plain.fold n) rest (Plain.fold_lt n h.1 h.2)
  rw [fmN_is (by rw [hr]; exact Plain.fold_lt n h.1 h.2), hr]
  dsimp only
  rw [unfold_fold]
theorem fmD_form (d : Int) (rest : List Int) (h0 : 0 ≤ d) (h7 : d ≤ 7) : fmD (Plain.numL d.toNat ++ rest) = (d, 0, rest) := by
  have hr := rnum_form d.toNat rest (by omega)
  unfold fmD
  rw [hr]
  dsimp only
  rw [if_neg (by omega), if_neg (by omega)]
  congr 1
  omega
/-- An operation's form reads back. -/
theorem rdO_form {o : Od} (ho : OkO o) (hn : I64 o.n) (rest : List Int) : rdO fmZ (frO o ++ rest) = (o, 0, rest) := by
  have hd := fmD_form o.d (frP o.p ++ (frB o.s ++ (frN o ++ rest))) (by have := ho.d1; omega) ho.d7
  have hp := rpath_form o.p (frB o.s ++ (frN o ++ rest)) ho.psz.1 ho.psz.2
  have hs := rtext_form 64 o.s (frN o ++ rest) (by have := ho.ssz; omega) (by have := ho.ssz; omega)
  have e1 : fld fmZ.pd 0 0 (frO o ++ rest) = (o.d, 0, frP o.p ++ (frB o.s ++ (frN o ++ rest))) := by
    have : frO o ++ rest = Plain.numL o.d.toNat ++ (frP o.p ++ (frB o.s ++ (frN o ++ rest))) := by unfold frO; simp only [List.append_assoc]
    rw [this]; exact hd
  have e2 : fld fmZ.pp [] 0 (frP o.p ++ (frB o.s ++ (frN o ++ rest))) = (o.p, 0, frB o.s ++ (frN o ++ rest)) := hp
  have e3 : fld fmZ.pk ⟨#[]⟩ 0 (frB o.s ++ (frN o ++ rest)) = (o.s, 0, frN o ++ rest) := hs
  have h3 : rd3 fmZ (frO o ++ rest) = ((o.d, o.p, o.s), 0, frN o ++ rest) := by
    unfold rd3
    rw [e1]
    dsimp only
    rw [e2]
    dsimp only
    rw [e3]
  have h4 : rd4 fmZ o.d 0 (frN o ++ rest) = ((o.n, o.t), 0, rest) := by
    unfold rd4 frN
    by_cases h1 : o.d = 1
    · have := fmN_form o.n rest hn
      have e4 : fld fmZ.pn 0 0 (Plain.numL (Plain.fold o.n) ++ rest) = (o.n, 0, rest) := this
      rw [if_pos h1, if_pos h1, e4, ho.add h1]
    · by_cases h6 : o.d = 6
      · rw [if_neg h1, if_pos h6, if_neg h1, if_pos h6, ho.num h1, ho.pop h6]
        rfl
      · have := rtext_form 256 o.t rest (by have := ho.text; omega) (by have := ho.text; omega)
        have e4 : fld fmZ.pt ⟨#[]⟩ 0 (frB o.t ++ rest) = (o.t, 0, rest) := this
        rw [if_neg h1, if_neg h6, if_neg h1, if_neg h6, e4, ho.num h1]
  unfold rdO
  rw [h3]
  dsimp only
  rw [h4]
  dsimp only
  rw [← ho.kind]
theorem ropF_form {o : Od} (hc : chkO o = 0) (hn : I64 o.n) (rest : List Int) : ropF (frO o ++ rest) = (o, 0, rest) := by
  have h := rdO_form (ok_of hc) hn rest
  have hr : readS fmZ (frO o ++ rest) = (o, 0) := by
    unfold readS
    rw [h]
    dsimp only
    rw [if_pos ⟨rfl, hc⟩]
  unfold ropF
  rw [hr, h]
  rfl
theorem rlist_form : ∀ (l : List Od) (rest : List Int), (∀ o ∈ l, chkO o = 0 ∧ I64 o.n) → rlist l.length (l.flatMap frO ++ rest) = (l, 0, rest)
  | [], rest, _ => rfl
  | o :: l, rest, h => by
    have h1 := h o (by simp)
    have ih := rlist_form l rest (fun x hx => h x (List.mem_cons_of_mem _ hx))
    rw [List.length_cons, rlist_succ, List.flatMap_cons, List.append_assoc, ropF_form h1.1 h1.2]
    dsimp only
    rw [if_pos rfl, ih]
theorem rops_form (l : List Od) (rest : List Int) (hl : l.length ≤ 64) (h : ∀ o ∈ l, chkO o = 0 ∧ I64 o.n) : rops (frA l ++ rest) = (l, 0, rest) := by
  have hc := rcount_form 64 l.length (l.flatMap frO ++ rest) (by omega) (by omega)
  unfold rops frA
  rw [List.append_assoc, hc]
  dsimp only
  rw [if_pos rfl, Int.toNat_natCast, rlist_form l rest h]
  rfl
/-- A list's form reads back, and nothing more than that. -/
theorem readA_form (l : List Od) (hl : l.length ≤ 64) (h : ∀ o ∈ l, chkO o = 0 ∧ I64 o.n) : readA (frA l) = (l, 0) := by
  have := rops_form l [] hl h
  rw [List.append_nil] at this
  unfold readA
  rw [this]
  exact if_pos ⟨rfl, rfl⟩
end Go.Proofs.YtpepgoelnagoaaaGreatDoor
namespace Go.Proofs.YtpepgoelnagoaaaGreatDoor
open Go.RowKit Go.Shelf
set_option linter.unusedSimpArgs false
set_option linter.unusedVariables false
attribute [local go_sem] Oper.semAt_some

end Go.Proofs.YtpepgoelnagoaaaGreatDoor
namespace Go.Proofs.YtpepgoelnagoaaaGreatDoor
open Go.RowKit Go.Shelf
set_option linter.unusedSimpArgs false

end Go.Proofs.YtpepgoelnagoaaaGreatDoor
namespace Go.Proofs.YtpepgoelnagoaaaGreatDoor
open Go.RowKit Go.Shelf
set_option linter.unusedSimpArgs false
set_option linter.unusedVariables false
attribute [local go_sem] Oper.semAt_some

end Go.Proofs.YtpepgoelnagoaaaGreatDoor
namespace Go.Proofs.YtpepgoelnagoaaaGreatDoor
open Go.RowKit Go.Shelf
set_option linter.unusedSimpArgs false
set_option linter.unusedVariables false
attribute [local go_sem] Oper.semAt_some

end Go.Proofs.YtpepgoelnagoaaaGreatDoor
namespace Go.Proofs.YtpepgoelnagoaaaGreatDoor
open Go.RowKit Go.Shelf
set_option linter.unusedSimpArgs false
set_option linter.unusedVariables false
attribute [local go_sem] Oper.semAt_some
def addO : Od := ⟨[], 1, ⟨#[104, 105, 116, 115]⟩, 1, 3, ⟨#[]⟩⟩
def popO : Od := ⟨[⟨#[97]⟩, ⟨#[98]⟩], 4, ⟨#[113]⟩, 6, 0, ⟨#[]⟩⟩
theorem chk_add : chkO addO = 0 := by kernel_rfl
theorem chk_pop : chkO popO = 0 := by kernel_rfl
theorem fr_add : frO addO = [1, 0, 4, 104, 105, 116, 115, 6] := by
  simp [frO, frP, frB, frN, addO, Plain.numL_small, Plain.fold, ints, ByteArray.size]
theorem fr_pop : frO popO = [6, 2, 1, 97, 1, 98, 1, 113] := by
  simp [frO, frP, frB, frN, popO, Plain.numL_small, Plain.fold, ints, ByteArray.size]
def knS : ByteArray := ⟨#[97, 100, 100, 32, 47, 32, 104, 105, 116, 115, 32, 51, 59, 32, 112, 111, 112, 32, 47, 97, 47, 98, 32, 113]⟩
theorem kn_text : (⟨(txA [addO, popO]).toArray⟩ : ByteArray) = knS := by kernel_rfl
theorem kn_no : parseS ⟨#[97, 100, 100, 32, 47, 32, 104, 105, 116, 115, 32, 48, 51]⟩ = (odZ, 4) := by kernel_rfl
theorem kn_all : parseA knS = ([addO, popO], 0) := by kernel_rfl

set_option maxHeartbeats 1000000 in
set_option maxRecDepth 100000 in
theorem add43_any (w : World) : Calls Tryz.prog 43 #[] w fun e w' => e = .returned (odv none 0 0 addO) ∧ Below w.heap.size w w' := by
  go_enter Tryz.func43, Tryz.ntmps43
  go_wp2
  exact ret_row w.heap.size (oc6 (.slice none 0 0) 1 ⟨#[104, 105, 116, 115]⟩ 1 3 ⟨#[]⟩).toList rfl rfl Tryz.underlying34 rfl Tryz.info34z (heap_alloc_new w _) rfl ⟨rfl, (Below.refl _ w).alloc (Nat.le_refl _) _⟩
set_option maxHeartbeats 1000000 in
set_option maxRecDepth 100000 in
theorem pop42_any (w : World) : Calls Tryz.prog 42 #[] w fun e w' => ∃ pa, e = .returned (odv pa 2 2 popO) ∧ Ki.Rp w' pa 2 popO.p ∧ Below w.heap.size w w' := by
  obtain ⟨w1, hw1⟩ : ∃ q, q = (w.alloc (.cells (oc6 (.slice (some ⟨w.heap.size + 1, 0, none⟩) 2 2) 4 ⟨#[113]⟩ 6 0 ⟨#[]⟩) 34)).alloc (.cells #[.string ⟨#[97]⟩, .string ⟨#[98]⟩] 9) := ⟨_, rfl⟩
  obtain ⟨m1, m2⟩ := new2 w (.cells (oc6 (.slice (some ⟨w.heap.size + 1, 0, none⟩) 2 2) 4 ⟨#[113]⟩ 6 0 ⟨#[]⟩) 34) (.cells #[.string ⟨#[97]⟩, .string ⟨#[98]⟩] 9)
  have d : Below w.heap.size w w1 := by rw [hw1]; exact ((Below.refl _ w).alloc (Nat.le_refl _) _).alloc (by simp) _
  rw [← hw1] at m1 m2
  have hrp : Ki.Rp w1 (some ⟨w.heap.size + 1, 0, none⟩) 2 popO.p := by
    refine ⟨⟨by simp, ?_⟩, by decide, by simp, by decide⟩
    intro a ha j s hj
    cases ha
    match j, hj with
    | 0, hj => cases hj; exact (cell_of_row _ _ 0 _ 9 (0, 0) m2).trans rfl
    | 1, hj => cases hj; exact (cell_of_row _ _ 1 _ 9 (0, 0) m2).trans rfl
  go_enter Tryz.func42, Tryz.ntmps42
  go_wp2
  rw [← hw1]
  exact ret_row w.heap.size (oc6 (.slice (some ⟨w.heap.size + 1, 0, none⟩) 2 2) 4 ⟨#[113]⟩ 6 0 ⟨#[]⟩).toList rfl rfl Tryz.underlying34 rfl Tryz.info34z m1 rfl ⟨_, rfl, hrp, d⟩
theorem num14_any (n : Int) (w : World) : Calls Tryz.prog 14 #[.int .i64 n] w fun e w' => e = .returned (.int .i64 n) ∧ w' = w := by
  go_enter Tryz.func14, Tryz.ntmps14
  go_wp2
  go_ret
  exact ⟨rfl, rfl⟩
end Go.Proofs.YtpepgoelnagoaaaGreatDoor
