/-
  OPS: read 70, of any source.
  THE WALK over the program's Split.
  OPS: the words of a text, told by a closure (pieces 76, 117), and what they say: word 235, do 230, key 231, number 232, path 233, text 234.
-/
import Derived.Test.YtpepgoelnagoaaaGreatDoorMg11
import Derived.Test.YtpepgoelnagoaaaGreatDoorMg3
import Derived.Test.YtpepgoelnagoaaaGreatDoorMg6
import Derived.WalkMore
import Derived.Scope
import Derived.Lib.IndexMore
namespace Go.Proofs.YtpepgoelnagoaaaGreatDoor
open Go.RowKit Go.Shelf
set_option linter.unusedSimpArgs false
set_option linter.unusedVariables false
attribute [local go_sem] Oper.semAt_some

def odZ : Od := ⟨[], 0, ⟨#[]⟩, 0, 0, ⟨#[]⟩⟩
/-- What a source tells: its fields in order, the first error, and where it then stands. -/
def rd3 {σ : Type} (s : Src σ) (q : σ) : (Int × List ByteArray × ByteArray) × Int × σ :=
  let a := fld s.pd 0 0 q
  let b := fld s.pp [] a.2.1 a.2.2
  let c := fld s.pk ⟨#[]⟩ b.2.1 b.2.2
  ((a.1, b.1, c.1), c.2.1, c.2.2)
def rd4 {σ : Type} (s : Src σ) (d er : Int) (q : σ) : (Int × ByteArray) × Int × σ :=
  if d = 1 then (((fld s.pn 0 er q).1, ⟨#[]⟩), (fld s.pn 0 er q).2.1, (fld s.pn 0 er q).2.2) else if d = 6 then ((0, ⟨#[]⟩), er, q) else ((0, (fld s.pt ⟨#[]⟩ er q).1), (fld s.pt ⟨#[]⟩ er q).2.1, (fld s.pt ⟨#[]⟩ er q).2.2)
def rdO {σ : Type} (s : Src σ) (q : σ) : Od × Int × σ :=
  let a := rd3 s q
  let b := rd4 s a.1.1 a.2.1 a.2.2
  (⟨a.1.2.1, Ki.ofD a.1.1, a.1.2.2, a.1.1, b.1.1, b.1.2⟩, b.2.1, b.2.2)
def readS {σ : Type} (s : Src σ) (q : σ) : Od × Int := if (rdO s q).2.1 = 0 ∧ chkO (rdO s q).1 = 0 then ((rdO s q).1, 0) else (odZ, 4)

theorem blk6 {w : World} {R : Nat} {t : TypeId} {a b c d e f : Value} (h : w.heap[R]? = some (.cells #[a, b, c, d, e, f] t (0, 0))) : (w.cell? ⟨R, 0, none⟩ = some a ∧ w.cell? ⟨R, 1, none⟩ = some b ∧ w.cell? ⟨R, 2, none⟩ = some c ∧ w.cell? ⟨R, 3, none⟩ = some d ∧ w.cell? ⟨R, 4, none⟩ = some e ∧ w.cell? ⟨R, 5, none⟩ = some f) ∧ (w.frozen? ⟨R, 0, none⟩ = false ∧ w.frozen? ⟨R, 1, none⟩ = false ∧ w.frozen? ⟨R, 2, none⟩ = false ∧ w.frozen? ⟨R, 3, none⟩ = false ∧ w.frozen? ⟨R, 4, none⟩ = false ∧ w.frozen? ⟨R, 5, none⟩ = false) :=
  ⟨⟨(cell_of_row _ _ 0 _ t (0, 0) h).trans rfl, (cell_of_row _ _ 1 _ t (0, 0) h).trans rfl, (cell_of_row _ _ 2 _ t (0, 0) h).trans rfl, (cell_of_row _ _ 3 _ t (0, 0) h).trans rfl, (cell_of_row _ _ 4 _ t (0, 0) h).trans rfl, (cell_of_row _ _ 5 _ t (0, 0) h).trans rfl⟩, frozen_of_row _ _ 0 _ t h, frozen_of_row _ _ 1 _ t h, frozen_of_row _ _ 2 _ t h, frozen_of_row _ _ 3 _ t h, frozen_of_row _ _ 4 _ t h, frozen_of_row _ _ 5 _ t h⟩
theorem set6 {w : World} {R : Nat} {t : TypeId} {a b c d e f a' b' c' d' e' f' : Value} (h : w.heap[R]? = some (.cells #[a, b, c, d, e, f] t (0, 0))) : ((((((w.setCell ⟨R, 0, none⟩ a').setCell ⟨R, 1, none⟩ b').setCell ⟨R, 2, none⟩ c').setCell ⟨R, 3, none⟩ d').setCell ⟨R, 4, none⟩ e').setCell ⟨R, 5, none⟩ f').heap[R]? = some (.cells #[a', b', c', d', e', f'] t (0, 0)) := by
  have h0 := (Ki.set_one (i := 0) a' h).1
  have h1 := (Ki.set_one (i := 1) b' h0).1
  have h2 := (Ki.set_one (i := 2) c' h1).1
  have h3 := (Ki.set_one (i := 3) d' h2).1
  have h4 := (Ki.set_one (i := 4) e' h3).1
  have h5 := (Ki.set_one (i := 5) f' h4).1
  simpa using h5
theorem only6 {w : World} {R : Nat} {a' b' c' d' e' f' : Value} : Only (fun j => j = R) w ((((((w.setCell ⟨R, 0, none⟩ a').setCell ⟨R, 1, none⟩ b').setCell ⟨R, 2, none⟩ c').setCell ⟨R, 3, none⟩ d').setCell ⟨R, 4, none⟩ e').setCell ⟨R, 5, none⟩ f') :=
  ((((((Only.refl (fun j => j = R) w).setCell ⟨R, 0, none⟩ a' (fun _ => rfl)).setCell ⟨R, 1, none⟩ b' (fun _ => rfl)).setCell ⟨R, 2, none⟩ c' (fun _ => rfl)).setCell ⟨R, 3, none⟩ d' (fun _ => rfl)).setCell ⟨R, 4, none⟩ e' (fun _ => rfl)).setCell ⟨R, 5, none⟩ f' (fun _ => rfl)

abbrev oc6 (x : Value) (k : Int) (ks : ByteArray) (d n : Int) (t : ByteArray) : Array Value := #[x, .int .i64 k, .string ks, .int .i64 d, .int .i64 n, .string t]
/-- How things stand while an operation is read. -/
structure RdS {σ : Type} (s : Src σ) (w W : World) (N5 : Nat) (x : Value) (k : Int) (ks : ByteArray) (d n : Int) (t : ByteArray) (er : Int) (q : σ) : Prop where
  b2 : W.heap[w.heap.size]? = some (.cells (oc6 (.slice none 0 0) 0 ⟨#[]⟩ 0 0 ⟨#[]⟩) 34 (0, 0))
  b5 : W.heap[N5]? = some (.cells (oc6 x k ks d n t) 34 (0, 0))
  err : ErrC W (w.heap.size + 1) er
  st : s.St q W
  only : Only s.D w W
  gt : w.heap.size + 1 < N5
  base : s.B ≤ w.heap.size
theorem RdS.call {σ : Type} {s : Src σ} {w W W' : World} {N5 : Nat} {x : Value} {k : Int} {ks : ByteArray} {d n : Int} {t : ByteArray} {er er' : Int} {q q' : σ} (hs : SrcOk s) (h : RdS s w W N5 x k ks d n t er q) (hE : ErrC W' (w.heap.size + 1) er') (hq : s.St q' W') (ho : Only (fun j => s.D j ∨ j = w.heap.size + 1) W W') : RdS s w W' N5 x k ks d n t er' q' := by
  have g := h.gt
  have b := h.base
  refine ⟨(ho.block _ (Array.getElem?_eq_some_iff.1 h.b2).1 ?_).trans h.b2, (ho.block _ (Array.getElem?_eq_some_iff.1 h.b5).1 ?_).trans h.b5, hE, hq, h.only.trans ho ?_, g, b⟩
  · rintro (hd | hd)
    · have := hs.lt _ hd; omega
    · omega
  · rintro (hd | hd)
    · have := hs.lt _ hd; omega
    · omega
  · rintro j hj (hd | hd)
    · exact hd
    · omega
theorem RdS.set {σ : Type} {s : Src σ} {w W : World} {N5 : Nat} {x : Value} {k : Int} {ks : ByteArray} {d n : Int} {t : ByteArray} {er : Int} {q : σ} (hs : SrcOk s) (h : RdS s w W N5 x k ks d n t er q) (i : Nat) (v : Value) (x' : Value) (k' : Int) (ks' : ByteArray) (d' n' : Int) (t' : ByteArray) (he : (oc6 x k ks d n t).setIfInBounds i v = oc6 x' k' ks' d' n' t') : RdS s w (W.setCell ⟨N5, i, none⟩ v) N5 x' k' ks' d' n' t' er q := by
  have g := h.gt
  have b := h.base
  obtain ⟨c, ho⟩ := Ki.set_one (i := i) v h.b5
  rw [he] at c
  refine ⟨(ho.block _ (Array.getElem?_eq_some_iff.1 h.b2).1 (by omega)).trans h.b2, c, (ho.block _ (Array.getElem?_eq_some_iff.1 h.err).1 (by omega)).trans h.err, hs.stable _ _ _ h.st (ho.below (hs.le _ _ h.st) (fun j hj => by omega)), h.only.trans ho (fun j hj hd => by omega), g, b⟩

theorem RdS.below {σ : Type} {s : Src σ} {w W W' : World} {N5 : Nat} {x : Value} {k : Int} {ks : ByteArray} {d n : Int} {t : ByteArray} {er : Int} {q : σ} (hs : SrcOk s) (h : RdS s w W N5 x k ks d n t er q) (hb : Below W.heap.size W W') : RdS s w W' N5 x k ks d n t er q :=
  h.call hs ((hb.block _ (Array.getElem?_eq_some_iff.1 h.err).1).trans h.err) (hs.stable _ _ _ h.st (hb.mono (hs.le _ _ h.st))) ((Only.ofBelow hb).mono (fun _ _ hd => hd.elim))
theorem rp_of {W : World} {B pc : Nat} {pa : Option Addr} {p : List ByteArray} (h : Os W B (.slice pa p.length pc) p) (hl : p.length ≤ 1000000) : Ki.Rp W pa pc p := by
  obtain ⟨ao, c, e, hr, -, hn, hc⟩ := h.shape
  simp only [Value.slice.injEq, true_and] at e
  obtain ⟨rfl, rfl⟩ := e
  exact ⟨hr, hc, hn, by omega⟩
theorem fld_plen {σ : Type} {s : Src σ} (hs : SrcOk s) {er : Int} {q : σ} : (fld s.pp [] er q).1.length ≤ 1000000 := by
  unfold fld
  split
  · exact hs.plen q
  · simp
theorem Tryz.info34z : (Tryz.prog.info? 34).map (·.size) = some 6 := by kernel_rfl
theorem fin_os {σ : Type} {s : Src σ} {w W : World} {N5 Bp pc : Nat} {pa : Option Addr} {p : List ByteArray} {x : Value} {k : Int} {ks : ByteArray} {d n : Int} {t : ByteArray} {er : Int} {q : σ} {a' b' c' d' e' f' : Value} (h : RdS s w W N5 x k ks d n t er q) (ho : Os W Bp (.slice pa p.length pc) p) (hN : N5 < Bp) : Os ((((((W.setCell ⟨w.heap.size, 0, none⟩ a').setCell ⟨w.heap.size, 1, none⟩ b').setCell ⟨w.heap.size, 2, none⟩ c').setCell ⟨w.heap.size, 3, none⟩ d').setCell ⟨w.heap.size, 4, none⟩ e').setCell ⟨w.heap.size, 5, none⟩ f') w.heap.size (.slice pa p.length pc) p := by
  have g := h.gt
  have h1 := ho.only (only6 (R := w.heap.size) (a' := a') (b' := b') (c' := c') (d' := d') (e' := e') (f' := f')) (fun k hk e => by have := (World.ownsRow.lt ho k hk).1; omega)
  exact row_lift h1 (by omega)
theorem fin_st {σ : Type} {s : Src σ} {w W : World} {N5 : Nat} {x : Value} {k : Int} {ks : ByteArray} {d n : Int} {t : ByteArray} {er : Int} {q : σ} {a' b' c' d' e' f' : Value} (hs : SrcOk s) (h : RdS s w W N5 x k ks d n t er q) : s.St q ((((((W.setCell ⟨w.heap.size, 0, none⟩ a').setCell ⟨w.heap.size, 1, none⟩ b').setCell ⟨w.heap.size, 2, none⟩ c').setCell ⟨w.heap.size, 3, none⟩ d').setCell ⟨w.heap.size, 4, none⟩ e').setCell ⟨w.heap.size, 5, none⟩ f') :=
  hs.stable _ _ _ h.st (only6.below (hs.le _ _ h.st) (fun j hj => by have := h.base; omega))
theorem fin_only {σ : Type} {s : Src σ} {w W : World} {N5 : Nat} {x : Value} {k : Int} {ks : ByteArray} {d n : Int} {t : ByteArray} {er : Int} {q : σ} {a' b' c' d' e' f' : Value} (h : RdS s w W N5 x k ks d n t er q) : Only s.D w ((((((W.setCell ⟨w.heap.size, 0, none⟩ a').setCell ⟨w.heap.size, 1, none⟩ b').setCell ⟨w.heap.size, 2, none⟩ c').setCell ⟨w.heap.size, 3, none⟩ d').setCell ⟨w.heap.size, 4, none⟩ e').setCell ⟨w.heap.size, 5, none⟩ f') :=
  h.only.trans only6 (fun j hj hd => by omega)

set_option maxHeartbeats 8000000 in
set_option maxRecDepth 100000 in
theorem read_any {σ : Type} {s : Src σ} (hs : SrcOk s) {q : σ} {w : World} (hq : s.St q w) (hok : (rd3 s q).1.1 = 1 → (rd3 s q).2.1 = 0 → s.okn (rd3 s q).2.2) : Calls Tryz.prog 70 #[.iface s.T s.v] w fun e w' => ∃ pa pc, e = .returned (.tuple #[odv pa (readS s q).1.p.length pc (readS s q).1, .int .i64 (readS s q).2]) ∧ Os w' w.heap.size (.slice pa (readS s q).1.p.length pc) (readS s q).1.p ∧ s.St (rdO s q).2.2 w' ∧ Only s.D w w' := by
  have HOK := hide hok
  clear hok
  have hmf : ∀ (f : Fn) (a b : Array Value) (W : World), (Instr.makeFunc f a b).run Tryz.prog W = .ok (.func f a b) W := fun _ _ _ _ => rfl
  have hB := hs.le q w hq
  obtain ⟨w1, hw1⟩ : ∃ r, r = (w.alloc (.cells (oc6 (.slice none 0 0) 0 ⟨#[]⟩ 0 0 ⟨#[]⟩) 34)).alloc (.cells #[.int .i64 0] 27) := ⟨_, rfl⟩
  obtain ⟨m2, m4⟩ := new2 w (.cells (oc6 (.slice none 0 0) 0 ⟨#[]⟩ 0 0 ⟨#[]⟩) 34) (.cells #[.int .i64 0] 27)
  have hs1 : w1.heap.size = w.heap.size + 2 := by rw [hw1]; simp
  have d1 : Below w.heap.size w w1 := by rw [hw1]; exact ((Below.refl _ w).alloc (Nat.le_refl _) _).alloc (by simp) _
  rw [← hw1] at m2 m4
  have E1 : ErrC w1 (w.heap.size + 1) 0 := m4
  have q1 := hs.stable _ _ _ hq (d1.mono hB)
  have hd := fdd_any hs q1 E1 (by omega)
  obtain ⟨A, hA⟩ : ∃ r, r = fld s.pd 0 0 q := ⟨_, rfl⟩
  rw [← hA] at hd
  have HW := hide (And.intro hw1 (And.intro hs1 (And.intro d1 (And.intro m2 (And.intro hB hA)))))
  clear hw1 d1 m2 m4 E1 q1 hA hs1 hB
  go_enter Tryz.func70, Tryz.ntmps70
  go_upto_region 2 with fail
  rw [← HW.out.1]
  go_upto_region 3 with (go_at_call 111; refine hd.mono ?_; rintro e w2 ⟨rfl, hE2, hq2, ho2⟩; have H2 := hide (And.intro hE2 (And.intro hq2 ho2)); clear hE2 hq2 ho2 hd)
  obtain ⟨w3, hw3⟩ : ∃ r, r = w2.alloc (.cells (oc6 (.slice none 0 0) 0 ⟨#[]⟩ A.1 0 ⟨#[]⟩) 34) := ⟨_, rfl⟩
  obtain ⟨N5, hN5⟩ : ∃ r, r = w2.heap.size := ⟨_, rfl⟩
  rw [← hw3, ← hN5]
  have R3 : RdS s w w3 N5 (.slice none 0 0) 0 ⟨#[]⟩ A.1 0 ⟨#[]⟩ A.2.1 A.2.2 := by
    obtain ⟨_, hs1, d1, m2, hB, _⟩ := HW.out
    obtain ⟨hE2, hq2, ho2⟩ := H2.out
    have hal : Below w2.heap.size w2 w3 := by rw [hw3]; exact (Below.refl _ _).alloc (Nat.le_refl _) _
    have hsz := ho2.size
    have b2' : w2.heap[w.heap.size]? = some (.cells (oc6 (.slice none 0 0) 0 ⟨#[]⟩ 0 0 ⟨#[]⟩) 34 (0, 0)) := (ho2.block _ (Array.getElem?_eq_some_iff.1 m2).1 (by
      rintro (hx | hx)
      · have := hs.lt _ hx; omega
      · omega)).trans m2
    refine ⟨(hal.block _ (Array.getElem?_eq_some_iff.1 b2').1).trans b2', ?_, (hal.block _ (Array.getElem?_eq_some_iff.1 hE2).1).trans hE2, hs.stable _ _ _ hq2 (hal.mono (hs.le _ _ hq2)), ?_, by omega, hB⟩
    · rw [hw3, hN5]; exact heap_alloc_new _ _
    · exact (((Only.ofBelow d1).mono (fun _ _ h => h.elim)).trans ho2 (fun j hj hx => by
        rcases hx with hx | hx
        · exact hx
        · omega)).trans ((Only.ofBelow hal).mono (fun _ _ h => h.elim) : Only s.D w2 w3) (fun _ _ h => h)
  have HA : Hid (A = fld s.pd 0 0 q) := hide HW.out.2.2.2.2.2
  clear hw3 hN5 H2 HW
  -- region 3: the kind
  obtain ⟨⟨x0, x1, x2, x3, x4, x5⟩, f0, f1, f2, f3, f4, f5⟩ := blk6 R3.b5
  have R3 := hide R3
  have k93 := fun W => Ki.of_any A.1 W
  go_upto_region 4 with (go_at_call 93; refine (k93 _).mono ?_; rintro e w' ⟨rfl, hw'⟩; subst hw')
  obtain ⟨w4, hw4⟩ : ∃ r, r = w'.setCell ⟨N5, 1, none⟩ (.int .i64 (Ki.ofD A.1)) := ⟨_, rfl⟩
  rw [← hw4]
  have R4 : RdS s w w4 N5 (.slice none 0 0) (Ki.ofD A.1) ⟨#[]⟩ A.1 0 ⟨#[]⟩ A.2.1 A.2.2 := by rw [hw4]; exact R3.out.set hs 1 _ _ _ _ _ _ _ rfl
  clear R3 k93 hw4 x0 x1 x2 x3 x4 x5 f0 f1 f2 f3 f4 f5
  -- region 4: the path
  have hp := fdp_any hs R4.st R4.err (Nat.le_trans R4.base (Nat.le_succ _))
  obtain ⟨P, hP⟩ : ∃ r, r = fld s.pp [] A.2.1 A.2.2 := ⟨_, rfl⟩
  rw [← hP] at hp
  have HP := hide hP
  have R4 := hide R4
  clear hP
  go_upto_region 5 with (go_at_call 112; refine hp.mono ?_; rintro e w5 ⟨xv, rfl, hos5, hE5, hq5, ho5⟩; obtain ⟨pa, pc, hxv, -⟩ := hos5.shape; subst hxv; have R5 := R4.out.call hs hE5 hq5 ho5; obtain ⟨⟨x0, x1, x2, x3, x4, x5⟩, f0, f1, f2, f3, f4, f5⟩ := blk6 R5.b5; have R5 := hide R5; have O5 := hide (And.intro hos5 (Nat.lt_of_lt_of_le (Nat.lt_of_le_of_lt (Nat.le_refl _) (Array.getElem?_eq_some_iff.1 R4.out.b5).1) (Nat.le_refl _))); clear hE5 hq5 ho5 hos5 hp R4)
  obtain ⟨w6, hw6⟩ : ∃ r, r = w5.setCell ⟨N5, 0, none⟩ (.slice pa P.1.length pc) := ⟨_, rfl⟩
  rw [← hw6]
  have R6 : RdS s w w6 N5 (.slice pa P.1.length pc) (Ki.ofD A.1) ⟨#[]⟩ A.1 0 ⟨#[]⟩ P.2.1 P.2.2 := by rw [hw6]; exact R5.out.set hs 0 _ _ _ _ _ _ _ rfl
  have O6 : Hid (Os w6 w4.heap.size (.slice pa P.1.length pc) P.1 ∧ N5 < w4.heap.size) := hide ⟨by
    rw [hw6]
    exact O5.out.1.only (Only.ofGrown (grown_setCell w5 ⟨N5, 0, none⟩ _)) (fun k hk e => by have := (World.ownsRow.lt O5.out.1 k hk).1; have := O5.out.2; simp only [Option.some.injEq] at e; omega), O5.out.2⟩
  clear R5 O5 hw6 x0 x1 x2 x3 x4 x5 f0 f1 f2 f3 f4 f5
  -- region 5: the key
  have hk := fdk_any hs R6.st R6.err (Nat.le_trans R6.base (Nat.le_succ _))
  obtain ⟨C, hC⟩ : ∃ r, r = fld s.pk ⟨#[]⟩ P.2.1 P.2.2 := ⟨_, rfl⟩
  rw [← hC] at hk
  have HC := hide hC
  have R6 := hide R6
  clear hC
  go_upto_region 6 with (go_at_call 113; refine hk.mono ?_; rintro e w7 ⟨rfl, hE7, hq7, ho7⟩; have R7 := R6.out.call hs hE7 hq7 ho7; obtain ⟨⟨x0, x1, x2, x3, x4, x5⟩, f0, f1, f2, f3, f4, f5⟩ := blk6 R7.b5; have R7 := hide R7; have O7 := hide (And.intro (O6.out.1.only ho7 (fun k hk hd => by have h1 := (World.ownsRow.lt O6.out.1 k hk).1; have h2 := O6.out.2; have h3 := R6.out.gt; have h4 := R6.out.base; rcases hd with hd | hd; (have := hs.lt _ hd; omega); omega)) O6.out.2); clear hE7 hq7 ho7 hk R6 O6)
  obtain ⟨w8, hw8⟩ : ∃ r, r = w7.setCell ⟨N5, 2, none⟩ (.string C.1) := ⟨_, rfl⟩
  rw [← hw8]
  have R8 : RdS s w w8 N5 (.slice pa P.1.length pc) (Ki.ofD A.1) C.1 A.1 0 ⟨#[]⟩ C.2.1 C.2.2 := by rw [hw8]; exact R7.out.set hs 2 _ _ _ _ _ _ _ rfl
  have O8 : Hid (Os w8 w4.heap.size (.slice pa P.1.length pc) P.1 ∧ N5 < w4.heap.size) := hide ⟨by
    rw [hw8]
    exact O7.out.1.only (Only.ofGrown (grown_setCell w7 ⟨N5, 2, none⟩ _)) (fun k hk e => by have := (World.ownsRow.lt O7.out.1 k hk).1; have := O7.out.2; simp only [Option.some.injEq] at e; omega), O7.out.2⟩
  clear R7 O7 hw8 x0 x1 x2 x3 x4 x5 f0 f1 f2 f3 f4 f5
  -- the switch
  have hrd0 : rdO s q = (⟨P.1, Ki.ofD A.1, C.1, A.1, (rd4 s A.1 C.2.1 C.2.2).1.1, (rd4 s A.1 C.2.1 C.2.2).1.2⟩, (rd4 s A.1 C.2.1 C.2.2).2.1, (rd4 s A.1 C.2.1 C.2.2).2.2) := by
    unfold rdO rd3
    dsimp only
    rw [← HA.out, ← HP.out, ← HC.out]
  have hok' : A.1 = 1 → C.2.1 = 0 → s.okn C.2.2 := by
    have := HOK.out
    unfold rd3 at this
    dsimp only at this
    rw [← HA.out, ← HP.out, ← HC.out] at this
    exact this
  obtain ⟨⟨x0, x1, x2, x3, x4, x5⟩, f0, f1, f2, f3, f4, f5⟩ := blk6 R8.b5
  obtain ⟨d, hd⟩ : ∃ r, r = A.1 := ⟨_, rfl⟩
  rw [← hd] at hrd0 R8 x1 x3 hok' ⊢
  have HOK2 := hide hok'
  clear hok' HOK
  have R8 := hide R8
  have hrd0 := hide hrd0
  clear hd
  by_cases h1 : d = 1
  · subst h1
    have hn := fdn_any hs R8.out.st R8.out.err (Nat.le_trans R8.out.base (Nat.le_succ _)) (HOK2.out rfl)
    obtain ⟨M, hM⟩ : ∃ r, r = fld s.pn 0 C.2.1 C.2.2 := ⟨_, rfl⟩
    rw [← hM] at hn
    have HM := hide hM
    clear hM
    go_upto_region 11 with (go_at_call 114; refine hn.mono ?_; rintro e w9 ⟨rfl, hE9, hq9, ho9⟩; have R9 := R8.out.call hs hE9 hq9 ho9; clear x0 x1 x2 x3 x4 x5 f0 f1 f2 f3 f4 f5; obtain ⟨⟨x0, x1, x2, x3, x4, x5⟩, f0, f1, f2, f3, f4, f5⟩ := blk6 R9.b5; have R9 := hide R9; have O9 := hide (And.intro (O8.out.1.only ho9 (fun k hk hd => by have h1 := (World.ownsRow.lt O8.out.1 k hk).1; have h2 := O8.out.2; have h3 := R8.out.gt; have h4 := R8.out.base; rcases hd with hd | hd; (have := hs.lt _ hd; omega); omega)) O8.out.2); clear hE9 hq9 ho9 hn)
    obtain ⟨w10, hw10⟩ : ∃ r, r = w9.setCell ⟨N5, 4, none⟩ (.int .i64 M.1) := ⟨_, rfl⟩
    rw [← hw10]
    have R10 : RdS s w w10 N5 (.slice pa P.1.length pc) (Ki.ofD 1) C.1 1 M.1 ⟨#[]⟩ M.2.1 M.2.2 := by rw [hw10]; exact R9.out.set hs 4 _ _ _ _ _ _ _ rfl
    have O10 : Os w10 w4.heap.size (.slice pa P.1.length pc) P.1 ∧ N5 < w4.heap.size := ⟨by
      rw [hw10]
      exact O9.out.1.only (Only.ofGrown (grown_setCell w9 ⟨N5, 4, none⟩ _)) (fun k hk e => by have := (World.ownsRow.lt O9.out.1 k hk).1; have := O9.out.2; simp only [Option.some.injEq] at e; omega), O9.out.2⟩
    have hrd : rdO s q = (⟨P.1, Ki.ofD 1, C.1, 1, M.1, ⟨#[]⟩⟩, M.2.1, M.2.2) := by
      rw [hrd0.out]
      unfold rd4
      rw [if_pos rfl, ← HM.out]
    clear R9 O9 hw10 R8 O8 hrd0 x0 x1 x2 x3 x4 x5 f0 f1 f2 f3 f4 f5
    have R10 := hide R10
    have O10 := hide O10
    have hrd := hide hrd
    obtain ⟨⟨x0, x1, x2, x3, x4, x5⟩, f0, f1, f2, f3, f4, f5⟩ := blk6 R10.out.b5
    obtain ⟨⟨y0, y1, y2, y3, y4, y5⟩, g0, g1, g2, g3, g4, g5⟩ := blk6 R10.out.b2
    have ce := R10.out.err.cell.1
    by_cases her : M.2.1 = 0
    · rw [her] at ce
      have k45 := chk_any ⟨P.1, Ki.ofD 1, C.1, 1, M.1, ⟨#[]⟩⟩ (rp_of O10.out.1 (by rw [HP.out]; exact fld_plen hs)) (hs.env _ _ R10.out.st).tabs
      obtain ⟨v, hv⟩ : ∃ r, r = chkO ⟨P.1, Ki.ofD 1, C.1, 1, M.1, ⟨#[]⟩⟩ := ⟨_, rfl⟩
      rw [← hv] at k45
      have HV := hide hv
      clear hv
      dsimp only at k45
      by_cases hv0 : v = 0
      · subst hv0
        go_wp2_with (go_at_call 45; refine k45.mono ?_; rintro e w11 ⟨rfl, d11⟩; clear k45 x0 x1 x2 x3 x4 x5 f0 f1 f2 f3 f4 f5 y0 y1 y2 y3 y4 y5 g0 g1 g2 g3 g4 g5 ce; have R11 := R10.out.below hs d11; have O11 := hide (O10.out.1.below d11); obtain ⟨⟨x0, x1, x2, x3, x4, x5⟩, f0, f1, f2, f3, f4, f5⟩ := blk6 R11.b5; obtain ⟨⟨y0, y1, y2, y3, y4, y5⟩, g0, g1, g2, g3, g4, g5⟩ := blk6 R11.b2; have R11 := hide R11; clear d11)
        refine ret_row_tmp w.heap.size (oc6 (.slice pa P.1.length pc) (Ki.ofD 1) C.1 1 M.1 ⟨#[]⟩).toList rfl rfl rfl Tryz.underlying34 rfl Tryz.info34z (set6 R11.out.b2) rfl ?_
        have hz : readS s q = (⟨P.1, Ki.ofD 1, C.1, 1, M.1, ⟨#[]⟩⟩, 0) := by unfold readS; rw [hrd.out]; exact if_pos ⟨her, HV.out.symm⟩
        rw [hz, hrd.out]
        exact ⟨pa, pc, rfl, fin_os R11.out O11.out O10.out.2, fin_st hs R11.out, fin_only R11.out⟩
      · have hv1 : (v != 0) = true := by simpa using hv0
        go_wp2_with (go_at_call 45; refine k45.mono ?_; rintro e w11 ⟨rfl, d11⟩; clear k45 x0 x1 x2 x3 x4 x5 f0 f1 f2 f3 f4 f5 y0 y1 y2 y3 y4 y5 g0 g1 g2 g3 g4 g5 ce; have R11 := R10.out.below hs d11; obtain ⟨⟨y0, y1, y2, y3, y4, y5⟩, g0, g1, g2, g3, g4, g5⟩ := blk6 R11.b2; have R11 := hide R11; clear d11)
        refine ret_row_tmp w.heap.size (oc6 (.slice none 0 0) 0 ⟨#[]⟩ 0 0 ⟨#[]⟩).toList rfl rfl rfl Tryz.underlying34 rfl Tryz.info34z (set6 R11.out.b2) rfl ?_
        have hz : readS s q = (odZ, 4) := by unfold readS; rw [hrd.out]; exact if_neg (fun h => hv0 (HV.out.trans h.2))
        rw [hz, hrd.out]
        exact ⟨none, 0, rfl, Os.nil _ _, fin_st hs R11.out, fin_only R11.out⟩
    · have her1 : (M.2.1 != 0) = true := by simpa using her
      go_wp2
      refine ret_row_tmp w.heap.size (oc6 (.slice none 0 0) 0 ⟨#[]⟩ 0 0 ⟨#[]⟩).toList rfl rfl rfl Tryz.underlying34 rfl Tryz.info34z (set6 R10.out.b2) rfl ?_
      have hz : readS s q = (odZ, 4) := by unfold readS; rw [hrd.out]; exact if_neg (fun h => her h.1)
      rw [hz, hrd.out]
      exact ⟨none, 0, rfl, Os.nil _ _, fin_st hs R10.out, fin_only R10.out⟩

  have e1 : (d == 1) = false := by simpa using h1
  by_cases h6 : d = 6
  · subst h6
    go_upto_region 11 with fail
    have R10 := R8.out
    have O10 := O8.out
    have hrd : rdO s q = (⟨P.1, Ki.ofD 6, C.1, 6, 0, ⟨#[]⟩⟩, C.2.1, C.2.2) := by
      rw [hrd0.out]
      unfold rd4
      rw [if_neg (by decide), if_pos rfl]
    clear R8 O8 hrd0 x0 x1 x2 x3 x4 x5 f0 f1 f2 f3 f4 f5
    have R10 := hide R10
    have O10 := hide O10
    have hrd := hide hrd
    obtain ⟨⟨x0, x1, x2, x3, x4, x5⟩, f0, f1, f2, f3, f4, f5⟩ := blk6 R10.out.b5
    obtain ⟨⟨y0, y1, y2, y3, y4, y5⟩, g0, g1, g2, g3, g4, g5⟩ := blk6 R10.out.b2
    have ce := R10.out.err.cell.1
    by_cases her : C.2.1 = 0
    · rw [her] at ce
      have k45 := chk_any ⟨P.1, Ki.ofD 6, C.1, 6, 0, ⟨#[]⟩⟩ (rp_of O10.out.1 (by rw [HP.out]; exact fld_plen hs)) (hs.env _ _ R10.out.st).tabs
      obtain ⟨v, hv⟩ : ∃ r, r = chkO ⟨P.1, Ki.ofD 6, C.1, 6, 0, ⟨#[]⟩⟩ := ⟨_, rfl⟩
      rw [← hv] at k45
      have HV := hide hv
      clear hv
      dsimp only at k45
      by_cases hv0 : v = 0
      · subst hv0
        go_wp2_with (go_at_call 45; refine k45.mono ?_; rintro e w11 ⟨rfl, d11⟩; clear k45 x0 x1 x2 x3 x4 x5 f0 f1 f2 f3 f4 f5 y0 y1 y2 y3 y4 y5 g0 g1 g2 g3 g4 g5 ce; have R11 := R10.out.below hs d11; have O11 := hide (O10.out.1.below d11); obtain ⟨⟨x0, x1, x2, x3, x4, x5⟩, f0, f1, f2, f3, f4, f5⟩ := blk6 R11.b5; obtain ⟨⟨y0, y1, y2, y3, y4, y5⟩, g0, g1, g2, g3, g4, g5⟩ := blk6 R11.b2; have R11 := hide R11; clear d11)
        refine ret_row_tmp w.heap.size (oc6 (.slice pa P.1.length pc) (Ki.ofD 6) C.1 6 0 ⟨#[]⟩).toList rfl rfl rfl Tryz.underlying34 rfl Tryz.info34z (set6 R11.out.b2) rfl ?_
        have hz : readS s q = (⟨P.1, Ki.ofD 6, C.1, 6, 0, ⟨#[]⟩⟩, 0) := by unfold readS; rw [hrd.out]; exact if_pos ⟨her, HV.out.symm⟩
        rw [hz, hrd.out]
        exact ⟨pa, pc, rfl, fin_os R11.out O11.out O10.out.2, fin_st hs R11.out, fin_only R11.out⟩
      · have hv1 : (v != 0) = true := by simpa using hv0
        go_wp2_with (go_at_call 45; refine k45.mono ?_; rintro e w11 ⟨rfl, d11⟩; clear k45 x0 x1 x2 x3 x4 x5 f0 f1 f2 f3 f4 f5 y0 y1 y2 y3 y4 y5 g0 g1 g2 g3 g4 g5 ce; have R11 := R10.out.below hs d11; obtain ⟨⟨y0, y1, y2, y3, y4, y5⟩, g0, g1, g2, g3, g4, g5⟩ := blk6 R11.b2; have R11 := hide R11; clear d11)
        refine ret_row_tmp w.heap.size (oc6 (.slice none 0 0) 0 ⟨#[]⟩ 0 0 ⟨#[]⟩).toList rfl rfl rfl Tryz.underlying34 rfl Tryz.info34z (set6 R11.out.b2) rfl ?_
        have hz : readS s q = (odZ, 4) := by unfold readS; rw [hrd.out]; exact if_neg (fun h => hv0 (HV.out.trans h.2))
        rw [hz, hrd.out]
        exact ⟨none, 0, rfl, Os.nil _ _, fin_st hs R11.out, fin_only R11.out⟩
    · have her1 : (C.2.1 != 0) = true := by simpa using her
      go_wp2
      refine ret_row_tmp w.heap.size (oc6 (.slice none 0 0) 0 ⟨#[]⟩ 0 0 ⟨#[]⟩).toList rfl rfl rfl Tryz.underlying34 rfl Tryz.info34z (set6 R10.out.b2) rfl ?_
      have hz : readS s q = (odZ, 4) := by unfold readS; rw [hrd.out]; exact if_neg (fun h => her h.1)
      rw [hz, hrd.out]
      exact ⟨none, 0, rfl, Os.nil _ _, fin_st hs R10.out, fin_only R10.out⟩

  have e6 : (d == 6) = false := by simpa using h6
  have hn := fdt_any hs R8.out.st R8.out.err (Nat.le_trans R8.out.base (Nat.le_succ _))
  obtain ⟨M, hM⟩ : ∃ r, r = fld s.pt ⟨#[]⟩ C.2.1 C.2.2 := ⟨_, rfl⟩
  rw [← hM] at hn
  have HM := hide hM
  clear hM
  go_upto_region 11 with (go_at_call 113; refine hn.mono ?_; rintro e w9 ⟨rfl, hE9, hq9, ho9⟩; have R9 := R8.out.call hs hE9 hq9 ho9; clear x0 x1 x2 x3 x4 x5 f0 f1 f2 f3 f4 f5; obtain ⟨⟨x0, x1, x2, x3, x4, x5⟩, f0, f1, f2, f3, f4, f5⟩ := blk6 R9.b5; have R9 := hide R9; have O9 := hide (And.intro (O8.out.1.only ho9 (fun k hk hd => by have h1 := (World.ownsRow.lt O8.out.1 k hk).1; have h2 := O8.out.2; have h3 := R8.out.gt; have h4 := R8.out.base; rcases hd with hd | hd; (have := hs.lt _ hd; omega); omega)) O8.out.2); clear hE9 hq9 ho9 hn)
  obtain ⟨w10, hw10⟩ : ∃ r, r = w9.setCell ⟨N5, 5, none⟩ (.string M.1) := ⟨_, rfl⟩
  rw [← hw10]
  have R10 : RdS s w w10 N5 (.slice pa P.1.length pc) (Ki.ofD d) C.1 d 0 M.1 M.2.1 M.2.2 := by rw [hw10]; exact R9.out.set hs 5 _ _ _ _ _ _ _ rfl
  have O10 : Os w10 w4.heap.size (.slice pa P.1.length pc) P.1 ∧ N5 < w4.heap.size := ⟨by
    rw [hw10]
    exact O9.out.1.only (Only.ofGrown (grown_setCell w9 ⟨N5, 5, none⟩ _)) (fun k hk e => by have := (World.ownsRow.lt O9.out.1 k hk).1; have := O9.out.2; simp only [Option.some.injEq] at e; omega), O9.out.2⟩
  have hrd : rdO s q = (⟨P.1, Ki.ofD d, C.1, d, 0, M.1⟩, M.2.1, M.2.2) := by
    rw [hrd0.out]
    unfold rd4
    rw [if_neg h1, if_neg h6, ← HM.out]
  clear R9 O9 hw10 R8 O8 hrd0 x0 x1 x2 x3 x4 x5 f0 f1 f2 f3 f4 f5
  have R10 := hide R10
  have O10 := hide O10
  have hrd := hide hrd
  obtain ⟨⟨x0, x1, x2, x3, x4, x5⟩, f0, f1, f2, f3, f4, f5⟩ := blk6 R10.out.b5
  obtain ⟨⟨y0, y1, y2, y3, y4, y5⟩, g0, g1, g2, g3, g4, g5⟩ := blk6 R10.out.b2
  have ce := R10.out.err.cell.1
  by_cases her : M.2.1 = 0
  · rw [her] at ce
    have k45 := chk_any ⟨P.1, Ki.ofD d, C.1, d, 0, M.1⟩ (rp_of O10.out.1 (by rw [HP.out]; exact fld_plen hs)) (hs.env _ _ R10.out.st).tabs
    obtain ⟨v, hv⟩ : ∃ r, r = chkO ⟨P.1, Ki.ofD d, C.1, d, 0, M.1⟩ := ⟨_, rfl⟩
    rw [← hv] at k45
    have HV := hide hv
    clear hv
    dsimp only at k45
    by_cases hv0 : v = 0
    · subst hv0
      go_wp2_with (go_at_call 45; refine k45.mono ?_; rintro e w11 ⟨rfl, d11⟩; clear k45 x0 x1 x2 x3 x4 x5 f0 f1 f2 f3 f4 f5 y0 y1 y2 y3 y4 y5 g0 g1 g2 g3 g4 g5 ce; have R11 := R10.out.below hs d11; have O11 := hide (O10.out.1.below d11); obtain ⟨⟨x0, x1, x2, x3, x4, x5⟩, f0, f1, f2, f3, f4, f5⟩ := blk6 R11.b5; obtain ⟨⟨y0, y1, y2, y3, y4, y5⟩, g0, g1, g2, g3, g4, g5⟩ := blk6 R11.b2; have R11 := hide R11; clear d11)
      refine ret_row_tmp w.heap.size (oc6 (.slice pa P.1.length pc) (Ki.ofD d) C.1 d 0 M.1).toList rfl rfl rfl Tryz.underlying34 rfl Tryz.info34z (set6 R11.out.b2) rfl ?_
      have hz : readS s q = (⟨P.1, Ki.ofD d, C.1, d, 0, M.1⟩, 0) := by unfold readS; rw [hrd.out]; exact if_pos ⟨her, HV.out.symm⟩
      rw [hz, hrd.out]
      exact ⟨pa, pc, rfl, fin_os R11.out O11.out O10.out.2, fin_st hs R11.out, fin_only R11.out⟩
    · have hv1 : (v != 0) = true := by simpa using hv0
      go_wp2_with (go_at_call 45; refine k45.mono ?_; rintro e w11 ⟨rfl, d11⟩; clear k45 x0 x1 x2 x3 x4 x5 f0 f1 f2 f3 f4 f5 y0 y1 y2 y3 y4 y5 g0 g1 g2 g3 g4 g5 ce; have R11 := R10.out.below hs d11; obtain ⟨⟨y0, y1, y2, y3, y4, y5⟩, g0, g1, g2, g3, g4, g5⟩ := blk6 R11.b2; have R11 := hide R11; clear d11)
      refine ret_row_tmp w.heap.size (oc6 (.slice none 0 0) 0 ⟨#[]⟩ 0 0 ⟨#[]⟩).toList rfl rfl rfl Tryz.underlying34 rfl Tryz.info34z (set6 R11.out.b2) rfl ?_
      have hz : readS s q = (odZ, 4) := by unfold readS; rw [hrd.out]; exact if_neg (fun h => hv0 (HV.out.trans h.2))
      rw [hz, hrd.out]
      exact ⟨none, 0, rfl, Os.nil _ _, fin_st hs R11.out, fin_only R11.out⟩
  · have her1 : (M.2.1 != 0) = true := by simpa using her
    go_wp2
    refine ret_row_tmp w.heap.size (oc6 (.slice none 0 0) 0 ⟨#[]⟩ 0 0 ⟨#[]⟩).toList rfl rfl rfl Tryz.underlying34 rfl Tryz.info34z (set6 R10.out.b2) rfl ?_
    have hz : readS s q = (odZ, 4) := by unfold readS; rw [hrd.out]; exact if_neg (fun h => her h.1)
    rw [hz, hrd.out]
    exact ⟨none, 0, rfl, Os.nil _ _, fin_st hs R10.out, fin_only R10.out⟩
end Go.Proofs.YtpepgoelnagoaaaGreatDoor
namespace Go.Proofs.YtpepgoelnagoaaaGreatDoor
open Go.RowKit Go.Shelf
set_option linter.unusedSimpArgs false

def lenOf : Value → Nat | .slice _ n _ => n | _ => 0
set_option maxHeartbeats 2000000 in
set_option maxRecDepth 100000 in
theorem split_any (s : ByteArray) (w : World) (hs : s.size ≤ 1000000) (hT : Tabs w) : Calls Tryz.prog 237 #[.string s] w fun e w' => SplitE w w' (splitB s.data.toList) e ∧ Below w.heap.size w w' := by
  obtain ⟨i0, hi, hz0, hz1, hz2⟩ := info_parts Tryz.info9
  have hl : s.data.toList.length = s.size := (Lib.size_eq s).symm
  have hcp := Tryz.strings_CutPrefix s ⟨#[47]⟩ w
  unfold splitB
  simp only [Lib.trimPrefix] at hcp
  by_cases hpf : Lib.hasPrefix s.data.toList [47] = true
  · rw [if_pos hpf]
    have hpf' : Lib.hasPrefix s.data.toList (⟨#[47]⟩ : ByteArray).data.toList = true := hpf
    rw [hpf', if_pos rfl] at hcp
    have hcp2 : Calls Tryz.prog 240 #[.string s, .string { data := #[47] }] w fun e w' => e = .returned (.tuple #[.string ⟨(s.data.toList.drop 1).toArray⟩, .bool true]) ∧ w' = w := hcp
    obtain ⟨r0, hr0⟩ : ∃ r0, r0 = s.data.toList.drop 1 := ⟨_, rfl⟩
    have hr0l : r0.length ≤ 1000000 := by rw [hr0, List.length_drop]; omega
    rw [← hr0] at hcp2 ⊢
    clear hcp hpf hpf' hr0
    by_cases hne : r0 = []
    · subst hne
      rw [if_pos rfl]
      go_enter Tryz.func237, Tryz.ntmps237
      go_wp2
      go_step3
      go_wp2_with (go_at_call 240; refine hcp2.mono ?_; rintro e w' ⟨rfl, rfl⟩)
      rw [Exit.noGoto_ret]
      go_ret2
      exact ⟨.inr ⟨[], _, rfl, rfl, Os.nil _ _⟩, Below.refl _ _⟩
    · rw [if_neg hne]
      have b1 : ((⟨r0.toArray⟩ : ByteArray).toList == []) = false := by rw [beq_eq_false_iff_ne, ByteArray.toList_eq]; simpa using hne
      have b1' : r0.isEmpty = false := by simpa using hne
      obtain ⟨R, hR⟩ : ∃ R, R = splitGo 8 [] r0 := ⟨_, rfl⟩
      rw [← hR]
      have HR := hide hR
      clear hR hne
      go_enter Tryz.func237, Tryz.ntmps237
      go_wp2
      go_step3
      go_wp2_with (go_at_call 240; refine hcp2.mono ?_; rintro e w' ⟨rfl, hww⟩; have hwx := hww.symm; clear hww; subst hwx)
      go_step3
      go_wp2
      go_loopw [4, 5, 6, 7] (fun v4 v5 v6 v7 wr => ∃ (t : List UInt8) (m : Bool) (acc : List (List UInt8)), v4 = .string ⟨t.toArray⟩ ∧ v5 = .bool m ∧ v7 = .int .i64 0 ∧ t.length ≤ 1000000 ∧ Hid (Os wr w.heap.size v6 (keysOf acc)) ∧ Hid (if m then acc.length ≤ 6 ∧ splitGo (8 - acc.length) acc t = R else acc.length ≤ 7 ∧ some acc = R) ∧ Hid (Below w.heap.size w wr)) (fun _ _ v6 _ _ => 8 - lenOf v6)
      case atStart => exact ⟨r0, true, [], rfl, rfl, rfl, hr0l, hide (Os.nil _ _), hide ⟨by simp, HR.out.symm⟩, hide (Below.refl _ _)⟩
      case round =>
        obtain ⟨t, m, acc, rfl, rfl, rfl, htl, HO, HG, HW⟩ := hrel
        obtain ⟨ao, cc, rfl, -, -, -, -⟩ := HO.out.shape
        have hkl : (keysOf acc).length = acc.length := by simp [keysOf]
        rw [hkl] at HO ⊢
        cases m with
        | false =>
          go_wp2
          rw [Exit.noGoto_ret]
          go_ret2
          have hg := HG.out
          simp only [Bool.false_eq_true, if_false] at hg
          exact ⟨.inr ⟨acc, _, hg.2.symm, rfl, HO.out⟩, HW.out⟩
        | true =>
          have hg := HG.out
          simp only [if_true] at hg
          obtain ⟨n, hn⟩ : ∃ n, 8 - acc.length = n + 1 := ⟨7 - acc.length, by omega⟩
          rw [hn] at hg
          have hacl := hg.1
          have hst : splitGo (n + 1) acc t = R := hg.2
          rw [splitGo] at hst
          have hcut := cut_any ⟨t.toArray⟩ wr (by simpa [ByteArray.size] using htl)
          have hcl := cut47_length t
          have ht' : (⟨t.toArray⟩ : ByteArray).data.toList = t := rfl
          rw [ht'] at hcut
          unfold cutE at hcut
          generalize cut47 t = C at hst hcut hcl
          obtain ⟨k, r, m'⟩ := C
          simp only at hst hcut hcl
          have hky : ∀ nq, Calls Tryz.prog 91 #[.string ⟨k.toArray⟩] (wr.drewN nq) fun e w' => e = .returned (.bool (keyB k)) ∧ Below wr.heap.size (wr.drewN nq) w' := fun nq => key_any ⟨k.toArray⟩ (wr.drewN nq) (Tabs.below hT (Below.trans (Below.mono (B := w.heap.size) HW.out (Nat.le_refl _)) ⟨rfl, rfl, rfl, Nat.le_refl _, fun _ _ => rfl⟩))
          have HS := hide hst
          clear hst hg HG
          by_cases h6 : acc.length = 6
          · have h6b : ((acc.length : Int) == 6) = true := by simp [h6]
            have hRn : R = none := by rw [← HS.out, if_pos (.inl h6)]
            have HE := hide hRn
            clear hRn h6 hky
            go_wp2_with (go_at_call 118; refine hcut.mono ?_; rintro e w' ⟨rfl, nq, rfl⟩)
            rw [Exit.noGoto_ret]
            go_ret2
            exact ⟨.inl ⟨HE.out, rfl⟩, HW.out.trans ⟨rfl, rfl, rfl, Nat.le_refl _, fun _ _ => rfl⟩⟩
          · have h6b : ((acc.length : Int) == 6) = false := by simp; omega
            cases hkb : keyB k with
            | false =>
              have hRn : R = none := by rw [← HS.out, if_pos (.inr hkb)]
              have HE := hide hRn
              simp only [hkb] at hky
              clear hRn h6 hkb
              go_wp2_with (first
                | (go_at_call 118; refine hcut.mono ?_; rintro e w' ⟨rfl, nq, rfl⟩)
                | (go_at_call 91; refine (hky _).mono ?_; rintro e w8 ⟨rfl, b8⟩))
              rw [Exit.noGoto_ret]
              go_ret2
              exact ⟨.inl ⟨HE.out, rfl⟩, (below_dr HW.out nq).trans (b8.mono HW.out.size)⟩
            | true =>
              simp only [hkb] at hky
              have HN := hide (And.intro h6 (And.intro hn hkb))
              clear h6 hkb hn
              go_wp2_with (first
                | (go_at_call 118; refine hcut.mono ?_; rintro e w' ⟨rfl, nq, rfl⟩)
                | (go_at_call 91; refine (hky _).mono ?_; rintro e w8 ⟨rfl, b8⟩; have hO8 : Os w8 w.heap.size (.slice ao acc.length cc) (keysOf acc) := HO.out.below ((below_dr (Below.refl _ wr) nq).trans b8); have hB8 : Below w.heap.size w w8 := (below_dr HW.out nq).trans (b8.mono HW.out.size); have hs8 := hB8.size)
                | (at_builtin; refine wpList_append_own _ rfl _ _ 30 rfl w.heap.size 9 i0 (.string ⟨#[]⟩) 1 16 Tryz.underlying30 hi hz0 hz1 hz2 rfl (by decide) _ _ _ rfl (hO8.alloc (.cells #[.string ⟨k.toArray⟩] 9)) ⟨w8.heap.size, 0, none⟩ 1 1 [.string ⟨k.toArray⟩] rfl rfl ?c1 ?c2 ?c3 ?c4 ?c5 ?_))
              case c1 =>
                intro j u hj
                match j, hj with
                | 0, hj => simp at hj; subst hj; simp [Addr.add]
              case c2 => intro u hu; simp at hu; subst hu; rfl
              case c3 => unfold maxLen; simp [keysOf]; omega
              case c4 => simp [keysOf]; omega
              case c5 => simp; omega
              intro v2 w9 hown9 hg9 _
              have hO9 : Os w9 w.heap.size v2 (keysOf (acc ++ [k])) := by
                have e1 : keysOf (acc ++ [k]) = keysOf acc ++ [⟨k.toArray⟩] := by simp [keysOf]
                rw [e1]
                unfold Os
                rw [List.length_append, List.map_append, hkl]
                exact hown9
              have hB9 : Below w.heap.size w w9 := (hB8.alloc hs8 _).grown hg9 (by simp; omega) (fun j hj => (World.ownsRow.lt hO8 j hj).1)
              obtain ⟨a9, c9, rfl, -, -, -, -⟩ := hO9.shape
              have hkl9 : (keysOf (acc ++ [k])).length = acc.length + 1 := by simp [keysOf]
              rw [hkl9] at hO9 ⊢
              have H9 := hide (And.intro hO9 hB9)
              clear hO9 hB9 hown9 hg9 hO8 hB8 b8
              go_wp2
              obtain ⟨h6, hn, hkb⟩ := HN.out
              refine ⟨⟨r, m', acc ++ [k], rfl, rfl, rfl, by omega, hide H9.out.1, hide ?_, hide H9.out.2⟩, ?_⟩
              · have hst := HS.out
                rw [if_neg (by simp [h6, hkb])] at hst
                cases m' with
                | true =>
                  simp only [if_true] at hst ⊢
                  refine ⟨by simp; omega, ?_⟩
                  rw [← hst]
                  congr 1
                  simp; omega
                | false =>
                  simp only [Bool.false_eq_true, if_false] at hst ⊢
                  exact ⟨by simp; omega, hst⟩
              · simp only [lenOf]; omega
  · have hpf' : Lib.hasPrefix s.data.toList (⟨#[47]⟩ : ByteArray).data.toList = false := by simpa using hpf
    rw [if_neg hpf]
    rw [hpf'] at hcp
    go_enter Tryz.func237, Tryz.ntmps237
    go_wp2
    go_step3
    go_wp2_with (go_at_call 240; refine hcp.mono ?_; rintro e w' ⟨rfl, rfl⟩)
    rw [Exit.noGoto_ret]
    go_ret2
    exact ⟨.inl ⟨rfl, rfl⟩, Below.refl _ _⟩
end Go.Proofs.YtpepgoelnagoaaaGreatDoor
namespace Go.Proofs.YtpepgoelnagoaaaGreatDoor
open Go.RowKit Go.Shelf
set_option linter.unusedSimpArgs false
set_option linter.unusedVariables false
attribute [local go_sem] Oper.semAt_some

/-- What is left of a text that is told piece by piece. -/
structure Pz where
  left : ByteArray
  more : Bool
def nextP (sg : List UInt8) (q : Pz) : ByteArray × Bool × Pz :=
  if q.more = true then (⟨(Lib.cut q.left.data.toList sg).1.toArray⟩, true, ⟨⟨(Lib.cut q.left.data.toList sg).2.1.toArray⟩, (Lib.cut q.left.data.toList sg).2.2⟩) else (⟨#[]⟩, false, q)
structure PcS (w : World) (M L S : Nat) (sg : ByteArray) (q : Pz) : Prop where
  m : w.heap[M]? = some (.cells #[.bool q.more] 4 (0, 0))
  l : w.heap[L]? = some (.cells #[.string q.left] 9 (0, 0))
  s : w.heap[S]? = some (.cells #[.string sg] 9 (0, 0))
  ne : M ≠ L ∧ S ≠ M ∧ S ≠ L
  sz : q.left.size ≤ 1000000
theorem PcS.only {w w' : World} {M L S : Nat} {sg : ByteArray} {q : Pz} {D : Nat → Prop} (h : PcS w M L S sg q) (ho : Only D w w') (hM : ¬ D M) (hL : ¬ D L) (hS : ¬ D S) : PcS w' M L S sg q :=
  ⟨(ho.block _ (Array.getElem?_eq_some_iff.1 h.m).1 hM).trans h.m, (ho.block _ (Array.getElem?_eq_some_iff.1 h.l).1 hL).trans h.l, (ho.block _ (Array.getElem?_eq_some_iff.1 h.s).1 hS).trans h.s, h.ne, h.sz⟩
theorem PcS.below {w w' : World} {M L S : Nat} {sg : ByteArray} {q : Pz} (h : PcS w M L S sg q) (hb : Below w.heap.size w w') : PcS w' M L S sg q := h.only (Only.ofBelow hb) (fun d => d) (fun d => d) (fun d => d)
theorem cut_le (s sep : List UInt8) : (Lib.cut s sep).1.length ≤ s.length ∧ (Lib.cut s sep).2.1.length ≤ s.length := by
  unfold Lib.cut
  split
  · simp only [List.length_take, List.length_drop]; omega
  · simp
theorem nextP_sz {sg : List UInt8} {q : Pz} (h : q.left.size ≤ 1000000) : (nextP sg q).1.size ≤ 1000000 ∧ (nextP sg q).2.2.left.size ≤ 1000000 := by
  have hc := cut_le q.left.data.toList sg
  rw [← Lib.size_eq] at hc
  unfold nextP
  split
  · dsimp only; rw [arr_size, arr_size]; omega
  · exact ⟨(by show (0 : Nat) ≤ 1000000; omega), h⟩
theorem cutO_any (s sep : ByteArray) (w : World) (hs : s.size ≤ 1000000) (hm : ∃ m, w.cell? ⟨5, 0, none⟩ = some (.int .i64 m)) :
    Calls Tryz.prog 118 #[.string s, .string sep] w fun e w' => e = .returned (.tuple #[.string ⟨(Lib.cut s.data.toList sep.data.toList).1.toArray⟩, .string ⟨(Lib.cut s.data.toList sep.data.toList).2.1.toArray⟩, .bool (Lib.cut s.data.toList sep.data.toList).2.2]) ∧ ∃ n, w' = w.drewN n := by
  obtain ⟨m, hm⟩ := hm
  exact Tryz.strings_Cut s sep m w (by omega) hm

set_option maxHeartbeats 2000000 in
set_option maxRecDepth 100000 in
theorem next_any {w : World} {M L S : Nat} {sg : ByteArray} {q : Pz} (h : PcS w M L S sg q) (hm : ∃ m, w.cell? ⟨5, 0, none⟩ = some (.int .i64 m)) :
    Calls Tryz.prog 117 #[.pointer (some ⟨M, 0, none⟩), .pointer (some ⟨L, 0, none⟩), .pointer (some ⟨S, 0, none⟩)] w fun e w' => e = .returned (.tuple #[.string (nextP sg.data.toList q).1, .bool (nextP sg.data.toList q).2.1]) ∧ PcS w' M L S sg (nextP sg.data.toList q).2.2 ∧ Only (fun j => j = M ∨ j = L) w w' := by
  have hsz := nextP_sz (sg := sg.data.toList) h.sz
  obtain ⟨lf, mo⟩ := q
  have cM : w.cell? ⟨M, 0, none⟩ = some (.bool mo) := (cell_of_row _ _ 0 _ 4 (0, 0) h.m).trans rfl
  have cL : w.cell? ⟨L, 0, none⟩ = some (.string lf) := (cell_of_row _ _ 0 _ 9 (0, 0) h.l).trans rfl
  have cS : w.cell? ⟨S, 0, none⟩ = some (.string sg) := (cell_of_row _ _ 0 _ 9 (0, 0) h.s).trans rfl
  have fM := frozen_of_row _ _ 0 _ 4 h.m
  have fL := frozen_of_row _ _ 0 _ 9 h.l
  have h118 := cutO_any lf sg w h.sz hm
  have hn : nextP sg.data.toList ⟨lf, mo⟩ = if mo = true then (⟨(Lib.cut lf.data.toList sg.data.toList).1.toArray⟩, true, ⟨⟨(Lib.cut lf.data.toList sg.data.toList).2.1.toArray⟩, (Lib.cut lf.data.toList sg.data.toList).2.2⟩) else (⟨#[]⟩, false, ⟨lf, mo⟩) := rfl
  obtain ⟨R, hR⟩ : ∃ r, r = nextP sg.data.toList ⟨lf, mo⟩ := ⟨_, rfl⟩
  rw [← hR] at hn hsz ⊢
  generalize (⟨(Lib.cut lf.data.toList sg.data.toList).1.toArray⟩ : ByteArray) = c1 at h118 hn
  generalize (⟨(Lib.cut lf.data.toList sg.data.toList).2.1.toArray⟩ : ByteArray) = c2 at h118 hn
  generalize (Lib.cut lf.data.toList sg.data.toList).2.2 = c3 at h118 hn
  have H := hide (And.intro h hsz)
  clear h hm hR hsz
  have hML : ¬ M = L := H.out.1.ne.1
  cases mo
  · rw [if_neg (by simp)] at hn
    subst hn
    go_enter Tryz.func117, Tryz.ntmps117
    go_wp2
    go_ret2
    exact ⟨rfl, H.out.1, Only.refl _ _⟩
  · rw [if_pos rfl] at hn
    have HN := hide hn
    clear hn
    go_enter Tryz.func117, Tryz.ntmps117
    go_wp2_with (go_at_call 118; (refine h118.mono ?_; rintro e w' ⟨rfl, k, hw'⟩; have HK := hide hw'; clear hw'; have cL' : w'.cell? ⟨L, 0, none⟩ = some (.string lf) := (by rw [HK.out]; exact cL); have cM' : w'.cell? ⟨M, 0, none⟩ = some (.bool true) := (by rw [HK.out]; exact cM); have fL' : w'.frozen? ⟨L, 0, none⟩ = false := (by rw [HK.out]; exact fL); have fM' : w'.frozen? ⟨M, 0, none⟩ = false := (by rw [HK.out]; exact fM)))
    go_ret2
    have hw : PcS w' M L S sg ⟨lf, true⟩ ∧ Only (fun j => j = M ∨ j = L) w w' := by rw [HK.out]; exact ⟨H.out.1.below ⟨rfl, rfl, rfl, Nat.le_refl _, fun _ _ => rfl⟩, (Only.refl _ w).drewN k⟩
    rw [HN.out]
    refine ⟨rfl, ⟨?_, ?_, ?_, H.out.1.ne, by have := H.out.2.2; rw [HN.out] at this; exact this⟩, (hw.2.setCell ⟨L, 0, none⟩ _ (fun _ => .inr rfl)).setCell ⟨M, 0, none⟩ _ (fun _ => .inl rfl)⟩
    · have a1 : (w'.setCell ⟨L, 0, none⟩ (.string c2)).heap[M]? = some (.cells #[.bool true] 4 (0, 0)) := by
        rw [heap_setCell_other _ _ _ _ (by exact hML)]; exact hw.1.m
      exact (Ki.set_one (i := 0) (.bool c3) a1).1
    · rw [heap_setCell_other _ _ _ _ (by exact fun e => hML e.symm)]
      exact (Ki.set_one (i := 0) (.string c2) hw.1.l).1
    · rw [heap_setCell_other _ _ _ _ (by exact H.out.1.ne.2.1), heap_setCell_other _ _ _ _ (by exact H.out.1.ne.2.2)]
      exact hw.1.s
end Go.Proofs.YtpepgoelnagoaaaGreatDoor
