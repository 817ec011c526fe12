/-
  OPS: read 70, of any source.
  OPS, forms: takeText 228, takeKey 225, End 69; the methods do 220, key 221, number 222, text 224 of the source 'formed'.
-/
import Derived.Test.YtpepgoelnagoaaaGreatDoorMg13
import Derived.Test.YtpepgoelnagoaaaGreatDoorMg9
import Derived.Test.YtpepgoelnagoaaaGreatDoorMg10
namespace Go.Proofs.YtpepgoelnagoaaaGreatDoor
open Go.RowKit Go.Shelf
set_option linter.unusedSimpArgs false
set_option linter.unusedVariables false
attribute [local go_sem] Oper.semAt_some

def odZ : Od := ⟨[], 0, ⟨#[]⟩, 0, 0, ⟨#[]⟩⟩
/-- What a source tells: its fields in order, the first error, and where it then stands. -/
def rd3 {σ : Type} (s : Src σ) (q : σ) : (Int × List ByteArray × ByteArray) × Int × σ :=
  let a := fld s.pd 0 0 q
  let b := fld s.pp [] a.2.1 a.2.2
  let c := fld s.pk ⟨#[]⟩ b.2.1 b.2.2
  ((a.1, b.1, c.1), c.2.1, c.2.2)
def rd4 {σ : Type} (s : Src σ) (d er : Int) (q : σ) : (Int × ByteArray) × Int × σ :=
  if d = 1 then (((fld s.pn 0 er q).1, ⟨#[]⟩), (fld s.pn 0 er q).2.1, (fld s.pn 0 er q).2.2) else if d = 6 then ((0, ⟨#[]⟩), er, q) else ((0, (fld s.pt ⟨#[]⟩ er q).1), (fld s.pt ⟨#[]⟩ er q).2.1, (fld s.pt ⟨#[]⟩ er q).2.2)
def rdO {σ : Type} (s : Src σ) (q : σ) : Od × Int × σ :=
  let a := rd3 s q
  let b := rd4 s a.1.1 a.2.1 a.2.2
  (⟨a.1.2.1, Ki.ofD a.1.1, a.1.2.2, a.1.1, b.1.1, b.1.2⟩, b.2.1, b.2.2)
def readS {σ : Type} (s : Src σ) (q : σ) : Od × Int := if (rdO s q).2.1 = 0 ∧ chkO (rdO s q).1 = 0 then ((rdO s q).1, 0) else (odZ, 4)

theorem blk6 {w : World} {R : Nat} {t : TypeId} {a b c d e f : Value} (h : w.heap[R]? = some (.cells #[a, b, c, d, e, f] t (0, 0))) : (w.cell? ⟨R, 0, none⟩ = some a ∧ w.cell? ⟨R, 1, none⟩ = some b ∧ w.cell? ⟨R, 2, none⟩ = some c ∧ w.cell? ⟨R, 3, none⟩ = some d ∧ w.cell? ⟨R, 4, none⟩ = some e ∧ w.cell? ⟨R, 5, none⟩ = some f) ∧ (w.frozen? ⟨R, 0, none⟩ = false ∧ w.frozen? ⟨R, 1, none⟩ = false ∧ w.frozen? ⟨R, 2, none⟩ = false ∧ w.frozen? ⟨R, 3, none⟩ = false ∧ w.frozen? ⟨R, 4, none⟩ = false ∧ w.frozen? ⟨R, 5, none⟩ = false) :=
  ⟨⟨(cell_of_row _ _ 0 _ t (0, 0) h).trans rfl, (cell_of_row _ _ 1 _ t (0, 0) h).trans rfl, (cell_of_row _ _ 2 _ t (0, 0) h).trans rfl, (cell_of_row _ _ 3 _ t (0, 0) h).trans rfl, (cell_of_row _ _ 4 _ t (0, 0) h).trans rfl, (cell_of_row _ _ 5 _ t (0, 0) h).trans rfl⟩, frozen_of_row _ _ 0 _ t h, frozen_of_row _ _ 1 _ t h, frozen_of_row _ _ 2 _ t h, frozen_of_row _ _ 3 _ t h, frozen_of_row _ _ 4 _ t h, frozen_of_row _ _ 5 _ t h⟩
theorem set6 {w : World} {R : Nat} {t : TypeId} {a b c d e f a' b' c' d' e' f' : Value} (h : w.heap[R]? = some (.cells #[a, b, c, d, e, f] t (0, 0))) : ((((((w.setCell ⟨R, 0, none⟩ a').setCell ⟨R, 1, none⟩ b').setCell ⟨R, 2, none⟩ c').setCell ⟨R, 3, none⟩ d').setCell ⟨R, 4, none⟩ e').setCell ⟨R, 5, none⟩ f').heap[R]? = some (.cells #[a', b', c', d', e', f'] t (0, 0)) := by
  have h0 := (Ki.set_one (i := 0) a' h).1
  have h1 := (Ki.set_one (i := 1) b' h0).1
  have h2 := (Ki.set_one (i := 2) c' h1).1
  have h3 := (Ki.set_one (i := 3) d' h2).1
  have h4 := (Ki.set_one (i := 4) e' h3).1
  have h5 := (Ki.set_one (i := 5) f' h4).1
  simpa using h5
theorem only6 {w : World} {R : Nat} {a' b' c' d' e' f' : Value} : Only (fun j => j = R) w ((((((w.setCell ⟨R, 0, none⟩ a').setCell ⟨R, 1, none⟩ b').setCell ⟨R, 2, none⟩ c').setCell ⟨R, 3, none⟩ d').setCell ⟨R, 4, none⟩ e').setCell ⟨R, 5, none⟩ f') :=
  ((((((Only.refl (fun j => j = R) w).setCell ⟨R, 0, none⟩ a' (fun _ => rfl)).setCell ⟨R, 1, none⟩ b' (fun _ => rfl)).setCell ⟨R, 2, none⟩ c' (fun _ => rfl)).setCell ⟨R, 3, none⟩ d' (fun _ => rfl)).setCell ⟨R, 4, none⟩ e' (fun _ => rfl)).setCell ⟨R, 5, none⟩ f' (fun _ => rfl)

abbrev oc6 (x : Value) (k : Int) (ks : ByteArray) (d n : Int) (t : ByteArray) : Array Value := #[x, .int .i64 k, .string ks, .int .i64 d, .int .i64 n, .string t]
/-- How things stand while an operation is read. -/
structure RdS {σ : Type} (s : Src σ) (w W : World) (N5 : Nat) (x : Value) (k : Int) (ks : ByteArray) (d n : Int) (t : ByteArray) (er : Int) (q : σ) : Prop where
  b2 : W.heap[w.heap.size]? = some (.cells (oc6 (.slice none 0 0) 0 ⟨#[]⟩ 0 0 ⟨#[]⟩) 34 (0, 0))
  b5 : W.heap[N5]? = some (.cells (oc6 x k ks d n t) 34 (0, 0))
  err : ErrC W (w.heap.size + 1) er
  st : s.St q W
  only : Only s.D w W
  gt : w.heap.size + 1 < N5
  base : s.B ≤ w.heap.size
theorem RdS.call {σ : Type} {s : Src σ} {w W W' : World} {N5 : Nat} {x : Value} {k : Int} {ks : ByteArray} {d n : Int} {t : ByteArray} {er er' : Int} {q q' : σ} (hs : SrcOk s) (h : RdS s w W N5 x k ks d n t er q) (hE : ErrC W' (w.heap.size + 1) er') (hq : s.St q' W') (ho : Only (fun j => s.D j ∨ j = w.heap.size + 1) W W') : RdS s w W' N5 x k ks d n t er' q' := by
  have g := h.gt
  have b := h.base
  refine ⟨(ho.block _ (Array.getElem?_eq_some_iff.1 h.b2).1 ?_).trans h.b2, (ho.block _ (Array.getElem?_eq_some_iff.1 h.b5).1 ?_).trans h.b5, hE, hq, h.only.trans ho ?_, g, b⟩
  · rintro (hd | hd)
    · have := hs.lt _ hd; omega
    · omega
  · rintro (hd | hd)
    · have := hs.lt _ hd; omega
    · omega
  · rintro j hj (hd | hd)
    · exact hd
    · omega
theorem RdS.set {σ : Type} {s : Src σ} {w W : World} {N5 : Nat} {x : Value} {k : Int} {ks : ByteArray} {d n : Int} {t : ByteArray} {er : Int} {q : σ} (hs : SrcOk s) (h : RdS s w W N5 x k ks d n t er q) (i : Nat) (v : Value) (x' : Value) (k' : Int) (ks' : ByteArray) (d' n' : Int) (t' : ByteArray) (he : (oc6 x k ks d n t).setIfInBounds i v = oc6 x' k' ks' d' n' t') : RdS s w (W.setCell ⟨N5, i, none⟩ v) N5 x' k' ks' d' n' t' er q := by
  have g := h.gt
  have b := h.base
  obtain ⟨c, ho⟩ := Ki.set_one (i := i) v h.b5
  rw [he] at c
  refine ⟨(ho.block _ (Array.getElem?_eq_some_iff.1 h.b2).1 (by omega)).trans h.b2, c, (ho.block _ (Array.getElem?_eq_some_iff.1 h.err).1 (by omega)).trans h.err, hs.stable _ _ _ h.st (ho.below (hs.le _ _ h.st) (fun j hj => by omega)), h.only.trans ho (fun j hj hd => by omega), g, b⟩

theorem RdS.below {σ : Type} {s : Src σ} {w W W' : World} {N5 : Nat} {x : Value} {k : Int} {ks : ByteArray} {d n : Int} {t : ByteArray} {er : Int} {q : σ} (hs : SrcOk s) (h : RdS s w W N5 x k ks d n t er q) (hb : Below W.heap.size W W') : RdS s w W' N5 x k ks d n t er q :=
  h.call hs ((hb.block _ (Array.getElem?_eq_some_iff.1 h.err).1).trans h.err) (hs.stable _ _ _ h.st (hb.mono (hs.le _ _ h.st))) ((Only.ofBelow hb).mono (fun _ _ hd => hd.elim))
theorem rp_of {W : World} {B pc : Nat} {pa : Option Addr} {p : List ByteArray} (h : Os W B (.slice pa p.length pc) p) (hl : p.length ≤ 1000000) : Ki.Rp W pa pc p := by
  obtain ⟨ao, c, e, hr, -, hn, hc⟩ := h.shape
  simp only [Value.slice.injEq, true_and] at e
  obtain ⟨rfl, rfl⟩ := e
  exact ⟨hr, hc, hn, by omega⟩
theorem fld_plen {σ : Type} {s : Src σ} (hs : SrcOk s) {er : Int} {q : σ} : (fld s.pp [] er q).1.length ≤ 1000000 := by
  unfold fld
  split
  · exact hs.plen q
  · simp
theorem Tryz.info34z : (Tryz.prog.info? 34).map (·.size) = some 6 := by kernel_rfl
theorem fin_os {σ : Type} {s : Src σ} {w W : World} {N5 Bp pc : Nat} {pa : Option Addr} {p : List ByteArray} {x : Value} {k : Int} {ks : ByteArray} {d n : Int} {t : ByteArray} {er : Int} {q : σ} {a' b' c' d' e' f' : Value} (h : RdS s w W N5 x k ks d n t er q) (ho : Os W Bp (.slice pa p.length pc) p) (hN : N5 < Bp) : Os ((((((W.setCell ⟨w.heap.size, 0, none⟩ a').setCell ⟨w.heap.size, 1, none⟩ b').setCell ⟨w.heap.size, 2, none⟩ c').setCell ⟨w.heap.size, 3, none⟩ d').setCell ⟨w.heap.size, 4, none⟩ e').setCell ⟨w.heap.size, 5, none⟩ f') w.heap.size (.slice pa p.length pc) p := by
  have g := h.gt
  have h1 := ho.only (only6 (R := w.heap.size) (a' := a') (b' := b') (c' := c') (d' := d') (e' := e') (f' := f')) (fun k hk e => by have := (World.ownsRow.lt ho k hk).1; omega)
  exact row_lift h1 (by omega)
theorem fin_st {σ : Type} {s : Src σ} {w W : World} {N5 : Nat} {x : Value} {k : Int} {ks : ByteArray} {d n : Int} {t : ByteArray} {er : Int} {q : σ} {a' b' c' d' e' f' : Value} (hs : SrcOk s) (h : RdS s w W N5 x k ks d n t er q) : s.St q ((((((W.setCell ⟨w.heap.size, 0, none⟩ a').setCell ⟨w.heap.size, 1, none⟩ b').setCell ⟨w.heap.size, 2, none⟩ c').setCell ⟨w.heap.size, 3, none⟩ d').setCell ⟨w.heap.size, 4, none⟩ e').setCell ⟨w.heap.size, 5, none⟩ f') :=
  hs.stable _ _ _ h.st (only6.below (hs.le _ _ h.st) (fun j hj => by have := h.base; omega))
theorem fin_only {σ : Type} {s : Src σ} {w W : World} {N5 : Nat} {x : Value} {k : Int} {ks : ByteArray} {d n : Int} {t : ByteArray} {er : Int} {q : σ} {a' b' c' d' e' f' : Value} (h : RdS s w W N5 x k ks d n t er q) : Only s.D w ((((((W.setCell ⟨w.heap.size, 0, none⟩ a').setCell ⟨w.heap.size, 1, none⟩ b').setCell ⟨w.heap.size, 2, none⟩ c').setCell ⟨w.heap.size, 3, none⟩ d').setCell ⟨w.heap.size, 4, none⟩ e').setCell ⟨w.heap.size, 5, none⟩ f') :=
  h.only.trans only6 (fun j hj hd => by omega)

set_option maxHeartbeats 8000000 in
set_option maxRecDepth 100000 in
theorem read_any {σ : Type} {s : Src σ} (hs : SrcOk s) {q : σ} {w : World} (hq : s.St q w) (hok : (rd3 s q).1.1 = 1 → (rd3 s q).2.1 = 0 → s.okn (rd3 s q).2.2) : Calls Tryz.prog 70 #[.iface s.T s.v] w fun e w' => ∃ pa pc, e = .returned (.tuple #[odv pa (readS s q).1.p.length pc (readS s q).1, .int .i64 (readS s q).2]) ∧ Os w' w.heap.size (.slice pa (readS s q).1.p.length pc) (readS s q).1.p ∧ s.St (rdO s q).2.2 w' ∧ Only s.D w w' := by
  have HOK := hide hok
  clear hok
  have hmf : ∀ (f : Fn) (a b : Array Value) (W : World), (Instr.makeFunc f a b).run Tryz.prog W = .ok (.func f a b) W := fun _ _ _ _ => rfl
  have hB := hs.le q w hq
  obtain ⟨w1, hw1⟩ : ∃ r, r = (w.alloc (.cells (oc6 (.slice none 0 0) 0 ⟨#[]⟩ 0 0 ⟨#[]⟩) 34)).alloc (.cells #[.int .i64 0] 27) := ⟨_, rfl⟩
  obtain ⟨m2, m4⟩ := new2 w (.cells (oc6 (.slice none 0 0) 0 ⟨#[]⟩ 0 0 ⟨#[]⟩) 34) (.cells #[.int .i64 0] 27)
  have hs1 : w1.heap.size = w.heap.size + 2 := by rw [hw1]; simp
  have d1 : Below w.heap.size w w1 := by rw [hw1]; exact ((Below.refl _ w).alloc (Nat.le_refl _) _).alloc (by simp) _
  rw [← hw1] at m2 m4
  have E1 : ErrC w1 (w.heap.size + 1) 0 := m4
  have q1 := hs.stable _ _ _ hq (d1.mono hB)
  have hd := fdd_any hs q1 E1 (by omega)
  obtain ⟨A, hA⟩ : ∃ r, r = fld s.pd 0 0 q := ⟨_, rfl⟩
  rw [← hA] at hd
  have HW := hide (And.intro hw1 (And.intro hs1 (And.intro d1 (And.intro m2 (And.intro hB hA)))))
  clear hw1 d1 m2 m4 E1 q1 hA hs1 hB
  go_enter Tryz.func70, Tryz.ntmps70
  go_upto_region 2 with fail
  rw [← HW.out.1]
  go_upto_region 3 with (go_at_call 111; refine hd.mono ?_; rintro e w2 ⟨rfl, hE2, hq2, ho2⟩; have H2 := hide (And.intro hE2 (And.intro hq2 ho2)); clear hE2 hq2 ho2 hd)
  obtain ⟨w3, hw3⟩ : ∃ r, r = w2.alloc (.cells (oc6 (.slice none 0 0) 0 ⟨#[]⟩ A.1 0 ⟨#[]⟩) 34) := ⟨_, rfl⟩
  obtain ⟨N5, hN5⟩ : ∃ r, r = w2.heap.size := ⟨_, rfl⟩
  rw [← hw3, ← hN5]
  have R3 : RdS s w w3 N5 (.slice none 0 0) 0 ⟨#[]⟩ A.1 0 ⟨#[]⟩ A.2.1 A.2.2 := by
    obtain ⟨_, hs1, d1, m2, hB, _⟩ := HW.out
    obtain ⟨hE2, hq2, ho2⟩ := H2.out
    have hal : Below w2.heap.size w2 w3 := by rw [hw3]; exact (Below.refl _ _).alloc (Nat.le_refl _) _
    have hsz := ho2.size
    have b2' : w2.heap[w.heap.size]? = some (.cells (oc6 (.slice none 0 0) 0 ⟨#[]⟩ 0 0 ⟨#[]⟩) 34 (0, 0)) := (ho2.block _ (Array.getElem?_eq_some_iff.1 m2).1 (by
      rintro (hx | hx)
      · have := hs.lt _ hx; omega
      · omega)).trans m2
    refine ⟨(hal.block _ (Array.getElem?_eq_some_iff.1 b2').1).trans b2', ?_, (hal.block _ (Array.getElem?_eq_some_iff.1 hE2).1).trans hE2, hs.stable _ _ _ hq2 (hal.mono (hs.le _ _ hq2)), ?_, by omega, hB⟩
    · rw [hw3, hN5]; exact heap_alloc_new _ _
    · exact (((Only.ofBelow d1).mono (fun _ _ h => h.elim)).trans ho2 (fun j hj hx => by
        rcases hx with hx | hx
        · exact hx
        · omega)).trans ((Only.ofBelow hal).mono (fun _ _ h => h.elim) : Only s.D w2 w3) (fun _ _ h => h)
  have HA : Hid (A = fld s.pd 0 0 q) := hide HW.out.2.2.2.2.2
  clear hw3 hN5 H2 HW
  -- region 3: the kind
  obtain ⟨⟨x0, x1, x2, x3, x4, x5⟩, f0, f1, f2, f3, f4, f5⟩ := blk6 R3.b5
  have R3 := hide R3
  have k93 := fun W => Ki.of_any A.1 W
  go_upto_region 4 with (go_at_call 93; refine (k93 _).mono ?_; rintro e w' ⟨rfl, hw'⟩; subst hw')
  obtain ⟨w4, hw4⟩ : ∃ r, r = w'.setCell ⟨N5, 1, none⟩ (.int .i64 (Ki.ofD A.1)) := ⟨_, rfl⟩
  rw [← hw4]
  have R4 : RdS s w w4 N5 (.slice none 0 0) (Ki.ofD A.1) ⟨#[]⟩ A.1 0 ⟨#[]⟩ A.2.1 A.2.2 := by rw [hw4]; exact R3.out.set hs 1 _ _ _ _ _ _ _ rfl
  clear R3 k93 hw4 x0 x1 x2 x3 x4 x5 f0 f1 f2 f3 f4 f5
  -- region 4: the path
  have hp := fdp_any hs R4.st R4.err (Nat.le_trans R4.base (Nat.le_succ _))
  obtain ⟨P, hP⟩ : ∃ r, r = fld s.pp [] A.2.1 A.2.2 := ⟨_, rfl⟩
  rw [← hP] at hp
  have HP := hide hP
  have R4 := hide R4
  clear hP
  go_upto_region 5 with (go_at_call 112; refine hp.mono ?_; rintro e w5 ⟨xv, rfl, hos5, hE5, hq5, ho5⟩; obtain ⟨pa, pc, hxv, -⟩ := hos5.shape; subst hxv; have R5 := R4.out.call hs hE5 hq5 ho5; obtain ⟨⟨x0, x1, x2, x3, x4, x5⟩, f0, f1, f2, f3, f4, f5⟩ := blk6 R5.b5; have R5 := hide R5; have O5 := hide (And.intro hos5 (Nat.lt_of_lt_of_le (Nat.lt_of_le_of_lt (Nat.le_refl _) (Array.getElem?_eq_some_iff.1 R4.out.b5).1) (Nat.le_refl _))); clear hE5 hq5 ho5 hos5 hp R4)
  obtain ⟨w6, hw6⟩ : ∃ r, r = w5.setCell ⟨N5, 0, none⟩ (.slice pa P.1.length pc) := ⟨_, rfl⟩
  rw [← hw6]
  have R6 : RdS s w w6 N5 (.slice pa P.1.length pc) (Ki.ofD A.1) ⟨#[]⟩ A.1 0 ⟨#[]⟩ P.2.1 P.2.2 := by rw [hw6]; exact R5.out.set hs 0 _ _ _ _ _ _ _ rfl
  have O6 : Hid (Os w6 w4.heap.size (.slice pa P.1.length pc) P.1 ∧ N5 < w4.heap.size) := hide ⟨by
    rw [hw6]
    exact O5.out.1.only (Only.ofGrown (grown_setCell w5 ⟨N5, 0, none⟩ _)) (fun k hk e => by have := (World.ownsRow.lt O5.out.1 k hk).1; have := O5.out.2; simp only [Option.some.injEq] at e; omega), O5.out.2⟩
  clear R5 O5 hw6 x0 x1 x2 x3 x4 x5 f0 f1 f2 f3 f4 f5
  -- region 5: the key
  have hk := fdk_any hs R6.st R6.err (Nat.le_trans R6.base (Nat.le_succ _))
  obtain ⟨C, hC⟩ : ∃ r, r = fld s.pk ⟨#[]⟩ P.2.1 P.2.2 := ⟨_, rfl⟩
  rw [← hC] at hk
  have HC := hide hC
  have R6 := hide R6
  clear hC
  go_upto_region 6 with (go_at_call 113; refine hk.mono ?_; rintro e w7 ⟨rfl, hE7, hq7, ho7⟩; have R7 := R6.out.call hs hE7 hq7 ho7; obtain ⟨⟨x0, x1, x2, x3, x4, x5⟩, f0, f1, f2, f3, f4, f5⟩ := blk6 R7.b5; have R7 := hide R7; have O7 := hide (And.intro (O6.out.1.only ho7 (fun k hk hd => by have h1 := (World.ownsRow.lt O6.out.1 k hk).1; have h2 := O6.out.2; have h3 := R6.out.gt; have h4 := R6.out.base; rcases hd with hd | hd; (have := hs.lt _ hd; omega); omega)) O6.out.2); clear hE7 hq7 ho7 hk R6 O6)
  obtain ⟨w8, hw8⟩ : ∃ r, r = w7.setCell ⟨N5, 2, none⟩ (.string C.1) := ⟨_, rfl⟩
  rw [← hw8]
  have R8 : RdS s w w8 N5 (.slice pa P.1.length pc) (Ki.ofD A.1) C.1 A.1 0 ⟨#[]⟩ C.2.1 C.2.2 := by rw [hw8]; exact R7.out.set hs 2 _ _ _ _ _ _ _ rfl
  have O8 : Hid (Os w8 w4.heap.size (.slice pa P.1.length pc) P.1 ∧ N5 < w4.heap.size) := hide ⟨by
    rw [hw8]
    exact O7.out.1.only (Only.ofGrown (grown_setCell w7 ⟨N5, 2, none⟩ _)) (fun k hk e => by have := (World.ownsRow.lt O7.out.1 k hk).1; have := O7.out.2; simp only [Option.some.injEq] at e; omega), O7.out.2⟩
  clear R7 O7 hw8 x0 x1 x2 x3 x4 x5 f0 f1 f2 f3 f4 f5
  -- the switch
  have hrd0 : rdO s q = (⟨P.1, Ki.ofD A.1, C.1, A.1, (rd4 s A.1 C.2.1 C.2.2).1.1, (rd4 s A.1 C.2.1 C.2.2).1.2⟩, (rd4 s A.1 C.2.1 C.2.2).2.1, (rd4 s A.1 C.2.1 C.2.2).2.2) := by
    unfold rdO rd3
    dsimp only
    rw [← HA.out, ← HP.out, ← HC.out]
  have hok' : A.1 = 1 → C.2.1 = 0 → s.okn C.2.2 := by
    have := HOK.out
    unfold rd3 at this
    dsimp only at this
    rw [← HA.out, ← HP.out, ← HC.out] at this
    exact this
  obtain ⟨⟨x0, x1, x2, x3, x4, x5⟩, f0, f1, f2, f3, f4, f5⟩ := blk6 R8.b5
  obtain ⟨d, hd⟩ : ∃ r, r = A.1 := ⟨_, rfl⟩
  rw [← hd] at hrd0 R8 x1 x3 hok' ⊢
  have HOK2 := hide hok'
  clear hok' HOK
  have R8 := hide R8
  have hrd0 := hide hrd0
  clear hd
  by_cases h1 : d = 1
  · subst h1
    have hn := fdn_any hs R8.out.st R8.out.err (Nat.le_trans R8.out.base (Nat.le_succ _)) (HOK2.out rfl)
    obtain ⟨M, hM⟩ : ∃ r, r = fld s.pn 0 C.2.1 C.2.2 := ⟨_, rfl⟩
    rw [← hM] at hn
    have HM := hide hM
    clear hM
    go_upto_region 11 with (go_at_call 114; refine hn.mono ?_; rintro e w9 ⟨rfl, hE9, hq9, ho9⟩; have R9 := R8.out.call hs hE9 hq9 ho9; clear x0 x1 x2 x3 x4 x5 f0 f1 f2 f3 f4 f5; obtain ⟨⟨x0, x1, x2, x3, x4, x5⟩, f0, f1, f2, f3, f4, f5⟩ := blk6 R9.b5; have R9 := hide R9; have O9 := hide (And.intro (O8.out.1.only ho9 (fun k hk hd => by have h1 := (World.ownsRow.lt O8.out.1 k hk).1; have h2 := O8.out.2; have h3 := R8.out.gt; have h4 := R8.out.base; rcases hd with hd | hd; (have := hs.lt _ hd; omega); omega)) O8.out.2); clear hE9 hq9 ho9 hn)
    obtain ⟨w10, hw10⟩ : ∃ r, r = w9.setCell ⟨N5, 4, none⟩ (.int .i64 M.1) := ⟨_, rfl⟩
    rw [← hw10]
    have R10 : RdS s w w10 N5 (.slice pa P.1.length pc) (Ki.ofD 1) C.1 1 M.1 ⟨#[]⟩ M.2.1 M.2.2 := by rw [hw10]; exact R9.out.set hs 4 _ _ _ _ _ _ _ rfl
    have O10 : Os w10 w4.heap.size (.slice pa P.1.length pc) P.1 ∧ N5 < w4.heap.size := ⟨by
      rw [hw10]
      exact O9.out.1.only (Only.ofGrown (grown_setCell w9 ⟨N5, 4, none⟩ _)) (fun k hk e => by have := (World.ownsRow.lt O9.out.1 k hk).1; have := O9.out.2; simp only [Option.some.injEq] at e; omega), O9.out.2⟩
    have hrd : rdO s q = (⟨P.1, Ki.ofD 1, C.1, 1, M.1, ⟨#[]⟩⟩, M.2.1, M.2.2) := by
      rw [hrd0.out]
      unfold rd4
      rw [if_pos rfl, ← HM.out]
    clear R9 O9 hw10 R8 O8 hrd0 x0 x1 x2 x3 x4 x5 f0 f1 f2 f3 f4 f5
    have R10 := hide R10
    have O10 := hide O10
    have hrd := hide hrd
    obtain ⟨⟨x0, x1, x2, x3, x4, x5⟩, f0, f1, f2, f3, f4, f5⟩ := blk6 R10.out.b5
    obtain ⟨⟨y0, y1, y2, y3, y4, y5⟩, g0, g1, g2, g3, g4, g5⟩ := blk6 R10.out.b2
    have ce := R10.out.err.cell.1
    by_cases her : M.2.1 = 0
    · rw [her] at ce
      have k45 := chk_any ⟨P.1, Ki.ofD 1, C.1, 1, M.1, ⟨#[]⟩⟩ (rp_of O10.out.1 (by rw [HP.out]; exact fld_plen hs)) (hs.env _ _ R10.out.st).tabs
      obtain ⟨v, hv⟩ : ∃ r, r = chkO ⟨P.1, Ki.ofD 1, C.1, 1, M.1, ⟨#[]⟩⟩ := ⟨_, rfl⟩
      rw [← hv] at k45
      have HV := hide hv
      clear hv
      dsimp only at k45
      by_cases hv0 : v = 0
      · subst hv0
        go_wp2_with (go_at_call 45; refine k45.mono ?_; rintro e w11 ⟨rfl, d11⟩; clear k45 x0 x1 x2 x3 x4 x5 f0 f1 f2 f3 f4 f5 y0 y1 y2 y3 y4 y5 g0 g1 g2 g3 g4 g5 ce; have R11 := R10.out.below hs d11; have O11 := hide (O10.out.1.below d11); obtain ⟨⟨x0, x1, x2, x3, x4, x5⟩, f0, f1, f2, f3, f4, f5⟩ := blk6 R11.b5; obtain ⟨⟨y0, y1, y2, y3, y4, y5⟩, g0, g1, g2, g3, g4, g5⟩ := blk6 R11.b2; have R11 := hide R11; clear d11)
        refine ret_row_tmp w.heap.size (oc6 (.slice pa P.1.length pc) (Ki.ofD 1) C.1 1 M.1 ⟨#[]⟩).toList rfl rfl rfl Tryz.underlying34 rfl Tryz.info34z (set6 R11.out.b2) rfl ?_
        have hz : readS s q = (⟨P.1, Ki.ofD 1, C.1, 1, M.1, ⟨#[]⟩⟩, 0) := by unfold readS; rw [hrd.out]; exact if_pos ⟨her, HV.out.symm⟩
        rw [hz, hrd.out]
        exact ⟨pa, pc, rfl, fin_os R11.out O11.out O10.out.2, fin_st hs R11.out, fin_only R11.out⟩
      · have hv1 : (v != 0) = true := by simpa using hv0
        go_wp2_with (go_at_call 45; refine k45.mono ?_; rintro e w11 ⟨rfl, d11⟩; clear k45 x0 x1 x2 x3 x4 x5 f0 f1 f2 f3 f4 f5 y0 y1 y2 y3 y4 y5 g0 g1 g2 g3 g4 g5 ce; have R11 := R10.out.below hs d11; obtain ⟨⟨y0, y1, y2, y3, y4, y5⟩, g0, g1, g2, g3, g4, g5⟩ := blk6 R11.b2; have R11 := hide R11; clear d11)
        refine ret_row_tmp w.heap.size (oc6 (.slice none 0 0) 0 ⟨#[]⟩ 0 0 ⟨#[]⟩).toList rfl rfl rfl Tryz.underlying34 rfl Tryz.info34z (set6 R11.out.b2) rfl ?_
        have hz : readS s q = (odZ, 4) := by unfold readS; rw [hrd.out]; exact if_neg (fun h => hv0 (HV.out.trans h.2))
        rw [hz, hrd.out]
        exact ⟨none, 0, rfl, Os.nil _ _, fin_st hs R11.out, fin_only R11.out⟩
    · have her1 : (M.2.1 != 0) = true := by simpa using her
      go_wp2
      refine ret_row_tmp w.heap.size (oc6 (.slice none 0 0) 0 ⟨#[]⟩ 0 0 ⟨#[]⟩).toList rfl rfl rfl Tryz.underlying34 rfl Tryz.info34z (set6 R10.out.b2) rfl ?_
      have hz : readS s q = (odZ, 4) := by unfold readS; rw [hrd.out]; exact if_neg (fun h => her h.1)
      rw [hz, hrd.out]
      exact ⟨none, 0, rfl, Os.nil _ _, fin_st hs R10.out, fin_only R10.out⟩

  have e1 : (d == 1) = false := by simpa using h1
  by_cases h6 : d = 6
  · subst h6
    go_upto_region 11 with fail
    have R10 := R8.out
    have O10 := O8.out
    have hrd : rdO s q = (⟨P.1, Ki.ofD 6, C.1, 6, 0, ⟨#[]⟩⟩, C.2.1, C.2.2) := by
      rw [hrd0.out]
      unfold rd4
      rw [if_neg (by decide), if_pos rfl]
    clear R8 O8 hrd0 x0 x1 x2 x3 x4 x5 f0 f1 f2 f3 f4 f5
    have R10 := hide R10
    have O10 := hide O10
    have hrd := hide hrd
    obtain ⟨⟨x0, x1, x2, x3, x4, x5⟩, f0, f1, f2, f3, f4, f5⟩ := blk6 R10.out.b5
    obtain ⟨⟨y0, y1, y2, y3, y4, y5⟩, g0, g1, g2, g3, g4, g5⟩ := blk6 R10.out.b2
    have ce := R10.out.err.cell.1
    by_cases her : C.2.1 = 0
    · rw [her] at ce
      have k45 := chk_any ⟨P.1, Ki.ofD 6, C.1, 6, 0, ⟨#[]⟩⟩ (rp_of O10.out.1 (by rw [HP.out]; exact fld_plen hs)) (hs.env _ _ R10.out.st).tabs
      obtain ⟨v, hv⟩ : ∃ r, r = chkO ⟨P.1, Ki.ofD 6, C.1, 6, 0, ⟨#[]⟩⟩ := ⟨_, rfl⟩
      rw [← hv] at k45
      have HV := hide hv
      clear hv
      dsimp only at k45
      by_cases hv0 : v = 0
      · subst hv0
        go_wp2_with (go_at_call 45; refine k45.mono ?_; rintro e w11 ⟨rfl, d11⟩; clear k45 x0 x1 x2 x3 x4 x5 f0 f1 f2 f3 f4 f5 y0 y1 y2 y3 y4 y5 g0 g1 g2 g3 g4 g5 ce; have R11 := R10.out.below hs d11; have O11 := hide (O10.out.1.below d11); obtain ⟨⟨x0, x1, x2, x3, x4, x5⟩, f0, f1, f2, f3, f4, f5⟩ := blk6 R11.b5; obtain ⟨⟨y0, y1, y2, y3, y4, y5⟩, g0, g1, g2, g3, g4, g5⟩ := blk6 R11.b2; have R11 := hide R11; clear d11)
        refine ret_row_tmp w.heap.size (oc6 (.slice pa P.1.length pc) (Ki.ofD 6) C.1 6 0 ⟨#[]⟩).toList rfl rfl rfl Tryz.underlying34 rfl Tryz.info34z (set6 R11.out.b2) rfl ?_
        have hz : readS s q = (⟨P.1, Ki.ofD 6, C.1, 6, 0, ⟨#[]⟩⟩, 0) := by unfold readS; rw [hrd.out]; exact if_pos ⟨her, HV.out.symm⟩
        rw [hz, hrd.out]
        exact ⟨pa, pc, rfl, fin_os R11.out O11.out O10.out.2, fin_st hs R11.out, fin_only R11.out⟩
      · have hv1 : (v != 0) = true := by simpa using hv0
        go_wp2_with (go_at_call 45; refine k45.mono ?_; rintro e w11 ⟨rfl, d11⟩; clear k45 x0 x1 x2 x3 x4 x5 f0 f1 f2 f3 f4 f5 y0 y1 y2 y3 y4 y5 g0 g1 g2 g3 g4 g5 ce; have R11 := R10.out.below hs d11; obtain ⟨⟨y0, y1, y2, y3, y4, y5⟩, g0, g1, g2, g3, g4, g5⟩ := blk6 R11.b2; have R11 := hide R11; clear d11)
        refine ret_row_tmp w.heap.size (oc6 (.slice none 0 0) 0 ⟨#[]⟩ 0 0 ⟨#[]⟩).toList rfl rfl rfl Tryz.underlying34 rfl Tryz.info34z (set6 R11.out.b2) rfl ?_
        have hz : readS s q = (odZ, 4) := by unfold readS; rw [hrd.out]; exact if_neg (fun h => hv0 (HV.out.trans h.2))
        rw [hz, hrd.out]
        exact ⟨none, 0, rfl, Os.nil _ _, fin_st hs R11.out, fin_only R11.out⟩
    · have her1 : (C.2.1 != 0) = true := by simpa using her
      go_wp2
      refine ret_row_tmp w.heap.size (oc6 (.slice none 0 0) 0 ⟨#[]⟩ 0 0 ⟨#[]⟩).toList rfl rfl rfl Tryz.underlying34 rfl Tryz.info34z (set6 R10.out.b2) rfl ?_
      have hz : readS s q = (odZ, 4) := by unfold readS; rw [hrd.out]; exact if_neg (fun h => her h.1)
      rw [hz, hrd.out]
      exact ⟨none, 0, rfl, Os.nil _ _, fin_st hs R10.out, fin_only R10.out⟩

  have e6 : (d == 6) = false := by simpa using h6
  have hn := fdt_any hs R8.out.st R8.out.err (Nat.le_trans R8.out.base (Nat.le_succ _))
  obtain ⟨M, hM⟩ : ∃ r, r = fld s.pt ⟨#[]⟩ C.2.1 C.2.2 := ⟨_, rfl⟩
  rw [← hM] at hn
  have HM := hide hM
  clear hM
  go_upto_region 11 with (go_at_call 113; refine hn.mono ?_; rintro e w9 ⟨rfl, hE9, hq9, ho9⟩; have R9 := R8.out.call hs hE9 hq9 ho9; clear x0 x1 x2 x3 x4 x5 f0 f1 f2 f3 f4 f5; obtain ⟨⟨x0, x1, x2, x3, x4, x5⟩, f0, f1, f2, f3, f4, f5⟩ := blk6 R9.b5; have R9 := hide R9; have O9 := hide (And.intro (O8.out.1.only ho9 (fun k hk hd => by have h1 := (World.ownsRow.lt O8.out.1 k hk).1; have h2 := O8.out.2; have h3 := R8.out.gt; have h4 := R8.out.base; rcases hd with hd | hd; (have := hs.lt _ hd; omega); omega)) O8.out.2); clear hE9 hq9 ho9 hn)
  obtain ⟨w10, hw10⟩ : ∃ r, r = w9.setCell ⟨N5, 5, none⟩ (.string M.1) := ⟨_, rfl⟩
  rw [← hw10]
  have R10 : RdS s w w10 N5 (.slice pa P.1.length pc) (Ki.ofD d) C.1 d 0 M.1 M.2.1 M.2.2 := by rw [hw10]; exact R9.out.set hs 5 _ _ _ _ _ _ _ rfl
  have O10 : Os w10 w4.heap.size (.slice pa P.1.length pc) P.1 ∧ N5 < w4.heap.size := ⟨by
    rw [hw10]
    exact O9.out.1.only (Only.ofGrown (grown_setCell w9 ⟨N5, 5, none⟩ _)) (fun k hk e => by have := (World.ownsRow.lt O9.out.1 k hk).1; have := O9.out.2; simp only [Option.some.injEq] at e; omega), O9.out.2⟩
  have hrd : rdO s q = (⟨P.1, Ki.ofD d, C.1, d, 0, M.1⟩, M.2.1, M.2.2) := by
    rw [hrd0.out]
    unfold rd4
    rw [if_neg h1, if_neg h6, ← HM.out]
  clear R9 O9 hw10 R8 O8 hrd0 x0 x1 x2 x3 x4 x5 f0 f1 f2 f3 f4 f5
  have R10 := hide R10
  have O10 := hide O10
  have hrd := hide hrd
  obtain ⟨⟨x0, x1, x2, x3, x4, x5⟩, f0, f1, f2, f3, f4, f5⟩ := blk6 R10.out.b5
  obtain ⟨⟨y0, y1, y2, y3, y4, y5⟩, g0, g1, g2, g3, g4, g5⟩ := blk6 R10.out.b2
  have ce := R10.out.err.cell.1
  by_cases her : M.2.1 = 0
  · rw [her] at ce
    have k45 := chk_any ⟨P.1, Ki.ofD d, C.1, d, 0, M.1⟩ (rp_of O10.out.1 (by rw [HP.out]; exact fld_plen hs)) (hs.env _ _ R10.out.st).tabs
    obtain ⟨v, hv⟩ : ∃ r, r = chkO ⟨P.1, Ki.ofD d, C.1, d, 0, M.1⟩ := ⟨_, rfl⟩
    rw [← hv] at k45
    have HV := hide hv
    clear hv
    dsimp only at k45
    by_cases hv0 : v = 0
    · subst hv0
      go_wp2_with (go_at_call 45; refine k45.mono ?_; rintro e w11 ⟨rfl, d11⟩; clear k45 x0 x1 x2 x3 x4 x5 f0 f1 f2 f3 f4 f5 y0 y1 y2 y3 y4 y5 g0 g1 g2 g3 g4 g5 ce; have R11 := R10.out.below hs d11; have O11 := hide (O10.out.1.below d11); obtain ⟨⟨x0, x1, x2, x3, x4, x5⟩, f0, f1, f2, f3, f4, f5⟩ := blk6 R11.b5; obtain ⟨⟨y0, y1, y2, y3, y4, y5⟩, g0, g1, g2, g3, g4, g5⟩ := blk6 R11.b2; have R11 := hide R11; clear d11)
      refine ret_row_tmp w.heap.size (oc6 (.slice pa P.1.length pc) (Ki.ofD d) C.1 d 0 M.1).toList rfl rfl rfl Tryz.underlying34 rfl Tryz.info34z (set6 R11.out.b2) rfl ?_
      have hz : readS s q = (⟨P.1, Ki.ofD d, C.1, d, 0, M.1⟩, 0) := by unfold readS; rw [hrd.out]; exact if_pos ⟨her, HV.out.symm⟩
      rw [hz, hrd.out]
      exact ⟨pa, pc, rfl, fin_os R11.out O11.out O10.out.2, fin_st hs R11.out, fin_only R11.out⟩
    · have hv1 : (v != 0) = true := by simpa using hv0
      go_wp2_with (go_at_call 45; refine k45.mono ?_; rintro e w11 ⟨rfl, d11⟩; clear k45 x0 x1 x2 x3 x4 x5 f0 f1 f2 f3 f4 f5 y0 y1 y2 y3 y4 y5 g0 g1 g2 g3 g4 g5 ce; have R11 := R10.out.below hs d11; obtain ⟨⟨y0, y1, y2, y3, y4, y5⟩, g0, g1, g2, g3, g4, g5⟩ := blk6 R11.b2; have R11 := hide R11; clear d11)
      refine ret_row_tmp w.heap.size (oc6 (.slice none 0 0) 0 ⟨#[]⟩ 0 0 ⟨#[]⟩).toList rfl rfl rfl Tryz.underlying34 rfl Tryz.info34z (set6 R11.out.b2) rfl ?_
      have hz : readS s q = (odZ, 4) := by unfold readS; rw [hrd.out]; exact if_neg (fun h => hv0 (HV.out.trans h.2))
      rw [hz, hrd.out]
      exact ⟨none, 0, rfl, Os.nil _ _, fin_st hs R11.out, fin_only R11.out⟩
  · have her1 : (M.2.1 != 0) = true := by simpa using her
    go_wp2
    refine ret_row_tmp w.heap.size (oc6 (.slice none 0 0) 0 ⟨#[]⟩ 0 0 ⟨#[]⟩).toList rfl rfl rfl Tryz.underlying34 rfl Tryz.info34z (set6 R10.out.b2) rfl ?_
    have hz : readS s q = (odZ, 4) := by unfold readS; rw [hrd.out]; exact if_neg (fun h => her h.1)
    rw [hz, hrd.out]
    exact ⟨none, 0, rfl, Os.nil _ _, fin_st hs R10.out, fin_only R10.out⟩
end Go.Proofs.YtpepgoelnagoaaaGreatDoor
namespace Go.Proofs.YtpepgoelnagoaaaGreatDoor
open Go.RowKit Go.Shelf
variable {K : Nat → Prop}
set_option linter.unusedSimpArgs false
set_option linter.unusedVariables false
attribute [local go_sem] Oper.semAt_some

theorem Rdr.below {t : TypeId} {w w' : World} {R S : Nat} {l : List Int} (h : Rdr K t w R S l) (hb : Below S w w') : Rdr K t w' R S l := by
  obtain ⟨ao, cap, h1, h2, h3, h4, h5, h6, h7, h8⟩ := h
  have ho : Only (fun j => S ≤ j) w w' := ⟨hb.os, hb.tape, hb.output, hb.size, fun k _ hn => hb.block k (by omega)⟩
  refine ⟨ao, cap, (hb.block R h7).trans h1, ho.rd h2 (fun a ha => by have := (h6 a ha).1.1; omega), h3, h4, h5, h6, h7, h8⟩
theorem rnum_lt {t : TypeId} {w : World} {R S : Nat} {l : List Int} (hR : Rdr K 77 w R S l) : (rnum l).1 < 18446744073709551616 ∧ (rnum l).2.2.length ≤ l.length := by
  rcases h : Plain.readN 0 0 l with _ | ⟨n, k⟩
  · rw [rnum_none h]; simp
  · rw [rnum_some h]
    exact ⟨(readN_lt hR h).1, by simp⟩
theorem rbytes_left (most : Int) (l : List Int) : (rbytes most l).2.2.length ≤ l.length := by
  have := rcount_left most l
  unfold rbytes
  split
  · split
    · simp
    · simp; omega
  · simp
/-- What reading a text answers. -/
def rtext (most : Int) (l : List Int) : ByteArray × Int × List Int := (strOfNums (rbytes most l).1, (rbytes most l).2.1, (rbytes most l).2.2)

set_option maxHeartbeats 1000000 in
set_option maxRecDepth 100000 in
theorem takeText_any (R S : Nat) (most : Int) (l : List Int) (w : World) (hR : Rdr K 77 w R S l) (hm : most ≤ 9223372036854775807) (hl47 : l.length ≤ 140737488355328) :
    Calls Tryz.prog 228 #[.pointer (some ⟨R, 0, none⟩), .int .i64 most] w fun e w' => e = .returned (.tuple #[.string (rtext most l).1, .int .i64 (rtext most l).2.1]) ∧ Rdr K 77 w' R S (rtext most l).2.2 ∧ w.grownBy w' (some R) := by
  have k := rbytes_any R S most l w hR hm hl47
  show Calls _ _ _ _ (fun e w' => e = .returned (.tuple #[.string (strOfNums (rbytes most l).1), .int .i64 (rbytes most l).2.1]) ∧ Rdr K 77 w' R S (rbytes most l).2.2 ∧ w.grownBy w' (some R))
  generalize rbytes most l = q at k ⊢
  obtain ⟨b, er, l'⟩ := q
  dsimp only at k ⊢
  go_enter Tryz.func228, Tryz.ntmps228
  go_wp2_with (go_at_call 229; refine k.mono ?_; rintro e w2 ⟨ao, cap, rfl, hown, hnil, hr2, hg⟩; have hcv := conv_rd (cap := cap) hown.rd rfl; have H2 := hide (And.intro hr2 hg); clear hr2 hg hown)
  go_ret2
  exact ⟨rfl, H2.out⟩

set_option maxHeartbeats 1000000 in
set_option maxRecDepth 100000 in
theorem takeKey_any (R S : Nat) (l : List Int) (w : World) (hR : Rdr K 77 w R S l) (hl47 : l.length ≤ 140737488355328) :
    Calls Tryz.prog 225 #[.pointer (some ⟨R, 0, none⟩)] w fun e w' => e = .returned (.tuple #[.string (rtext 64 l).1, .int .i64 (rtext 64 l).2.1]) ∧ Rdr K 77 w' R S (rtext 64 l).2.2 ∧ w.grownBy w' (some R) := by
  have k := takeText_any R S 64 l w hR (by omega) hl47
  generalize rtext 64 l = q at k ⊢
  obtain ⟨b, er, l'⟩ := q
  dsimp only at k ⊢
  go_enter Tryz.func225, Tryz.ntmps225
  go_wp2_with (go_at_call 228; refine k.mono ?_; rintro e w2 ⟨rfl, hr2⟩; have H2 := hide hr2; clear hr2)
  go_ret2
  exact ⟨rfl, H2.out⟩

/-- Whether all is read. -/
def endE (l : List Int) : Int := if l = [] then 0 else 4
set_option maxHeartbeats 1000000 in
set_option maxRecDepth 100000 in
theorem end_any (R S : Nat) (l : List Int) (w : World) (hR : Rdr K 77 w R S l) : Calls Tryz.prog 69 #[.pointer (some ⟨R, 0, none⟩)] w fun e w' => e = .returned (.int .i64 (endE l)) ∧ w = w' := by
  obtain ⟨ao, cap, c0, c1, f0, f1, hsz, hl⟩ := hR.cells
  have km := missing_no R w c1
  clear hR
  cases l with
  | nil =>
    go_enter Tryz.func69, Tryz.ntmps69
    go_wp2_with (go_at_call 75; refine (km).mono ?_; rintro e w1 ⟨rfl, h1⟩; have h1 := h1.symm; subst h1)
    go_ret
    exact ⟨rfl, rfl⟩
  | cons b r =>
    have hp : decide ((0 : Int) < ((b :: r).length : Int)) = true := by simp
    go_enter Tryz.func69, Tryz.ntmps69
    go_wp2_with (go_at_call 75; refine (km).mono ?_; rintro e w1 ⟨rfl, h1⟩; have h1 := h1.symm; subst h1)
    go_ret
    exact ⟨rfl, rfl⟩
/-- Where the bytes of a form stand, since the world w0. -/
structure FmSt (K : Nat → Prop) (w0 : World) (R : Nat) (q : List Int) (W : World) : Prop where
  rd : Rdr K 77 W R (R + 1) q
  old : Below w0.heap.size w0 W
  le : R + 1 ≤ W.heap.size
  len : q.length ≤ 140737488355328
structure FmIn (w0 : World) (R : Nat) : Prop where
  env : EnvO w0
  r : w0.heap.size ≤ R
theorem FmSt.below {w0 : World} {R : Nat} {q : List Int} {W W' : World} (hi : FmIn w0 R) (h : FmSt K w0 R q W) (hb : Below (R + 1) W W') : FmSt K w0 R q W' :=
  ⟨h.rd.below hb, h.old.trans (hb.mono (by have := hi.r; omega)), Nat.le_trans h.le hb.size, h.len⟩
theorem FmSt.env {w0 : World} {R : Nat} {q : List Int} {W : World} (hi : FmIn w0 R) (h : FmSt K w0 R q W) : EnvO W := hi.env.below h.old
theorem FmSt.step {w0 : World} {R : Nat} {q q' : List Int} {W W1 w2 : World} (hi : FmIn w0 R) (h : FmSt K w0 R q W) (hb : Below W.heap.size W W1) (hp : Rdr K 77 w2 R (R + 1) q') (hg : W1.grownBy w2 (some R)) (hl : q'.length ≤ q.length) : FmSt K w0 R q' w2 ∧ Only (fun j => j = R) W w2 := by
  have h1 := hi.r
  have h4 := h.le
  have h5 := hb.size
  have ho : Only (fun j => j = R) W1 w2 := (Only.ofGrown hg).mono (fun _ _ e => by simpa using e.symm)
  have h6 := ho.size
  refine ⟨⟨hp, (h.old.trans (hb.mono h.old.size)).trans (ho.below (Nat.le_trans h.old.size h5) (fun j hj => by omega)), by omega, Nat.le_trans hl h.len⟩, ((Only.ofBelow hb).mono (fun _ _ e => e.elim)).trans ho (fun j hj e => e)⟩
abbrev fmP (R : Nat) : Value := .pointer (some ⟨R, 0, none⟩)
abbrev fmV (R : Nat) : Value := .agg #[fmP R]
def fmD (q : List Int) : Int × Int × List Int := (if 7 < (rnum q).1 then 0 else ((rnum q).1 : Int), if 7 < (rnum q).1 then 4 else (rnum q).2.1, (rnum q).2.2)
def fmN (q : List Int) : Int × Int × List Int := (unfoldN ((rnum q).1 % 18446744073709551616), (rnum q).2.1, (rnum q).2.2)
theorem fmN_is {q : List Int} (h : (rnum q).1 < 18446744073709551616) : fmN q = (unfoldN (rnum q).1, (rnum q).2.1, (rnum q).2.2) := by unfold fmN; rw [Nat.mod_eq_of_lt h]
theorem fmN_i64 (q : List Int) : I64 (fmN q).1 := by
  have h : (rnum q).1 % 18446744073709551616 < 18446744073709551616 := Nat.mod_lt _ (by decide)
  show I64 (unfoldN ((rnum q).1 % 18446744073709551616))
  generalize (rnum q).1 % 18446744073709551616 = n at h
  unfold I64 unfoldN
  split <;> omega
theorem box102 {W : World} {R : Nat} : (W.alloc (.cells #[fmP R] 102)).cell? ⟨W.heap.size, 0, none⟩ = some (fmP R) := (cell_of_row _ _ 0 _ 102 (0, 0) (heap_alloc_new _ _)).trans rfl

set_option maxHeartbeats 1000000 in
set_option maxRecDepth 100000 in
theorem fmdo_st {w0 : World} {R : Nat} {q : List Int} {W : World} (hi : FmIn w0 R) (h : FmSt K w0 R q W) :
    Calls Tryz.prog 220 #[fmV R] W fun e w' => e = .returned (.tuple #[.int .i64 (fmD q).1, .int .i64 (fmD q).2.1]) ∧ FmSt K w0 R (fmD q).2.2 w' ∧ Only (fun j => j = R) W w' := by
  obtain ⟨W1, hW1⟩ : ∃ r, r = W.alloc (.cells #[fmP R] 102) := ⟨_, rfl⟩
  have d1 : Below W.heap.size W W1 := by rw [hW1]; exact (Below.refl _ W).alloc (Nat.le_refl _) _
  have k := rnumber_any R (R + 1) q W1 (h.below hi (d1.mono h.le)).rd
  unfold NumPost at k
  have c0 : W1.cell? ⟨W.heap.size, 0, none⟩ = some (fmP R) := by rw [hW1]; exact box102
  obtain ⟨hlt, hle⟩ := rnum_lt (t := 77) h.rd
  have hst := fun w2 hp hg => FmSt.step (q' := (rnum q).2.2) (w2 := w2) hi h d1 hp hg hle
  have hD : fmD q = (if 7 < (rnum q).1 then 0 else ((rnum q).1 : Int), if 7 < (rnum q).1 then 4 else (rnum q).2.1, (rnum q).2.2) := rfl
  rw [hD]
  clear hD
  generalize rnum q = Z at k hst hlt ⊢
  obtain ⟨n, er, l'⟩ := Z
  dsimp only at k hst hlt ⊢
  have HW := hide (And.intro hW1 hst)
  clear h hi d1 hst hW1 hle
  by_cases hn : 7 < n
  · have hnb : decide ((7 : Int) < (n : Int)) = true := by simp; omega
    simp only [hn, if_true]
    go_enter Tryz.func220, Tryz.ntmps220
    go_upto_region 1 with fail
    rw [← HW.out.1]
    go_wp2_with (go_at_call 177; refine k.mono ?_; rintro e w2 ⟨rfl, hp, hg⟩; have H2 := hide (HW.out.2 w2 hp hg); clear hp hg)
    go_ret2
    exact ⟨rfl, H2.out⟩
  · have hnb : decide ((7 : Int) < (n : Int)) = false := by simp; omega
    have hw64 : IntKind.i64.wrap (n : Int) = (n : Int) := by rw [IntKind.wrap_i64]; omega
    simp only [hn, if_false]
    go_enter Tryz.func220, Tryz.ntmps220
    go_upto_region 1 with fail
    rw [← HW.out.1]
    go_wp2_with (go_at_call 177; refine k.mono ?_; rintro e w2 ⟨rfl, hp, hg⟩; have H2 := hide (HW.out.2 w2 hp hg); clear hp hg)
    go_ret2
    exact ⟨rfl, H2.out⟩

set_option maxHeartbeats 1000000 in
set_option maxRecDepth 100000 in
theorem fmkey_st {w0 : World} {R : Nat} {q : List Int} {W : World} (hi : FmIn w0 R) (h : FmSt K w0 R q W) :
    Calls Tryz.prog 221 #[fmV R] W fun e w' => e = .returned (.tuple #[.string (rtext 64 q).1, .int .i64 (rtext 64 q).2.1]) ∧ FmSt K w0 R (rtext 64 q).2.2 w' ∧ Only (fun j => j = R) W w' := by
  obtain ⟨W1, hW1⟩ : ∃ r, r = W.alloc (.cells #[fmP R] 102) := ⟨_, rfl⟩
  have d1 : Below W.heap.size W W1 := by rw [hW1]; exact (Below.refl _ W).alloc (Nat.le_refl _) _
  have k := takeKey_any R (R + 1) q W1 (h.below hi (d1.mono h.le)).rd h.len
  have c0 : W1.cell? ⟨W.heap.size, 0, none⟩ = some (fmP R) := by rw [hW1]; exact box102
  have hle : (rtext 64 q).2.2.length ≤ q.length := rbytes_left 64 q
  have hst := fun w2 hp hg => FmSt.step (q' := (rtext 64 q).2.2) (w2 := w2) hi h d1 hp hg hle
  generalize rtext 64 q = Z at k hst ⊢
  obtain ⟨n, er, l'⟩ := Z
  dsimp only at k hst ⊢
  have HW := hide (And.intro hW1 hst)
  clear h hi d1 hst hW1 hle
  go_enter Tryz.func221, Tryz.ntmps221
  go_upto_region 1 with fail
  rw [← HW.out.1]
  go_wp2_with (go_at_call 225; refine k.mono ?_; rintro e w2 ⟨rfl, hp, hg⟩; have H2 := hide (HW.out.2 w2 hp hg); clear hp hg)
  go_ret2
  exact ⟨rfl, H2.out⟩

set_option maxHeartbeats 1000000 in
set_option maxRecDepth 100000 in
theorem fmtext_st {w0 : World} {R : Nat} {q : List Int} {W : World} (hi : FmIn w0 R) (h : FmSt K w0 R q W) :
    Calls Tryz.prog 224 #[fmV R] W fun e w' => e = .returned (.tuple #[.string (rtext 256 q).1, .int .i64 (rtext 256 q).2.1]) ∧ FmSt K w0 R (rtext 256 q).2.2 w' ∧ Only (fun j => j = R) W w' := by
  obtain ⟨W1, hW1⟩ : ∃ r, r = W.alloc (.cells #[fmP R] 102) := ⟨_, rfl⟩
  have d1 : Below W.heap.size W W1 := by rw [hW1]; exact (Below.refl _ W).alloc (Nat.le_refl _) _
  have k := takeText_any R (R + 1) 256 q W1 (h.below hi (d1.mono h.le)).rd (by omega) h.len
  have c0 : W1.cell? ⟨W.heap.size, 0, none⟩ = some (fmP R) := by rw [hW1]; exact box102
  have hle : (rtext 256 q).2.2.length ≤ q.length := rbytes_left 256 q
  have hst := fun w2 hp hg => FmSt.step (q' := (rtext 256 q).2.2) (w2 := w2) hi h d1 hp hg hle
  generalize rtext 256 q = Z at k hst ⊢
  obtain ⟨n, er, l'⟩ := Z
  dsimp only at k hst ⊢
  have HW := hide (And.intro hW1 hst)
  clear h hi d1 hst hW1 hle
  go_enter Tryz.func224, Tryz.ntmps224
  go_upto_region 1 with fail
  rw [← HW.out.1]
  go_wp2_with (go_at_call 228; refine k.mono ?_; rintro e w2 ⟨rfl, hp, hg⟩; have H2 := hide (HW.out.2 w2 hp hg); clear hp hg)
  go_ret2
  exact ⟨rfl, H2.out⟩

set_option maxHeartbeats 1000000 in
set_option maxRecDepth 100000 in
theorem fmnum_st {w0 : World} {R : Nat} {q : List Int} {W : World} (hi : FmIn w0 R) (h : FmSt K w0 R q W) :
    Calls Tryz.prog 222 #[fmV R] W fun e w' => e = .returned (.tuple #[.int .i64 (fmN q).1, .int .i64 (fmN q).2.1]) ∧ FmSt K w0 R (fmN q).2.2 w' ∧ Only (fun j => j = R) W w' := by
  obtain ⟨W1, hW1⟩ : ∃ r, r = W.alloc (.cells #[fmP R] 102) := ⟨_, rfl⟩
  have d1 : Below W.heap.size W W1 := by rw [hW1]; exact (Below.refl _ W).alloc (Nat.le_refl _) _
  obtain ⟨hlt, hle⟩ := rnum_lt (t := 77) h.rd
  have k := rsigned_any R (R + 1) q W1 (h.below hi (d1.mono h.le)).rd hlt
  have c0 : W1.cell? ⟨W.heap.size, 0, none⟩ = some (fmP R) := by rw [hW1]; exact box102
  have hst := fun w2 hp hg => FmSt.step (q' := (fmN q).2.2) (w2 := w2) hi h d1 hp hg hle
  have k : Calls Tryz.prog 226 #[.pointer (some ⟨R, 0, none⟩)] W1 (fun e w' => e = .returned (.tuple #[.int .i64 (fmN q).1, .int .i64 (fmN q).2.1]) ∧ Rdr K 77 w' R (R + 1) (fmN q).2.2 ∧ W1.grownBy w' (some R)) := by rw [fmN_is hlt]; exact k
  generalize fmN q = Z at k hst ⊢
  obtain ⟨n, er, l'⟩ := Z
  dsimp only at k hst ⊢
  have HW := hide (And.intro hW1 hst)
  clear h hi d1 hst hW1 hle hlt
  go_enter Tryz.func222, Tryz.ntmps222
  go_upto_region 1 with fail
  rw [← HW.out.1]
  go_wp2_with (go_at_call 226; refine k.mono ?_; rintro e w2 ⟨rfl, hp, hg⟩; have H2 := hide (HW.out.2 w2 hp hg); clear hp hg)
  go_ret2
  exact ⟨rfl, H2.out⟩
end Go.Proofs.YtpepgoelnagoaaaGreatDoor
