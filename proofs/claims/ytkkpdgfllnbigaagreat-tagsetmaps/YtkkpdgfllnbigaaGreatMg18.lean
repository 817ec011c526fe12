/-
  tagset: the tags of a map (123), May (28).
  The sort's library functions, laid over elements, in plain words.
-/
import Derived.Test.YtkkpdgfllnbigaaGreatMg17
import Derived.Test.YtkkpdgfllnbigaaGreatMg10
import Derived.Test.YtkkpdgfllnbigaaGreatMg11
import Derived.Shelf.SlSortCmp.NoneTotal
import Derived.Ground.SlsfProg
import Derived.Test.YtkkpdgfllnbigaaGreatProg
namespace Go.Proofs.YtkkpdgfllnbigaaGreat.Tg
open Go.RowKit Go.Shelf
set_option linter.unusedSimpArgs false
attribute [local go_sem] Oper.semAt_some

/-- An operation of a plain region within a round that turns the world. -/
theorem turn_in {r n : Nat} {P : Program} {ops : Array Oper} {rest : List Oper} {o : Oper} {a : Act} {w w' : World} {Q : Exit → Act → World → Prop} {OP : Op} {T : TypeId} {v : Value} (hgd : o.guard = none) (ho : o.op = OP) (ht : o.type = T) (hd : ∀ c, OP ≠ .defer c)
    (hy : (execOp a.eval { dst := none, op := OP, type := T, pos := "", after := #[], guard := none }).run P w = .ok (.value v) w') (h : wpListIn (Fence.wide.inRound r) n P ops Q rest (a.put o.dst v) w') : wpListIn (Fence.wide.inRound r) n P ops Q (o :: rest) a w :=
  wpListIn_plain hgd fun K hK => by
    refine ⟨fun _ _ => trivial, ?_⟩
    rw [Oper.semAt_eq _ _ _ (by rw [ho]; exact hd), exec_same a.eval o ho ht, hy]
    exact hK _ _ h
/-- One is laid behind; where the row then lies. -/
theorem push_OeW {w : World} {B b : Nat} {v : Value} {p : List El} {y : El} (hown : Oe w B v p) (hcell : w.heap[b]? = some (.cells (encE y).toArray 53 (0, 0))) (hp : p.length + 1 ≤ 1000000) (hB : B ≤ w.heap.size) :
    ∃ a' c' w', (Builtin.append_ #[22, 22] 22 #[v, .slice (some ⟨b, 0, none⟩) 1 1]).run Tryz.prog w = .ok (.slice a' (p.length + 1) c') w' ∧ Oe w' B (.slice a' (p.length + 1) c') (p ++ [y]) ∧ Only (fun k => v.ownBlock = some k) w w' ∧ Where w v (.slice a' (p.length + 1) c') := by
  obtain ⟨i0, hi, hz0, hz1, hz2⟩ := info_of info77
  obtain ⟨v', w', hr, h2, h3, h4⟩ := append_where (P := Tryz.prog) w 22 22 53 i0 zeroE 6 64 Tryz.underlying22 hi hz0 hz1 hz2 rfl (by decide) v p.length (flatE p) (Oe.lift hown (Nat.zero_le _)) ⟨b, 0, none⟩ 1 1 (encE y) (by simp [encE]) (fun j u hj => by rw [add_lit, cell_of_row _ _ (0 + j) (encE y).toArray 53 (0, 0) hcell, Nat.zero_add]; simpa using hj) (fun u hu => flatE_one [y] u (by simpa [flatE] using hu)) (by unfold maxLen; omega) (by omega)
  have hO : Oe w' 0 v' (p ++ [y]) := by
    unfold Oe
    rw [flatE_app, List.length_append, flatE_cons, flatE_nil, List.append_nil]
    exact h2
  obtain ⟨a', c', hv, _, _⟩ := row_form hO
  subst hv
  rw [List.length_append] at hO hr h4
  refine ⟨a', c', w', hr, ?_, Only.ofGrown h3, h4⟩
  rcases hO with ⟨q1, q2⟩
  refine ⟨q1, ?_⟩
  rcases q2 with q2 | ⟨g, cap, cur, e, hb, r⟩
  · exact .inl q2
  · refine .inr ⟨g, cap, cur, e, ?_, r⟩
    rcases h4 g (by rw [show (Value.slice a' (p.length + [y].length) c') = _ from e]; rfl) with h | h
    · exact (World.ownsRow.lt hown g h).1
    · omega
theorem leave_cells2 {fn : Func} {tmps : Array Value} {p q : Tmp} (b c : Nat) {ao : Option Addr} {n cap : Nat} {x : Bool} {R : Ending → World → Prop} {W : World} (h : fn.results = #[.cell p 22, .cell q 4]) (hp : tmps.getD p undef = .pointer (some ⟨b, 0, none⟩)) (hq : tmps.getD q undef = .pointer (some ⟨c, 0, none⟩))
    (hb : W.cell? ⟨b, 0, none⟩ = some (.slice ao n cap)) (hc : W.cell? ⟨c, 0, none⟩ = some (.bool x)) (hR : R (.returned (.tuple #[.slice ao n cap, .bool x])) W) : LeavesInM Fence.wide 6 Tryz.prog fn tmps R [] .returning W := by
  refine leave_none (v := .tuple #[.slice ao n cap, .bool x]) ?_ hR
  have h1 : (loadVar 22 ⟨b, 0, none⟩).run Tryz.prog W = .ok (.slice ao n cap) W := by go_simp
  have h2 : (loadVar 4 ⟨c, 0, none⟩).run Tryz.prog W = .ok (.bool x) W := by go_simp
  have hp' : tmps[p]?.getD undef = .pointer (some ⟨b, 0, none⟩) := by simpa using hp
  have hq' : tmps[q]?.getD undef = .pointer (some ⟨c, 0, none⟩) := by simpa using hq
  simp [results, h, hp', hq', asAddr, Sem.run_bind, Result.andThen, h1, h2]
theorem make53 (n : Nat) (hn : n ≤ 100000) (W : World) : ∃ W', (Instr.makeSlice 22 (.int .i64 0) (.int .i64 (n : Int))).run Tryz.prog W = .ok (.slice (some ⟨W.heap.size, 0, none⟩) 0 n) W' ∧ Oe W' W.heap.size (.slice (some ⟨W.heap.size, 0, none⟩) 0 n) [] ∧ Below W.heap.size W W' := by
  obtain ⟨i0, hi, hz0, hz1, hz2⟩ := info_of info77
  obtain ⟨W1, hmk, hown, hg⟩ := run_makeSlice_owned (P := Tryz.prog) W W.heap.size 22 53 i0 zeroE 6 Tryz.underlying22 hi hz0 hz1 .i64 .i64 n (by omega) (by rw [hz2]; omega) (by unfold maxLen; omega) (Nat.le_refl _)
  exact ⟨W1, hmk, hown, below_own (Below.refl _ W) (Nat.le_refl _) (Own.nil 5 W _) hg⟩
/-- What stands between rounds. -/
structure TgI (wA : World) (Lb Ob R2 R3 B : Nat) (l : List Kv) (k : Nat) (W : World) : Prop where
  only : Only (fun j => (j = Lb ∨ j = Ob ∨ j = R2 ∨ j = R3) ∨ wA.heap.size + 4 ≤ j) wA W
  r2 : W.heap[R2]? = some (.cells #[.slice none 0 0] 22 (0, 0))
  r3 : W.heap[R3]? = some (.cells #[.bool false] 4 (0, 0))
  ok : ∀ j x, j < k → l[j]? = some x → tgV x.1 x.2 = true
  len : k ≤ l.length
  box : ∃ ao c, W.heap[Lb]? = some (.cells #[.slice ao k c] 22 (0, 0)) ∧ Oe W B (.slice ao k c) ((l.map tgE).take k) ∧ ∀ j, (Value.slice ao k c).ownBlock = some j → j = Ob ∨ wA.heap.size + 4 ≤ j
/-- What stands behind a key that is no tag's. -/
structure TgX (wA : World) (Lb Ob R2 R3 : Nat) (l : List Kv) (W : World) : Prop where
  only : Only (fun j => (j = Lb ∨ j = Ob ∨ j = R2 ∨ j = R3) ∨ wA.heap.size + 4 ≤ j) wA W
  r2 : W.heap[R2]? = some (.cells #[.slice none 0 0] 22 (0, 0))
  r3 : W.heap[R3]? = some (.cells #[.bool false] 4 (0, 0))
  bad : mayT l = false
theorem TgI.other {wA : World} {Lb Ob R2 R3 B k : Nat} {l : List Kv} {W W' : World} (h : TgI wA Lb Ob R2 R3 B l k W) (hz : Lb < wA.heap.size ∧ Ob < wA.heap.size ∧ R2 < wA.heap.size ∧ R3 < wA.heap.size) (ho : Only (fun j => j = wA.heap.size + 1) W W') : TgI wA Lb Ob R2 R3 B l k W' := by
  obtain ⟨ao, c, hb, hO, hw⟩ := h.box
  refine ⟨h.only.trans ho (fun j hj e => by have e' : j = wA.heap.size + 1 := e; omega), (ho.block _ (gI h.r2).1 (by omega)).trans h.r2, (ho.block _ (gI h.r3).1 (by omega)).trans h.r3, h.ok, h.len, ao, c, (ho.block _ (gI hb).1 (by omega)).trans hb, hO.only ho (fun j hj e => ?_), hw⟩
  have e' : j = wA.heap.size + 1 := e
  have := hw j hj
  omega
theorem TgX.other {wA : World} {Lb Ob R2 R3 : Nat} {l : List Kv} {W W' : World} (h : TgX wA Lb Ob R2 R3 l W) (hz : Lb < wA.heap.size ∧ Ob < wA.heap.size ∧ R2 < wA.heap.size ∧ R3 < wA.heap.size) (ho : Only (fun j => j = wA.heap.size + 1) W W') : TgX wA Lb Ob R2 R3 l W' :=
  ⟨h.only.trans ho (fun j hj e => by have e' : j = wA.heap.size + 1 := e; omega), (ho.block _ (gI h.r2).1 (by omega)).trans h.r2, (ho.block _ (gI h.r3).1 (by omega)).trans h.r3, h.bad⟩

set_option maxHeartbeats 8000000 in
set_option maxRecDepth 100000 in
theorem tags123 (t : Pm.T) (w : World) (ht : Pm.In w t) (hs : Pm.Srt t.list) (hk : ∀ x ∈ t.list, x.1.size ≤ 9223372036854775807) (hn : t.n ≤ 100000) :
    Calls Tryz.prog 123 #[Pm.mv t] w fun e w' => ∃ ao c, e = .returned (.tuple #[.slice ao (tagsL t.list).length c, .bool (mayT t.list)]) ∧ Oe w' w.heap.size (.slice ao (tagsL t.list).length c) (tagsL t.list) ∧ Below w.heap.size w w' := by
  obtain ⟨l, hl⟩ : ∃ l, l = t.list := ⟨_, rfl⟩
  obtain ⟨a, ha⟩ := t.ptr_shape
  have hll : l.length = t.n := by rw [hl, Pm.T.n_eq]
  obtain ⟨w1, hw1⟩ : ∃ w1, w1 = ((w.alloc (.cells #[.pointer a] 27)).alloc (.cells #[.slice none 0 0] 22)).alloc (.cells #[.bool false] 4) := ⟨_, rfl⟩
  obtain ⟨m0, m1, m2, b1⟩ := new3r w (.cells #[.pointer a] 27) (.cells #[.slice none 0 0] 22) (.cells #[.bool false] 4)
  rw [← hw1] at m0 m1 m2 b1
  have s1 : w1.heap.size = w.heap.size + 3 := by rw [hw1]; simp
  obtain ⟨Mb, hMb⟩ : ∃ q, q = w.heap.size := ⟨_, rfl⟩
  obtain ⟨R2, hR2⟩ : ∃ q, q = w.heap.size + 1 := ⟨_, rfl⟩
  obtain ⟨R3, hR3⟩ : ∃ q, q = w.heap.size + 1 + 1 := ⟨_, rfl⟩
  rw [← hMb] at m0
  rw [← hR2] at m1
  rw [show w.heap.size + 2 = R3 by omega] at m2
  have hlen := Pm.mLen_any t w1 (Pm.In.below b1 ht)
  have hAll := fun W => Pm.mAll_any t W
  unfold Pm.mv at hlen ⊢
  simp only [Pm.mv] at hAll
  simp only [ha] at hlen hAll ⊢
  have HW1 := hide (And.intro hw1 (And.intro hMb (And.intro hR2 hR3)))
  have HB := hide (And.intro b1 (And.intro ht (And.intro hs (And.intro hk (And.intro hl (And.intro hll hn))))))
  have HM := hide (And.intro m0 (And.intro m1 (And.intro m2 s1)))
  have cM := (cell_of_row w1 Mb 0 _ 27 (0, 0) m0).trans rfl
  have HA := hide ha
  have HMK := hide (fun W => make53 t.n hn W)
  clear b1 ht hs hk hl hll hn m0 m1 m2 s1 hw1 hMb hR2 hR3 ha
  rw [← HB.out.2.2.2.2.1]
  refine calls_marks Tryz.func123 rfl ?_
  simp only [Tryz.ntmps123, List.size_toArray, List.length_cons, List.length_nil, Nat.reduceAdd, Nat.reduceSub, Array.replicate_succ, Array.replicate_zero, List.push_toArray, List.append_toArray, List.nil_append, List.cons_append]
  go_upto_region 1 with fail
  rw [← HW1.out.1]
  rw [← HW1.out.2.2.2]
  rw [← HW1.out.2.2.1]
  rw [← HW1.out.2.1]
  go_upto_region 2 with (go_at_call 21; refine hlen.mono ?_; rintro e w2 ⟨rfl, b2⟩; obtain ⟨w3, mk3, ho3, b3⟩ := HMK.out w2; have H2 := hide (And.intro b2 (And.intro ho3 b3)); clear b2 ho3 b3; dsimp only)
  obtain ⟨b2, ho3, b3⟩ := H2.out
  obtain ⟨w4, hw4⟩ : ∃ q, q = w3.alloc (.cells #[.slice (some ⟨w2.heap.size, 0, none⟩) 0 t.n] 22) := ⟨_, rfl⟩
  have m4 := heap_alloc_new w3 (.cells #[.slice (some ⟨w2.heap.size, 0, none⟩) 0 t.n] 22)
  have b4 : Below w3.heap.size w3 w4 := by rw [hw4]; exact (Below.refl _ w3).alloc (Nat.le_refl _) _
  rw [← hw4] at m4
  have ho4 := ho3.below b4
  have hOlt := (World.ownsRow.lt ho3 w2.heap.size rfl).2
  have b34 := b3.trans (b4.mono b3.size)
  have b14 : Below w1.heap.size w1 w4 := b2.trans (b34.mono b2.size)
  have hs2 := b2.size
  have hs3 := b4.size
  obtain ⟨Ob, hOb⟩ : ∃ q, q = w2.heap.size := ⟨_, rfl⟩
  obtain ⟨Lb, hLb⟩ : ∃ q, q = w3.heap.size := ⟨_, rfl⟩
  rw [← hw4, ← hLb, ← hOb]
  rw [← hOb] at m4 ho4 hOlt hs2
  rw [← hLb] at m4 hOlt
  have hL4 := (gI m4).1
  have bw4 : Below w.heap.size w w4 := HB.out.1.trans (b14.mono HB.out.1.size)
  have cM4 := cell_stays cM b14
  have hAll4 := hAll w4
  obtain ⟨wA, hwA⟩ : ∃ q, q = ((w4.alloc (.cells #[.pointer a] 27)).alloc (.cells #[.pointer a] 27)).alloc (.cells #[.string ⟨#[]⟩] 9) := ⟨_, rfl⟩
  rw [← hwA] at hAll4
  have sA : wA.heap.size = w4.heap.size + 3 := by rw [hwA]; simp
  obtain ⟨-, n1, n2, bA⟩ := new3r w4 (.cells #[.pointer a] 27) (.cells #[.pointer a] 27) (.cells #[.string ⟨#[]⟩] 9)
  rw [← hwA] at n1 n2 bA
  have cLA : wA.cell? ⟨w4.heap.size + 2, 0, none⟩ = some (.string ⟨#[]⟩) := (cell_of_row _ _ 0 _ 9 (0, 0) n2).trans rfl
  have cMA : wA.cell? ⟨w4.heap.size + 1, 0, none⟩ = some t.ptr := by rw [HA.out]; exact (cell_of_row _ _ 0 _ 27 (0, 0) n1).trans rfl
  have bwA := bw4.trans (bA.mono bw4.size)
  have iA : Pm.In wA t := Pm.In.below bwA HB.out.2.1
  have hit := Pm.iter_from t ⟨#[]⟩ (w4.heap.size + 2) (w4.heap.size + 1) wA iA cLA cMA
  rw [Pm.all_is HB.out.2.2.1, ← HB.out.2.2.2.2.1] at hit
  have hz : Lb < wA.heap.size ∧ Ob < wA.heap.size ∧ R2 < wA.heap.size ∧ R3 < wA.heap.size := by
    have h1 := HW1.out; have h2 := HM.out.2.2.2; omega
  have hlow : w.heap.size ≤ Mb ∧ Mb < R2 ∧ R2 < R3 ∧ R3 < Ob ∧ Ob < Lb ∧ Lb < w4.heap.size := by
    have h1 := HW1.out; have h2 := HM.out.2.2.2; omega
  have hKlt : ∀ j, Pm.KF t (w4.heap.size + 2) (w4.heap.size + 1) j → j < wA.heap.size := fun j hj => by
    rcases hj with rfl | rfl | hj
    · omega
    · omega
    · exact iA.blk_lt hj
  have hDK : ∀ j, (j = Lb ∨ j = Ob ∨ j = R2 ∨ j = R3) ∨ wA.heap.size + 4 ≤ j → ¬ Pm.KF t (w4.heap.size + 2) (w4.heap.size + 1) j := fun j d hj => by
    rcases hj with rfl | rfl | hj
    · omega
    · omega
    · have h1 := HB.out.2.1.blk_lt hj
      have h2 := iA.blk_lt hj
      omega
  have hDout : ∀ j, wA.heap.size ≤ j → j < wA.heap.size + 4 → ¬ ((j = Lb ∨ j = Ob ∨ j = R2 ∨ j = R3) ∨ wA.heap.size + 4 ≤ j) := fun j h1 h2 d => by omega
  have h0 : TgI wA Lb Ob R2 R3 w.heap.size l 0 wA := by
    have b1A := b14.trans (bA.mono b14.size)
    refine ⟨Only.refl _ _, (b1A.block _ (gI HM.out.2.1).1).trans HM.out.2.1, (b1A.block _ (gI HM.out.2.2.1).1).trans HM.out.2.2.1, fun j x hj => by omega, Nat.zero_le _, some ⟨Ob, 0, none⟩, t.n, (bA.block _ hL4).trans m4, ?_, fun j hj => by injection hj with hj; exact .inl hj.symm⟩
    rw [List.take_zero]
    exact (ho4.below bA).lift (by omega)
  have HZ := hide (And.intro hz (And.intro hlow (And.intro bwA (And.intro sA h0))))
  clear b2 ho3 b3 hw4 m4 b4 ho4 hOlt b34 b14 hs2 hs3 hOb hLb hL4 bw4 hwA n1 n2 bA cLA cMA bwA iA hz hlow h0 sA hAll hlen mk3 H2
  go_wp2_with (go_at_call 139; refine hAll4.mono ?_; rintro e w' ⟨rfl, hw'⟩; obtain rfl : wA = w' := hw'.symm; clear hw'; dsimp only)
  clear hAll4 cM4 cM
  refine Pm.range_it (Q := _) 202 enters202 _ l (fun x => #[.string x.1, .string x.2]) _ hit rfl (fun _ _ => rfl) hKlt (fun j => (j = Lb ∨ j = Ob ∨ j = R2 ∨ j = R3) ∨ wA.heap.size + 4 ≤ j) hDK (hDout _ (by omega) (by omega)) (hDout _ (by omega) (by omega)) (hDout _ (by omega) (by omega)) (hDout _ (by omega) (by omega))
    (fun k W' => TgI wA Lb Ob R2 R3 w.heap.size l k W') (fun cd W' => cd = .ret ∧ TgX wA Lb Ob R2 R3 l W') (fun k A A' hi ho => hi.other HZ.out.1 ho) (fun c A A' hi ho => ⟨hi.1, hi.2.other HZ.out.1 ho⟩) HZ.out.2.2.2.2 ?hround ?hdone ?hstop
  case hdone =>
    rintro W hi hlt hk0
    obtain ⟨ao, cp, hbx, hO, hwh⟩ := hi.box
    rw [List.take_of_length_le (by rw [List.length_map]; exact Nat.le_refl _)] at hO
    have hm : mayT l = true := List.all_eq_true.2 (fun x hx => by obtain ⟨j, hj, rfl⟩ := List.getElem_of_mem hx; exact hi.ok j _ hj (List.getElem?_eq_getElem hj))
    have hbW : Below w.heap.size w W := Below.only HZ.out.2.2.1 hi.only HZ.out.2.2.1.size (fun j e => by have := HZ.out; omega)
    obtain ⟨hz, hlow, -, sA, -⟩ := HZ.out
    have hlt3 := (gI hi.r3).1
    obtain ⟨u2, o2⟩ := set_one (i := 0) (.slice ao l.length cp) hi.r2
    have r3' := (o2.block R3 hlt3 (fun e => by have e' : R3 = R2 := e; omega)).trans hi.r3
    obtain ⟨u3, o3⟩ := set_one (i := 0) (.bool true) r3'
    have u2' := (o3.block R2 (gI u2).1 (fun e => by have e' : R2 = R3 := e; omega)).trans u2
    have k2 := (o2.block wA.heap.size hlt (fun e => by have e' : wA.heap.size = R2 := e; omega)).trans hk0
    have k3 := (o3.block wA.heap.size (gI k2).1 (fun e => by have e' : wA.heap.size = R3 := e; omega)).trans k2
    have cL : W.cell? ⟨Lb, 0, none⟩ = some (.slice ao l.length cp) := (cell_of_row _ _ 0 _ 22 (0, 0) hbx).trans rfl
    have c2 : W.cell? ⟨R2, 0, none⟩ = some (.slice none 0 0) := (cell_of_row _ _ 0 _ 22 (0, 0) hi.r2).trans rfl
    have f2 := frozen_of_row _ _ 0 _ 22 hi.r2
    have c3 : (W.setCell ⟨R2, 0, none⟩ (.slice ao l.length cp)).cell? ⟨R3, 0, none⟩ = some (.bool false) := (cell_of_row _ _ 0 _ 4 (0, 0) r3').trans rfl
    have f3 := frozen_of_row _ _ 0 _ 4 r3'
    have hO2 := (hO.only o2 (fun j hj e => by have e' : j = R2 := e; have := hwh j hj; omega)).only o3 (fun j hj e => by have e' : j = R3 := e; have := hwh j hj; omega)
    have hb3 : Below w.heap.size w ((W.setCell ⟨R2, 0, none⟩ (.slice ao l.length cp)).setCell ⟨R3, 0, none⟩ (.bool true)) := (Below.only hbW o2 hbW.size (fun j e => by have e' : j = R2 := e; omega)) |> fun h => Below.only h o3 h.size (fun j e => by have e' : j = R3 := e; omega)
    have HE := hide (And.intro k3 (And.intro u2' (And.intro u3 (And.intro hO2 (And.intro hb3 (And.intro hm hwh))))))
    clear hit hKlt hDK hDout hbx hO hwh hm hbW u2 o2 u3 o3 u2' k2 k3 hO2 hb3 r3' hk0 hlt hlt3 sA hi
    go_wp2
    refine ret_lv ?_
    dsimp only
    obtain ⟨hk3, hu2, hu3, hO2, hb3, hm, hwh⟩ := HE.out
    obtain ⟨hz, hlow, -, sA, -⟩ := HZ.out
    have o9 := only_putObj ((W.setCell ⟨R2, 0, none⟩ (.slice ao l.length cp)).setCell ⟨R3, 0, none⟩ (.bool true)) wA.heap.size (.deferred none)
    have v2 := (o9.block R2 (gI hu2).1 (fun e => by have e' : R2 = wA.heap.size := e; omega)).trans hu2
    have v3 := (o9.block R3 (gI hu3).1 (fun e => by have e' : R3 = wA.heap.size := e; omega)).trans hu3
    refine leave_mark hk3 (leave_cells2 R2 R3 rfl rfl rfl ((cell_of_row _ _ 0 _ 22 (0, 0) v2).trans rfl) ((cell_of_row _ _ 0 _ 4 (0, 0) v3).trans rfl) ?_)
    have hL : tagsL l = l.map tgE := by unfold tagsL; rw [if_pos hm]
    rw [hL, hm, List.length_map]
    refine ⟨ao, cp, rfl, ?_, Below.only hb3 o9 hb3.size (fun j e => by have e' : j = wA.heap.size := e; omega)⟩
    exact hO2.only o9 (fun j hj e => by have e' : j = wA.heap.size := e; have := hwh j hj; omega)
  case hstop =>
    rintro c W ⟨rfl, hi⟩ hlt hk0
    have hbW : Below w.heap.size w W := Below.only HZ.out.2.2.1 hi.only HZ.out.2.2.1.size (fun j e => by have := HZ.out; omega)
    have HE := hide (And.intro hk0 (And.intro hi hbW))
    clear hit hKlt hDK hDout hi hbW hk0 hlt
    go_wp2
    refine ret_lv ?_
    dsimp only
    obtain ⟨hk3, hi, hbW⟩ := HE.out
    obtain ⟨hz, hlow, -, sA, -⟩ := HZ.out
    have o9 := only_putObj W wA.heap.size (.deferred none)
    have v2 := (o9.block R2 (gI hi.r2).1 (fun e => by have e' : R2 = wA.heap.size := e; omega)).trans hi.r2
    have v3 := (o9.block R3 (gI hi.r3).1 (fun e => by have e' : R3 = wA.heap.size := e; omega)).trans hi.r3
    refine leave_mark hk3 (leave_cells2 R2 R3 rfl rfl rfl ((cell_of_row _ _ 0 _ 22 (0, 0) v2).trans rfl) ((cell_of_row _ _ 0 _ 4 (0, 0) v3).trans rfl) ?_)
    have hL : tagsL l = [] := by unfold tagsL; rw [hi.bad]; rfl
    rw [hL, hi.bad]
    exact ⟨none, 0, rfl, Oe.nil _ _, Below.only hbW o9 hbW.size (fun j e => by have e' : j = wA.heap.size := e; omega)⟩
  case hround =>
    rintro c ⟨k, x⟩ W hx hi hSame hsz
    have hks := HB.out.2.2.2.1 _ (by rw [← HB.out.2.2.2.2.1]; exact List.mem_of_getElem? hx)
    have hn := HB.out.2.2.2.2.2
    clear hit hKlt hDK hDout hSame
    dsimp only
    gi_wp2
    refine ⟨Only.refl _ _, fun W2 ho2 => ?_⟩
    have hi2 := hi.other HZ.out.1 ho2
    have hz2 : wA.heap.size + 4 ≤ W2.heap.size := Nat.le_trans hsz ho2.size
    have h177 := tag177 k x W2 hks
    clear hi ho2 hsz hks
    cases hv : tgV k x with
    | false =>
      rw [hv] at h177
      have hbad : mayT l = false := by
        rw [Bool.eq_false_iff]
        intro hm
        have := mayT_mem hm (List.mem_of_getElem? hx)
        rw [hv] at this
        cases this
      have hX : ∀ W3, Below W2.heap.size W2 W3 → W3.cell? ⟨R2, 0, none⟩ = some (.slice none 0 0) ∧ W3.frozen? ⟨R2, 0, none⟩ = false ∧ (W3.setCell ⟨R2, 0, none⟩ (.slice none 0 0)).cell? ⟨R3, 0, none⟩ = some (.bool false) ∧ (W3.setCell ⟨R2, 0, none⟩ (.slice none 0 0)).frozen? ⟨R3, 0, none⟩ = false ∧ Hid (Only (fun j => (j = Lb ∨ j = Ob ∨ j = R2 ∨ j = R3) ∨ wA.heap.size + 4 ≤ j) W2 ((W3.setCell ⟨R2, 0, none⟩ (.slice none 0 0)).setCell ⟨R3, 0, none⟩ (.bool false)) ∧ TgX wA Lb Ob R2 R3 l ((W3.setCell ⟨R2, 0, none⟩ (.slice none 0 0)).setCell ⟨R3, 0, none⟩ (.bool false))) := fun W3 h3 => by
        obtain ⟨hz, hlow, -, sA, -⟩ := HZ.out
        have r2 := (h3.block _ (gI hi2.r2).1).trans hi2.r2
        have r3 := (h3.block _ (gI hi2.r3).1).trans hi2.r3
        obtain ⟨u2, o2⟩ := set_one (i := 0) (.slice none 0 0) r2
        have r3' := (o2.block R3 (gI r3).1 (fun e => by have e' : R3 = R2 := e; omega)).trans r3
        obtain ⟨u3, o3⟩ := set_one (i := 0) (.bool false) r3'
        have u2' := (o3.block R2 (gI u2).1 (fun e => by have e' : R2 = R3 := e; omega)).trans u2
        have oo : Only (fun j => (j = Lb ∨ j = Ob ∨ j = R2 ∨ j = R3) ∨ wA.heap.size + 4 ≤ j) W2 ((W3.setCell ⟨R2, 0, none⟩ (.slice none 0 0)).setCell ⟨R3, 0, none⟩ (.bool false)) := ((below_only h3).next (o2.mono (fun j _ e => .inl (.inr (.inr (.inl e)))))).next (o3.mono (fun j _ e => .inl (.inr (.inr (.inr e)))))
        exact ⟨(cell_of_row _ _ 0 _ 22 (0, 0) r2).trans rfl, frozen_of_row _ _ 0 _ 22 r2, (cell_of_row _ _ 0 _ 4 (0, 0) r3').trans rfl, frozen_of_row _ _ 0 _ 4 r3', hide ⟨oo, hi2.only.next oo, by simpa using u2', by simpa using u3, hbad⟩⟩
      have HX := hide hX
      obtain ⟨s, hs⟩ : ∃ s, s = tgS k x := ⟨_, rfl⟩
      rw [← hs] at h177
      clear hs hX hi2 hv hbad hx hn hz2
      obtain ⟨g, r, lb, n, ix⟩ := s
      dsimp only [svT] at h177
      gi_wp2_with (refine ⟨trivial, CallsIn.inRound _ (callsIn_wide.2 (Calls.mono h177 ?_))⟩; rintro e w5 ⟨rfl, b5⟩; obtain ⟨e1, e2, e3, e4, HY⟩ := HX.out (w5.alloc (.cells #[.int .i64 g, .int .i64 r, .string lb, .int .i64 n, .int .i64 ix] 43)) (b5.trans (((Below.refl _ w5).alloc (Nat.le_refl _) _).mono b5.size)); clear b5; dsimp only)
      exact ⟨HY.out.1, rfl, HY.out.2⟩
    | true =>
      rw [hv] at h177
      obtain ⟨s, hs⟩ : ∃ s, s = tgS k x := ⟨_, rfl⟩
      rw [← hs] at h177
      obtain ⟨ao, cp, hbx, hO, hwh⟩ := hi2.box
      have hcl := (List.getElem?_eq_some_iff.1 hx).1
      have hpl : ((l.map tgE).take c).length = c := by rw [List.length_take, List.length_map]; omega
      have htk : (l.map tgE).take (c + 1) = (l.map tgE).take c ++ [(s, x)] := by
        rw [List.take_add_one, List.getElem?_map, hx, hs]
        rfl
      obtain ⟨g, r, lb, n, ix⟩ := s
      dsimp only [svT] at h177
      have hR : ∀ w5, Below W2.heap.size W2 w5 → ∃ a' c' w8, (Builtin.append_ #[22, 22] 22 #[.slice ao c cp, .slice (some ⟨w5.heap.size + 1, 0, none⟩) 1 1]).run Tryz.prog ((w5.alloc (.cells #[.int .i64 g, .int .i64 r, .string lb, .int .i64 n, .int .i64 ix] 43)).alloc (.cells #[.int .i64 g, .int .i64 r, .string lb, .int .i64 n, .int .i64 ix, .string x] 53)) = .ok (.slice a' (c + 1) c') w8 ∧ (w5.alloc (.cells #[.int .i64 g, .int .i64 r, .string lb, .int .i64 n, .int .i64 ix] 43)).cell? ⟨Lb, 0, none⟩ = some (.slice ao c cp) ∧ w8.cell? ⟨Lb, 0, none⟩ = some (.slice ao c cp) ∧ w8.frozen? ⟨Lb, 0, none⟩ = false ∧ Hid (Only (fun j => (j = Lb ∨ j = Ob ∨ j = R2 ∨ j = R3) ∨ wA.heap.size + 4 ≤ j) W2 (w8.setCell ⟨Lb, 0, none⟩ (.slice a' (c + 1) c')) ∧ TgI wA Lb Ob R2 R3 w.heap.size l (c + 1) (w8.setCell ⟨Lb, 0, none⟩ (.slice a' (c + 1) c'))) := fun w5 h5 => by
        obtain ⟨hz, hlow, bwA, sA, -⟩ := HZ.out
        have b6 : Below w5.heap.size w5 (w5.alloc (.cells #[.int .i64 g, .int .i64 r, .string lb, .int .i64 n, .int .i64 ix] 43)) := (Below.refl _ w5).alloc (Nat.le_refl _) _
        have b7 : Below (w5.alloc (.cells #[.int .i64 g, .int .i64 r, .string lb, .int .i64 n, .int .i64 ix] 43)).heap.size (w5.alloc (.cells #[.int .i64 g, .int .i64 r, .string lb, .int .i64 n, .int .i64 ix] 43)) ((w5.alloc (.cells #[.int .i64 g, .int .i64 r, .string lb, .int .i64 n, .int .i64 ix] 43)).alloc (.cells #[.int .i64 g, .int .i64 r, .string lb, .int .i64 n, .int .i64 ix, .string x] 53)) := (Below.refl _ _).alloc (Nat.le_refl _) _
        have h6 := h5.trans (b6.mono h5.size)
        have h7 := h6.trans (b7.mono h6.size)
        have hm := heap_alloc_new (w5.alloc (.cells #[.int .i64 g, .int .i64 r, .string lb, .int .i64 n, .int .i64 ix] 43)) (.cells #[.int .i64 g, .int .i64 r, .string lb, .int .i64 n, .int .i64 ix, .string x] 53)
        have hsz6 : (w5.alloc (.cells #[.int .i64 g, .int .i64 r, .string lb, .int .i64 n, .int .i64 ix] 43)).heap.size = w5.heap.size + 1 := by simp
        rw [hsz6] at hm
        generalize hw7 : (w5.alloc (.cells #[.int .i64 g, .int .i64 r, .string lb, .int .i64 n, .int .i64 ix] 43)).alloc (.cells #[.int .i64 g, .int .i64 r, .string lb, .int .i64 n, .int .i64 ix, .string x] 53) = w7 at h7 hm ⊢
        clear hw7 b7
        have hO7 := hO.below h7
        obtain ⟨a', c', w8, hr, hO8, ho8, hW8⟩ := push_OeW (y := ((g, r, lb, n, ix), x)) hO7 hm (by rw [hpl]; omega) (by have := h7.size; have := bwA.size; omega)
        rw [hpl] at hr hO8 hW8
        have bx7 := (h7.block _ (gI hbx).1).trans hbx
        have nown : ∀ j, j < wA.heap.size → j ≠ Ob → ¬ (Value.slice ao c cp).ownBlock = some j := fun j h1 h2 e => by have := hwh j e; omega
        have bx8 := (ho8.block Lb (gI bx7).1 (nown Lb (by omega) (by omega))).trans bx7
        obtain ⟨u9, o9⟩ := set_one (i := 0) (.slice a' (c + 1) c') bx8
        have q2 := (h7.block _ (gI hi2.r2).1).trans hi2.r2
        have q3 := (h7.block _ (gI hi2.r3).1).trans hi2.r3
        have q2' := (ho8.block R2 (gI q2).1 (nown R2 (by omega) (by omega))).trans q2
        have q3' := (ho8.block R3 (gI q3).1 (nown R3 (by omega) (by omega))).trans q3
        have q2'' := (o9.block R2 (gI q2').1 (fun e => by have e' : R2 = Lb := e; omega)).trans q2'
        have q3'' := (o9.block R3 (gI q3').1 (fun e => by have e' : R3 = Lb := e; omega)).trans q3'
        have hW9 : ∀ j, (Value.slice a' (c + 1) c').ownBlock = some j → j = Ob ∨ wA.heap.size + 4 ≤ j := fun j hj => by
          rcases hW8 j hj with h | h
          · exact hwh j h
          · have := h7.size; omega
        have oo : Only (fun j => (j = Lb ∨ j = Ob ∨ j = R2 ∨ j = R3) ∨ wA.heap.size + 4 ≤ j) W2 (w8.setCell ⟨Lb, 0, none⟩ (.slice a' (c + 1) c')) := ((below_only h7).next (ho8.mono (fun j _ e => by have := hwh j e; omega))).next (o9.mono (fun j _ e => .inl (.inl e)))
        have c6 := cell_stays ((cell_of_row _ _ 0 _ 22 (0, 0) hbx).trans rfl : W2.cell? ⟨Lb, 0, none⟩ = some (.slice ao c cp)) h6
        refine ⟨a', c', w8, hr, c6, (cell_of_row _ _ 0 _ 22 (0, 0) bx8).trans rfl, frozen_of_row _ _ 0 _ 22 bx8, hide ⟨oo, hi2.only.next oo, q2'', q3'', fun j y hj hy => ?_, by omega, a', c', by simpa using u9, ?_, hW9⟩⟩
        · by_cases h : j < c
          · exact hi2.ok j y h hy
          · obtain rfl : j = c := by omega
            rw [hx] at hy
            injection hy with hy
            rw [← hy]; exact hv
        · rw [htk]
          exact hO8.only o9 (fun j hj e => by have e' : j = Lb := e; have := hW9 j hj; omega)
      have HR := hide hR
      clear hs hR hi2 hv hbx hO hwh hcl hpl htk hx hn hz2
      gi_wp2_with (first
        | (refine ⟨trivial, CallsIn.inRound _ (callsIn_wide.2 (Calls.mono h177 ?_))⟩; rintro e w5 ⟨rfl, b5⟩; obtain ⟨a', c', w8, r1, e1, e2, e3, HY⟩ := HR.out w5 b5; clear b5; dsimp only)
        | (gi_at_builtin; refine turn_in (OP := .call { callee := .builtin .append, args := #[.tmp 24, .tmp 28], argTypes := #[22, 22] }) (T := 22) rfl rfl rfl (by intro c e; cases e) (exec_append rfl rfl r1) ?_))
      exact HY.out
end Go.Proofs.YtkkpdgfllnbigaaGreat.Tg
namespace Go.Proofs
open Go.Shelf
def Tryz.sortElems_ren : Go.Shelf.Ren := ⟨fun | 6 => 124 | 15 => 179 | 14 => 178 | 28 => 220 | 29 => 221 | 20 => 212 | 21 => 213 | 22 => 214 | 23 => 215 | 24 => 216 | 25 => 217 | 26 => 218 | 27 => 219 | 46 => 240 | 47 => 241 | 48 => 242 | 49 => 243 | 50 => 244 | 57 => 264 | n => n, fun | 22 => 22 | 24 => 53 | 25 => 130 | 3 => 3 | 39 => 174 | 0 => 0 | 53 => 205 | 55 => 207 | 4 => 4 | 46 => 198 | 45 => 197 | 50 => 202 | 5 => 5 | 9 => 9 | 66 => 223 | 70 => 227 | 76 => 240 | 77 => 241 | n => n, fun | n => n⟩
theorem Tryz.sortElems : Go.Proofs.SlLaysF0.n6 Tryz.prog Tryz.sortElems_ren := {
  mixed := by kernel_rfl
  f6 := ⟨Tryz.f124.name, by decide, Tryz.func124.trans (congrArg some (by kernel_rfl))⟩
  f14 := ⟨Tryz.f178.name, by decide, Tryz.func178.trans (congrArg some (by kernel_rfl))⟩
  f15 := Tryz.func179.trans (congrArg some (by kernel_rfl))
  f20 := ⟨Tryz.f212.name, by decide, Tryz.func212.trans (congrArg some (by kernel_rfl))⟩
  f21 := ⟨Tryz.f213.name, by decide, Tryz.func213.trans (congrArg some (by kernel_rfl))⟩
  f22 := ⟨Tryz.f214.name, by decide, Tryz.func214.trans (congrArg some (by kernel_rfl))⟩
  f23 := ⟨Tryz.f215.name, by decide, Tryz.func215.trans (congrArg some (by kernel_rfl))⟩
  f24 := ⟨Tryz.f216.name, by decide, Tryz.func216.trans (congrArg some (by kernel_rfl))⟩
  f25 := ⟨Tryz.f217.name, by decide, Tryz.func217.trans (congrArg some (by kernel_rfl))⟩
  f26 := ⟨Tryz.f218.name, by decide, Tryz.func218.trans (congrArg some (by kernel_rfl))⟩
  f27 := ⟨Tryz.f219.name, by decide, Tryz.func219.trans (congrArg some (by kernel_rfl))⟩
  f28 := Tryz.func220.trans (congrArg some (by kernel_rfl))
  f29 := Tryz.func221.trans (congrArg some (by kernel_rfl))
  f46 := ⟨Tryz.f240.name, by decide, Tryz.func240.trans (congrArg some (by kernel_rfl))⟩
  f47 := Tryz.func241.trans (congrArg some (by kernel_rfl))
  f48 := Tryz.func242.trans (congrArg some (by kernel_rfl))
  f49 := ⟨Tryz.f243.name, by decide, Tryz.func243.trans (congrArg some (by kernel_rfl))⟩
  f50 := ⟨Tryz.f244.name, by decide, Tryz.func244.trans (congrArg some (by kernel_rfl))⟩
  f57 := ⟨Tryz.f264.name, by decide, Tryz.func264.trans (congrArg some (by kernel_rfl))⟩
  t0 := Tryz.underlying0
  a0 := Tryz.isAgg0
  z0 := Tryz.sizeOf0
  v0 := Tryz.zeroValue0
  t3 := Tryz.underlying3
  a3 := Tryz.isAgg3
  z3 := Tryz.sizeOf3
  v3 := Tryz.zeroValue3
  t4 := Tryz.underlying4
  a4 := Tryz.isAgg4
  z4 := Tryz.sizeOf4
  v4 := Tryz.zeroValue4
  t5 := Tryz.underlying5
  a5 := Tryz.isAgg5
  z5 := Tryz.sizeOf5
  v5 := Tryz.zeroValue5
  t9 := Tryz.underlying9
  a9 := Tryz.isAgg9
  z9 := Tryz.sizeOf9
  v9 := Tryz.zeroValue9
  t22 := Tryz.underlying22
  a22 := Tryz.isAgg22
  z22 := Tryz.sizeOf22
  v22 := Tryz.zeroValue22
  t25 := Tryz.underlying130
  a25 := Tryz.isAgg130
  z25 := Tryz.sizeOf130
  v25 := Tryz.zeroValue130
  t39 := Tryz.underlying174
  a39 := Tryz.isAgg174
  z39 := Tryz.sizeOf174
  v39 := Tryz.zeroValue174
  t45 := Tryz.underlying197
  a45 := Tryz.isAgg197
  z45 := Tryz.sizeOf197
  v45 := Tryz.zeroValue197
  t46 := Tryz.underlying198
  a46 := Tryz.isAgg198
  z46 := Tryz.sizeOf198
  v46 := Tryz.zeroValue198
  t50 := Tryz.underlying202
  a50 := Tryz.isAgg202
  z50 := Tryz.sizeOf202
  v50 := Tryz.zeroValue202
  t53 := Tryz.underlying205
  a53 := Tryz.isAgg205
  z53 := Tryz.sizeOf205
  v53 := Tryz.zeroValue205
  t55 := Tryz.underlying207
  a55 := Tryz.isAgg207
  z55 := Tryz.sizeOf207
  v55 := Tryz.zeroValue207
  t66 := Tryz.underlying223
  a66 := Tryz.isAgg223
  z66 := Tryz.sizeOf223
  v66 := Tryz.zeroValue223
  t70 := Tryz.underlying227
  a70 := Tryz.isAgg227
  z70 := Tryz.sizeOf227
  v70 := Tryz.zeroValue227
  t76 := Tryz.underlying240
  a76 := Tryz.isAgg240
  z76 := Tryz.sizeOf240
  v76 := Tryz.zeroValue240
  t77 := Tryz.underlying241
  a77 := Tryz.isAgg241
  z77 := Tryz.sizeOf241
  v77 := Tryz.zeroValue241 }
end Go.Proofs
