/-
  tagset: the tags of a map (66), May (29).
  The sort's library functions, laid over elements, in plain words.
  tagset: elements sorted by stamps, then texts: cmp.Or (98), the comparison (97), slices.SortFunc (39), May (29), Elements (44).
  tagset: tags gone over text by text, plainly; what stands from a text's front on.
  tagset: what a map's list tells: texts and their stamps.
  tagset: May (29), Elements (44).
  tagset: the document's Sorted (69): by stamps, of one stamp by texts.
  Two rising lists of elements run together over a base: the document's way, plainly.
  The document's find 91; the laws' much 21.
  The document's Elements 67.
  tagset: the document's has (81) and Three (22).
-/
import Derived.Test.YtkkpdgfllnbigaaGreatDoorMg15
import Derived.Test.YtkkpdgfllnbigaaGreatDoorMg9
import Derived.Test.YtkkpdgfllnbigaaGreatDoorMg10
import Derived.Shelf.SlSortCmp.NoneTotal
import Derived.Ground.SlsfProg
import Derived.Test.YtkkpdgfllnbigaaGreatDoorProg
import Derived.Test.YtkkpdgfllnbigaaGreatDoorMg1
import Derived.Test.YtkkpdgfllnbigaaGreatDoorMg7
import Derived.Test.YtkkpdgfllnbigaaGreatDoorMg14
import Derived.Test.YtkkpdgfllnbigaaGreatDoorMg13
import Derived.Test.YtkkpdgfllnbigaaGreatDoorMg5
namespace Go.Proofs.YtkkpdgfllnbigaaGreatDoor.Tg
open Go.RowKit Go.Shelf
set_option linter.unusedSimpArgs false
attribute [local go_sem] Oper.semAt_some

/-- An operation of a plain region within a round that turns the world. -/
theorem turn_in {r n : Nat} {P : Program} {ops : Array Oper} {rest : List Oper} {o : Oper} {a : Act} {w w' : World} {Q : Exit → Act → World → Prop} {OP : Op} {T : TypeId} {v : Value} (hgd : o.guard = none) (ho : o.op = OP) (ht : o.type = T) (hd : ∀ c, OP ≠ .defer c)
    (hy : (execOp a.eval { dst := none, op := OP, type := T, pos := "", after := #[], guard := none }).run P w = .ok (.value v) w') (h : wpListIn (Fence.wide.inRound r) n P ops Q rest (a.put o.dst v) w') : wpListIn (Fence.wide.inRound r) n P ops Q (o :: rest) a w :=
  wpListIn_plain hgd fun K hK => by
    refine ⟨fun _ _ => trivial, ?_⟩
    rw [Oper.semAt_eq _ _ _ (by rw [ho]; exact hd), exec_same a.eval o ho ht, hy]
    exact hK _ _ h
/-- One is laid behind; where the row then lies. -/
theorem push_OeW {w : World} {B b : Nat} {v : Value} {p : List El} {y : El} (hown : Oe w B v p) (hcell : w.heap[b]? = some (.cells (encE y).toArray 33 (0, 0))) (hp : p.length + 1 ≤ 1000000) (hB : B ≤ w.heap.size) :
    ∃ a' c' w', (Builtin.append_ #[69, 69] 69 #[v, .slice (some ⟨b, 0, none⟩) 1 1]).run Tryz.prog w = .ok (.slice a' (p.length + 1) c') w' ∧ Oe w' B (.slice a' (p.length + 1) c') (p ++ [y]) ∧ Only (fun k => v.ownBlock = some k) w w' ∧ Where w v (.slice a' (p.length + 1) c') := by
  obtain ⟨i0, hi, hz0, hz1, hz2⟩ := info_of info77
  obtain ⟨v', w', hr, h2, h3, h4⟩ := append_where (P := Tryz.prog) w 69 69 33 i0 zeroE 6 64 Tryz.underlying69 hi hz0 hz1 hz2 rfl (by decide) v p.length (flatE p) (Oe.lift hown (Nat.zero_le _)) ⟨b, 0, none⟩ 1 1 (encE y) (by simp [encE]) (fun j u hj => by rw [add_lit, cell_of_row _ _ (0 + j) (encE y).toArray 33 (0, 0) hcell, Nat.zero_add]; simpa using hj) (fun u hu => flatE_one [y] u (by simpa [flatE] using hu)) (by unfold maxLen; omega) (by omega)
  have hO : Oe w' 0 v' (p ++ [y]) := by
    unfold Oe
    rw [flatE_app, List.length_append, flatE_cons, flatE_nil, List.append_nil]
    exact h2
  obtain ⟨a', c', hv, _, _⟩ := row_form hO
  subst hv
  rw [List.length_append] at hO hr h4
  refine ⟨a', c', w', hr, ?_, Only.ofGrown h3, h4⟩
  rcases hO with ⟨q1, q2⟩
  refine ⟨q1, ?_⟩
  rcases q2 with q2 | ⟨g, cap, cur, e, hb, r⟩
  · exact .inl q2
  · refine .inr ⟨g, cap, cur, e, ?_, r⟩
    rcases h4 g (by rw [show (Value.slice a' (p.length + [y].length) c') = _ from e]; rfl) with h | h
    · exact (World.ownsRow.lt hown g h).1
    · omega
theorem leave_cells2 {fn : Func} {tmps : Array Value} {p q : Tmp} (b c : Nat) {ao : Option Addr} {n cap : Nat} {x : Bool} {R : Ending → World → Prop} {W : World} (h : fn.results = #[.cell p 69, .cell q 4]) (hp : tmps.getD p undef = .pointer (some ⟨b, 0, none⟩)) (hq : tmps.getD q undef = .pointer (some ⟨c, 0, none⟩))
    (hb : W.cell? ⟨b, 0, none⟩ = some (.slice ao n cap)) (hc : W.cell? ⟨c, 0, none⟩ = some (.bool x)) (hR : R (.returned (.tuple #[.slice ao n cap, .bool x])) W) : LeavesInM Fence.wide 6 Tryz.prog fn tmps R [] .returning W := by
  refine leave_none (v := .tuple #[.slice ao n cap, .bool x]) ?_ hR
  have h1 : (loadVar 69 ⟨b, 0, none⟩).run Tryz.prog W = .ok (.slice ao n cap) W := by go_simp
  have h2 : (loadVar 4 ⟨c, 0, none⟩).run Tryz.prog W = .ok (.bool x) W := by go_simp
  have hp' : tmps[p]?.getD undef = .pointer (some ⟨b, 0, none⟩) := by simpa using hp
  have hq' : tmps[q]?.getD undef = .pointer (some ⟨c, 0, none⟩) := by simpa using hq
  simp [results, h, hp', hq', asAddr, Sem.run_bind, Result.andThen, h1, h2]
theorem make53 (n : Nat) (hn : n ≤ 100000) (W : World) : ∃ W', (Instr.makeSlice 69 (.int .i64 0) (.int .i64 (n : Int))).run Tryz.prog W = .ok (.slice (some ⟨W.heap.size, 0, none⟩) 0 n) W' ∧ Oe W' W.heap.size (.slice (some ⟨W.heap.size, 0, none⟩) 0 n) [] ∧ Below W.heap.size W W' := by
  obtain ⟨i0, hi, hz0, hz1, hz2⟩ := info_of info77
  obtain ⟨W1, hmk, hown, hg⟩ := run_makeSlice_owned (P := Tryz.prog) W W.heap.size 69 33 i0 zeroE 6 Tryz.underlying69 hi hz0 hz1 .i64 .i64 n (by omega) (by rw [hz2]; omega) (by unfold maxLen; omega) (Nat.le_refl _)
  exact ⟨W1, hmk, hown, below_own (Below.refl _ W) (Nat.le_refl _) (Own.nil 5 W _) hg⟩
/-- What stands between rounds. -/
structure TgI (wA : World) (Lb Ob R2 R3 B : Nat) (l : List Kv) (k : Nat) (W : World) : Prop where
  only : Only (fun j => (j = Lb ∨ j = Ob ∨ j = R2 ∨ j = R3) ∨ wA.heap.size + 4 ≤ j) wA W
  r2 : W.heap[R2]? = some (.cells #[.slice none 0 0] 69 (0, 0))
  r3 : W.heap[R3]? = some (.cells #[.bool false] 4 (0, 0))
  ok : ∀ j x, j < k → l[j]? = some x → tgV x.1 x.2 = true
  len : k ≤ l.length
  box : ∃ ao c, W.heap[Lb]? = some (.cells #[.slice ao k c] 69 (0, 0)) ∧ Oe W B (.slice ao k c) ((l.map tgE).take k) ∧ ∀ j, (Value.slice ao k c).ownBlock = some j → j = Ob ∨ wA.heap.size + 4 ≤ j
/-- What stands behind a key that is no tag's. -/
structure TgX (wA : World) (Lb Ob R2 R3 : Nat) (l : List Kv) (W : World) : Prop where
  only : Only (fun j => (j = Lb ∨ j = Ob ∨ j = R2 ∨ j = R3) ∨ wA.heap.size + 4 ≤ j) wA W
  r2 : W.heap[R2]? = some (.cells #[.slice none 0 0] 69 (0, 0))
  r3 : W.heap[R3]? = some (.cells #[.bool false] 4 (0, 0))
  bad : mayT l = false
theorem TgI.other {wA : World} {Lb Ob R2 R3 B k : Nat} {l : List Kv} {W W' : World} (h : TgI wA Lb Ob R2 R3 B l k W) (hz : Lb < wA.heap.size ∧ Ob < wA.heap.size ∧ R2 < wA.heap.size ∧ R3 < wA.heap.size) (ho : Only (fun j => j = wA.heap.size + 1) W W') : TgI wA Lb Ob R2 R3 B l k W' := by
  obtain ⟨ao, c, hb, hO, hw⟩ := h.box
  refine ⟨h.only.trans ho (fun j hj e => by have e' : j = wA.heap.size + 1 := e; omega), (ho.block _ (gI h.r2).1 (by omega)).trans h.r2, (ho.block _ (gI h.r3).1 (by omega)).trans h.r3, h.ok, h.len, ao, c, (ho.block _ (gI hb).1 (by omega)).trans hb, hO.only ho (fun j hj e => ?_), hw⟩
  have e' : j = wA.heap.size + 1 := e
  have := hw j hj
  omega
theorem TgX.other {wA : World} {Lb Ob R2 R3 : Nat} {l : List Kv} {W W' : World} (h : TgX wA Lb Ob R2 R3 l W) (hz : Lb < wA.heap.size ∧ Ob < wA.heap.size ∧ R2 < wA.heap.size ∧ R3 < wA.heap.size) (ho : Only (fun j => j = wA.heap.size + 1) W W') : TgX wA Lb Ob R2 R3 l W' :=
  ⟨h.only.trans ho (fun j hj e => by have e' : j = wA.heap.size + 1 := e; omega), (ho.block _ (gI h.r2).1 (by omega)).trans h.r2, (ho.block _ (gI h.r3).1 (by omega)).trans h.r3, h.bad⟩

set_option maxHeartbeats 8000000 in
set_option maxRecDepth 100000 in
theorem tags123 (t : Pm.T) (w : World) (ht : Pm.In w t) (hs : Pm.Srt t.list) (hk : ∀ x ∈ t.list, x.1.size ≤ 9223372036854775807) (hn : t.n ≤ 100000) :
    Calls Tryz.prog 49 #[Pm.mv t] w fun e w' => ∃ ao c, e = .returned (.tuple #[.slice ao (tagsL t.list).length c, .bool (mayT t.list)]) ∧ Oe w' w.heap.size (.slice ao (tagsL t.list).length c) (tagsL t.list) ∧ Below w.heap.size w w' := by
  obtain ⟨l, hl⟩ : ∃ l, l = t.list := ⟨_, rfl⟩
  obtain ⟨a, ha⟩ := t.ptr_shape
  have hll : l.length = t.n := by rw [hl, Pm.T.n_eq]
  obtain ⟨w1, hw1⟩ : ∃ w1, w1 = ((w.alloc (.cells #[.pointer a] 43)).alloc (.cells #[.slice none 0 0] 69)).alloc (.cells #[.bool false] 4) := ⟨_, rfl⟩
  obtain ⟨m0, m1, m2, b1⟩ := new3r w (.cells #[.pointer a] 43) (.cells #[.slice none 0 0] 69) (.cells #[.bool false] 4)
  rw [← hw1] at m0 m1 m2 b1
  have s1 : w1.heap.size = w.heap.size + 3 := by rw [hw1]; simp
  obtain ⟨Mb, hMb⟩ : ∃ q, q = w.heap.size := ⟨_, rfl⟩
  obtain ⟨R2, hR2⟩ : ∃ q, q = w.heap.size + 1 := ⟨_, rfl⟩
  obtain ⟨R3, hR3⟩ : ∃ q, q = w.heap.size + 1 + 1 := ⟨_, rfl⟩
  rw [← hMb] at m0
  rw [← hR2] at m1
  rw [show w.heap.size + 2 = R3 by omega] at m2
  have hlen := Pm.mLen_any t w1 (Pm.In.below b1 ht)
  have hAll := fun W => Pm.mAll_any t W
  unfold Pm.mv at hlen ⊢
  simp only [Pm.mv] at hAll
  simp only [ha] at hlen hAll ⊢
  have HW1 := hide (And.intro hw1 (And.intro hMb (And.intro hR2 hR3)))
  have HB := hide (And.intro b1 (And.intro ht (And.intro hs (And.intro hk (And.intro hl (And.intro hll hn))))))
  have HM := hide (And.intro m0 (And.intro m1 (And.intro m2 s1)))
  have cM := (cell_of_row w1 Mb 0 _ 43 (0, 0) m0).trans rfl
  have HA := hide ha
  have HMK := hide (fun W => make53 t.n hn W)
  clear b1 ht hs hk hl hll hn m0 m1 m2 s1 hw1 hMb hR2 hR3 ha
  rw [← HB.out.2.2.2.2.1]
  refine calls_marks Tryz.func49 rfl ?_
  simp only [Tryz.ntmps49, List.size_toArray, List.length_cons, List.length_nil, Nat.reduceAdd, Nat.reduceSub, Array.replicate_succ, Array.replicate_zero, List.push_toArray, List.append_toArray, List.nil_append, List.cons_append]
  go_upto_region 1 with fail
  rw [← HW1.out.1]
  rw [← HW1.out.2.2.2]
  rw [← HW1.out.2.2.1]
  rw [← HW1.out.2.1]
  go_upto_region 2 with (go_at_call 77; refine hlen.mono ?_; rintro e w2 ⟨rfl, b2⟩; obtain ⟨w3, mk3, ho3, b3⟩ := HMK.out w2; have H2 := hide (And.intro b2 (And.intro ho3 b3)); clear b2 ho3 b3; dsimp only)
  obtain ⟨b2, ho3, b3⟩ := H2.out
  obtain ⟨w4, hw4⟩ : ∃ q, q = w3.alloc (.cells #[.slice (some ⟨w2.heap.size, 0, none⟩) 0 t.n] 69) := ⟨_, rfl⟩
  have m4 := heap_alloc_new w3 (.cells #[.slice (some ⟨w2.heap.size, 0, none⟩) 0 t.n] 69)
  have b4 : Below w3.heap.size w3 w4 := by rw [hw4]; exact (Below.refl _ w3).alloc (Nat.le_refl _) _
  rw [← hw4] at m4
  have ho4 := ho3.below b4
  have hOlt := (World.ownsRow.lt ho3 w2.heap.size rfl).2
  have b34 := b3.trans (b4.mono b3.size)
  have b14 : Below w1.heap.size w1 w4 := b2.trans (b34.mono b2.size)
  have hs2 := b2.size
  have hs3 := b4.size
  obtain ⟨Ob, hOb⟩ : ∃ q, q = w2.heap.size := ⟨_, rfl⟩
  obtain ⟨Lb, hLb⟩ : ∃ q, q = w3.heap.size := ⟨_, rfl⟩
  rw [← hw4, ← hLb, ← hOb]
  rw [← hOb] at m4 ho4 hOlt hs2
  rw [← hLb] at m4 hOlt
  have hL4 := (gI m4).1
  have bw4 : Below w.heap.size w w4 := HB.out.1.trans (b14.mono HB.out.1.size)
  have cM4 := cell_stays cM b14
  have hAll4 := hAll w4
  obtain ⟨wA, hwA⟩ : ∃ q, q = ((w4.alloc (.cells #[.pointer a] 43)).alloc (.cells #[.pointer a] 43)).alloc (.cells #[.string ⟨#[]⟩] 9) := ⟨_, rfl⟩
  rw [← hwA] at hAll4
  have sA : wA.heap.size = w4.heap.size + 3 := by rw [hwA]; simp
  obtain ⟨-, n1, n2, bA⟩ := new3r w4 (.cells #[.pointer a] 43) (.cells #[.pointer a] 43) (.cells #[.string ⟨#[]⟩] 9)
  rw [← hwA] at n1 n2 bA
  have cLA : wA.cell? ⟨w4.heap.size + 2, 0, none⟩ = some (.string ⟨#[]⟩) := (cell_of_row _ _ 0 _ 9 (0, 0) n2).trans rfl
  have cMA : wA.cell? ⟨w4.heap.size + 1, 0, none⟩ = some t.ptr := by rw [HA.out]; exact (cell_of_row _ _ 0 _ 43 (0, 0) n1).trans rfl
  have bwA := bw4.trans (bA.mono bw4.size)
  have iA : Pm.In wA t := Pm.In.below bwA HB.out.2.1
  have hit := Pm.iter_from t ⟨#[]⟩ (w4.heap.size + 2) (w4.heap.size + 1) wA iA cLA cMA
  rw [Pm.all_is HB.out.2.2.1, ← HB.out.2.2.2.2.1] at hit
  have hz : Lb < wA.heap.size ∧ Ob < wA.heap.size ∧ R2 < wA.heap.size ∧ R3 < wA.heap.size := by
    have h1 := HW1.out; have h2 := HM.out.2.2.2; omega
  have hlow : w.heap.size ≤ Mb ∧ Mb < R2 ∧ R2 < R3 ∧ R3 < Ob ∧ Ob < Lb ∧ Lb < w4.heap.size := by
    have h1 := HW1.out; have h2 := HM.out.2.2.2; omega
  have hKlt : ∀ j, Pm.KF t (w4.heap.size + 2) (w4.heap.size + 1) j → j < wA.heap.size := fun j hj => by
    rcases hj with rfl | rfl | hj
    · omega
    · omega
    · exact iA.blk_lt hj
  have hDK : ∀ j, (j = Lb ∨ j = Ob ∨ j = R2 ∨ j = R3) ∨ wA.heap.size + 4 ≤ j → ¬ Pm.KF t (w4.heap.size + 2) (w4.heap.size + 1) j := fun j d hj => by
    rcases hj with rfl | rfl | hj
    · omega
    · omega
    · have h1 := HB.out.2.1.blk_lt hj
      have h2 := iA.blk_lt hj
      omega
  have hDout : ∀ j, wA.heap.size ≤ j → j < wA.heap.size + 4 → ¬ ((j = Lb ∨ j = Ob ∨ j = R2 ∨ j = R3) ∨ wA.heap.size + 4 ≤ j) := fun j h1 h2 d => by omega
  have h0 : TgI wA Lb Ob R2 R3 w.heap.size l 0 wA := by
    have b1A := b14.trans (bA.mono b14.size)
    refine ⟨Only.refl _ _, (b1A.block _ (gI HM.out.2.1).1).trans HM.out.2.1, (b1A.block _ (gI HM.out.2.2.1).1).trans HM.out.2.2.1, fun j x hj => by omega, Nat.zero_le _, some ⟨Ob, 0, none⟩, t.n, (bA.block _ hL4).trans m4, ?_, fun j hj => by injection hj with hj; exact .inl hj.symm⟩
    rw [List.take_zero]
    exact (ho4.below bA).lift (by omega)
  have HZ := hide (And.intro hz (And.intro hlow (And.intro bwA (And.intro sA h0))))
  clear b2 ho3 b3 hw4 m4 b4 ho4 hOlt b34 b14 hs2 hs3 hOb hLb hL4 bw4 hwA n1 n2 bA cLA cMA bwA iA hz hlow h0 sA hAll hlen mk3 H2
  go_wp2_with (go_at_call 78; refine hAll4.mono ?_; rintro e w' ⟨rfl, hw'⟩; obtain rfl : wA = w' := hw'.symm; clear hw'; dsimp only)
  clear hAll4 cM4 cM
  refine Pm.range_it (Q := _) 82 enters82 _ l (fun x => #[.string x.1, .string x.2]) _ hit rfl (fun _ _ => rfl) hKlt (fun j => (j = Lb ∨ j = Ob ∨ j = R2 ∨ j = R3) ∨ wA.heap.size + 4 ≤ j) hDK (hDout _ (by omega) (by omega)) (hDout _ (by omega) (by omega)) (hDout _ (by omega) (by omega)) (hDout _ (by omega) (by omega))
    (fun k W' => TgI wA Lb Ob R2 R3 w.heap.size l k W') (fun cd W' => cd = .ret ∧ TgX wA Lb Ob R2 R3 l W') (fun k A A' hi ho => hi.other HZ.out.1 ho) (fun c A A' hi ho => ⟨hi.1, hi.2.other HZ.out.1 ho⟩) HZ.out.2.2.2.2 ?hround ?hdone ?hstop
  case hdone =>
    rintro W hi hlt hk0
    obtain ⟨ao, cp, hbx, hO, hwh⟩ := hi.box
    rw [List.take_of_length_le (by rw [List.length_map]; exact Nat.le_refl _)] at hO
    have hm : mayT l = true := List.all_eq_true.2 (fun x hx => by obtain ⟨j, hj, rfl⟩ := List.getElem_of_mem hx; exact hi.ok j _ hj (List.getElem?_eq_getElem hj))
    have hbW : Below w.heap.size w W := Below.only HZ.out.2.2.1 hi.only HZ.out.2.2.1.size (fun j e => by have := HZ.out; omega)
    obtain ⟨hz, hlow, -, sA, -⟩ := HZ.out
    have hlt3 := (gI hi.r3).1
    obtain ⟨u2, o2⟩ := set_one (i := 0) (.slice ao l.length cp) hi.r2
    have r3' := (o2.block R3 hlt3 (fun e => by have e' : R3 = R2 := e; omega)).trans hi.r3
    obtain ⟨u3, o3⟩ := set_one (i := 0) (.bool true) r3'
    have u2' := (o3.block R2 (gI u2).1 (fun e => by have e' : R2 = R3 := e; omega)).trans u2
    have k2 := (o2.block wA.heap.size hlt (fun e => by have e' : wA.heap.size = R2 := e; omega)).trans hk0
    have k3 := (o3.block wA.heap.size (gI k2).1 (fun e => by have e' : wA.heap.size = R3 := e; omega)).trans k2
    have cL : W.cell? ⟨Lb, 0, none⟩ = some (.slice ao l.length cp) := (cell_of_row _ _ 0 _ 69 (0, 0) hbx).trans rfl
    have c2 : W.cell? ⟨R2, 0, none⟩ = some (.slice none 0 0) := (cell_of_row _ _ 0 _ 69 (0, 0) hi.r2).trans rfl
    have f2 := frozen_of_row _ _ 0 _ 69 hi.r2
    have c3 : (W.setCell ⟨R2, 0, none⟩ (.slice ao l.length cp)).cell? ⟨R3, 0, none⟩ = some (.bool false) := (cell_of_row _ _ 0 _ 4 (0, 0) r3').trans rfl
    have f3 := frozen_of_row _ _ 0 _ 4 r3'
    have hO2 := (hO.only o2 (fun j hj e => by have e' : j = R2 := e; have := hwh j hj; omega)).only o3 (fun j hj e => by have e' : j = R3 := e; have := hwh j hj; omega)
    have hb3 : Below w.heap.size w ((W.setCell ⟨R2, 0, none⟩ (.slice ao l.length cp)).setCell ⟨R3, 0, none⟩ (.bool true)) := (Below.only hbW o2 hbW.size (fun j e => by have e' : j = R2 := e; omega)) |> fun h => Below.only h o3 h.size (fun j e => by have e' : j = R3 := e; omega)
    have HE := hide (And.intro k3 (And.intro u2' (And.intro u3 (And.intro hO2 (And.intro hb3 (And.intro hm hwh))))))
    clear hit hKlt hDK hDout hbx hO hwh hm hbW u2 o2 u3 o3 u2' k2 k3 hO2 hb3 r3' hk0 hlt hlt3 sA hi
    go_wp2
    refine ret_lv ?_
    dsimp only
    obtain ⟨hk3, hu2, hu3, hO2, hb3, hm, hwh⟩ := HE.out
    obtain ⟨hz, hlow, -, sA, -⟩ := HZ.out
    have o9 := only_putObj ((W.setCell ⟨R2, 0, none⟩ (.slice ao l.length cp)).setCell ⟨R3, 0, none⟩ (.bool true)) wA.heap.size (.deferred none)
    have v2 := (o9.block R2 (gI hu2).1 (fun e => by have e' : R2 = wA.heap.size := e; omega)).trans hu2
    have v3 := (o9.block R3 (gI hu3).1 (fun e => by have e' : R3 = wA.heap.size := e; omega)).trans hu3
    refine leave_mark hk3 (leave_cells2 R2 R3 rfl rfl rfl ((cell_of_row _ _ 0 _ 69 (0, 0) v2).trans rfl) ((cell_of_row _ _ 0 _ 4 (0, 0) v3).trans rfl) ?_)
    have hL : tagsL l = l.map tgE := by unfold tagsL; rw [if_pos hm]
    rw [hL, hm, List.length_map]
    refine ⟨ao, cp, rfl, ?_, Below.only hb3 o9 hb3.size (fun j e => by have e' : j = wA.heap.size := e; omega)⟩
    exact hO2.only o9 (fun j hj e => by have e' : j = wA.heap.size := e; have := hwh j hj; omega)
  case hstop =>
    rintro c W ⟨rfl, hi⟩ hlt hk0
    have hbW : Below w.heap.size w W := Below.only HZ.out.2.2.1 hi.only HZ.out.2.2.1.size (fun j e => by have := HZ.out; omega)
    have HE := hide (And.intro hk0 (And.intro hi hbW))
    clear hit hKlt hDK hDout hi hbW hk0 hlt
    go_wp2
    refine ret_lv ?_
    dsimp only
    obtain ⟨hk3, hi, hbW⟩ := HE.out
    obtain ⟨hz, hlow, -, sA, -⟩ := HZ.out
    have o9 := only_putObj W wA.heap.size (.deferred none)
    have v2 := (o9.block R2 (gI hi.r2).1 (fun e => by have e' : R2 = wA.heap.size := e; omega)).trans hi.r2
    have v3 := (o9.block R3 (gI hi.r3).1 (fun e => by have e' : R3 = wA.heap.size := e; omega)).trans hi.r3
    refine leave_mark hk3 (leave_cells2 R2 R3 rfl rfl rfl ((cell_of_row _ _ 0 _ 69 (0, 0) v2).trans rfl) ((cell_of_row _ _ 0 _ 4 (0, 0) v3).trans rfl) ?_)
    have hL : tagsL l = [] := by unfold tagsL; rw [hi.bad]; rfl
    rw [hL, hi.bad]
    exact ⟨none, 0, rfl, Oe.nil _ _, Below.only hbW o9 hbW.size (fun j e => by have e' : j = wA.heap.size := e; omega)⟩
  case hround =>
    rintro c ⟨k, x⟩ W hx hi hSame hsz
    have hks := HB.out.2.2.2.1 _ (by rw [← HB.out.2.2.2.2.1]; exact List.mem_of_getElem? hx)
    have hn := HB.out.2.2.2.2.2
    clear hit hKlt hDK hDout hSame
    dsimp only
    gi_wp2
    refine ⟨Only.refl _ _, fun W2 ho2 => ?_⟩
    have hi2 := hi.other HZ.out.1 ho2
    have hz2 : wA.heap.size + 4 ≤ W2.heap.size := Nat.le_trans hsz ho2.size
    have h177 := tag177 k x W2 hks
    clear hi ho2 hsz hks
    cases hv : tgV k x with
    | false =>
      rw [hv] at h177
      have hbad : mayT l = false := by
        rw [Bool.eq_false_iff]
        intro hm
        have := mayT_mem hm (List.mem_of_getElem? hx)
        rw [hv] at this
        cases this
      have hX : ∀ W3, Below W2.heap.size W2 W3 → W3.cell? ⟨R2, 0, none⟩ = some (.slice none 0 0) ∧ W3.frozen? ⟨R2, 0, none⟩ = false ∧ (W3.setCell ⟨R2, 0, none⟩ (.slice none 0 0)).cell? ⟨R3, 0, none⟩ = some (.bool false) ∧ (W3.setCell ⟨R2, 0, none⟩ (.slice none 0 0)).frozen? ⟨R3, 0, none⟩ = false ∧ Hid (Only (fun j => (j = Lb ∨ j = Ob ∨ j = R2 ∨ j = R3) ∨ wA.heap.size + 4 ≤ j) W2 ((W3.setCell ⟨R2, 0, none⟩ (.slice none 0 0)).setCell ⟨R3, 0, none⟩ (.bool false)) ∧ TgX wA Lb Ob R2 R3 l ((W3.setCell ⟨R2, 0, none⟩ (.slice none 0 0)).setCell ⟨R3, 0, none⟩ (.bool false))) := fun W3 h3 => by
        obtain ⟨hz, hlow, -, sA, -⟩ := HZ.out
        have r2 := (h3.block _ (gI hi2.r2).1).trans hi2.r2
        have r3 := (h3.block _ (gI hi2.r3).1).trans hi2.r3
        obtain ⟨u2, o2⟩ := set_one (i := 0) (.slice none 0 0) r2
        have r3' := (o2.block R3 (gI r3).1 (fun e => by have e' : R3 = R2 := e; omega)).trans r3
        obtain ⟨u3, o3⟩ := set_one (i := 0) (.bool false) r3'
        have u2' := (o3.block R2 (gI u2).1 (fun e => by have e' : R2 = R3 := e; omega)).trans u2
        have oo : Only (fun j => (j = Lb ∨ j = Ob ∨ j = R2 ∨ j = R3) ∨ wA.heap.size + 4 ≤ j) W2 ((W3.setCell ⟨R2, 0, none⟩ (.slice none 0 0)).setCell ⟨R3, 0, none⟩ (.bool false)) := ((below_only h3).next (o2.mono (fun j _ e => .inl (.inr (.inr (.inl e)))))).next (o3.mono (fun j _ e => .inl (.inr (.inr (.inr e)))))
        exact ⟨(cell_of_row _ _ 0 _ 69 (0, 0) r2).trans rfl, frozen_of_row _ _ 0 _ 69 r2, (cell_of_row _ _ 0 _ 4 (0, 0) r3').trans rfl, frozen_of_row _ _ 0 _ 4 r3', hide ⟨oo, hi2.only.next oo, by simpa using u2', by simpa using u3, hbad⟩⟩
      have HX := hide hX
      obtain ⟨s, hs⟩ : ∃ s, s = tgS k x := ⟨_, rfl⟩
      rw [← hs] at h177
      clear hs hX hi2 hv hbad hx hn hz2
      obtain ⟨g, r, lb, n, ix⟩ := s
      dsimp only [svT] at h177
      gi_wp2_with (refine ⟨trivial, CallsIn.inRound _ (callsIn_wide.2 (Calls.mono h177 ?_))⟩; rintro e w5 ⟨rfl, b5⟩; obtain ⟨e1, e2, e3, e4, HY⟩ := HX.out (w5.alloc (.cells #[.int .i64 g, .int .i64 r, .string lb, .int .i64 n, .int .i64 ix] 27)) (b5.trans (((Below.refl _ w5).alloc (Nat.le_refl _) _).mono b5.size)); clear b5; dsimp only)
      exact ⟨HY.out.1, rfl, HY.out.2⟩
    | true =>
      rw [hv] at h177
      obtain ⟨s, hs⟩ : ∃ s, s = tgS k x := ⟨_, rfl⟩
      rw [← hs] at h177
      obtain ⟨ao, cp, hbx, hO, hwh⟩ := hi2.box
      have hcl := (List.getElem?_eq_some_iff.1 hx).1
      have hpl : ((l.map tgE).take c).length = c := by rw [List.length_take, List.length_map]; omega
      have htk : (l.map tgE).take (c + 1) = (l.map tgE).take c ++ [(s, x)] := by
        rw [List.take_add_one, List.getElem?_map, hx, hs]
        rfl
      obtain ⟨g, r, lb, n, ix⟩ := s
      dsimp only [svT] at h177
      have hR : ∀ w5, Below W2.heap.size W2 w5 → ∃ a' c' w8, (Builtin.append_ #[69, 69] 69 #[.slice ao c cp, .slice (some ⟨w5.heap.size + 1, 0, none⟩) 1 1]).run Tryz.prog ((w5.alloc (.cells #[.int .i64 g, .int .i64 r, .string lb, .int .i64 n, .int .i64 ix] 27)).alloc (.cells #[.int .i64 g, .int .i64 r, .string lb, .int .i64 n, .int .i64 ix, .string x] 33)) = .ok (.slice a' (c + 1) c') w8 ∧ (w5.alloc (.cells #[.int .i64 g, .int .i64 r, .string lb, .int .i64 n, .int .i64 ix] 27)).cell? ⟨Lb, 0, none⟩ = some (.slice ao c cp) ∧ w8.cell? ⟨Lb, 0, none⟩ = some (.slice ao c cp) ∧ w8.frozen? ⟨Lb, 0, none⟩ = false ∧ Hid (Only (fun j => (j = Lb ∨ j = Ob ∨ j = R2 ∨ j = R3) ∨ wA.heap.size + 4 ≤ j) W2 (w8.setCell ⟨Lb, 0, none⟩ (.slice a' (c + 1) c')) ∧ TgI wA Lb Ob R2 R3 w.heap.size l (c + 1) (w8.setCell ⟨Lb, 0, none⟩ (.slice a' (c + 1) c'))) := fun w5 h5 => by
        obtain ⟨hz, hlow, bwA, sA, -⟩ := HZ.out
        have b6 : Below w5.heap.size w5 (w5.alloc (.cells #[.int .i64 g, .int .i64 r, .string lb, .int .i64 n, .int .i64 ix] 27)) := (Below.refl _ w5).alloc (Nat.le_refl _) _
        have b7 : Below (w5.alloc (.cells #[.int .i64 g, .int .i64 r, .string lb, .int .i64 n, .int .i64 ix] 27)).heap.size (w5.alloc (.cells #[.int .i64 g, .int .i64 r, .string lb, .int .i64 n, .int .i64 ix] 27)) ((w5.alloc (.cells #[.int .i64 g, .int .i64 r, .string lb, .int .i64 n, .int .i64 ix] 27)).alloc (.cells #[.int .i64 g, .int .i64 r, .string lb, .int .i64 n, .int .i64 ix, .string x] 33)) := (Below.refl _ _).alloc (Nat.le_refl _) _
        have h6 := h5.trans (b6.mono h5.size)
        have h7 := h6.trans (b7.mono h6.size)
        have hm := heap_alloc_new (w5.alloc (.cells #[.int .i64 g, .int .i64 r, .string lb, .int .i64 n, .int .i64 ix] 27)) (.cells #[.int .i64 g, .int .i64 r, .string lb, .int .i64 n, .int .i64 ix, .string x] 33)
        have hsz6 : (w5.alloc (.cells #[.int .i64 g, .int .i64 r, .string lb, .int .i64 n, .int .i64 ix] 27)).heap.size = w5.heap.size + 1 := by simp
        rw [hsz6] at hm
        generalize hw7 : (w5.alloc (.cells #[.int .i64 g, .int .i64 r, .string lb, .int .i64 n, .int .i64 ix] 27)).alloc (.cells #[.int .i64 g, .int .i64 r, .string lb, .int .i64 n, .int .i64 ix, .string x] 33) = w7 at h7 hm ⊢
        clear hw7 b7
        have hO7 := hO.below h7
        obtain ⟨a', c', w8, hr, hO8, ho8, hW8⟩ := push_OeW (y := ((g, r, lb, n, ix), x)) hO7 hm (by rw [hpl]; omega) (by have := h7.size; have := bwA.size; omega)
        rw [hpl] at hr hO8 hW8
        have bx7 := (h7.block _ (gI hbx).1).trans hbx
        have nown : ∀ j, j < wA.heap.size → j ≠ Ob → ¬ (Value.slice ao c cp).ownBlock = some j := fun j h1 h2 e => by have := hwh j e; omega
        have bx8 := (ho8.block Lb (gI bx7).1 (nown Lb (by omega) (by omega))).trans bx7
        obtain ⟨u9, o9⟩ := set_one (i := 0) (.slice a' (c + 1) c') bx8
        have q2 := (h7.block _ (gI hi2.r2).1).trans hi2.r2
        have q3 := (h7.block _ (gI hi2.r3).1).trans hi2.r3
        have q2' := (ho8.block R2 (gI q2).1 (nown R2 (by omega) (by omega))).trans q2
        have q3' := (ho8.block R3 (gI q3).1 (nown R3 (by omega) (by omega))).trans q3
        have q2'' := (o9.block R2 (gI q2').1 (fun e => by have e' : R2 = Lb := e; omega)).trans q2'
        have q3'' := (o9.block R3 (gI q3').1 (fun e => by have e' : R3 = Lb := e; omega)).trans q3'
        have hW9 : ∀ j, (Value.slice a' (c + 1) c').ownBlock = some j → j = Ob ∨ wA.heap.size + 4 ≤ j := fun j hj => by
          rcases hW8 j hj with h | h
          · exact hwh j h
          · have := h7.size; omega
        have oo : Only (fun j => (j = Lb ∨ j = Ob ∨ j = R2 ∨ j = R3) ∨ wA.heap.size + 4 ≤ j) W2 (w8.setCell ⟨Lb, 0, none⟩ (.slice a' (c + 1) c')) := ((below_only h7).next (ho8.mono (fun j _ e => by have := hwh j e; omega))).next (o9.mono (fun j _ e => .inl (.inl e)))
        have c6 := cell_stays ((cell_of_row _ _ 0 _ 69 (0, 0) hbx).trans rfl : W2.cell? ⟨Lb, 0, none⟩ = some (.slice ao c cp)) h6
        refine ⟨a', c', w8, hr, c6, (cell_of_row _ _ 0 _ 69 (0, 0) bx8).trans rfl, frozen_of_row _ _ 0 _ 69 bx8, hide ⟨oo, hi2.only.next oo, q2'', q3'', fun j y hj hy => ?_, by omega, a', c', by simpa using u9, ?_, hW9⟩⟩
        · by_cases h : j < c
          · exact hi2.ok j y h hy
          · obtain rfl : j = c := by omega
            rw [hx] at hy
            injection hy with hy
            rw [← hy]; exact hv
        · rw [htk]
          exact hO8.only o9 (fun j hj e => by have e' : j = Lb := e; have := hW9 j hj; omega)
      have HR := hide hR
      clear hs hR hi2 hv hbx hO hwh hcl hpl htk hx hn hz2
      gi_wp2_with (first
        | (refine ⟨trivial, CallsIn.inRound _ (callsIn_wide.2 (Calls.mono h177 ?_))⟩; rintro e w5 ⟨rfl, b5⟩; obtain ⟨a', c', w8, r1, e1, e2, e3, HY⟩ := HR.out w5 b5; clear b5; dsimp only)
        | (gi_at_builtin; refine turn_in (OP := .call { callee := .builtin .append, args := #[.tmp 24, .tmp 28], argTypes := #[69, 69] }) (T := 69) rfl rfl rfl (by intro c e; cases e) (exec_append rfl rfl r1) ?_))
      exact HY.out
end Go.Proofs.YtkkpdgfllnbigaaGreatDoor.Tg
namespace Go.Proofs
open Go.Shelf
end Go.Proofs
namespace Go.Proofs.YtkkpdgfllnbigaaGreatDoor.Tg
open Go.RowKit Go.Shelf Go.Sort
set_option linter.unusedSimpArgs false
attribute [local go_sem] Oper.semAt_some

/-- A sorted list with the members of L. -/
def SortsQ (L L' : List El) : Prop := L'.length = L.length ∧ L'.Perm L ∧ L'.Pairwise (fun x y => cmpQ y x ≠ -1)
theorem SortsQ.up {L L' : List El} (h : SortsQ L L') (hd : L.Nodup) : Rise.Up cmpQ id L' ∧ ∀ z, z ∈ L' ↔ z ∈ L := by
  refine ⟨?_, fun z => h.2.1.mem_iff⟩
  have hd' : L'.Nodup := h.2.1.nodup_iff.2 hd
  refine (h.2.2.and hd').imp (fun {x y} ⟨h1, h2⟩ => ?_)
  rw [ordS_Q.anti] at h1
  rcases ordS_Q.range x y with e | e | e
  · exact e
  · exact absurd (ordS_Q.eq _ _ e) h2
  · omega
end Go.Proofs.YtkkpdgfllnbigaaGreatDoor.Tg
namespace Go.Proofs.YtkkpdgfllnbigaaGreatDoor.Tg
set_option linter.unusedSimpArgs false
open Rise
variable {σ τ : Type} [DecidableEq τ] {f : τ → τ → Int}

/-- The groups that a going over tells, some stamps being gathered already. -/
def gA (acc : List σ) : List (σ × τ) → List (τ × List σ)
  | [] => []
  | [x] => [(x.2, acc ++ [x.1])]
  | x :: y :: l => if y.2 = x.2 then gA (acc ++ [x.1]) (y :: l) else (x.2, acc ++ [x.1]) :: gA [] (y :: l)
/-- Of what is kept, the first ones that are as one asks: where none such stands behind one that isn't. -/
theorem take_filter {α : Type} {p q : α → Bool} : ∀ {l : List α}, l.Pairwise (fun a b => q a = true → p a = false → p b = false) → (∀ x ∈ l, p x = true → q x = true) → (l.filter q).takeWhile p = l.filter p
  | [], _, _ => rfl
  | a :: l, h, k => by
    have h' := List.pairwise_cons.1 h
    have ih := take_filter (p := p) (q := q) h'.2 (fun x hx => k x (List.mem_cons_of_mem _ hx))
    cases hq : q a with
    | true =>
      rw [List.filter_cons_of_pos hq]
      cases hp : p a with
      | true => rw [List.takeWhile_cons_of_pos hp, List.filter_cons_of_pos hp, ih]
      | false =>
        rw [List.takeWhile_cons_of_neg (by simp [hp]), List.filter_cons_of_neg (by simp [hp])]
        symm
        rw [List.filter_eq_nil_iff]
        intro b hb
        simp [h'.1 b hb hq hp]
    | false =>
      have hp : p a = false := by
        rw [Bool.eq_false_iff]
        intro hp
        rw [k a (List.mem_cons_self ..) hp] at hq
        cases hq
      rw [List.filter_cons_of_neg (by simp [hq]), List.filter_cons_of_neg (by simp [hp]), ih]
end Go.Proofs.YtkkpdgfllnbigaaGreatDoor.Tg
namespace Go.Proofs.YtkkpdgfllnbigaaGreatDoor.Tg
open Go.RowKit Go.Shelf
set_option linter.unusedSimpArgs false

theorem ordS_B : Rise.OrdS Pm.cmpB := ⟨Pm.ord_B.range, Pm.ord_B.anti, Pm.ord_B.eq, Pm.ord_B.trans⟩
theorem drop_posT {K : ByteArray} : ∀ {l : List Kv}, Pm.Srt l → l.drop (Pm.pos K l) = l.filter fun x => !decide (Pm.cmpB x.1 K = -1)
  | [], _ => rfl
  | x :: l, h => by
    have h' := List.pairwise_cons.1 h
    rw [Pm.pos]
    by_cases c : Pm.cmpB x.1 K = -1
    · rw [if_pos c, List.filter_cons_of_neg (by simp [c])]
      rw [List.drop_succ_cons]
      exact drop_posT h'.2
    · rw [if_neg c, List.drop_zero, List.filter_cons_of_pos (by simp [c])]
      congr 1
      symm
      rw [List.filter_eq_self]
      intro y hy
      have h1 := h'.1 y hy
      simp only [Bool.not_eq_true', decide_eq_false_iff_not]
      intro h2
      exact c (Pm.ord_B.trans _ _ _ h1 h2)
/-- A key is the tag's of one text alone. -/
theorem tgV_text {k X Y : ByteArray} (h : tgV k X = true) : tgV k Y = true ↔ Y = X := by
  constructor
  · intro h2
    obtain ⟨e1, v1, -⟩ := tgV_of h
    obtain ⟨e2, v2, -⟩ := tgV_of h2
    have h3 := key_lex X Y v1 v2
    rw [← e1, ← e2, Pm.ord_B.refl] at h3
    by_cases c : Pm.cmpB X Y = 0
    · exact (Pm.ord_B.eq _ _ c).symm
    · rw [if_neg c] at h3
      exact absurd h3.symm c
  · rintro rfl; exact h
/-- What is gone over from a text's front on, as long as the keys are that text's. -/
def foundL (X : ByteArray) (l : List Kv) : List Kv := (l.drop (Pm.pos (frB X) l)).takeWhile fun x => tgV x.1 X
theorem found_is {l : List Kv} (hm : mayT l = true) (hs : Pm.Srt l) (X : ByteArray) : foundL X l = l.filter fun x => decide (x.2 = X) := by
  unfold foundL
  rw [drop_posT hs]
  have hp : ∀ x ∈ l, tgV x.1 X = decide (x.2 = X) := fun x hx => by
    rw [Bool.eq_iff_iff, tgV_text (mayT_mem hm hx), decide_eq_true_eq]
    exact eq_comm
  have hq : ∀ x ∈ l, (!decide (Pm.cmpB x.1 (frB X) = -1)) = !decide (Pm.cmpB x.2 X = -1) := fun x hx => by
    have h1 := tgV_of (mayT_mem hm hx)
    have h2 := key_front x.2 X (tgS x.1 x.2)
    rw [← h1.1] at h2
    congr 1
    rw [Bool.eq_iff_iff, decide_eq_true_eq, decide_eq_true_eq]
    exact h2
  rw [List.filter_congr hq]
  have e1 : ((l.filter fun x => !decide (Pm.cmpB x.2 X = -1)).takeWhile fun x => tgV x.1 X) = (l.filter fun x => !decide (Pm.cmpB x.2 X = -1)).takeWhile fun x => decide (x.2 = X) := by
    have : ∀ (m : List Kv), (∀ x ∈ m, x ∈ l) → (m.takeWhile fun x => tgV x.1 X) = m.takeWhile fun x => decide (x.2 = X) := by
      intro m
      induction m with
      | nil => intro _; rfl
      | cons a m ih =>
        intro h
        simp only [List.takeWhile_cons, hp a (h a (List.mem_cons_self ..)), ih (fun x hx => h x (List.mem_cons_of_mem _ hx))]
    exact this _ (fun x hx => (List.mem_filter.1 hx).1)
  rw [e1]
  refine take_filter ?_ (fun x _ h => ?_)
  · refine List.Pairwise.imp_of_mem ?_ hs
    intro a b ha hb hab h1 h2
    simp only [Bool.not_eq_true', decide_eq_false_iff_not] at h1 h2
    have ka := tgV_of (mayT_mem hm ha)
    have kb := tgV_of (mayT_mem hm hb)
    have h3 := key_lex a.2 b.2 ka.2.1 kb.2.1
    rw [← ka.1, ← kb.1, hab] at h3
    simp only [decide_eq_false_iff_not]
    intro e
    rw [e] at h3
    by_cases c : Pm.cmpB a.2 X = 0
    · exact h2 (Pm.ord_B.eq _ _ c)
    · rw [if_neg c] at h3
      exact h1 h3.symm
  · simp only [decide_eq_true_eq] at h
    simp [h, Pm.ord_B.refl]
end Go.Proofs.YtkkpdgfllnbigaaGreatDoor.Tg
namespace Go.Proofs.YtkkpdgfllnbigaaGreatDoor.Tg
open Go.RowKit Go.Shelf
set_option linter.unusedSimpArgs false
attribute [local go_sem] Oper.semAt_some

theorem tagsL_len {l : List Kv} : (tagsL l).length ≤ l.length := by
  unfold tagsL
  split <;> simp
theorem may28 {w : World} {t : Pm.T} {pm : Option Addr} (h : Mg w t) (hp : t.ptr = .pointer pm) : Calls Tryz.prog 30 #[.agg #[.pointer pm]] w fun e w' => e = .returned (.bool (mayT t.list)) ∧ Below w.heap.size w w' := by
  obtain ⟨w0, hw0⟩ : ∃ q, q = w.alloc (.cells #[.pointer pm] 43) := ⟨_, rfl⟩
  have m0 := heap_alloc_new w (.cells #[.pointer pm] 43)
  have b0 : Below w.heap.size w w0 := by rw [hw0]; exact (Below.refl _ w).alloc (Nat.le_refl _) _
  rw [← hw0] at m0
  have ht := tags123 t w0 (Pm.In.below b0 h.inn) h.srt h.key (by have := h.few; omega)
  unfold Pm.mv at ht
  rw [hp] at ht
  have c0 := (cell_of_row w0 w.heap.size 0 _ 43 (0, 0) m0).trans rfl
  have HW := hide hw0
  have HB := hide b0
  generalize mayT t.list = M at *
  clear h hp m0 hw0 b0
  go_enter Tryz.func30, Tryz.ntmps30
  go_upto_region 1 with fail
  rw [← HW.out]
  go_wp2_with (go_at_call 49; refine ht.mono ?_; rintro e w1 ⟨ao, c, rfl, -, b1⟩; have H1 := hide (HB.out.trans (b1.mono HB.out.size)); clear b1; dsimp only)
  go_ret
  exact ⟨rfl, H1.out⟩
end Go.Proofs.YtkkpdgfllnbigaaGreatDoor.Tg
namespace Go.Proofs.YtkkpdgfllnbigaaGreatDoor.Tg
open Go.RowKit Go.Shelf Go.Sort
set_option linter.unusedSimpArgs false
set_option linter.unusedVariables false
attribute [local go_sem] Oper.semAt_some

end Go.Proofs.YtkkpdgfllnbigaaGreatDoor.Tg
namespace Go.Proofs.YtkkpdgfllnbigaaGreatDoor
open Go.RowKit Go.Shelf
theorem ordS_T : Rise.OrdS cmpT := ⟨ord_T.range, ord_T.anti, ord_T.eq, ord_T.trans⟩
/-- Rising by stamps. -/
abbrev UpE (l : List El) : Prop := UpS l
theorem UpS.rise {l : List El} (h : UpS l) : ∀ (i j : Nat) (x y : El), i < j → l[i]? = some x → l[j]? = some y → cmpT x.1 y.1 = -1 := fun i j x y hij hx hy => by
  obtain ⟨hi, e1⟩ := List.getElem?_eq_some_iff.1 hx
  obtain ⟨hj, e2⟩ := List.getElem?_eq_some_iff.1 hy
  rw [← e1, ← e2]
  exact List.pairwise_iff_getElem.1 h i j hi hj hij
/-- Does a stamp stand in a list? -/
def standsB (s : St) (l : List El) : Bool := l.any fun y => decide (y.1 = s)
theorem standsB_iff (s : St) (l : List El) : standsB s l = true ↔ ∃ y ∈ l, y.1 = s := by
  unfold standsB; rw [List.any_eq_true]; simp
theorem drop_at {l : List El} {i : Nat} {x : El} (h : l[i]? = some x) : l.drop i = x :: l.drop (i + 1) := by
  obtain ⟨hi, e⟩ := List.getElem?_eq_some_iff.1 h
  rw [List.drop_eq_getElem_cons hi, e]
/-- All that was passed of b is ahead of what is left of a. -/
def Past (a b : List El) (i k : Nat) : Prop := ∀ j y, j < k → b[j]? = some y → ∀ x ∈ a.drop i, cmpT y.1 x.1 = -1
theorem Past.left {a b : List El} {i k : Nat} (h : Past a b i k) : Past a b (i + 1) k := fun j y hj hy x hx => h j y hj hy x (by
  rw [← List.drop_drop] at hx
  exact List.mem_of_mem_drop hx)
theorem up_next {a : List El} (u : UpE a) {i : Nat} {x z : El} (h : a[i]? = some x) (hz : z ∈ a.drop (i + 1)) : cmpT x.1 z.1 = -1 := by
  obtain ⟨j, hj, e⟩ := List.getElem_of_mem hz
  rw [List.getElem_drop] at e
  have hl : i + 1 + j < a.length := by rw [List.length_drop] at hj; omega
  exact u.rise i (i + 1 + j) x z (by omega) h (by rw [List.getElem?_eq_getElem hl, e])
theorem Past.right {a b : List El} {i k : Nat} (h : Past a b i k) (ua : UpE a) {x y : El} (hx : a[i]? = some x) (hy : b[k]? = some y) (hg : ¬ cmpT x.1 y.1 ≤ 0) : Past a b i (k + 1) := fun j z hj hz u hu => by
  by_cases hjk : j = k
  · subst hjk
    rw [hy] at hz
    cases hz
    have hyx : cmpT y.1 x.1 = -1 := by
      have h1 := ordS_T.anti y.1 x.1
      have h2 := ordS_T.range y.1 x.1
      omega
    rw [drop_at hx] at hu
    rcases List.mem_cons.1 hu with rfl | hu
    · exact hyx
    · exact ordS_T.trans _ _ _ hyx (up_next ua hx hu)
  · exact h j z (by omega) hz u hu
theorem Past.end {a b : List El} {k : Nat} : Past a b a.length k := fun j y _ _ x hx => by
  rw [List.drop_length] at hx; cases hx
theorem Past.gone {a b : List El} {i k : Nat} (h : Past a b i k) {x : El} (hx : a[i]? = some x) {j : Nat} {y : El} (hj : j < k) (hy : b[j]? = some y) : y.1 ≠ x.1 := fun e => by
  have := h j y hj hy x (by rw [drop_at hx]; exact List.mem_cons_self)
  rw [e, ordS_T.refl] at this
  omega
theorem Past.none {a b : List El} {i : Nat} (h : Past a b i b.length) {x : El} (hx : a[i]? = some x) : standsB x.1 b = false := by
  rw [Bool.eq_false_iff, Ne, standsB_iff]
  rintro ⟨y, hy, e⟩
  obtain ⟨j, hj, e2⟩ := List.getElem_of_mem hy
  exact h.gone hx hj (by rw [List.getElem?_eq_getElem hj, e2]) e
theorem Past.same {a b : List El} {i k : Nat} (h : Past a b i k) (ub : UpE b) {x y : El} (hx : a[i]? = some x) (hy : b[k]? = some y) (hl : cmpT x.1 y.1 ≤ 0) (hs : standsB x.1 b = true) : y.1 = x.1 := by
  obtain ⟨z, hz, e⟩ := (standsB_iff _ _).1 hs
  obtain ⟨j, hj, e2⟩ := List.getElem_of_mem hz
  have hzj : b[j]? = some z := by rw [List.getElem?_eq_getElem hj, e2]
  by_cases hjk : j < k
  · exact absurd e (h.gone hx hjk hzj)
  by_cases hkj : j = k
  · subst hkj
    rw [hy] at hzj
    cases hzj
    exact e
  have := ub.rise k j y z (by omega) hy hzj
  rw [e] at this
  have h1 := ordS_T.anti y.1 x.1
  omega
theorem Past.both {a b : List El} {i k : Nat} (h : Past a b i k) (ua : UpE a) {x y : El} (hx : a[i]? = some x) (hy : b[k]? = some y) (e : y.1 = x.1) : Past a b (i + 1) (k + 1) := fun j z hj hz u hu => by
  by_cases hjk : j = k
  · subst hjk
    rw [hy] at hz
    cases hz
    rw [e]
    exact up_next ua hx hu
  · exact h.left j z (by omega) hz u hu
end Go.Proofs.YtkkpdgfllnbigaaGreatDoor
namespace Go.Proofs.YtkkpdgfllnbigaaGreatDoor
open Go.RowKit Go.Shelf
set_option linter.unusedSimpArgs false
attribute [local go_sem] Oper.semAt_some

end Go.Proofs.YtkkpdgfllnbigaaGreatDoor
namespace Go.Proofs.YtkkpdgfllnbigaaGreatDoor
open Go.RowKit Go.Shelf
set_option linter.unusedSimpArgs false
attribute [local go_sem] Oper.semAt_some

theorem pushT {B : Nat} {w w2 : World} {ao : Option Addr} {c : Nat} {p : List El} (x : El) (H : Hid (Below B w w2 ∧ Oe w2 B (.slice ao p.length c) p)) (hB : B ≤ w.heap.size) (hp : p.length ≤ 200000) {ops : Array Oper} {rest : List Oper} {o : Oper} {a : Act} {Q : Exit → Act → World → Prop} (hg : o.guard = none) (s t : Operand) (ho : o.op = .call { callee := .builtin .append, args := #[s, t], argTypes := #[69, 69] })
      (hs : a.eval s = .slice ao p.length c) (ht : a.eval t = .slice (some ⟨w2.heap.size, 0, none⟩) 1 1)
      (hk : ∀ ao' cap' w', Hid ((ao' = none → cap' = 0) ∧ Below B w w' ∧ Oe w' B (.slice ao' (p.length + 1) cap') (p ++ [x])) → wpList Tryz.prog ops Q rest (a.put o.dst (.slice ao' (p.length + 1) cap')) w') :
      wpList Tryz.prog ops Q (o :: rest) a (w2.alloc (.cells (encE x).toArray 33)) := by
  have hb2 := H.out.1
  have hO := H.out.2
  have hbA : Below B w (w2.alloc (.cells (encE x).toArray 33)) := hb2.alloc (by have := hb2.size; omega) _
  refine wpList_pushE hg s t ho B _ p hs (hO.alloc _) w2.heap.size 1 x ht (heap_alloc_new w2 _) (by omega) (by simp; have := hb2.size; omega) ?_
  intro ao' cap' w' h1 h2 h3
  have hb := below_oe hbA (by simp; have := hb2.size; omega) (hO.alloc _) h2
  exact hk ao' cap' w' (hide ⟨h3, hb, h1⟩)

end Go.Proofs.YtkkpdgfllnbigaaGreatDoor
namespace Go.Proofs.YtkkpdgfllnbigaaGreatDoor.Tg
open Go.RowKit Go.Shelf
set_option linter.unusedSimpArgs false
set_option linter.unusedVariables false
attribute [local go_sem] Oper.semAt_some

/-- Is it there? -/
def inB (x : El) (l : List El) : Bool := l.any fun y => decide (y = x)
end Go.Proofs.YtkkpdgfllnbigaaGreatDoor.Tg
