/-
  tagset: Tags (37), Has (36).
  ITERATORS THAT HAND OVER ROWS OF THEIR OWN, and the law for a range over one: what is handed over is told by a relation.
-/
import Derived.Test.YtkkpdgfllnbigaaGreatDoorMg20
import Derived.Test.YtkkpdgfllnbigaaGreatDoorMg9
namespace Go.Proofs.YtkkpdgfllnbigaaGreatDoor.Tg
open Go.RowKit Go.Shelf
set_option linter.unusedSimpArgs false
set_option linter.unusedVariables false
attribute [local go_sem] Oper.semAt_some

/-- What stands between rounds. -/
structure TaI (wA : World) (Lb : Nat) (L : List St) (B k : Nat) (W : World) : Prop where
  only : Only (fun j => j = Lb ∨ B ≤ j) wA W
  le : k ≤ L.length
  box : ∃ ao c, W.heap[Lb]? = some (.cells #[.slice ao k c] 53 (0, 0)) ∧ Ov W B (.slice ao k c) (L.take k)
theorem TaI.own {wA : World} {Lb : Nat} {L : List St} {B k : Nat} {W W' : World} (h : TaI wA Lb L B k W) (hL : Lb < wA.heap.size) (hB : wA.heap.size + 2 ≤ B) (ho : Only (fun j => wA.heap.size + 1 ≤ j ∧ j < B) W W') : TaI wA Lb L B k W' := by
  obtain ⟨ao, c, hb, hO⟩ := h.box
  refine ⟨h.only.trans ho (fun j hj e => by have e' : wA.heap.size + 1 ≤ j ∧ j < B := e; omega), h.le, ao, c, (ho.block _ (gI hb).1 (fun e => by have e' : wA.heap.size + 1 ≤ Lb ∧ Lb < B := e; omega)).trans hb, hO.only ho (fun k hk e => by have := World.ownsRow.lt hO k hk; have e' : wA.heap.size + 1 ≤ k ∧ k < B := e; omega)⟩
/-- The stamps of a text's tags. -/
def stgL (l : List Kv) (X : ByteArray) : List St := if tokR l X = true then (foundL X l).map fun x => tgS x.1 X else []
def TagE (w : World) (L : List St) (e : Ending) (w' : World) : Prop := ∃ ao c, e = .returned (.slice ao L.length c) ∧ Ov w' w.heap.size (.slice ao L.length c) L ∧ Below w.heap.size w w'
set_option maxHeartbeats 8000000 in
set_option maxRecDepth 100000 in
theorem tags37 {w : World} {t : Pm.T} {pm : Option Addr} (X : ByteArray) (h : Mg w t) (hp : t.ptr = .pointer pm) : Calls Tryz.prog 17 #[.agg #[.pointer pm], .string X] w (TagE w (stgL t.list X)) := by
  obtain ⟨w0, hw0⟩ : ∃ q, q = w.alloc (.cells #[.pointer pm] 43) := ⟨_, rfl⟩
  have m0 := heap_alloc_new w (.cells #[.pointer pm] 43)
  have b0 : Below w.heap.size w w0 := by rw [hw0]; exact (Below.refl _ w).alloc (Nat.le_refl _) _
  have s0 : w0.heap.size = w.heap.size + 1 := by rw [hw0]; simp
  rw [← hw0] at m0
  obtain ⟨Mb, hMb⟩ : ∃ q, q = w.heap.size := ⟨_, rfl⟩
  rw [← hMb] at m0
  have HW := hide (And.intro hw0 (And.intro hMb s0))
  have HC : Hid (∀ W, Below w0.heap.size w0 W → W.cell? ⟨Mb, 0, none⟩ = some (.pointer pm) ∧ Mg W t ∧ Below w.heap.size w W) := hide (fun W hW => ⟨cell_stays ((cell_of_row _ _ 0 _ 43 (0, 0) m0).trans rfl) hW, h.below (b0.trans (hW.mono b0.size)), b0.trans (hW.mono b0.size)⟩)
  have htx := fun W => mayText129 X W
  have hmay := fun W (hW : Mg W t) => may28 hW hp
  have HF := hide (And.intro h hp)
  obtain ⟨SL, hSL⟩ : ∃ q, q = stgL t.list X := ⟨_, rfl⟩
  rw [← hSL]
  have HSL := hide hSL
  have HE0 : Hid (∀ W ao c, Ov W w.heap.size (.slice ao SL.length c) SL → Below w.heap.size w W → TagE w SL (.returned (.slice ao SL.length c)) W) := hide (fun W ao c h1 h2 => ⟨ao, c, rfl, h1, h2⟩)
  generalize TagE w SL = PE at HE0 ⊢
  obtain ⟨c0, -, -⟩ := HC.out w0 (Below.refl _ _)
  have bad : tokR t.list X = false → Hid (∀ W, Below w.heap.size w W → PE (.returned (.slice none 0 0)) W) := fun hn => hide (fun W hW => by
    have hS : SL = [] := by rw [hSL]; unfold stgL; rw [hn]; rfl
    have := HE0.out W none 0 (by rw [hS]; exact Ov.nil _ _) hW
    rw [hS] at this
    exact this)
  clear h hp m0 b0 s0 hw0 hMb hSL
  cases hX : txtB X with
  | false =>
    rw [hX] at htx
    have HB := bad (by unfold tokR; rw [hX]; rfl)
    clear bad hmay hX
    refine calls_marks Tryz.func17 rfl ?_
    simp only [Tryz.ntmps17, List.size_toArray, List.length_cons, List.length_nil, Nat.reduceAdd, Nat.reduceSub, Array.replicate_succ, Array.replicate_zero, List.push_toArray, List.append_toArray, List.nil_append, List.cons_append]
    go_upto_region 1 with fail
    rw [← HW.out.1, ← HW.out.2.1]
    go_wp2_with (go_at_call 21; refine (htx _).mono ?_; rintro e w1 ⟨rfl, hw⟩; replace hw := hw.symm; subst hw; dsimp only)
    refine ret_lv ?_
    dsimp only
    exact leave_tmp rfl rfl (HB.out _ (HC.out w0 (Below.refl _ _)).2.2)
  | true =>
    rw [hX] at htx
    have hm0 := hmay w0 (HC.out w0 (Below.refl _ _)).2.1
    cases hm : mayT t.list with
    | false =>
      rw [hm] at hm0
      have HB := bad (by unfold tokR; rw [hX, hm]; rfl)
      clear bad hX hm hmay
      refine calls_marks Tryz.func17 rfl ?_
      simp only [Tryz.ntmps17, List.size_toArray, List.length_cons, List.length_nil, Nat.reduceAdd, Nat.reduceSub, Array.replicate_succ, Array.replicate_zero, List.push_toArray, List.append_toArray, List.nil_append, List.cons_append]
      go_upto_region 1 with fail
      rw [← HW.out.1, ← HW.out.2.1]
      go_wp2_with (first
        | (go_at_call 21; refine (htx _).mono ?_; rintro e w1 ⟨rfl, hw⟩; replace hw := hw.symm; subst hw; dsimp only)
        | (go_at_call 30; refine hm0.mono ?_; rintro e w2 ⟨rfl, b2⟩; have H2 := hide b2; clear b2; dsimp only))
      refine ret_lv ?_
      dsimp only
      exact leave_tmp rfl rfl (HB.out _ (HC.out w2 H2.out).2.2)
    | true =>
      rw [hm] at hm0
      have HO := hide (And.intro hX hm)
      have hfo := fun W => found130 (pm := pm) X W
      clear bad hX hm hmay
      refine calls_marks Tryz.func17 rfl ?_
      simp only [Tryz.ntmps17, List.size_toArray, List.length_cons, List.length_nil, Nat.reduceAdd, Nat.reduceSub, Array.replicate_succ, Array.replicate_zero, List.push_toArray, List.append_toArray, List.nil_append, List.cons_append]
      go_upto_region 1 with fail
      rw [← HW.out.1, ← HW.out.2.1]
      go_upto_region 3 with (first
        | (go_at_call 21; refine (htx _).mono ?_; rintro e w1 ⟨rfl, hw⟩; replace hw := hw.symm; subst hw; dsimp only)
        | (go_at_call 30; refine hm0.mono ?_; rintro e w2 ⟨rfl, b2⟩; have H2 := hide b2; clear b2; dsimp only))
      clear hm0 c0
      obtain ⟨c2, -, -⟩ := HC.out w2 H2.out
      go_upto_region 4 with fail
      obtain ⟨w3, hw3⟩ : ∃ q, q = w2.alloc (.cells #[.slice none 0 0] 53) := ⟨_, rfl⟩
      have n0 := heap_alloc_new w2 (.cells #[.slice none 0 0] 53)
      have b3 : Below w2.heap.size w2 w3 := by rw [hw3]; exact (Below.refl _ w2).alloc (Nat.le_refl _) _
      have s3 : w3.heap.size = w2.heap.size + 1 := by rw [hw3]; simp
      rw [← hw3] at n0
      obtain ⟨Lb, hLb⟩ : ∃ q, q = w2.heap.size := ⟨_, rfl⟩
      rw [← hw3, ← hLb]
      rw [← hLb] at n0
      have c3 := cell_stays c2 b3
      have b03 : Below w0.heap.size w0 w3 := H2.out.trans (b3.mono H2.out.size)
      obtain ⟨-, mg3, bw3⟩ := HC.out w3 b03
      obtain ⟨wA, hwA⟩ : ∃ q, q = (w3.alloc (.cells #[.pointer pm] 43)).alloc (.cells #[.string X] 9) := ⟨_, rfl⟩
      obtain ⟨k0, k1⟩ := new2 w3 (.cells #[.pointer pm] 43) (.cells #[.string X] 9)
      have bA : Below w3.heap.size w3 wA := by rw [hwA]; exact ((Below.refl _ w3).alloc (Nat.le_refl _) _).alloc (by simp) _
      have sA : wA.heap.size = w3.heap.size + 2 := by rw [hwA]; simp
      have hfo3 := hfo w3
      rw [← hwA] at k0 k1 hfo3
      have hs2 := H2.out.size
      have hs0 := HW.out.2.2
      have mgA := mg3.below bA
      have cLm : wA.cell? ⟨w3.heap.size, 0, none⟩ = some t.ptr := by rw [HF.out.2]; exact (cell_of_row _ _ 0 _ 43 (0, 0) k0).trans rfl
      have cLx : wA.cell? ⟨w3.heap.size + 1, 0, none⟩ = some (.string X) := (cell_of_row _ _ 0 _ 9 (0, 0) k1).trans rfl
      have hit := iterFound X HO.out.1 t w3.heap.size (w3.heap.size + 1) wA mgA.inn mgA.srt mgA.key cLm cLx
      obtain ⟨FL, hFL⟩ : ∃ q, q = foundL X t.list := ⟨_, rfl⟩
      rw [← hFL] at hit
      have hfl : FL.length ≤ 400 := by
        rw [hFL, found_is HO.out.2 HF.out.1.srt]
        exact Nat.le_trans (List.length_filter_le _ _) (by rw [Pm.T.n_eq]; exact HF.out.1.few)
      have hSF : SL = FL.map fun x => tgS x.1 X := by rw [HSL.out, hFL]; unfold stgL tokR; rw [HO.out.1, HO.out.2]; rfl
      have hKlt : ∀ j, KB t w3.heap.size (w3.heap.size + 1) j → j < wA.heap.size ∧ j ≠ Lb := fun j hj => by
        have h1 := HW.out
        rcases hj with rfl | rfl | hj
        · omega
        · omega
        · have := HF.out.1.inn.blk_lt hj; omega
      have h0 : ∀ B W, Below wA.heap.size wA W → W.heap.size ≤ B → TaI wA Lb SL B 0 W := fun B W hb hB => by
        have b3W := bA.trans (hb.mono bA.size)
        exact ⟨below_only hb, Nat.zero_le _, none, 0, (b3W.block _ (gI n0).1).trans n0, by rw [List.take_zero]; exact Ov.nil _ _⟩
      have HZ := hide (And.intro (show wA.heap.size = w2.heap.size + 3 ∧ Lb = w2.heap.size ∧ w.heap.size + 1 ≤ w2.heap.size by have h1 := HW.out; omega) (And.intro hSF (And.intro hfl (bw3.trans (bA.mono bw3.size)))))
      clear hw3 n0 b3 s3 hLb c2 b03 mg3 bw3 hwA k0 k1 bA sA hfo hs2 hs0 mgA cLm cLx hFL hfl htx H2 hSF
      go_wp2_with (go_at_call 33; refine hfo3.mono ?_; rintro e w' ⟨rfl, hw'⟩; obtain rfl : wA = w' := hw'.symm; clear hw'; dsimp only)
      clear hfo3 c3
      refine range_ib (Q := _) 53 enters53 _ FL (encF X) _ hit rfl (fun _ _ => rfl) (fun j hj => (hKlt j hj).1) (fun j => j = Lb) (fun j e hj => by have := hKlt j hj; omega) (fun j e => by have := HZ.out.1; omega)
        (fun B k W => TaI wA Lb SL B k W) (fun _ _ _ => False)
        (fun B k W W' hB hi ho => hi.own (by have := HZ.out.1; omega) hB ho) (fun B c W W' hB hi ho => hi) h0 ?hround ?hdone (fun B c W hB hi => hi.elim)
      case hdone =>
        rintro B W hB hi hlt hk0
        obtain ⟨ao, cp, hbx, hO⟩ := hi.box
        obtain ⟨z1, z2, z3, z4⟩ := HZ.out
        have hlS : FL.length = SL.length := by rw [z2, List.length_map]
        rw [hlS] at hbx hO
        rw [List.take_length] at hO
        have bW : Below w.heap.size w W := Below.only z4 hi.only z4.size (fun j e => by omega)
        have cL : W.cell? ⟨Lb, 0, none⟩ = some (.slice ao SL.length cp) := (cell_of_row _ _ 0 _ 53 (0, 0) hbx).trans rfl
        have hBw : w.heap.size ≤ B ∧ wA.heap.size < B ∧ w.heap.size ≤ wA.heap.size := by omega
        have HE := hide (And.intro hk0 (And.intro hO (And.intro bW hBw)))
        clear hit hKlt h0 hi hbx hO z1 z2 z3 z4 hlS bW hk0 hlt hB hBw
        go_wp2
        refine ret_lv ?_
        dsimp only
        obtain ⟨hk9, hO9, hb9, hq⟩ := HE.out
        have o10 := only_putObj W wA.heap.size (.deferred none)
        refine leave_mark hk9 (leave_tmp rfl rfl (HE0.out _ ao cp ((hO9.only o10 (fun k hk e => by have := World.ownsRow.lt hO9 k hk; have e' : k = wA.heap.size := e; omega)).lift hq.1) (Below.only hb9 o10 hb9.size (fun j e => by have e' : j = wA.heap.size := e; omega))))
      case hround =>
        rintro B c ⟨k, x⟩ W hB hx hi hSame hsz
        clear hit hKlt h0 hSame
        have hsx : SL[c]? = some (tgS k X) := by rw [HZ.out.2.1, List.getElem?_map, hx]; rfl
        obtain ⟨s, hs⟩ : ∃ s, s = tgS k X := ⟨_, rfl⟩
        dsimp only [encF]
        rw [← hs] at hsx ⊢
        have htk : SL.take (c + 1) = SL.take c ++ [s] := by rw [List.take_add_one, hsx]; rfl
        have hcl := (List.getElem?_eq_some_iff.1 hsx).1
        obtain ⟨g, r, lb, n, ix⟩ := s
        have HT := hide (And.intro htk hcl)
        clear hs hsx htk hcl hx
        dsimp only [svT]
        gi_wp2
        obtain ⟨W1, hW1⟩ : ∃ W1, W1 = W.alloc (.cells #[.int .i64 g, .int .i64 r, .string lb, .int .i64 n, .int .i64 ix] 27) := ⟨_, rfl⟩
        have r1 := heap_alloc_new W (.cells #[.int .i64 g, .int .i64 r, .string lb, .int .i64 n, .int .i64 ix] 27)
        have b1 : Below W.heap.size W W1 := by rw [hW1]; exact (Below.refl _ W).alloc (Nat.le_refl _) _
        rw [← hW1] at r1 ⊢
        refine ⟨below_only b1, fun W2 ho2 => ?_⟩
        obtain ⟨z1, z2, z3, z4⟩ := HZ.out
        obtain ⟨htk, hcl⟩ := HT.out
        obtain ⟨ao, cp, hbx, hO⟩ := hi.box
        have hown : ∀ j, (Value.slice ao c cp).ownBlock = some j → B ≤ j ∧ j < W.heap.size := fun j hj => World.ownsRow.lt hO j hj
        have bx1 := (b1.block _ (gI hbx).1).trans hbx
        have bx2 := (ho2.block _ (gI bx1).1 (fun e => by have e' : Lb = wA.heap.size + 1 := e; omega)).trans bx1
        obtain ⟨Sb, hSb⟩ : ∃ q, q = W.heap.size := ⟨_, rfl⟩
        rw [← hSb] at r1 hown ⊢
        have r2 := (ho2.block _ (gI r1).1 (fun e => by have e' : Sb = wA.heap.size + 1 := e; omega)).trans r1
        have hO2 : Ov W2 B (.slice ao c cp) (SL.take c) := (hO.below b1).only ho2 (fun j hj e => by have := hown j hj; have e' : j = wA.heap.size + 1 := e; omega)
        have on2 : Only (fun j => j = Lb ∨ B ≤ j) wA W2 := (hi.only.next (below_only b1)).trans ho2 (fun j hj e => by have e' : j = wA.heap.size + 1 := e; omega)
        have hz2 : B ≤ W2.heap.size := Nat.le_trans hsz (Nat.le_trans b1.size ho2.size)
        have cL : W2.cell? ⟨Lb, 0, none⟩ = some (.slice ao c cp) := (cell_of_row _ _ 0 _ 53 (0, 0) bx2).trans rfl
        have d0 : W2.cell? ⟨Sb, 0, none⟩ = some (.int .i64 g) := (cell_of_row _ _ 0 _ 27 (0, 0) r2).trans rfl
        have d1 : W2.cell? ⟨Sb, 1, none⟩ = some (.int .i64 r) := (cell_of_row _ _ 1 _ 27 (0, 0) r2).trans rfl
        have d2 : W2.cell? ⟨Sb, 2, none⟩ = some (.string lb) := (cell_of_row _ _ 2 _ 27 (0, 0) r2).trans rfl
        have d3 : W2.cell? ⟨Sb, 3, none⟩ = some (.int .i64 n) := (cell_of_row _ _ 3 _ 27 (0, 0) r2).trans rfl
        have d4 : W2.cell? ⟨Sb, 4, none⟩ = some (.int .i64 ix) := (cell_of_row _ _ 4 _ 27 (0, 0) r2).trans rfl
        have hpl : (SL.take c).length = c := by rw [List.length_take]; omega
        have hSl : SL.length ≤ 400 := by rw [z2, List.length_map]; exact z3
        obtain ⟨W3, hW3⟩ : ∃ q, q = W2.alloc (.cells #[.int .i64 g, .int .i64 r, .string lb, .int .i64 n, .int .i64 ix] 27) := ⟨_, rfl⟩
        have m3 := heap_alloc_new W2 (.cells #[.int .i64 g, .int .i64 r, .string lb, .int .i64 n, .int .i64 ix] 27)
        have b3 : Below W2.heap.size W2 W3 := by rw [hW3]; exact (Below.refl _ W2).alloc (Nat.le_refl _) _
        rw [← hW3] at m3
        obtain ⟨a', c', w8, hr, hO8, ho8, hW8⟩ := push_OvW (y := (g, r, lb, n, ix)) (hO2.below b3) m3 (by rw [hpl]; omega) (by have := b3.size; omega)
        rw [hpl] at hr hO8 hW8
        have bx3 := (b3.block _ (gI bx2).1).trans bx2
        have bx8 := (ho8.block Lb (gI bx3).1 (fun e => by have := hown Lb e; omega)).trans bx3
        obtain ⟨u9, o9⟩ := set_one (i := 0) (.slice a' (c + 1) c') bx8
        have oo : Only (fun j => j = Lb ∨ B ≤ j) W2 (w8.setCell ⟨Lb, 0, none⟩ (.slice a' (c + 1) c')) := ((below_only b3).next (ho8.mono (fun j _ e => .inr (hown j e).1))).next (o9.mono (fun j _ e => .inl e))
        have cL8 : w8.cell? ⟨Lb, 0, none⟩ = some (.slice ao c cp) := (cell_of_row _ _ 0 _ 53 (0, 0) bx8).trans rfl
        have fL8 := frozen_of_row _ _ 0 _ 53 bx8
        have HY : Hid (Only (fun j => j = Lb ∨ B ≤ j) W2 (w8.setCell ⟨Lb, 0, none⟩ (.slice a' (c + 1) c')) ∧ TaI wA Lb SL B (c + 1) (w8.setCell ⟨Lb, 0, none⟩ (.slice a' (c + 1) c'))) := hide ⟨oo, on2.next oo, by omega, a', c', by simpa using u9, by
          rw [htk]
          exact hO8.only o9 (fun j hj e => by have e' : j = Lb := e; have := World.ownsRow.lt hO8 j hj; omega)⟩
        rw [hW3] at hr
        clear hi ho2 hsz hz2 hbx hO hown bx1 bx2 r1 r2 hO2 on2 hpl hSl hW3 m3 b3 hO8 ho8 hW8 bx3 bx8 u9 o9 oo hSb hW1 b1 z1 z2 z3 z4 htk hcl
        gi_wp2_with (gi_at_builtin; refine turn_in (OP := .call { callee := .builtin .append, args := #[.tmp 21, .tmp 23], argTypes := #[53, 53] }) (T := 53) rfl rfl rfl (by intro c e; cases e) (exec_append rfl rfl hr) ?_)
        exact HY.out
end Go.Proofs.YtkkpdgfllnbigaaGreatDoor.Tg
namespace Go.Proofs.YtkkpdgfllnbigaaGreatDoor
open Go.RowKit Go.Shelf
set_option linter.unusedSimpArgs false
attribute [local go_sem] Oper.semAt_some

/-- F, with what it has caught, hands over xs. Between rounds it may turn the blocks from W's end to B alone; the rounds may turn D's and those from B on. -/
def IterR {α : Type} (F : FuncId) (caps : Array Value) (xs : List α) (E : Nat → World → α → Array Value → Prop) (K : Nat → Prop) (w : World) : Prop :=
  ∀ (l : Nat) (D : Nat → Prop) (J : Nat → Nat → World → Prop) (Jx : Nat → World → Prop) (W : World), Pm.Same K w W → w.heap.size ≤ W.heap.size → (∀ j, D j → ¬ K j) → (∀ j, D j → j < W.heap.size) →
    (∀ B c W1 W2, W.heap.size ≤ B → J B c W1 → Only (fun j => W.heap.size ≤ j ∧ j < B) W1 W2 → J B c W2) →
    (∀ B W1 W2, W.heap.size ≤ B → Jx B W1 → Only (fun j => W.heap.size ≤ j ∧ j < B) W1 W2 → Jx B W2) →
    (∀ B c x args W1, W.heap.size ≤ B → xs[c]? = some x → E B W1 x args → J B c W1 → Pm.Same K w W1 → B ≤ W1.heap.size → YieldAt Fence.wide 4 Tryz.prog l args W1 (Pm.Went (fun j => D j ∨ B ≤ j) (J B) (Jx B) W1 (c + 1))) →
    (∀ B W1, Below W.heap.size W W1 → W1.heap.size ≤ B → J B 0 W1) →
    Calls Tryz.prog F (#[.func (.yield l) #[] #[]] ++ caps) W fun e W' => (∃ v, e = .returned v) ∧ ∃ B, W.heap.size ≤ B ∧ (J B xs.length W' ∨ Jx B W')

set_option maxHeartbeats 1000000 in
/-- 'for .. := range it { .. }' over such a one: I, Ix are told from where on the rounds' own blocks lie. -/
theorem range_ir {α : Type} {a : Act} {w : World} {Q : Exit → Act → World → Prop} {g : Operand} {ps : Array Tmp} {assign body : Code} (F : FuncId) (eg : Enters Tryz.prog F) (caps : Array Value) (xs : List α) (E : Nat → World → α → Array Value → Prop) (K : Nat → Prop)
    (hit : IterR F caps xs E K w) (hg : a.eval g = .func (.func F) #[] caps) (hps : ∀ B W x args, E B W x args → args.size = ps.size) (hK : ∀ j, K j → j < w.heap.size)
    (D : Nat → Prop) (hDK : ∀ j, D j → ¬ K j) (hDlt : ∀ j, D j → j < w.heap.size)
    (I : Nat → Nat → World → Prop) (Ix : Nat → Code → World → Prop) (hI : ∀ B k W W', w.heap.size + 2 ≤ B → I B k W → Only (fun j => w.heap.size + 1 ≤ j ∧ j < B) W W' → I B k W') (hIx : ∀ B c W W', w.heap.size + 2 ≤ B → Ix B c W → Only (fun j => w.heap.size + 1 ≤ j ∧ j < B) W W' → Ix B c W') (h0 : ∀ B W, Below w.heap.size w W → W.heap.size ≤ B → I B 0 W)
    (hround : ∀ B c x args W, w.heap.size + 2 ≤ B → xs[c]? = some x → E B W x args → I B c W → Pm.Same K w W → B ≤ W.heap.size →
      assign.wpIn (Fence.wide.inRound (w.heap.size + 1)) 4 Tryz.prog (Exit.then (fun a1 W1 => Only (fun j => D j ∨ B ≤ j) W W1 ∧ ∀ W2, Only (fun j => j = w.heap.size + 1) W1 W2 → body.wpIn (Fence.wide.inRound (w.heap.size + 1)) 4 Tryz.prog (rpost (fun j => D j ∨ B ≤ j) (I B) (Ix B) W2 (c + 1)) a1 W2) (fun _ _ _ => False))
        { tmps := (ps.zip args).foldl (fun t (p, v) => t.setIfInBounds p v) a.tmps, defers := [] } W)
    (hdone : ∀ B W, w.heap.size + 2 ≤ B → I B xs.length W → w.heap.size < W.heap.size → W.heap[w.heap.size]? = some (.deferred (some [])) → Q .normal { a with defers := { target := .collected w.heap.size, args := #[] } :: a.defers } W)
    (hstop : ∀ B c W, w.heap.size + 2 ≤ B → Ix B c W → w.heap.size < W.heap.size → W.heap[w.heap.size]? = some (.deferred (some [])) → c.wp Tryz.prog Q { a with defers := { target := .collected w.heap.size, args := #[] } :: a.defers } W) :
    (Code.rangeFunc g ps assign body).wp Tryz.prog Q a w := by
  have hD0 : ¬ D w.heap.size := fun d => by have := hDlt _ d; omega
  have hD1 : ¬ D (w.heap.size + 1) := fun d => by have := hDlt _ d; omega
  refine (wpIn_wide (n := 6)).1 (wpIn_rangeFunc (fun fn _ => ?_))
  obtain ⟨rec, hrec⟩ : ∃ rec : LoopState → Option Code → Loop, rec = fun st pe => { state := st, pending := pe, fn := fn, tmps := a.tmps, params := ps, assign := assign, body := body, defers := w.heap.size } := ⟨_, rfl⟩
  obtain ⟨W1, hW1⟩ : ∃ W1, (w.alloc (.deferred (some []))).alloc (.loop (rec .ready none)) = W1 := ⟨_, rfl⟩
  obtain ⟨m0, m1⟩ := new2 w (.deferred (some [])) (.loop (rec .ready none))
  rw [hW1] at m0 m1
  have hb1 : Below w.heap.size w W1 := by rw [← hW1]; exact ((Below.refl _ w).alloc (Nat.le_refl _) _).alloc (by simp) _
  have hs1 : W1.heap.size = w.heap.size + 2 := by rw [← hW1]; simp
  have toOnly : ∀ {A B : World}, Below A.heap.size A B → Only (fun j => j = w.heap.size + 1) A B := fun h => below_only h
  have hK1 : Pm.Same K w W1 := fun j hj => hb1.block j (hK j hj)
  refine ⟨w.heap.size + 1, [{ target := .collected w.heap.size, args := #[] }], W1, { target := .fn (.func F) caps, args := #[.func (.yield (w.heap.size + 1)) #[] #[]] }, W1, F,
    #[.func (.yield (w.heap.size + 1)) #[] #[]] ++ caps, W1, ?_, ?_, fun _ _ => trivial, ?_, fun _ => by omega, ?_⟩
  · rw [← hW1, hrec]; exact run_enterLoop_outer _ _ _ _ _
  · simp only [resolve, hg]
    simp [go_sem]
  · have eg' := fun args w => eg args w
    simp [invoke, go_sem, eg']
  · refine callsIn_wide.2 ((hit (w.heap.size + 1) (fun j => D j ∨ j = w.heap.size + 1)
      (fun B k W => I B k W ∧ W.heap[w.heap.size + 1]? = some (.loop (rec .ready none)) ∧ W.heap[w.heap.size]? = some (.deferred (some [])))
      (fun B W => ∃ c, Ix B c W ∧ W.heap[w.heap.size + 1]? = some (.loop (rec .done (some c))) ∧ W.heap[w.heap.size]? = some (.deferred (some []))) W1 hK1 (by omega)
      (fun j e => e.elim (hDK j) (fun e k => by have := hK j k; omega)) (fun j e => by rw [hs1]; exact e.elim (fun e => Nat.lt_of_lt_of_le (hDlt j e) (by omega)) (fun e => by omega))
      (fun B k W W' hB hj ho => by
        rw [hs1] at hB ho
        exact ⟨hI B k W W' hB hj.1 (ho.mono (fun j _ e => by have e' : w.heap.size + 2 ≤ j ∧ j < B := e; exact ⟨by omega, by omega⟩)), (ho.block _ (gI hj.2.1).1 (fun e => by have e' : w.heap.size + 2 ≤ w.heap.size + 1 ∧ w.heap.size + 1 < B := e; omega)).trans hj.2.1, (ho.block _ (gI hj.2.2).1 (fun e => by have e' : w.heap.size + 2 ≤ w.heap.size ∧ w.heap.size < B := e; omega)).trans hj.2.2⟩)
      (fun B W W' hB hj ho => by
        rw [hs1] at hB ho
        obtain ⟨c, hj⟩ := hj
        exact ⟨c, hIx B c W W' hB hj.1 (ho.mono (fun j _ e => by have e' : w.heap.size + 2 ≤ j ∧ j < B := e; exact ⟨by omega, by omega⟩)), (ho.block _ (gI hj.2.1).1 (fun e => by have e' : w.heap.size + 2 ≤ w.heap.size + 1 ∧ w.heap.size + 1 < B := e; omega)).trans hj.2.1, (ho.block _ (gI hj.2.2).1 (fun e => by have e' : w.heap.size + 2 ≤ w.heap.size ∧ w.heap.size < B := e; omega)).trans hj.2.2⟩) ?_ ?_).mono ?_)
    · rintro B k x args W hB hx hE ⟨hi, hl, hk⟩ hSK hsz
      rw [hs1] at hB
      have hy := run_yield (P := Tryz.prog) (args := args) hl (by rw [hrec]; exact hps _ _ _ _ hE)
      rw [hrec] at hy
      refine ⟨fn, _, assign, body, hy, roundIn_of_wpIn trivial (wpIn_mono (hround B k x args W hB hx hE hi hSK hsz) ?_)⟩
      rintro e a1 Wa hp
      cases e with
      | normal =>
        obtain ⟨hoa, hbody⟩ := hp
        have hE0 : ¬ (D w.heap.size ∨ B ≤ w.heap.size) := fun e => e.elim hD0 (fun e => by omega)
        have hE1 : ¬ (D (w.heap.size + 1) ∨ B ≤ w.heap.size + 1) := fun e => e.elim hD1 (fun e => by omega)
        have hla : Wa.heap[w.heap.size + 1]? = some (.loop (rec .ready none)) := (hoa.block _ (gI hl).1 hE1).trans hl
        have hka : Wa.heap[w.heap.size]? = some (.deferred (some [])) := (hoa.block _ (gI hk).1 hE0).trans hk
        refine ⟨_, run_beginRound hla (by rw [hrec]), ?_⟩
        have hlta := (gI hla).1
        have hl2 : (Wa.putObj (w.heap.size + 1) (.loop { rec .ready none with state := .busy })).heap[w.heap.size + 1]? = some (.loop { rec .ready none with state := .busy }) := World.putObj_heap_same hlta
        have hk2 : (Wa.putObj (w.heap.size + 1) (.loop { rec .ready none with state := .busy })).heap[w.heap.size]? = some (.deferred (some [])) := (World.putObj_heap_other (by omega)).trans hka
        have hT : ∀ {A A' : World}, Only (fun j => D j ∨ B ≤ j) A A' → Only (fun j => (D j ∨ j = w.heap.size + 1) ∨ B ≤ j) A A' := fun h => h.mono (fun _ _ e => e.elim (fun e => .inl (.inl e)) .inr)
        have hT2 : ∀ {A A' : World}, Only (fun j => j = w.heap.size + 1) A A' → Only (fun j => (D j ∨ j = w.heap.size + 1) ∨ B ≤ j) A A' := fun h => h.mono (fun _ _ e => .inl (.inr e))
        have hTw := (hT hoa).next (hT2 (only_putObj Wa (w.heap.size + 1) (.loop { rec .ready none with state := .busy })))
        refine wpIn_mono (hbody _ (only_putObj Wa _ _)) ?_
        have fin : ∀ (jump : Option Code) (W3 : World), Only (fun j => D j ∨ B ≤ j) (Wa.putObj (w.heap.size + 1) (.loop { rec .ready none with state := .busy })) W3 → ∃ W4, (Instr.endRound (w.heap.size + 1) jump).run Tryz.prog W3 = .ok (.bool jump.isNone) W4 ∧ Only (fun j => j = w.heap.size + 1) W3 W4 ∧
            W4.heap[w.heap.size + 1]? = some (.loop (rec (if jump.isNone then .ready else .done) jump)) ∧ W4.heap[w.heap.size]? = some (.deferred (some [])) ∧ Only (fun j => (D j ∨ j = w.heap.size + 1) ∨ B ≤ j) W W4 := fun jump W3 ho3 => by
          have hl3 := (ho3.block _ (by simpa using hlta) hE1).trans hl2
          have hk3 := (ho3.block _ (by simp; omega) hE0).trans hk2
          have := run_endRound (P := Tryz.prog) jump hl3
          refine ⟨_, this, only_putObj W3 _ _, ?_, (World.putObj_heap_other (by omega)).trans hk3, (hTw.next (hT ho3)).next (hT2 (only_putObj W3 _ _))⟩
          rw [World.putObj_heap_same (gI hl3).1, hrec]
        rintro e a3 W3 hp3
        cases e with
        | normal =>
          obtain ⟨ho3, hi3⟩ := hp3
          obtain ⟨W4, hr, ho4, hl4, hk4, hL4⟩ := fin none W3 ho3
          exact ⟨_, _, hr, hL4, .inl ⟨rfl, hI B _ _ _ hB hi3 (ho4.mono (fun j _ e => by have e' : j = w.heap.size + 1 := e; exact ⟨by omega, by omega⟩)), hl4, hk4⟩⟩
        | ret =>
          obtain ⟨ho3, hi3⟩ := hp3
          obtain ⟨W4, hr, ho4, hl4, hk4, hL4⟩ := fin (some .ret) W3 ho3
          exact ⟨_, _, hr, hL4, .inr ⟨rfl, .ret, hIx B _ _ _ hB hi3 (ho4.mono (fun j _ e => by have e' : j = w.heap.size + 1 := e; exact ⟨by omega, by omega⟩)), hl4, hk4⟩⟩
        | exit id =>
          obtain ⟨ho3, hi3⟩ := hp3
          obtain ⟨W4, hr, ho4, hl4, hk4, hL4⟩ := fin (some (.exit id)) W3 ho3
          exact ⟨_, _, hr, hL4, .inr ⟨rfl, .exit id, hIx B _ _ _ hB hi3 (ho4.mono (fun j _ e => by have e' : j = w.heap.size + 1 := e; exact ⟨by omega, by omega⟩)), hl4, hk4⟩⟩
        | goto t =>
          obtain ⟨ho3, hi3⟩ := hp3
          obtain ⟨W4, hr, ho4, hl4, hk4, hL4⟩ := fin (some (.goto t)) W3 ho3
          exact ⟨_, _, hr, hL4, .inr ⟨rfl, .goto t, hIx B _ _ _ hB hi3 (ho4.mono (fun j _ e => by have e' : j = w.heap.size + 1 := e; exact ⟨by omega, by omega⟩)), hl4, hk4⟩⟩
        | panic ch => exact hp3.elim
        | outgrown => exact hp3.elim
      | ret => exact hp.elim
      | exit id => exact hp.elim
      | goto t => exact hp.elim
      | panic ch => exact hp.elim
      | outgrown => exact hp.elim
    · intro B W hb hB
      rw [hs1] at hb
      have hb' : Below w.heap.size w W := hb1.trans (hb.mono (by omega))
      exact ⟨h0 B W hb' hB, (hb.block _ (by omega)).trans m1, (hb.block _ (by omega)).trans m0⟩
    · rintro e W2 ⟨⟨v, rfl⟩, B, hB, (⟨hi, hl, hk⟩ | ⟨c, hi, hl, hk⟩)⟩
      · rw [hs1] at hB
        have hlt := (gI hk).1
        refine ⟨none, _, by have := run_endLoop (P := Tryz.prog) hl (by rw [hrec]; simp); rw [hrec] at this; exact this, hdone B _ hB (hI B _ _ _ hB hi ((only_putObj _ _ _).mono (fun j _ e => by have e' : j = w.heap.size + 1 := e; exact ⟨by omega, by omega⟩))) (by simpa using hlt) ((World.putObj_heap_other (by omega)).trans hk)⟩
      · rw [hs1] at hB
        have hlt := (gI hk).1
        refine ⟨some c, _, by have := run_endLoop (P := Tryz.prog) hl (by rw [hrec]; simp); rw [hrec] at this; exact this, wpIn_wide.2 (hstop B c _ hB (hIx B _ _ _ hB hi ((only_putObj _ _ _).mono (fun j _ e => by have e' : j = w.heap.size + 1 := e; exact ⟨by omega, by omega⟩))) (by simpa using hlt) ((World.putObj_heap_other (by omega)).trans hk))⟩
end Go.Proofs.YtkkpdgfllnbigaaGreatDoor
