/-
  tagset: Has (36), All (35), Texts (125).
  tagset: a Go map whose keys are stamps.
  tagset: what Of wants: lists of tags that may stand, and what stands between turns.
-/
import Derived.Test.YtkkpdgfllnbigaaGreatDoorTgX
import Derived.Test.YtkkpdgfllnbigaaGreatDoorMg18
import Derived.MapKept
import Derived.WideKeyRuns
import Derived.Test.YtkkpdgfllnbigaaGreatDoorMg12
namespace Go.Proofs.YtkkpdgfllnbigaaGreatDoor.Tg
open Go.RowKit Go.Shelf
set_option linter.unusedSimpArgs false
set_option linter.unusedVariables false
attribute [local go_sem] Oper.semAt_some

theorem has36 {w : World} {t : Pm.T} {pm : Option Addr} (X : ByteArray) (h : Mg w t) (hp : t.ptr = .pointer pm) : Calls Tryz.prog 18 #[.agg #[.pointer pm], .string X] w fun e w' => e = .returned (.bool (decide (0 < (stgL t.list X).length))) ∧ Below w.heap.size w w' := by
  obtain ⟨w0, hw0⟩ : ∃ q, q = w.alloc (.cells #[.pointer pm] 43) := ⟨_, rfl⟩
  have m0 := heap_alloc_new w (.cells #[.pointer pm] 43)
  have b0 : Below w.heap.size w w0 := by rw [hw0]; exact (Below.refl _ w).alloc (Nat.le_refl _) _
  rw [← hw0] at m0
  have ht := tags37 X (h.below b0) hp
  have c0 := (cell_of_row w0 w.heap.size 0 _ 43 (0, 0) m0).trans rfl
  have HW := hide hw0
  have HB := hide b0
  obtain ⟨N, hN⟩ : ∃ N, N = (stgL t.list X).length := ⟨_, rfl⟩
  rw [← hN]
  have ht' : Calls Tryz.prog 17 #[.agg #[.pointer pm], .string X] w0 (fun e w' => ∃ ao c, e = .returned (.slice ao N c) ∧ Below w0.heap.size w0 w') := ht.mono (fun e w' ⟨ao, c, he, _, hb⟩ => ⟨ao, c, by rw [he, hN], hb⟩)
  clear h hp m0 hw0 b0 hN ht
  go_enter Tryz.func18, Tryz.ntmps18
  go_upto_region 1 with fail
  rw [← HW.out]
  go_wp2_with (go_at_call 17; refine ht'.mono ?_; rintro e w1 ⟨ao, c, rfl, b1⟩; have H1 := hide (HB.out.trans (b1.mono HB.out.size)); clear b1; dsimp only)
  go_ret
  exact ⟨rfl, H1.out⟩
def AllE (w : World) (L : List El) (e : Ending) (w' : World) : Prop := ∃ Lb ao c, e = .returned (.func (.func 56) #[] #[.pointer (some ⟨Lb, 0, none⟩)]) ∧ w'.heap[Lb]? = some (.cells #[.slice ao L.length c] 69 (0, 0)) ∧ Oe w' w.heap.size (.slice ao L.length c) L ∧ w.heap.size ≤ Lb ∧ Below w.heap.size w w'
theorem all35 {w : World} {t : Pm.T} {pm : Option Addr} (h : Mg w t) (hp : t.ptr = .pointer pm) : Calls Tryz.prog 35 #[.agg #[.pointer pm]] w (AllE w (tagsL t.list)) := by
  obtain ⟨w0, hw0⟩ : ∃ q, q = w.alloc (.cells #[.pointer pm] 43) := ⟨_, rfl⟩
  have m0 := heap_alloc_new w (.cells #[.pointer pm] 43)
  have b0 : Below w.heap.size w w0 := by rw [hw0]; exact (Below.refl _ w).alloc (Nat.le_refl _) _
  rw [← hw0] at m0
  have ht := tags123 t w0 (Pm.In.below b0 h.inn) h.srt h.key (by have := h.few; omega)
  unfold Pm.mv at ht
  rw [hp] at ht
  have c0 := (cell_of_row w0 w.heap.size 0 _ 43 (0, 0) m0).trans rfl
  have HW := hide hw0
  have HB := hide b0
  generalize mayT t.list = M at *
  generalize tagsL t.list = L at *
  obtain ⟨N, hN⟩ : ∃ N, N = L.length := ⟨_, rfl⟩
  rw [← hN] at ht
  have HN := hide hN
  clear h hp m0 hw0 b0 hN
  go_enter Tryz.func35, Tryz.ntmps35
  go_upto_region 1 with fail
  rw [← HW.out]
  go_wp2_with (go_at_call 49; refine ht.mono ?_; rintro e w1 ⟨ao, c, rfl, ho, b1⟩; have H1 := hide (And.intro ho b1); clear ho b1; dsimp only)
  go_ret
  have b2 : Below w1.heap.size w1 (w1.alloc (.cells #[.slice ao N c] 69)) := (Below.refl _ w1).alloc (Nat.le_refl _) _
  have m2 := heap_alloc_new w1 (.cells #[.slice ao N c] 69)
  have b02 := HB.out.trans ((H1.out.2.trans (b2.mono H1.out.2.size)).mono HB.out.size)
  refine ⟨w1.heap.size, ao, c, rfl, by rw [← HN.out]; exact m2, ?_, Nat.le_trans HB.out.size H1.out.2.size, b02⟩
  rw [← HN.out]
  exact (H1.out.1.below b2).lift HB.out.size
theorem enters56 : Enters Tryz.prog 56 := enters_of Tryz.func56 (by kernel_rfl) rfl
/-- The texts of a set, rising, each once. -/
def txL (l : List Kv) : List ByteArray := (gA [] (tagsL l)).map Prod.fst
/-- What stands between rounds. -/
structure TxI (wA : World) (Tb : Nat) (L : List ByteArray) (B k : Nat) (W : World) : Prop where
  only : Only (fun j => j = Tb ∨ B ≤ j) wA W
  le : k ≤ L.length
  box : ∃ ao c, W.heap[Tb]? = some (.cells #[.slice ao k c] 50 (0, 0)) ∧ Ot W B (.slice ao k c) (L.take k)
theorem TxI.own {wA : World} {Tb : Nat} {L : List ByteArray} {B k : Nat} {W W' : World} (h : TxI wA Tb L B k W) (hL : Tb < wA.heap.size) (hB : wA.heap.size + 2 ≤ B) (ho : Only (fun j => wA.heap.size + 1 ≤ j ∧ j < B) W W') : TxI wA Tb L B k W' := by
  obtain ⟨ao, c, hb, hO⟩ := h.box
  refine ⟨h.only.trans ho (fun j hj e => by have e' : wA.heap.size + 1 ≤ j ∧ j < B := e; omega), h.le, ao, c, (ho.block _ (gI hb).1 (fun e => by have e' : wA.heap.size + 1 ≤ Tb ∧ Tb < B := e; omega)).trans hb, hO.only ho (fun k hk e => by have := World.ownsRow.lt hO k hk; have e' : wA.heap.size + 1 ≤ k ∧ k < B := e; omega)⟩
theorem gA_len : ∀ (L : List El) (acc : List St), (gA acc L).length ≤ L.length
  | [], _ => Nat.le_refl _
  | [x], _ => Nat.le_refl _
  | x :: y :: l, acc => by
    rw [gA]
    split
    · have := gA_len (y :: l) (acc ++ [x.1])
      simp only [List.length_cons] at this ⊢
      omega
    · have := gA_len (y :: l) []
      simp only [List.length_cons] at this ⊢
      omega
def TextsE (w : World) (M : Bool) (L : List ByteArray) (e : Ending) (w' : World) : Prop := ∃ ao c, e = .returned (.tuple #[.slice ao L.length c, .int .i64 (if M = true then 0 else 2)]) ∧ Ot w' w.heap.size (.slice ao L.length c) L ∧ Below w.heap.size w w'
set_option maxHeartbeats 8000000 in
set_option maxRecDepth 100000 in
theorem texts33 {w : World} {t : Pm.T} {pm : Option Addr} (h : Mg w t) (hp : t.ptr = .pointer pm) : Calls Tryz.prog 16 #[.agg #[.pointer pm]] w (TextsE w (mayT t.list) (txL t.list)) := by
  obtain ⟨w0, hw0⟩ : ∃ q, q = w.alloc (.cells #[.pointer pm] 43) := ⟨_, rfl⟩
  have m0 := heap_alloc_new w (.cells #[.pointer pm] 43)
  have b0 : Below w.heap.size w w0 := by rw [hw0]; exact (Below.refl _ w).alloc (Nat.le_refl _) _
  have s0 : w0.heap.size = w.heap.size + 1 := by rw [hw0]; simp
  rw [← hw0] at m0
  obtain ⟨Mb, hMb⟩ : ∃ q, q = w.heap.size := ⟨_, rfl⟩
  rw [← hMb] at m0
  have HW := hide (And.intro hw0 (And.intro hMb s0))
  have HC : Hid (∀ W, Below w0.heap.size w0 W → W.cell? ⟨Mb, 0, none⟩ = some (.pointer pm) ∧ Mg W t ∧ Below w.heap.size w W) := hide (fun W hW => ⟨cell_stays ((cell_of_row _ _ 0 _ 43 (0, 0) m0).trans rfl) hW, h.below (b0.trans (hW.mono b0.size)), b0.trans (hW.mono b0.size)⟩)
  have hmay := may28 (h.below b0) hp
  have hall := fun W (hW : Mg W t) => all35 hW hp
  have HF := hide (And.intro h hp)
  obtain ⟨TL, hTL⟩ : ∃ q, q = txL t.list := ⟨_, rfl⟩
  rw [← hTL]
  have HTL := hide hTL
  obtain ⟨c0, -, -⟩ := HC.out w0 (Below.refl _ _)
  have hsmall : (tagsL t.list).length ≤ 400 := by have h1 := @tagsL_len t.list; have h2 := h.few; rw [Pm.T.n_eq] at h1; omega
  have HSM := hide hsmall
  clear h hp m0 b0 s0 hw0 hMb hTL hsmall
  cases hm : mayT t.list with
  | false =>
    rw [hm] at hmay
    have HT0 : Hid (TL = []) := hide (by rw [HTL.out]; unfold txL tagsL; rw [hm]; rfl)
    clear hall hm
    refine calls_marks Tryz.func16 rfl ?_
    simp only [Tryz.ntmps16, List.size_toArray, List.length_cons, List.length_nil, Nat.reduceAdd, Nat.reduceSub, Array.replicate_succ, Array.replicate_zero, List.push_toArray, List.append_toArray, List.nil_append, List.cons_append]
    go_upto_region 1 with fail
    rw [← HW.out.1, ← HW.out.2.1]
    go_wp2_with (go_at_call 30; refine hmay.mono ?_; rintro e w1 ⟨rfl, b1⟩; have H1 := hide b1; clear b1; dsimp only)
    refine ret_lv ?_
    dsimp only
    refine leave_tmp2 rfl rfl rfl ?_
    rw [HT0.out]
    exact ⟨none, 0, rfl, Ot.nil _ _, (HC.out w1 H1.out).2.2⟩
  | true =>
    rw [hm] at hmay
    generalize htg : tagsL t.list = TG at *
    have HTG : Hid (TL = (gA [] TG).map Prod.fst) := hide (by rw [HTL.out, ← htg]; rfl)
    clear hm HTL htg
    refine calls_marks Tryz.func16 rfl ?_
    simp only [Tryz.ntmps16, List.size_toArray, List.length_cons, List.length_nil, Nat.reduceAdd, Nat.reduceSub, Array.replicate_succ, Array.replicate_zero, List.push_toArray, List.append_toArray, List.nil_append, List.cons_append]
    go_upto_region 1 with fail
    rw [← HW.out.1, ← HW.out.2.1]
    go_upto_region 3 with (go_at_call 30; refine hmay.mono ?_; rintro e w2 ⟨rfl, b2⟩; have H2 := hide b2; clear b2; dsimp only)
    clear hmay c0
    obtain ⟨c2, -, -⟩ := HC.out w2 H2.out
    go_upto_region 4 with fail
    obtain ⟨w3, hw3⟩ : ∃ q, q = w2.alloc (.cells #[.slice none 0 0] 50) := ⟨_, rfl⟩
    have n0 := heap_alloc_new w2 (.cells #[.slice none 0 0] 50)
    have b3 : Below w2.heap.size w2 w3 := by rw [hw3]; exact (Below.refl _ w2).alloc (Nat.le_refl _) _
    have s3 : w3.heap.size = w2.heap.size + 1 := by rw [hw3]; simp
    rw [← hw3] at n0
    obtain ⟨Tb, hTb⟩ : ∃ q, q = w2.heap.size := ⟨_, rfl⟩
    rw [← hw3, ← hTb]
    rw [← hTb] at n0
    have c3 := cell_stays c2 b3
    have b03 : Below w0.heap.size w0 w3 := H2.out.trans (b3.mono H2.out.size)
    obtain ⟨-, mg3, bw3⟩ := HC.out w3 b03
    have hall3 := hall w3 mg3
    obtain ⟨N, hN⟩ : ∃ N, N = TG.length := ⟨_, rfl⟩
    unfold AllE at hall3
    rw [← hN] at hall3
    have hs2 := H2.out.size
    have HZ := hide (And.intro hN (And.intro (show w3.heap.size = w2.heap.size + 1 ∧ Tb = w2.heap.size ∧ w.heap.size + 1 ≤ w2.heap.size ∧ w0.heap.size = w.heap.size + 1 by have h1 := HW.out; omega) (And.intro bw3 n0)))
    clear hw3 n0 b3 s3 hTb c2 b03 mg3 bw3 hs2 hall H2 hN
    go_wp2_with (go_at_call 35; refine hall3.mono ?_; rintro e wA ⟨Lb, ao, cl, rfl, hL, hO, hLb, bA⟩; have HX := hide (And.intro hL (And.intro hO (And.intro hLb bA))); clear hL hO hLb bA; dsimp only)
    clear hall3 c3
    obtain ⟨hL, hO, hLb, bA⟩ := HX.out
    obtain ⟨z1, ⟨z2, z3, z4, z5⟩, bw3, n0⟩ := HZ.out
    have hLlt := (gI hL).1
    have hab : ∀ a, ao = some a → w3.heap.size ≤ a.block ∧ a.block < wA.heap.size := fun a ha => by
      have hO' := hO
      rw [z1] at hO'
      rcases hO'.shape with ⟨e1, -⟩ | ⟨g, cap, e1, h2, h3, -⟩
      · injection e1 with q1; rw [q1] at ha; cases ha
      · injection e1 with q1; rw [q1] at ha; injection ha with ha; rw [← ha]; exact ⟨h2, h3⟩
    have hit := iterG TG Lb ao cl wA (by have := HSM.out; omega) (by rw [← z1]; exact (cell_of_row _ _ 0 _ 69 (0, 0) hL).trans rfl) (by rw [z1] at hO; exact hO.re) (fun a ha => (hab a ha).2)
    have hKlt : ∀ j, KG Lb ao j → j < wA.heap.size ∧ w3.heap.size ≤ j := fun j hj => by
      rcases hj with rfl | ⟨a, ha, rfl⟩
      · exact ⟨hLlt, hLb⟩
      · have := hab a ha; omega
    have nA := (bA.block _ (gI n0).1).trans n0
    have hzA := bA.size
    obtain ⟨G, hG⟩ : ∃ q, q = gA [] TG := ⟨_, rfl⟩
    rw [← hG] at hit
    have hlG : G.length ≤ 400 := by rw [hG]; have := gA_len TG []; have := HSM.out; omega
    have hTG : TL = G.map Prod.fst := by rw [hG]; exact HTG.out
    have h0 : ∀ B W, Below wA.heap.size wA W → W.heap.size ≤ B → TxI wA Tb TL B 0 W := fun B W hb hB =>
      ⟨below_only hb, Nat.zero_le _, none, 0, (hb.block _ (gI nA).1).trans nA, by rw [List.take_zero]; exact Ot.nil _ _⟩
    have HQ := hide (And.intro hTG (And.intro hlG (And.intro (bw3.trans (bA.mono bw3.size)) (show Tb < wA.heap.size ∧ w.heap.size ≤ wA.heap.size ∧ Tb < w3.heap.size ∧ w.heap.size ≤ Tb by omega))))
    clear hL hO hLb bA z1 z2 z3 z4 z5 bw3 n0 hLlt hab nA hzA hG hlG hTG HX HZ
    refine range_ir (Q := _) 56 enters56 _ G EG _ hit rfl (fun B W x args ⟨a, c, e, _⟩ => by rw [e]; rfl) (fun j hj => (hKlt j hj).1) (fun j => j = Tb) (fun j e hj => by have := hKlt j hj; have := HQ.out; omega) (fun j e => by have := HQ.out; omega)
      (fun B k W => TxI wA Tb TL B k W) (fun _ _ _ => False)
      (fun B k W W' hB hi ho => hi.own (by have := HQ.out; omega) hB ho) (fun B c W W' hB hi ho => hi) h0 ?hround ?hdone (fun B c W hB hi => hi.elim)
    case hdone =>
      rintro B W hB hi hlt hk0
      obtain ⟨a1, cp, hbx, hO⟩ := hi.box
      obtain ⟨z1, z2, z3, z4⟩ := HQ.out
      have hlS : G.length = TL.length := by rw [z1, List.length_map]
      rw [hlS] at hbx hO
      rw [List.take_length] at hO
      have bW : Below w.heap.size w W := Below.only z3 hi.only z3.size (fun j e => by have := HW.out; rcases e with e | e <;> omega)
      have cL : W.cell? ⟨Tb, 0, none⟩ = some (.slice a1 TL.length cp) := (cell_of_row _ _ 0 _ 50 (0, 0) hbx).trans rfl
      have hBw : w.heap.size ≤ B ∧ wA.heap.size < B ∧ w.heap.size ≤ wA.heap.size := by omega
      have HE := hide (And.intro hk0 (And.intro hO (And.intro bW hBw)))
      clear hit hKlt h0 hi hbx hO z1 z2 z3 z4 hlS bW hk0 hlt hB hBw
      go_wp2
      refine ret_lv ?_
      dsimp only
      obtain ⟨hk9, hO9, hb9, hq⟩ := HE.out
      have o10 := only_putObj W wA.heap.size (.deferred none)
      refine leave_mark hk9 (leave_tmp2 rfl rfl rfl ?_)
      refine ⟨a1, cp, rfl, (hO9.only o10 (fun k hk e => by have := World.ownsRow.lt hO9 k hk; have e' : k = wA.heap.size := e; omega)).lift hq.1, Below.only hb9 o10 hb9.size (fun j e => by have e' : j = wA.heap.size := e; omega)⟩
    case hround =>
      rintro B c ⟨X, ss⟩ args W hB hx ⟨ax, cx, rfl, hOx⟩ hi hSame hsz
      clear hit hKlt h0 hSame
      have hsx : TL[c]? = some X := by rw [HQ.out.1, List.getElem?_map, hx]; rfl
      have htk : TL.take (c + 1) = TL.take c ++ [X] := by rw [List.take_add_one, hsx]; rfl
      have hcl := (List.getElem?_eq_some_iff.1 hsx).1
      have HT := hide (And.intro htk hcl)
      clear hsx htk hcl hx hOx
      dsimp only
      gi_wp2
      refine ⟨Only.refl _ _, fun W2 ho2 => ?_⟩
      obtain ⟨z1, z2, z3, z4⟩ := HQ.out
      obtain ⟨htk, hcl⟩ := HT.out
      have hi2 := hi.own (by omega) hB (ho2.mono (fun j _ e => by have e' : j = wA.heap.size + 1 := e; exact ⟨by omega, by omega⟩))
      obtain ⟨a1, cp, hbx, hO⟩ := hi2.box
      have hz2 : B ≤ W2.heap.size := Nat.le_trans hsz ho2.size
      have hown : ∀ j, (Value.slice a1 c cp).ownBlock = some j → B ≤ j ∧ j < W2.heap.size := fun j hj => World.ownsRow.lt hO j hj
      have cL : W2.cell? ⟨Tb, 0, none⟩ = some (.slice a1 c cp) := (cell_of_row _ _ 0 _ 50 (0, 0) hbx).trans rfl
      have hpl : (TL.take c).length = c := by rw [List.length_take]; omega
      have hSl : TL.length ≤ 400 := by rw [z1, List.length_map]; exact z2
      obtain ⟨W3, hW3⟩ : ∃ q, q = W2.alloc (.cells #[.string X] 9) := ⟨_, rfl⟩
      have m3 := heap_alloc_new W2 (.cells #[.string X] 9)
      have b3 : Below W2.heap.size W2 W3 := by rw [hW3]; exact (Below.refl _ W2).alloc (Nat.le_refl _) _
      rw [← hW3] at m3
      obtain ⟨a', c', w8, hr, hO8, ho8, hW8⟩ := push_OtW (y := X) (hO.below b3) m3 (by rw [hpl]; omega) (by have := b3.size; omega)
      rw [hpl] at hr hO8 hW8
      have bx3 := (b3.block _ (gI hbx).1).trans hbx
      have bx8 := (ho8.block Tb (gI bx3).1 (fun e => by have := hown Tb e; omega)).trans bx3
      obtain ⟨u9, o9⟩ := set_one (i := 0) (.slice a' (c + 1) c') bx8
      have oo : Only (fun j => j = Tb ∨ B ≤ j) W2 (w8.setCell ⟨Tb, 0, none⟩ (.slice a' (c + 1) c')) := ((below_only b3).next (ho8.mono (fun j _ e => .inr (hown j e).1))).next (o9.mono (fun j _ e => .inl e))
      have cL8 : w8.cell? ⟨Tb, 0, none⟩ = some (.slice a1 c cp) := (cell_of_row _ _ 0 _ 50 (0, 0) bx8).trans rfl
      have fL8 := frozen_of_row _ _ 0 _ 50 bx8
      have HY : Hid (Only (fun j => j = Tb ∨ B ≤ j) W2 (w8.setCell ⟨Tb, 0, none⟩ (.slice a' (c + 1) c')) ∧ TxI wA Tb TL B (c + 1) (w8.setCell ⟨Tb, 0, none⟩ (.slice a' (c + 1) c'))) := hide ⟨oo, hi2.only.next oo, by omega, a', c', by simpa using u9, by
        rw [htk]
        exact hO8.only o9 (fun j hj e => by have e' : j = Tb := e; have := World.ownsRow.lt hO8 j hj; omega)⟩
      rw [hW3] at hr
      clear hi hi2 ho2 hsz hz2 hbx hO hown hpl hSl hW3 m3 b3 hO8 ho8 hW8 bx3 bx8 u9 o9 oo z1 z2 z3 z4 htk hcl
      gi_wp2_with (gi_at_builtin; refine turn_in (OP := .call { callee := .builtin .append, args := #[.tmp 13, .tmp 15], argTypes := #[50, 50] }) (T := 50) rfl rfl rfl (by intro c e; cases e) (exec_append rfl rfl hr) ?_)
      exact HY.out
end Go.Proofs.YtkkpdgfllnbigaaGreatDoor.Tg
namespace Go.Proofs.YtkkpdgfllnbigaaGreatDoor.Tg
open Go.RowKit Go.Shelf
set_option linter.unusedSimpArgs false
set_option linter.unusedVariables false
attribute [local go_sem] Oper.semAt_some

theorem check43 (em : Bool) (n : Nat) (s : St) (w : World) : (Instr.checkKey em (n + 4) 27 (svT s)).run Tryz.prog w = .ok () w := by
  obtain ⟨g, r, l, k, x⟩ := s
  have u43 := Tryz.underlying27
  have u41 := Tryz.underlying25
  have u39 := Tryz.underlying23
  simp only [svT, sv, Instr.checkKey]
  go_simp
def sameS (s t : St) : Bool := s.1 == t.1 && (s.2.1 == t.2.1 && s.2.2.1.toList == t.2.2.1.toList && s.2.2.2.1 == t.2.2.2.1) && s.2.2.2.2 == t.2.2.2.2
theorem sameS_iff (s t : St) : sameS s t = true ↔ s = t := by
  obtain ⟨g, r, l, n, i⟩ := s
  obtain ⟨g', r', l', n', i'⟩ := t
  unfold sameS
  simp only [Bool.and_eq_true, bytes_same, Prod.mk.injEq]
  simp only [beq_iff_eq]
  constructor
  · rintro ⟨⟨h1, ⟨h2, h3⟩, h4⟩, h5⟩; exact ⟨h1, h2, h3, h4, h5⟩
  · rintro ⟨h1, h2, h3, h4, h5⟩; exact ⟨⟨h1, ⟨h2, h3⟩, h4⟩, h5⟩
theorem equal43 (s t : St) (w : World) : (Op.equal 27 (svT s) (svT t)).run Tryz.prog w = .ok (sameS s t) w := by
  have := equalIn52 9996 s.1 t.1 s.2.1 t.2.1 s.2.2.2.1 t.2.2.2.1 s.2.2.2.2 t.2.2.2.2 s.2.2.1 t.2.2.1 w
  exact this
theorem asking43 (s : St) (w : World) : ∀ (es : List MapEntry) (ss : List St) (i : Nat), es.map (·.key) = ss.map svT → (∀ e ∈ es, e.val = .agg #[]) →
    (Instr.findAsking 27 (svT s) es i).run Tryz.prog w = .ok (if ss.any (fun t => sameS s t) = true then some (i + ss.findIdx (fun t => sameS s t), .agg #[]) else none) w
  | [], ss, i, h, _ => by
    cases ss with
    | nil => simp [Instr.findAsking]
    | cons t ss => simp at h
  | e :: es, ss, i, h, hv => by
    cases ss with
    | nil => simp at h
    | cons t ss =>
      simp only [List.map_cons, List.cons.injEq] at h
      obtain ⟨h1, h2⟩ := h
      simp only [Instr.findAsking, Sem.run_bind, h1, equal43, Result.andThen_ok, List.any_cons, List.findIdx_cons]
      cases hs : sameS s t with
      | true => simp [hv e (by simp)]
      | false =>
        simp only [Bool.false_eq_true, if_false, Bool.false_or, cond_false]
        rw [asking43 s w es ss (i + 1) h2 (fun y hy => hv y (by simp [hy]))]
        congr 1
        split
        · congr 2; omega
        · rfl
/-- A map in memory whose keys are these stamps. -/
def Sm (w : World) (mb : Nat) (ss : List St) : Prop := ∃ es clock, w.heap[mb]? = some (.map es clock) ∧ es.toList.map (·.key) = ss.map svT ∧ ∀ e ∈ es.toList, e.val = .agg #[]
theorem Sm.same {w w' : World} {mb : Nat} {ss : List St} (h : Sm w mb ss) (e : w'.heap[mb]? = w.heap[mb]?) : Sm w' mb ss := by
  obtain ⟨es, c, h1, h2⟩ := h
  exact ⟨es, c, e.trans h1, h2⟩
theorem Sm.lt {w : World} {mb : Nat} {ss : List St} (h : Sm w mb ss) : mb < w.heap.size := by
  obtain ⟨es, c, h1, h2⟩ := h
  exact (gI h1).1
theorem Sm.below {w w' : World} {mb : Nat} {ss : List St} (h : Sm w mb ss) (hb : Below w.heap.size w w') : Sm w' mb ss := h.same (hb.block _ h.lt)
theorem Sm.only {w w' : World} {mb : Nat} {ss : List St} {C : Nat → Prop} (h : Sm w mb ss) (ho : Only C w w') (hn : ¬ C mb) : Sm w' mb ss := h.same (ho.block _ h.lt hn)
theorem Sm.new (w : World) : Sm (w.alloc (.map #[] 0)) w.heap.size [] := ⟨#[], 0, heap_alloc_new w _, rfl, fun e h => by simp at h⟩
theorem find43 (s : St) (w : World) {es : List MapEntry} {ss : List St} (h : es.map (·.key) = ss.map svT) (hv : ∀ e ∈ es, e.val = .agg #[]) :
    (Instr.findKey 27 (svT s) es).run Tryz.prog w = .ok (if ss.any (fun t => sameS s t) = true then some (ss.findIdx (fun t => sameS s t), .agg #[]) else none) w := by
  rw [run_findKey_eq w (by kernel_rfl), asking43 s w es ss 0 h hv]
  simp
def seen (s : St) (ss : List St) : Bool := ss.any (fun t => sameS s t)
theorem seen_iff (s : St) (ss : List St) : seen s ss = true ↔ s ∈ ss := by
  unfold seen
  rw [List.any_eq_true]
  constructor
  · rintro ⟨t, h1, h2⟩; rw [(sameS_iff s t).1 h2]; exact h1
  · intro h; exact ⟨s, h, (sameS_iff s s).2 rfl⟩
theorem Sm.lookup {w : World} {mb : Nat} {ss : List St} (h : Sm w mb ss) (s : St) : (Instr.lookup 70 (.map (some mb)) (svT s) true).run Tryz.prog w = .ok (.tuple #[.agg #[], .bool (seen s ss)]) w := by
  obtain ⟨es, c, h1, h2, h3⟩ := h
  have u106 := Tryz.underlying70
  have hg := Go.MapKept.run_getObj_map (P := Tryz.prog) (w := w) h1
  have hc := check43 es.isEmpty 9996 s w
  have hf := find43 s w h2 h3
  have hz : (zeroValue 71).run Tryz.prog w = .ok (.agg #[]) w := by kernel_rfl
  simp only [Instr.lookup, Sem.run_bind, run_underlying u106, Result.andThen_ok, hg, Sem.run_pure, hc, hf]
  unfold seen
  cases hs : ss.any (fun t => sameS s t) with
  | true => simp
  | false => simp [hz]
theorem Sm.update {w : World} {mb : Nat} {ss : List St} (h : Sm w mb ss) (s : St) (hs : seen s ss = false) : ∃ w', (Instr.mapUpdate 70 (.map (some mb)) (svT s) (.agg #[])).run Tryz.prog w = .ok () w' ∧ Sm w' mb (ss ++ [s]) ∧ Only (fun j => j = mb) w w' := by
  obtain ⟨es, c, h1, h2, h3⟩ := h
  have u106 := Tryz.underlying70
  have hg := Go.MapKept.run_getObj_map (P := Tryz.prog) (w := w) h1
  have hc := check43 false 9996 s w
  have hf := find43 s w h2 h3
  unfold seen at hs
  rw [hs] at hf
  have hso := Go.MapKept.run_setObj_map (P := Tryz.prog) (w := w) (.map (es.push { key := svT s, val := .agg #[], born := c }) (c + 1)) h1
  refine ⟨{ w with heap := w.heap.setIfInBounds mb (.map (es.push { key := svT s, val := .agg #[], born := c }) (c + 1)) }, ?_, ?_, ?_⟩
  · simp only [Instr.mapUpdate, Sem.run_bind, run_underlying u106, Result.andThen_ok, hg, hc, hf]
    simpa using hso
  · refine ⟨_, _, (Go.MapKept.heap_set h1).1, by simp [h2], fun e he => ?_⟩
    simp only [Array.toList_push, List.mem_append, List.mem_singleton] at he
    rcases he with he | he
    · exact h3 e he
    · rw [he]
  · exact ⟨rfl, rfl, rfl, by simp, fun k _ hk => (Go.MapKept.heap_set h1).2 k hk⟩
end Go.Proofs.YtkkpdgfllnbigaaGreatDoor.Tg
namespace Go.Proofs.YtkkpdgfllnbigaaGreatDoor.Tg
open Go.RowKit Go.Shelf
set_option linter.unusedSimpArgs false
set_option linter.unusedVariables false

def goodT (l : List El) : Bool := l.all okEl && decide ((l.map Prod.fst).Nodup)
theorem goodT_bad {l : List El} {x : El} (hx : x ∈ l) (h : okEl x = false) : goodT l = false := by
  have : l.all okEl = false := by
    rw [Bool.eq_false_iff]
    intro ha
    rw [List.all_eq_true] at ha
    rw [ha _ hx] at h
    cases h
  rw [goodT, this]; rfl
theorem goodT_seen {l : List El} {x : El} {j : Nat} (hx : l[j]? = some x) (h : seen x.1 ((l.take j).map Prod.fst) = true) : goodT l = false := by
  rw [seen_iff] at h
  rw [goodT, Bool.and_eq_false_iff, decide_eq_false_iff_not]
  right
  intro hn
  have hj := (List.getElem?_eq_some_iff.1 hx).1
  have e : l = l.take j ++ x :: l.drop (j + 1) := by
    have h1 := List.take_append_drop j l
    rw [List.drop_eq_getElem_cons hj] at h1
    rw [(List.getElem?_eq_some_iff.1 hx).2] at h1
    exact h1.symm
  rw [e, List.map_append, List.map_cons, List.nodup_append] at hn
  exact hn.2.2 _ h _ (by simp) rfl
theorem nodup_step {l : List El} {x : El} {j : Nat} (hx : l[j]? = some x) (h : seen x.1 ((l.take j).map Prod.fst) = false) (hn : ((l.take j).map Prod.fst).Nodup) : ((l.take (j + 1)).map Prod.fst).Nodup := by
  rw [List.take_add_one, hx]
  simp only [Option.toList, List.map_append, List.map_cons, List.map_nil]
  rw [List.nodup_append]
  refine ⟨hn, by simp, fun a ha b hb e => ?_⟩
  simp only [List.mem_singleton] at hb
  rw [e, hb] at ha
  rw [(seen_iff _ _).2 ha] at h
  cases h
theorem tkey_inj {x y : El} (hx : okEl x = true) (hy : okEl y = true) (h : tkey x.2 x.1 = tkey y.2 y.1) : x = y := by
  have h1 := key_cmpX hx hy
  have h2 : (kvT x).1 = (kvT y).1 := h
  rw [h2, Pm.ord_B.refl] at h1
  exact ordS_X.eq _ _ h1.symm
theorem keys_nodup : ∀ {l : List El}, l.all okEl = true → (l.map Prod.fst).Nodup → (l.map fun x => tkey x.2 x.1).Nodup
  | [], _, _ => by simp
  | x :: l, ha, hn => by
    simp only [List.all_cons, Bool.and_eq_true] at ha
    rw [List.map_cons, List.nodup_cons] at hn ⊢
    refine ⟨fun hm => hn.1 ?_, keys_nodup ha.2 hn.2⟩
    obtain ⟨y, hy, e⟩ := List.mem_map.1 hm
    have := tkey_inj (List.all_eq_true.1 ha.2 y hy) ha.1 e
    exact List.mem_map.2 ⟨y, hy, by rw [this]⟩
theorem entT_list (l : List El) : (List.range l.length).map (Pm.ent (l.map fun x => tkey x.2 x.1) (l.map Prod.snd)) = l.map kvT := by
  apply List.ext_getElem?
  intro j
  rw [List.getElem?_map, List.getElem?_map]
  by_cases hj : j < l.length
  · rw [List.getElem?_range hj]
    obtain ⟨x, hx⟩ : ∃ x, l[j]? = some x := ⟨_, List.getElem?_eq_getElem hj⟩
    simp [Pm.ent, hx, kvT]
  · rw [List.getElem?_eq_none (by simpa using hj), List.getElem?_eq_none (by simpa using hj)]; rfl
theorem of_tags {w : World} {l : List El} {u4 u5 : Value} {ks ts : List ByteArray} (hks : ks = l.map fun x => tkey x.2 x.1) (hts : ts = l.map Prod.snd) (hall : l.all okEl = true) (hnd0 : (l.map Prod.fst).Nodup) (hl : l.length ≤ 400) (hk : Pm.Cs w u4 (ks.map .string)) (ht : Pm.Cs w u5 (ts.map .string)) :
    Calls Tryz.prog 29 #[u4, u5] w (fun e w' => ∃ (t : Pm.T) (ec : Int) (pt : Option Addr), t.ptr = .pointer pt ∧ e = .returned (.tuple #[.agg #[.pointer pt], .int .i64 ec]) ∧ Below w.heap.size w w' ∧ ec = (if goodT l = true then 0 else 2) ∧ Mg w' t ∧ (goodT l = true → t.list.Perm (l.map kvT)) ∧ (goodT l = false → t = .nil) ∧ t.over w.heap.size) := by
  have hg : goodT l = true := by rw [goodT, hall, Bool.true_and, decide_eq_true_eq]; exact hnd0
  have hof := Pm.of_any ks ts u4 u5 w hk ht (by rw [hks, List.length_map]; omega)
  refine hof.mono ?_
  rintro e w' ⟨hb, hh⟩
  rcases hh with ⟨rfl, hbad⟩ | ⟨t, p, rfl, -, hp, htl', hsr, hbl, hin, hov⟩
  · exfalso
    rcases hbad with h1 | h1
    · rw [hks, hts, List.length_map, List.length_map] at h1; exact absurd rfl h1
    · exact h1 (by rw [hks]; exact keys_nodup hall hnd0)
  · obtain ⟨pt, hpt⟩ := t.ptr_shape
    have hperm : t.list.Perm (l.map kvT) := by
      rw [hks, List.length_map] at hp
      rw [htl', ← entT_list l, hks, hts]
      exact hp.map _
    refine ⟨t, 0, pt, hpt, by unfold Pm.mv; rw [hpt], hb, by rw [if_pos hg], ⟨hin, hsr, hbl, ?_, ?_⟩, fun _ => hperm, fun hc => ?_, hov⟩
    · rw [← Pm.T.n_eq, hperm.length_eq, List.length_map]; omega
    · intro y hy
      have hy' := hperm.mem_iff.1 hy
      obtain ⟨x, hx, rfl⟩ := List.mem_map.1 hy'
      rw [List.all_eq_true] at hall
      have ho := hall x hx
      simp only [okEl, Bool.and_eq_true] at ho
      have := tkey_size ho.2 ho.1
      simp only [kvT]
      omega
    · rw [hg] at hc; cases hc
/-- What Of answers. -/
def OfT (w : World) (l : List El) (e : Ending) (w' : World) : Prop := ∃ t, e = .returned (.tuple #[Pm.mv t, .int .i64 (if goodT l = true then 0 else 2)]) ∧ Mg w' t ∧ Below w.heap.size w w' ∧ (goodT l = true → t.list.Perm (l.map kvT)) ∧ (goodT l = false → t = .nil) ∧ t.over w.heap.size
/-- What stands between turns: two lists, and a map behind which they lie. -/
structure OJ (w0 : World) (Mb : Nat) (ss : List St) (ks ts : List ByteArray) (kv tv : Value) (W : World) : Prop where
  low : Below w0.heap.size w0 W
  k : Ot W (Mb + 1) kv ks
  t : Ot W (Mb + 1) tv ts
  ne : ∀ j, kv.ownBlock = some j → tv.ownBlock ≠ some j
  m : Sm W Mb ss
  ge : w0.heap.size ≤ Mb
section
variable {w0 : World} {Mb b : Nat} {ss : List St} {ks ts : List ByteArray} {kv tv : Value} {W W' : World} {y : ByteArray}
theorem OJ.below (h : OJ w0 Mb ss ks ts kv tv W) (hb : Below W.heap.size W W') : OJ w0 Mb ss ks ts kv tv W' := ⟨h.low.trans (hb.mono h.low.size), h.k.below hb, h.t.below hb, h.ne, h.m.below hb, h.ge⟩
theorem OJ.alloc (h : OJ w0 Mb ss ks ts kv tv W) (o : Obj) : OJ w0 Mb ss ks ts kv tv (W.alloc o) := h.below ((Below.refl _ W).alloc (Nat.le_refl _) _)
theorem OJ.pushK (h : OJ w0 Mb ss ks ts kv tv W) (hp : ks.length ≤ 100000) (hc : W.heap[b]? = some (.cells #[.string y] 9 (0, 0))) :
    ∃ a' c' w', (Builtin.append_ #[50, 50] 50 #[kv, .slice (some ⟨b, 0, none⟩) 1 1]).run Tryz.prog W = .ok (.slice a' (ks.length + 1) c') w' ∧ OJ w0 Mb ss (ks ++ [y]) ts (.slice a' (ks.length + 1) c') tv w' ∧ Only (fun k => kv.ownBlock = some k) W w' := by
  obtain ⟨a', c', w', hr, hO, ho, hw⟩ := push_OtW h.k hc (by omega) (by have := h.m.lt; omega)
  refine ⟨a', c', w', hr, ⟨Below.only h.low ho h.low.size (fun j e => by have := (World.ownsRow.lt h.k j e).1; have := h.ge; omega), hO, h.t.only ho (fun k hk e => h.ne k e hk), fun j hj e => ?_, h.m.only ho (fun e => by have := (World.ownsRow.lt h.k _ e).1; omega), h.ge⟩, ho⟩
  rcases hw j hj with h1 | h1
  · exact h.ne j h1 e
  · have := (World.ownsRow.lt h.t j e).2; omega
theorem OJ.pushT (h : OJ w0 Mb ss ks ts kv tv W) (hp : ts.length ≤ 100000) (hc : W.heap[b]? = some (.cells #[.string y] 9 (0, 0))) :
    ∃ a' c' w', (Builtin.append_ #[50, 50] 50 #[tv, .slice (some ⟨b, 0, none⟩) 1 1]).run Tryz.prog W = .ok (.slice a' (ts.length + 1) c') w' ∧ OJ w0 Mb ss ks (ts ++ [y]) kv (.slice a' (ts.length + 1) c') w' ∧ Only (fun k => tv.ownBlock = some k) W w' := by
  obtain ⟨a', c', w', hr, hO, ho, hw⟩ := push_OtW h.t hc (by omega) (by have := h.m.lt; omega)
  refine ⟨a', c', w', hr, ⟨Below.only h.low ho h.low.size (fun j e => by have := (World.ownsRow.lt h.t j e).1; have := h.ge; omega), h.k.only ho (fun k hk e => h.ne k hk e), hO, fun j hj e => ?_, h.m.only ho (fun e => by have := (World.ownsRow.lt h.t _ e).1; omega), h.ge⟩, ho⟩
  rcases hw j e with h1 | h1
  · exact h.ne j hj h1
  · have := (World.ownsRow.lt h.k j hj).2; omega
theorem OJ.notK {j : Nat} (h : OJ w0 Mb ss ks ts kv tv W) (hj : W.heap.size ≤ j) : ¬ (kv.ownBlock = some j) := fun e => by have := (World.ownsRow.lt h.k j e).2; omega
theorem OJ.notT {j : Nat} (h : OJ w0 Mb ss ks ts kv tv W) (hj : W.heap.size ≤ j) : ¬ (tv.ownBlock = some j) := fun e => by have := (World.ownsRow.lt h.t j e).2; omega
theorem OJ.put (h : OJ w0 Mb ss ks ts kv tv W) (s : St) (hs : seen s ss = false) : ∃ w', (Instr.mapUpdate 70 (.map (some Mb)) (svT s) (.agg #[])).run Tryz.prog W = .ok () w' ∧ OJ w0 Mb (ss ++ [s]) ks ts kv tv w' ∧ Only (fun j => j = Mb) W w' := by
  obtain ⟨w', hr, hm, ho⟩ := h.m.update s hs
  exact ⟨w', hr, ⟨Below.only h.low ho h.low.size (fun j e => by have e' : j = Mb := e; have := h.ge; omega), h.k.only ho (fun j hj e => by have e' : j = Mb := e; have := (World.ownsRow.lt h.k j hj).1; omega), h.t.only ho (fun j hj e => by have e' : j = Mb := e; have := (World.ownsRow.lt h.t j hj).1; omega), h.ne, hm, h.ge⟩, ho⟩
end
end Go.Proofs.YtkkpdgfllnbigaaGreatDoor.Tg
