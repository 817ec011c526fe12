/-
  OPS: Same 41, the document's SameOp 30 and Same 20.
  OPS: the rows of the chapter that the law knows, plainly; add 43, pop 42, num 14.
-/
import Derived.Test.YtpepgoelnagoaaaGreatDoorMg9
import Derived.Test.YtpepgoelnagoaaaGreatDoorMg17
import Derived.Test.YtpepgoelnagoaaaGreatDoorMg16
namespace Go.Proofs.YtpepgoelnagoaaaGreatDoor
open Go.RowKit Go.Shelf
set_option linter.unusedSimpArgs false
set_option linter.unusedVariables false
attribute [local go_sem] Oper.semAt_some

theorem equalT_any {w : World} {ao bo : Option Addr} {c d : Nat} {l m : List ByteArray} (h : Rs w ao l) (k : Rs w bo m) (hl : l.length ≤ 1000000) (hm : m.length ≤ 1000000) : Calls Tryz.prog 89 #[.slice ao l.length c, .slice bo m.length d] w fun e w' => e = .returned (.bool (decide (l = m))) ∧ ∃ n, w' = w.drewN n := by
  by_cases hlen : l.length = m.length
  · cases l with
    | nil =>
      have hm0 : m = [] := List.eq_nil_of_length_eq_zero (by simpa using hlen.symm)
      subst hm0
      refine (Tryz.slices_Equal_string_empty ao bo c 0 d w (by omega)).mono ?_
      rintro e w' ⟨rfl, hw⟩
      exact ⟨by simp, 0, hw⟩
    | cons x r =>
      cases m with
      | nil => simp at hlen
      | cons y s =>
        obtain ⟨b1, o1, rfl, -⟩ := h.at (k := 0) rfl
        obtain ⟨b2, o2, rfl, -⟩ := k.at (k := 0) rfl
        have hc : ∀ (q : List ByteArray) (b o : Nat), Rs w (some ⟨b, o, none⟩) q → ∀ j, j < q.length → w.cell? ⟨b, o + j, none⟩ = some (.string (q.getD j ByteArray.empty)) := fun q b o hq j hj => by
          have hg : q[j]? = some (q.getD j ByteArray.empty) := by
            rw [List.getD_eq_getElem?_getD, List.getElem?_eq_getElem hj]; rfl
          obtain ⟨b', o', e, hcell⟩ := hq.at hg
          cases e
          exact hcell
        refine (Tryz.slices_Equal_string b1 o1 _ c b2 o2 _ d (x :: r) (y :: s) w (Nat.le_refl _) (Nat.le_refl _) (by omega) (by omega) (hc _ _ _ h) (hc _ _ _ k)).mono ?_
        rintro e w' ⟨rfl, n, hw⟩
        exact ⟨by rw [List.take_of_length_le (Nat.le_refl _), List.take_of_length_le (Nat.le_refl _)], n, hw⟩
  · refine (Tryz.slices_Equal_string_lens ao bo _ c _ d w hlen).mono ?_
    rintro e w' ⟨rfl, hw⟩
    have : ¬ l = m := fun e => hlen (by rw [e])
    exact ⟨by simp [this], 0, hw⟩
def sameO (a b : Od) : Bool := decide (a.p = b.p) && (a.k == b.k) && (a.s.toList == b.s.toList) && (a.d == b.d) && (a.n == b.n) && (a.t.toList == b.t.toList)
theorem toList_inj {a b : ByteArray} (h : a.toList = b.toList) : a = b := by
  rw [ByteArray.toList_eq, ByteArray.toList_eq] at h
  exact Ki.ba_eq h
theorem sameO_iff (a b : Od) : sameO a b = true ↔ a = b := by
  obtain ⟨p, k, s, d, n, t⟩ := a
  obtain ⟨p', k', s', d', n', t'⟩ := b
  unfold sameO
  simp only [Bool.and_eq_true, decide_eq_true_eq, beq_iff_eq, Od.mk.injEq]
  constructor
  · rintro ⟨⟨⟨⟨⟨rfl, rfl⟩, h1⟩, rfl⟩, rfl⟩, h2⟩
    exact ⟨rfl, rfl, toList_inj h1, rfl, rfl, toList_inj h2⟩
  · rintro ⟨rfl, rfl, rfl, rfl, rfl, rfl⟩
    exact ⟨⟨⟨⟨⟨rfl, rfl⟩, rfl⟩, rfl⟩, rfl⟩, rfl⟩
theorem two6 (w : World) (pa qa : Option Addr) (m1 pc m2 qc : Nat) (a b : Od) : Op6 ((w.alloc (.cells (odC pa m1 pc a) 34)).alloc (.cells (odC qa m2 qc b) 34)) w.heap.size pa m1 pc a ∧ Op6 ((w.alloc (.cells (odC pa m1 pc a) 34)).alloc (.cells (odC qa m2 qc b) 34)) (w.heap.size + 1) qa m2 qc b ∧ Below w.heap.size w ((w.alloc (.cells (odC pa m1 pc a) 34)).alloc (.cells (odC qa m2 qc b) 34)) := by
  obtain ⟨h1, h2⟩ := new2 w (.cells (odC pa m1 pc a) 34) (.cells (odC qa m2 qc b) 34)
  exact ⟨op6_of h1, op6_of h2, ((Below.refl _ w).alloc (Nat.le_refl _) _).alloc (by simp) _⟩
theorem Op6.drew {W : World} {B : Nat} {pa : Option Addr} {m pc : Nat} {o : Od} (h : Op6 W B pa m pc o) (n : Nat) : Op6 (W.drewN n) B pa m pc o := h

set_option maxHeartbeats 4000000 in
set_option maxRecDepth 100000 in
theorem same41_any {w : World} {pa qa : Option Addr} {pc qc : Nat} (a b : Od) (ha : Rs w pa a.p) (hb : Rs w qa b.p) (hla : a.p.length ≤ 1000000) (hlb : b.p.length ≤ 1000000) : Calls Tryz.prog 41 #[odv pa a.p.length pc a, odv qa b.p.length qc b] w fun e w' => e = .returned (.bool (sameO a b)) ∧ Below w.heap.size w w' := by
  obtain ⟨y, z, dw⟩ := two6 w pa qa a.p.length pc b.p.length qc a b
  obtain ⟨w2, hw2⟩ : ∃ q, q = (w.alloc (.cells (odC pa a.p.length pc a) 34)).alloc (.cells (odC qa b.p.length qc b) 34) := ⟨_, rfl⟩
  rw [← hw2] at y z dw
  have k := equalT_any (c := pc) (d := qc) (ha.below dw) (hb.below dw) hla hlb
  have hS : sameO a b = (decide (a.p = b.p) && (a.k == b.k) && (a.s.toList == b.s.toList) && (a.d == b.d) && (a.n == b.n) && (a.t.toList == b.t.toList)) := rfl
  rw [hS]
  clear hS ha hb hla hlb
  generalize hV1 : decide (a.p = b.p) = V1 at k ⊢
  generalize hV2 : (a.k == b.k) = V2
  generalize hV3 : (a.s.toList == b.s.toList) = V3
  generalize hV4 : (a.d == b.d) = V4
  generalize hV5 : (a.n == b.n) = V5
  generalize hV6 : (a.t.toList == b.t.toList) = V6
  clear hV1
  obtain ⟨p, k1, s, d, n, t⟩ := a
  obtain ⟨p', k', s', d', n', t'⟩ := b
  dsimp only at y z k hw2 hV2 hV3 hV4 hV5 hV6 ⊢
  have hkk : p.length = p.length := rfl
  generalize p.length = N at y z k hw2 ⊢
  generalize p'.length = N' at y z k hw2 ⊢
  have HW := hide (And.intro hw2 dw)
  have HZ := hide (And.intro y z)
  clear hw2 dw y z hkk
  cases V1
  · simp only [Bool.and_false, Bool.false_and, Bool.and_true]
    go_enter Tryz.func41, Tryz.ntmps41
    go_upto_region 1 with fail
    rw [← HW.out.1]
    obtain ⟨⟨y0, y1, y2, y3, y4, y5⟩, z0, z1, z2, z3, z4, z5⟩ := HZ.out
    dsimp only at y0 y1 y2 y3 y4 y5 z0 z1 z2 z3 z4 z5
    go_wp2_with (go_at_call 89; refine k.mono ?_; rintro e w' ⟨rfl, nn, hw'⟩; have HK := hide hw'; have H' : Op6 w' w.heap.size pa N pc ⟨p, k1, s, d, n, t⟩ ∧ Op6 w' (w.heap.size + 1) qa N' qc ⟨p', k', s', d', n', t'⟩ := (by rw [hw']; exact HZ.out); clear y0 y1 y2 y3 y4 y5 z0 z1 z2 z3 z4 z5 hw'; obtain ⟨⟨y0, y1, y2, y3, y4, y5⟩, z0, z1, z2, z3, z4, z5⟩ := H'; dsimp only at y0 y1 y2 y3 y4 y5 z0 z1 z2 z3 z4 z5)
    go_ret
    exact ⟨rfl, by rw [HK.out]; exact HW.out.2.trans ⟨rfl, rfl, rfl, Nat.le_refl _, fun _ _ => rfl⟩⟩
  cases V2
  · simp only [Bool.and_false, Bool.false_and, Bool.and_true]
    go_enter Tryz.func41, Tryz.ntmps41
    go_upto_region 1 with fail
    rw [← HW.out.1]
    obtain ⟨⟨y0, y1, y2, y3, y4, y5⟩, z0, z1, z2, z3, z4, z5⟩ := HZ.out
    dsimp only at y0 y1 y2 y3 y4 y5 z0 z1 z2 z3 z4 z5
    go_wp2_with (go_at_call 89; refine k.mono ?_; rintro e w' ⟨rfl, nn, hw'⟩; have HK := hide hw'; have H' : Op6 w' w.heap.size pa N pc ⟨p, k1, s, d, n, t⟩ ∧ Op6 w' (w.heap.size + 1) qa N' qc ⟨p', k', s', d', n', t'⟩ := (by rw [hw']; exact HZ.out); clear y0 y1 y2 y3 y4 y5 z0 z1 z2 z3 z4 z5 hw'; obtain ⟨⟨y0, y1, y2, y3, y4, y5⟩, z0, z1, z2, z3, z4, z5⟩ := H'; dsimp only at y0 y1 y2 y3 y4 y5 z0 z1 z2 z3 z4 z5)
    go_ret
    exact ⟨rfl, by rw [HK.out]; exact HW.out.2.trans ⟨rfl, rfl, rfl, Nat.le_refl _, fun _ _ => rfl⟩⟩
  cases V3
  · simp only [Bool.and_false, Bool.false_and, Bool.and_true]
    go_enter Tryz.func41, Tryz.ntmps41
    go_upto_region 1 with fail
    rw [← HW.out.1]
    obtain ⟨⟨y0, y1, y2, y3, y4, y5⟩, z0, z1, z2, z3, z4, z5⟩ := HZ.out
    dsimp only at y0 y1 y2 y3 y4 y5 z0 z1 z2 z3 z4 z5
    go_wp2_with (go_at_call 89; refine k.mono ?_; rintro e w' ⟨rfl, nn, hw'⟩; have HK := hide hw'; have H' : Op6 w' w.heap.size pa N pc ⟨p, k1, s, d, n, t⟩ ∧ Op6 w' (w.heap.size + 1) qa N' qc ⟨p', k', s', d', n', t'⟩ := (by rw [hw']; exact HZ.out); clear y0 y1 y2 y3 y4 y5 z0 z1 z2 z3 z4 z5 hw'; obtain ⟨⟨y0, y1, y2, y3, y4, y5⟩, z0, z1, z2, z3, z4, z5⟩ := H'; dsimp only at y0 y1 y2 y3 y4 y5 z0 z1 z2 z3 z4 z5)
    go_ret
    exact ⟨rfl, by rw [HK.out]; exact HW.out.2.trans ⟨rfl, rfl, rfl, Nat.le_refl _, fun _ _ => rfl⟩⟩
  cases V4
  · simp only [Bool.and_false, Bool.false_and, Bool.and_true]
    go_enter Tryz.func41, Tryz.ntmps41
    go_upto_region 1 with fail
    rw [← HW.out.1]
    obtain ⟨⟨y0, y1, y2, y3, y4, y5⟩, z0, z1, z2, z3, z4, z5⟩ := HZ.out
    dsimp only at y0 y1 y2 y3 y4 y5 z0 z1 z2 z3 z4 z5
    go_wp2_with (go_at_call 89; refine k.mono ?_; rintro e w' ⟨rfl, nn, hw'⟩; have HK := hide hw'; have H' : Op6 w' w.heap.size pa N pc ⟨p, k1, s, d, n, t⟩ ∧ Op6 w' (w.heap.size + 1) qa N' qc ⟨p', k', s', d', n', t'⟩ := (by rw [hw']; exact HZ.out); clear y0 y1 y2 y3 y4 y5 z0 z1 z2 z3 z4 z5 hw'; obtain ⟨⟨y0, y1, y2, y3, y4, y5⟩, z0, z1, z2, z3, z4, z5⟩ := H'; dsimp only at y0 y1 y2 y3 y4 y5 z0 z1 z2 z3 z4 z5)
    go_ret
    exact ⟨rfl, by rw [HK.out]; exact HW.out.2.trans ⟨rfl, rfl, rfl, Nat.le_refl _, fun _ _ => rfl⟩⟩
  cases V5
  · simp only [Bool.and_false, Bool.false_and, Bool.and_true]
    go_enter Tryz.func41, Tryz.ntmps41
    go_upto_region 1 with fail
    rw [← HW.out.1]
    obtain ⟨⟨y0, y1, y2, y3, y4, y5⟩, z0, z1, z2, z3, z4, z5⟩ := HZ.out
    dsimp only at y0 y1 y2 y3 y4 y5 z0 z1 z2 z3 z4 z5
    go_wp2_with (go_at_call 89; refine k.mono ?_; rintro e w' ⟨rfl, nn, hw'⟩; have HK := hide hw'; have H' : Op6 w' w.heap.size pa N pc ⟨p, k1, s, d, n, t⟩ ∧ Op6 w' (w.heap.size + 1) qa N' qc ⟨p', k', s', d', n', t'⟩ := (by rw [hw']; exact HZ.out); clear y0 y1 y2 y3 y4 y5 z0 z1 z2 z3 z4 z5 hw'; obtain ⟨⟨y0, y1, y2, y3, y4, y5⟩, z0, z1, z2, z3, z4, z5⟩ := H'; dsimp only at y0 y1 y2 y3 y4 y5 z0 z1 z2 z3 z4 z5)
    go_ret
    exact ⟨rfl, by rw [HK.out]; exact HW.out.2.trans ⟨rfl, rfl, rfl, Nat.le_refl _, fun _ _ => rfl⟩⟩
  cases V6
  · simp only [Bool.and_false, Bool.false_and, Bool.and_true]
    go_enter Tryz.func41, Tryz.ntmps41
    go_upto_region 1 with fail
    rw [← HW.out.1]
    obtain ⟨⟨y0, y1, y2, y3, y4, y5⟩, z0, z1, z2, z3, z4, z5⟩ := HZ.out
    dsimp only at y0 y1 y2 y3 y4 y5 z0 z1 z2 z3 z4 z5
    go_wp2_with (go_at_call 89; refine k.mono ?_; rintro e w' ⟨rfl, nn, hw'⟩; have HK := hide hw'; have H' : Op6 w' w.heap.size pa N pc ⟨p, k1, s, d, n, t⟩ ∧ Op6 w' (w.heap.size + 1) qa N' qc ⟨p', k', s', d', n', t'⟩ := (by rw [hw']; exact HZ.out); clear y0 y1 y2 y3 y4 y5 z0 z1 z2 z3 z4 z5 hw'; obtain ⟨⟨y0, y1, y2, y3, y4, y5⟩, z0, z1, z2, z3, z4, z5⟩ := H'; dsimp only at y0 y1 y2 y3 y4 y5 z0 z1 z2 z3 z4 z5)
    go_ret
    exact ⟨rfl, by rw [HK.out]; exact HW.out.2.trans ⟨rfl, rfl, rfl, Nat.le_refl _, fun _ _ => rfl⟩⟩
  simp only [Bool.and_true]
  go_enter Tryz.func41, Tryz.ntmps41
  go_upto_region 1 with fail
  rw [← HW.out.1]
  obtain ⟨⟨y0, y1, y2, y3, y4, y5⟩, z0, z1, z2, z3, z4, z5⟩ := HZ.out
  dsimp only at y0 y1 y2 y3 y4 y5 z0 z1 z2 z3 z4 z5
  go_wp2_with (go_at_call 89; refine k.mono ?_; rintro e w' ⟨rfl, nn, hw'⟩; have HK := hide hw'; have H' : Op6 w' w.heap.size pa N pc ⟨p, k1, s, d, n, t⟩ ∧ Op6 w' (w.heap.size + 1) qa N' qc ⟨p', k', s', d', n', t'⟩ := (by rw [hw']; exact HZ.out); clear y0 y1 y2 y3 y4 y5 z0 z1 z2 z3 z4 z5 hw'; obtain ⟨⟨y0, y1, y2, y3, y4, y5⟩, z0, z1, z2, z3, z4, z5⟩ := H'; dsimp only at y0 y1 y2 y3 y4 y5 z0 z1 z2 z3 z4 z5)
  go_ret
  exact ⟨rfl, by rw [HK.out]; exact HW.out.2.trans ⟨rfl, rfl, rfl, Nat.le_refl _, fun _ _ => rfl⟩⟩


set_option maxHeartbeats 4000000 in
set_option maxRecDepth 100000 in
theorem sameOp_any {w : World} {pa qa : Option Addr} {pc qc : Nat} (a b : Od) (ha : Rs w pa a.p) (hb : Rs w qa b.p) (hla : a.p.length ≤ 1000000) (hlb : b.p.length ≤ 1000000) : Calls Tryz.prog 30 #[odv pa a.p.length pc a, odv qa b.p.length qc b] w fun e w' => e = .returned (.bool (sameO a b)) ∧ Below w.heap.size w w' := by
  obtain ⟨y, z, dw⟩ := two6 w pa qa a.p.length pc b.p.length qc a b
  obtain ⟨w2, hw2⟩ : ∃ q, q = (w.alloc (.cells (odC pa a.p.length pc a) 34)).alloc (.cells (odC qa b.p.length qc b) 34) := ⟨_, rfl⟩
  rw [← hw2] at y z dw
  have k := Ki.sameTexts_any (c := pc) (d := qc) (ha.below dw) (hb.below dw) hla hlb
  have hS : sameO a b = (decide (a.p = b.p) && (a.k == b.k) && (a.s.toList == b.s.toList) && (a.d == b.d) && (a.n == b.n) && (a.t.toList == b.t.toList)) := rfl
  rw [hS]
  clear hS ha hb hla hlb
  generalize hV1 : decide (a.p = b.p) = V1 at k ⊢
  generalize hV2 : (a.k == b.k) = V2
  generalize hV3 : (a.s.toList == b.s.toList) = V3
  generalize hV4 : (a.d == b.d) = V4
  generalize hV5 : (a.n == b.n) = V5
  generalize hV6 : (a.t.toList == b.t.toList) = V6
  clear hV1
  obtain ⟨p, k1, s, d, n, t⟩ := a
  obtain ⟨p', k', s', d', n', t'⟩ := b
  dsimp only at y z k hw2 hV2 hV3 hV4 hV5 hV6 ⊢
  have hkk : p.length = p.length := rfl
  generalize p.length = N at y z k hw2 ⊢
  generalize p'.length = N' at y z k hw2 ⊢
  have HW := hide (And.intro hw2 dw)
  have HZ := hide (And.intro y z)
  clear hw2 dw y z hkk
  cases V1
  · simp only [Bool.and_false, Bool.false_and, Bool.and_true]
    go_enter Tryz.func30, Tryz.ntmps30
    go_upto_region 1 with fail
    rw [← HW.out.1]
    obtain ⟨⟨y0, y1, y2, y3, y4, y5⟩, z0, z1, z2, z3, z4, z5⟩ := HZ.out
    dsimp only at y0 y1 y2 y3 y4 y5 z0 z1 z2 z3 z4 z5
    go_wp2_with (go_at_call 74; refine k.mono ?_; rintro e w' ⟨rfl, nn, hw'⟩; have HK := hide hw'; have H' : Op6 w' w.heap.size pa N pc ⟨p, k1, s, d, n, t⟩ ∧ Op6 w' (w.heap.size + 1) qa N' qc ⟨p', k', s', d', n', t'⟩ := (by rw [hw']; exact HZ.out); clear y0 y1 y2 y3 y4 y5 z0 z1 z2 z3 z4 z5 hw'; obtain ⟨⟨y0, y1, y2, y3, y4, y5⟩, z0, z1, z2, z3, z4, z5⟩ := H'; dsimp only at y0 y1 y2 y3 y4 y5 z0 z1 z2 z3 z4 z5)
    go_ret
    exact ⟨rfl, by rw [HK.out]; exact HW.out.2.trans ⟨rfl, rfl, rfl, Nat.le_refl _, fun _ _ => rfl⟩⟩
  cases V2
  · simp only [Bool.and_false, Bool.false_and, Bool.and_true]
    go_enter Tryz.func30, Tryz.ntmps30
    go_upto_region 1 with fail
    rw [← HW.out.1]
    obtain ⟨⟨y0, y1, y2, y3, y4, y5⟩, z0, z1, z2, z3, z4, z5⟩ := HZ.out
    dsimp only at y0 y1 y2 y3 y4 y5 z0 z1 z2 z3 z4 z5
    go_wp2_with (go_at_call 74; refine k.mono ?_; rintro e w' ⟨rfl, nn, hw'⟩; have HK := hide hw'; have H' : Op6 w' w.heap.size pa N pc ⟨p, k1, s, d, n, t⟩ ∧ Op6 w' (w.heap.size + 1) qa N' qc ⟨p', k', s', d', n', t'⟩ := (by rw [hw']; exact HZ.out); clear y0 y1 y2 y3 y4 y5 z0 z1 z2 z3 z4 z5 hw'; obtain ⟨⟨y0, y1, y2, y3, y4, y5⟩, z0, z1, z2, z3, z4, z5⟩ := H'; dsimp only at y0 y1 y2 y3 y4 y5 z0 z1 z2 z3 z4 z5)
    go_ret
    exact ⟨rfl, by rw [HK.out]; exact HW.out.2.trans ⟨rfl, rfl, rfl, Nat.le_refl _, fun _ _ => rfl⟩⟩
  cases V3
  · simp only [Bool.and_false, Bool.false_and, Bool.and_true]
    go_enter Tryz.func30, Tryz.ntmps30
    go_upto_region 1 with fail
    rw [← HW.out.1]
    obtain ⟨⟨y0, y1, y2, y3, y4, y5⟩, z0, z1, z2, z3, z4, z5⟩ := HZ.out
    dsimp only at y0 y1 y2 y3 y4 y5 z0 z1 z2 z3 z4 z5
    go_wp2_with (go_at_call 74; refine k.mono ?_; rintro e w' ⟨rfl, nn, hw'⟩; have HK := hide hw'; have H' : Op6 w' w.heap.size pa N pc ⟨p, k1, s, d, n, t⟩ ∧ Op6 w' (w.heap.size + 1) qa N' qc ⟨p', k', s', d', n', t'⟩ := (by rw [hw']; exact HZ.out); clear y0 y1 y2 y3 y4 y5 z0 z1 z2 z3 z4 z5 hw'; obtain ⟨⟨y0, y1, y2, y3, y4, y5⟩, z0, z1, z2, z3, z4, z5⟩ := H'; dsimp only at y0 y1 y2 y3 y4 y5 z0 z1 z2 z3 z4 z5)
    go_ret
    exact ⟨rfl, by rw [HK.out]; exact HW.out.2.trans ⟨rfl, rfl, rfl, Nat.le_refl _, fun _ _ => rfl⟩⟩
  cases V4
  · simp only [Bool.and_false, Bool.false_and, Bool.and_true]
    go_enter Tryz.func30, Tryz.ntmps30
    go_upto_region 1 with fail
    rw [← HW.out.1]
    obtain ⟨⟨y0, y1, y2, y3, y4, y5⟩, z0, z1, z2, z3, z4, z5⟩ := HZ.out
    dsimp only at y0 y1 y2 y3 y4 y5 z0 z1 z2 z3 z4 z5
    go_wp2_with (go_at_call 74; refine k.mono ?_; rintro e w' ⟨rfl, nn, hw'⟩; have HK := hide hw'; have H' : Op6 w' w.heap.size pa N pc ⟨p, k1, s, d, n, t⟩ ∧ Op6 w' (w.heap.size + 1) qa N' qc ⟨p', k', s', d', n', t'⟩ := (by rw [hw']; exact HZ.out); clear y0 y1 y2 y3 y4 y5 z0 z1 z2 z3 z4 z5 hw'; obtain ⟨⟨y0, y1, y2, y3, y4, y5⟩, z0, z1, z2, z3, z4, z5⟩ := H'; dsimp only at y0 y1 y2 y3 y4 y5 z0 z1 z2 z3 z4 z5)
    go_ret
    exact ⟨rfl, by rw [HK.out]; exact HW.out.2.trans ⟨rfl, rfl, rfl, Nat.le_refl _, fun _ _ => rfl⟩⟩
  cases V5
  · simp only [Bool.and_false, Bool.false_and, Bool.and_true]
    go_enter Tryz.func30, Tryz.ntmps30
    go_upto_region 1 with fail
    rw [← HW.out.1]
    obtain ⟨⟨y0, y1, y2, y3, y4, y5⟩, z0, z1, z2, z3, z4, z5⟩ := HZ.out
    dsimp only at y0 y1 y2 y3 y4 y5 z0 z1 z2 z3 z4 z5
    go_wp2_with (go_at_call 74; refine k.mono ?_; rintro e w' ⟨rfl, nn, hw'⟩; have HK := hide hw'; have H' : Op6 w' w.heap.size pa N pc ⟨p, k1, s, d, n, t⟩ ∧ Op6 w' (w.heap.size + 1) qa N' qc ⟨p', k', s', d', n', t'⟩ := (by rw [hw']; exact HZ.out); clear y0 y1 y2 y3 y4 y5 z0 z1 z2 z3 z4 z5 hw'; obtain ⟨⟨y0, y1, y2, y3, y4, y5⟩, z0, z1, z2, z3, z4, z5⟩ := H'; dsimp only at y0 y1 y2 y3 y4 y5 z0 z1 z2 z3 z4 z5)
    go_ret
    exact ⟨rfl, by rw [HK.out]; exact HW.out.2.trans ⟨rfl, rfl, rfl, Nat.le_refl _, fun _ _ => rfl⟩⟩
  cases V6
  · simp only [Bool.and_false, Bool.false_and, Bool.and_true]
    go_enter Tryz.func30, Tryz.ntmps30
    go_upto_region 1 with fail
    rw [← HW.out.1]
    obtain ⟨⟨y0, y1, y2, y3, y4, y5⟩, z0, z1, z2, z3, z4, z5⟩ := HZ.out
    dsimp only at y0 y1 y2 y3 y4 y5 z0 z1 z2 z3 z4 z5
    go_wp2_with (go_at_call 74; refine k.mono ?_; rintro e w' ⟨rfl, nn, hw'⟩; have HK := hide hw'; have H' : Op6 w' w.heap.size pa N pc ⟨p, k1, s, d, n, t⟩ ∧ Op6 w' (w.heap.size + 1) qa N' qc ⟨p', k', s', d', n', t'⟩ := (by rw [hw']; exact HZ.out); clear y0 y1 y2 y3 y4 y5 z0 z1 z2 z3 z4 z5 hw'; obtain ⟨⟨y0, y1, y2, y3, y4, y5⟩, z0, z1, z2, z3, z4, z5⟩ := H'; dsimp only at y0 y1 y2 y3 y4 y5 z0 z1 z2 z3 z4 z5)
    go_ret
    exact ⟨rfl, by rw [HK.out]; exact HW.out.2.trans ⟨rfl, rfl, rfl, Nat.le_refl _, fun _ _ => rfl⟩⟩
  simp only [Bool.and_true]
  go_enter Tryz.func30, Tryz.ntmps30
  go_upto_region 1 with fail
  rw [← HW.out.1]
  obtain ⟨⟨y0, y1, y2, y3, y4, y5⟩, z0, z1, z2, z3, z4, z5⟩ := HZ.out
  dsimp only at y0 y1 y2 y3 y4 y5 z0 z1 z2 z3 z4 z5
  go_wp2_with (go_at_call 74; refine k.mono ?_; rintro e w' ⟨rfl, nn, hw'⟩; have HK := hide hw'; have H' : Op6 w' w.heap.size pa N pc ⟨p, k1, s, d, n, t⟩ ∧ Op6 w' (w.heap.size + 1) qa N' qc ⟨p', k', s', d', n', t'⟩ := (by rw [hw']; exact HZ.out); clear y0 y1 y2 y3 y4 y5 z0 z1 z2 z3 z4 z5 hw'; obtain ⟨⟨y0, y1, y2, y3, y4, y5⟩, z0, z1, z2, z3, z4, z5⟩ := H'; dsimp only at y0 y1 y2 y3 y4 y5 z0 z1 z2 z3 z4 z5)
  go_ret
  exact ⟨rfl, by rw [HK.out]; exact HW.out.2.trans ⟨rfl, rfl, rfl, Nat.le_refl _, fun _ _ => rfl⟩⟩


def sameL (a b : List Od) : Bool := decide (a.length = b.length) && (a.zip b).all fun x => sameO x.1 x.2
theorem sameL_iff : ∀ (a b : List Od), sameL a b = true ↔ a = b
  | [], [] => by simp [sameL]
  | [], _ :: _ => by simp [sameL]
  | _ :: _, [] => by simp [sameL]
  | x :: a, y :: b => by
    have ih := sameL_iff a b
    unfold sameL at ih ⊢
    simp only [List.length_cons, Nat.add_right_cancel_iff, List.zip_cons_cons, List.all_cons, Bool.and_eq_true, decide_eq_true_eq, sameO_iff] at ih ⊢
    constructor
    · rintro ⟨h1, rfl, h2⟩
      rw [ih.1 ⟨h1, h2⟩]
    · intro h
      obtain ⟨rfl, rfl⟩ := List.cons.inj h
      exact ⟨rfl, rfl, (ih.2 rfl).2⟩
theorem sameL_no {a b : List Od} {k : Nat} {x y : Od} (hx : a[k]? = some x) (hy : b[k]? = some y) (h : sameO x y = false) : sameL a b = false := by
  cases hs : sameL a b
  · rfl
  · rw [sameL_iff] at hs
    subst hs
    rw [hx] at hy
    cases hy
    rw [(sameO_iff x x).2 rfl] at h
    cases h
theorem sameL_len {a b : List Od} (h : a.length ≠ b.length) : sameL a b = false := by
  cases hs : sameL a b
  · rfl
  · rw [sameL_iff] at hs; exact absurd (by rw [hs]) h
theorem sameL_yes {a b : List Od} (hl : a.length = b.length) (h : ∀ j x y, j < a.length → a[j]? = some x → b[j]? = some y → sameO x y = true) : sameL a b = true := by
  rw [sameL_iff]
  apply List.ext_getElem? 
  intro j
  by_cases hj : j < a.length
  · have h1 := List.getElem?_eq_getElem hj
    have h2 := List.getElem?_eq_getElem (l := b) (i := j) (by omega)
    rw [h1, h2]
    exact congrArg some ((sameO_iff _ _).1 (h j _ _ hj h1 h2))
  · rw [List.getElem?_eq_none (by omega), List.getElem?_eq_none (by omega)]

set_option maxHeartbeats 4000000 in
set_option maxRecDepth 100000 in
theorem same20_any {w : World} {ao bo : Option Addr} {c d : Nat} (l m : List Od) (ha : Rq w ao l) (hb : Rq w bo m) (hl : l.length ≤ 100000) (hpl : ∀ o ∈ l, o.p.length ≤ 1000000) (hpm : ∀ o ∈ m, o.p.length ≤ 1000000) : Calls Tryz.prog 20 #[.slice ao l.length c, .slice bo m.length d] w fun e w' => e = .returned (.bool (sameL l m)) ∧ Below w.heap.size w w' := by
  by_cases hlen : l.length = m.length
  · go_enter Tryz.func20, Tryz.ntmps20
    have hzn : ((l.length : Int) != (m.length : Int)) = false := by simp; omega
    have HLN := hide hlen
    clear hlen
    go_upto_region 3 with fail
    go_wp2
    go_loopw [5] (fun i wr => ∃ (k : Nat), k ≤ l.length ∧ i = .int .i64 k ∧ Hid (∀ j x y, j < k → l[j]? = some x → m[j]? = some y → sameO x y = true) ∧ Hid (Below w.heap.size w wr))
      (fun i _ => l.length - (intOf i).toNat)
    case atStart => exact ⟨0, Nat.zero_le _, rfl, hide (fun j x y h => by omega), hide (Below.refl _ _)⟩
    case round =>
      obtain ⟨k, hk, rfl, HA, HB⟩ := hrel
      by_cases hlt : k < l.length
      · obtain ⟨x, hx⟩ : ∃ q, l[k]? = some q := ⟨_, List.getElem?_eq_getElem hlt⟩
        obtain ⟨y, hy⟩ : ∃ q, m[k]? = some q := ⟨_, List.getElem?_eq_getElem (by have := HLN.out; omega)⟩
        obtain ⟨ab, aoff, pa, pc, rfl, hp, c0, c1, c2, c3, c4, c5⟩ := (ha.below HB.out) k x hx
        obtain ⟨bb, boff, qa, qc, rfl, hq, e0, e1, e2, e3, e4, e5⟩ := (hb.below HB.out) k y hy
        have k30d := sameOp_any (w := wr.drew) (pc := pc) (qc := qc) x y hp.rs.drew hq.rs.drew (hpl x (List.mem_of_getElem? hx)) (hpm y (List.mem_of_getElem? hy))
        obtain ⟨V, hV⟩ : ∃ q, q = sameO x y := ⟨_, rfl⟩
        rw [← hV] at k30d
        have HX := hide (And.intro hx (And.intro hy hV))
        have hmk : k < m.length := by have := HLN.out; omega
        clear hx hy hV
        obtain ⟨xp, xk, xs, xd, xn, xt⟩ := x
        obtain ⟨yp, yk, ys, yd, yn, yt⟩ := y
        dsimp only at c0 c1 c2 c3 c4 c5 e0 e1 e2 e3 e4 e5 k30d hp hq
        generalize xp.length = N at c0 k30d
        generalize yp.length = N' at e0 k30d
        clear hp hq
        have hmz : (k : Int) < (m.length : Int) := by omega
        cases V
        · have k30 := (show Calls Tryz.prog 30 _ wr.drew _ from k30d)
          go_upto_region 6 with fail
          refine wp_region_held_drew (S := fun w' => w'.cell? ⟨ab, aoff + k * 6, none⟩ = some (.slice pa N pc) ∧ w'.cell? ⟨ab, aoff + k * 6 + 1, none⟩ = some (.int .i64 xk) ∧ w'.cell? ⟨ab, aoff + k * 6 + 2, none⟩ = some (.string xs) ∧ w'.cell? ⟨ab, aoff + k * 6 + 3, none⟩ = some (.int .i64 xd) ∧ w'.cell? ⟨ab, aoff + k * 6 + 4, none⟩ = some (.int .i64 xn) ∧ w'.cell? ⟨ab, aoff + k * 6 + 5, none⟩ = some (.string xt) ∧ w'.cell? ⟨bb, boff + k * 6, none⟩ = some (.slice qa N' qc) ∧ w'.cell? ⟨bb, boff + k * 6 + 1, none⟩ = some (.int .i64 yk) ∧ w'.cell? ⟨bb, boff + k * 6 + 2, none⟩ = some (.string ys) ∧ w'.cell? ⟨bb, boff + k * 6 + 3, none⟩ = some (.int .i64 yd) ∧ w'.cell? ⟨bb, boff + k * 6 + 4, none⟩ = some (.int .i64 yn) ∧ w'.cell? ⟨bb, boff + k * 6 + 5, none⟩ = some (.string yt)) (by kernel_rfl) ⟨c0, c1, c2, c3, c4, c5, e0, e1, e2, e3, e4, e5⟩ (fun hHeld => ?_)
          try dsimp only at hHeld
          refine take_op (i := 0) (d := 17) (OP := Op.move (Operand.tmp 0)) (T := 22) (v := ?vog1) rfl rfl rfl rfl (by kernel_rfl) (by kernel_rfl) (by kernel_rfl) (fun _ _ _ h => h) (by rfl) ?hog1 hHeld ?rog1
          case hog1 => (intro w' hSw; (try dsimp only at hSw); go_simp <;> with_reducible rfl)
          try simp only [Act.put, List.setIfInBounds_toArray, List.set_cons_zero, List.set_cons_succ]
          refine take_op (i := 1) (d := 18) (OP := Op.move (Operand.tmp 5)) (T := 3) (v := ?vog2) rfl rfl rfl rfl (by kernel_rfl) (by kernel_rfl) (by kernel_rfl) (fun _ _ _ h => h) (by rfl) ?hog2 hHeld ?rog2
          case hog2 => (intro w' hSw; (try dsimp only at hSw); go_simp <;> with_reducible rfl)
          try simp only [Act.put, List.setIfInBounds_toArray, List.set_cons_zero, List.set_cons_succ]
          refine take_op (i := 2) (d := 19) (OP := Op.indexAddr 22 (Operand.tmp 17) (Operand.tmp 18)) (T := 0) (v := ?vog3) rfl rfl rfl rfl (by kernel_rfl) (by kernel_rfl) (by kernel_rfl) (fun _ _ _ h => h) (by rfl) ?hog3 hHeld ?rog3
          case hog3 => (intro w' hSw; (try dsimp only at hSw); go_simp <;> with_reducible rfl)
          try simp only [Act.put, List.setIfInBounds_toArray, List.set_cons_zero, List.set_cons_succ]
          refine take_op (i := 3) (d := 20) (OP := Op.load 34 (Operand.tmp 19)) (T := 34) (v := ?vog4) rfl rfl rfl rfl (by kernel_rfl) (by kernel_rfl) (by kernel_rfl) (fun _ _ _ h => h) (by rfl) ?hog4 hHeld ?rog4
          case hog4 => (intro w' hSw; (try dsimp only at hSw); go_simp <;> with_reducible rfl)
          try simp only [Act.put, List.setIfInBounds_toArray, List.set_cons_zero, List.set_cons_succ]
          refine take_op (i := 4) (d := 21) (OP := Op.move (Operand.tmp 1)) (T := 22) (v := ?vog5) rfl rfl rfl rfl (by kernel_rfl) (by kernel_rfl) (by kernel_rfl) (fun _ _ _ h => h) (by rfl) ?hog5 hHeld ?rog5
          case hog5 => (intro w' hSw; (try dsimp only at hSw); go_simp <;> with_reducible rfl)
          try simp only [Act.put, List.setIfInBounds_toArray, List.set_cons_zero, List.set_cons_succ]
          refine take_op (i := 5) (d := 22) (OP := Op.move (Operand.tmp 5)) (T := 3) (v := ?vog6) rfl rfl rfl rfl (by kernel_rfl) (by kernel_rfl) (by kernel_rfl) (fun _ _ _ h => h) (by rfl) ?hog6 hHeld ?rog6
          case hog6 => (intro w' hSw; (try dsimp only at hSw); go_simp <;> with_reducible rfl)
          try simp only [Act.put, List.setIfInBounds_toArray, List.set_cons_zero, List.set_cons_succ]
          refine take_op (i := 6) (d := 23) (OP := Op.indexAddr 22 (Operand.tmp 21) (Operand.tmp 22)) (T := 0) (v := ?vog7) rfl rfl rfl rfl (by kernel_rfl) (by kernel_rfl) (by kernel_rfl) (fun _ _ _ h => h) (by rfl) ?hog7 hHeld ?rog7
          case hog7 => (intro w' hSw; (try dsimp only at hSw); go_simp <;> with_reducible rfl)
          try simp only [Act.put, List.setIfInBounds_toArray, List.set_cons_zero, List.set_cons_succ]
          refine take_op (i := 7) (d := 24) (OP := Op.load 34 (Operand.tmp 23)) (T := 34) (v := ?vog8) rfl rfl rfl rfl (by kernel_rfl) (by kernel_rfl) (by kernel_rfl) (fun _ _ _ h => h) (by rfl) ?hog8 hHeld ?rog8
          case hog8 => (intro w' hSw; (try dsimp only at hSw); go_simp <;> with_reducible rfl)
          try simp only [Act.put, List.setIfInBounds_toArray, List.set_cons_zero, List.set_cons_succ]
          refine call_op (i := 8) (d := 25) (OP := Op.call { callee := Callee.value (Operand.func 30), args := #[Operand.tmp 20, Operand.tmp 24], argTypes := #[34, 34] }) (T := 4) (f := 30) (args := #[.agg #[.slice pa N pc, .int .i64 xk, .string xs, .int .i64 xd, .int .i64 xn, .string xt], .agg #[.slice qa N' qc, .int .i64 yk, .string ys, .int .i64 yd, .int .i64 yn, .string yt]]) rfl rfl rfl rfl (by kernel_rfl) (by rfl) (by go_simp) ?_
          refine k30.mono ?_
          rintro e w2 ⟨rfl, hb2⟩
          replace hb2 := below_undrew0 hb2
          have s2 : w2.cell? ⟨ab, aoff + k * 6, none⟩ = some (.slice pa N pc) ∧ w2.cell? ⟨ab, aoff + k * 6 + 1, none⟩ = some (.int .i64 xk) ∧ w2.cell? ⟨ab, aoff + k * 6 + 2, none⟩ = some (.string xs) ∧ w2.cell? ⟨ab, aoff + k * 6 + 3, none⟩ = some (.int .i64 xd) ∧ w2.cell? ⟨ab, aoff + k * 6 + 4, none⟩ = some (.int .i64 xn) ∧ w2.cell? ⟨ab, aoff + k * 6 + 5, none⟩ = some (.string xt) ∧ w2.cell? ⟨bb, boff + k * 6, none⟩ = some (.slice qa N' qc) ∧ w2.cell? ⟨bb, boff + k * 6 + 1, none⟩ = some (.int .i64 yk) ∧ w2.cell? ⟨bb, boff + k * 6 + 2, none⟩ = some (.string ys) ∧ w2.cell? ⟨bb, boff + k * 6 + 3, none⟩ = some (.int .i64 yd) ∧ w2.cell? ⟨bb, boff + k * 6 + 4, none⟩ = some (.int .i64 yn) ∧ w2.cell? ⟨bb, boff + k * 6 + 5, none⟩ = some (.string yt) := ⟨Ki.cell_stays c0 hb2, Ki.cell_stays c1 hb2, Ki.cell_stays c2 hb2, Ki.cell_stays c3 hb2, Ki.cell_stays c4 hb2, Ki.cell_stays c5 hb2, Ki.cell_stays e0 hb2, Ki.cell_stays e1 hb2, Ki.cell_stays e2 hb2, Ki.cell_stays e3 hb2, Ki.cell_stays e4 hb2, Ki.cell_stays e5 hb2⟩
          have HB2 := hide hb2
          refine ⟨_, rfl, s2, ?_⟩
          try simp only [Act.put, List.setIfInBounds_toArray, List.set_cons_zero, List.set_cons_succ]
          refine take_op (i := 9) (d := 26) (OP := Op.unOp UnOp.not 4 (Operand.tmp 25)) (T := 4) (v := ?vog9) rfl rfl rfl rfl (by kernel_rfl) (by kernel_rfl) (by kernel_rfl) (fun _ _ _ h => h) (by rfl) ?hog9 s2 ?rog9
          case hog9 => (intro w' hSw; (try dsimp only at hSw); go_simp <;> with_reducible rfl)
          try simp only [Act.put, List.setIfInBounds_toArray, List.set_cons_zero, List.set_cons_succ]
          refine wpAnyH_done (by kernel_rfl) ?_ _
          clear c0 c1 c2 c3 c4 c5 e0 e1 e2 e3 e4 e5 s2 hb2 k30 hHeld
          go_wp2
          go_ret
          exact ⟨(by rw [sameL_no HX.out.1 HX.out.2.1 HX.out.2.2.symm]; rfl), HB.out.trans (HB2.out.mono HB.out.size)⟩
        · have k30 := (show Calls Tryz.prog 30 _ wr.drew _ from k30d)
          go_upto_region 6 with fail
          refine wp_region_held_drew (S := fun w' => w'.cell? ⟨ab, aoff + k * 6, none⟩ = some (.slice pa N pc) ∧ w'.cell? ⟨ab, aoff + k * 6 + 1, none⟩ = some (.int .i64 xk) ∧ w'.cell? ⟨ab, aoff + k * 6 + 2, none⟩ = some (.string xs) ∧ w'.cell? ⟨ab, aoff + k * 6 + 3, none⟩ = some (.int .i64 xd) ∧ w'.cell? ⟨ab, aoff + k * 6 + 4, none⟩ = some (.int .i64 xn) ∧ w'.cell? ⟨ab, aoff + k * 6 + 5, none⟩ = some (.string xt) ∧ w'.cell? ⟨bb, boff + k * 6, none⟩ = some (.slice qa N' qc) ∧ w'.cell? ⟨bb, boff + k * 6 + 1, none⟩ = some (.int .i64 yk) ∧ w'.cell? ⟨bb, boff + k * 6 + 2, none⟩ = some (.string ys) ∧ w'.cell? ⟨bb, boff + k * 6 + 3, none⟩ = some (.int .i64 yd) ∧ w'.cell? ⟨bb, boff + k * 6 + 4, none⟩ = some (.int .i64 yn) ∧ w'.cell? ⟨bb, boff + k * 6 + 5, none⟩ = some (.string yt)) (by kernel_rfl) ⟨c0, c1, c2, c3, c4, c5, e0, e1, e2, e3, e4, e5⟩ (fun hHeld => ?_)
          try dsimp only at hHeld
          refine take_op (i := 0) (d := 17) (OP := Op.move (Operand.tmp 0)) (T := 22) (v := ?vog10) rfl rfl rfl rfl (by kernel_rfl) (by kernel_rfl) (by kernel_rfl) (fun _ _ _ h => h) (by rfl) ?hog10 hHeld ?rog10
          case hog10 => (intro w' hSw; (try dsimp only at hSw); go_simp <;> with_reducible rfl)
          try simp only [Act.put, List.setIfInBounds_toArray, List.set_cons_zero, List.set_cons_succ]
          refine take_op (i := 1) (d := 18) (OP := Op.move (Operand.tmp 5)) (T := 3) (v := ?vog11) rfl rfl rfl rfl (by kernel_rfl) (by kernel_rfl) (by kernel_rfl) (fun _ _ _ h => h) (by rfl) ?hog11 hHeld ?rog11
          case hog11 => (intro w' hSw; (try dsimp only at hSw); go_simp <;> with_reducible rfl)
          try simp only [Act.put, List.setIfInBounds_toArray, List.set_cons_zero, List.set_cons_succ]
          refine take_op (i := 2) (d := 19) (OP := Op.indexAddr 22 (Operand.tmp 17) (Operand.tmp 18)) (T := 0) (v := ?vog12) rfl rfl rfl rfl (by kernel_rfl) (by kernel_rfl) (by kernel_rfl) (fun _ _ _ h => h) (by rfl) ?hog12 hHeld ?rog12
          case hog12 => (intro w' hSw; (try dsimp only at hSw); go_simp <;> with_reducible rfl)
          try simp only [Act.put, List.setIfInBounds_toArray, List.set_cons_zero, List.set_cons_succ]
          refine take_op (i := 3) (d := 20) (OP := Op.load 34 (Operand.tmp 19)) (T := 34) (v := ?vog13) rfl rfl rfl rfl (by kernel_rfl) (by kernel_rfl) (by kernel_rfl) (fun _ _ _ h => h) (by rfl) ?hog13 hHeld ?rog13
          case hog13 => (intro w' hSw; (try dsimp only at hSw); go_simp <;> with_reducible rfl)
          try simp only [Act.put, List.setIfInBounds_toArray, List.set_cons_zero, List.set_cons_succ]
          refine take_op (i := 4) (d := 21) (OP := Op.move (Operand.tmp 1)) (T := 22) (v := ?vog14) rfl rfl rfl rfl (by kernel_rfl) (by kernel_rfl) (by kernel_rfl) (fun _ _ _ h => h) (by rfl) ?hog14 hHeld ?rog14
          case hog14 => (intro w' hSw; (try dsimp only at hSw); go_simp <;> with_reducible rfl)
          try simp only [Act.put, List.setIfInBounds_toArray, List.set_cons_zero, List.set_cons_succ]
          refine take_op (i := 5) (d := 22) (OP := Op.move (Operand.tmp 5)) (T := 3) (v := ?vog15) rfl rfl rfl rfl (by kernel_rfl) (by kernel_rfl) (by kernel_rfl) (fun _ _ _ h => h) (by rfl) ?hog15 hHeld ?rog15
          case hog15 => (intro w' hSw; (try dsimp only at hSw); go_simp <;> with_reducible rfl)
          try simp only [Act.put, List.setIfInBounds_toArray, List.set_cons_zero, List.set_cons_succ]
          refine take_op (i := 6) (d := 23) (OP := Op.indexAddr 22 (Operand.tmp 21) (Operand.tmp 22)) (T := 0) (v := ?vog16) rfl rfl rfl rfl (by kernel_rfl) (by kernel_rfl) (by kernel_rfl) (fun _ _ _ h => h) (by rfl) ?hog16 hHeld ?rog16
          case hog16 => (intro w' hSw; (try dsimp only at hSw); go_simp <;> with_reducible rfl)
          try simp only [Act.put, List.setIfInBounds_toArray, List.set_cons_zero, List.set_cons_succ]
          refine take_op (i := 7) (d := 24) (OP := Op.load 34 (Operand.tmp 23)) (T := 34) (v := ?vog17) rfl rfl rfl rfl (by kernel_rfl) (by kernel_rfl) (by kernel_rfl) (fun _ _ _ h => h) (by rfl) ?hog17 hHeld ?rog17
          case hog17 => (intro w' hSw; (try dsimp only at hSw); go_simp <;> with_reducible rfl)
          try simp only [Act.put, List.setIfInBounds_toArray, List.set_cons_zero, List.set_cons_succ]
          refine call_op (i := 8) (d := 25) (OP := Op.call { callee := Callee.value (Operand.func 30), args := #[Operand.tmp 20, Operand.tmp 24], argTypes := #[34, 34] }) (T := 4) (f := 30) (args := #[.agg #[.slice pa N pc, .int .i64 xk, .string xs, .int .i64 xd, .int .i64 xn, .string xt], .agg #[.slice qa N' qc, .int .i64 yk, .string ys, .int .i64 yd, .int .i64 yn, .string yt]]) rfl rfl rfl rfl (by kernel_rfl) (by rfl) (by go_simp) ?_
          refine k30.mono ?_
          rintro e w2 ⟨rfl, hb2⟩
          replace hb2 := below_undrew0 hb2
          have s2 : w2.cell? ⟨ab, aoff + k * 6, none⟩ = some (.slice pa N pc) ∧ w2.cell? ⟨ab, aoff + k * 6 + 1, none⟩ = some (.int .i64 xk) ∧ w2.cell? ⟨ab, aoff + k * 6 + 2, none⟩ = some (.string xs) ∧ w2.cell? ⟨ab, aoff + k * 6 + 3, none⟩ = some (.int .i64 xd) ∧ w2.cell? ⟨ab, aoff + k * 6 + 4, none⟩ = some (.int .i64 xn) ∧ w2.cell? ⟨ab, aoff + k * 6 + 5, none⟩ = some (.string xt) ∧ w2.cell? ⟨bb, boff + k * 6, none⟩ = some (.slice qa N' qc) ∧ w2.cell? ⟨bb, boff + k * 6 + 1, none⟩ = some (.int .i64 yk) ∧ w2.cell? ⟨bb, boff + k * 6 + 2, none⟩ = some (.string ys) ∧ w2.cell? ⟨bb, boff + k * 6 + 3, none⟩ = some (.int .i64 yd) ∧ w2.cell? ⟨bb, boff + k * 6 + 4, none⟩ = some (.int .i64 yn) ∧ w2.cell? ⟨bb, boff + k * 6 + 5, none⟩ = some (.string yt) := ⟨Ki.cell_stays c0 hb2, Ki.cell_stays c1 hb2, Ki.cell_stays c2 hb2, Ki.cell_stays c3 hb2, Ki.cell_stays c4 hb2, Ki.cell_stays c5 hb2, Ki.cell_stays e0 hb2, Ki.cell_stays e1 hb2, Ki.cell_stays e2 hb2, Ki.cell_stays e3 hb2, Ki.cell_stays e4 hb2, Ki.cell_stays e5 hb2⟩
          have HB2 := hide hb2
          refine ⟨_, rfl, s2, ?_⟩
          try simp only [Act.put, List.setIfInBounds_toArray, List.set_cons_zero, List.set_cons_succ]
          refine take_op (i := 9) (d := 26) (OP := Op.unOp UnOp.not 4 (Operand.tmp 25)) (T := 4) (v := ?vog18) rfl rfl rfl rfl (by kernel_rfl) (by kernel_rfl) (by kernel_rfl) (fun _ _ _ h => h) (by rfl) ?hog18 s2 ?rog18
          case hog18 => (intro w' hSw; (try dsimp only at hSw); go_simp <;> with_reducible rfl)
          try simp only [Act.put, List.setIfInBounds_toArray, List.set_cons_zero, List.set_cons_succ]
          refine wpAnyH_done (by kernel_rfl) ?_ _
          clear c0 c1 c2 c3 c4 c5 e0 e1 e2 e3 e4 e5 s2 hb2 k30 hHeld
          go_wp2
          go_roundw
          case rel => exact ⟨k + 1, by omega, by go_num, hide (fun j x y hj hx hy => by
              by_cases hjk : j < k
              · exact HA.out j x y hjk hx hy
              · have : j = k := by omega
                subst this
                rw [HX.out.1] at hx
                rw [HX.out.2.1] at hy
                cases hx
                cases hy
                exact HX.out.2.2.symm), hide (HB.out.trans (HB2.out.mono HB.out.size))⟩
          case measure => simp [intOf]; omega
      · have hs : sameL l m = true := sameL_yes HLN.out (fun j x y hj hx hy => HA.out j x y (by omega) hx hy)
        have HH := hide hs
        clear hs
        go_wp2
        go_ret
        exact ⟨(by rw [HH.out]; rfl), HB.out⟩
  · have hz : ((l.length : Int) != (m.length : Int)) = true := by simp; omega
    have HL := hide hlen
    clear hlen
    go_enter Tryz.func20, Tryz.ntmps20
    go_wp2
    go_ret
    exact ⟨(by rw [sameL_len HL.out]; rfl), Below.refl _ _⟩
end Go.Proofs.YtpepgoelnagoaaaGreatDoor
namespace Go.Proofs.YtpepgoelnagoaaaGreatDoor
open Go.RowKit Go.Shelf
set_option linter.unusedSimpArgs false
set_option linter.unusedVariables false
attribute [local go_sem] Oper.semAt_some
def addO : Od := ⟨[], 1, ⟨#[104, 105, 116, 115]⟩, 1, 3, ⟨#[]⟩⟩
def popO : Od := ⟨[⟨#[97]⟩, ⟨#[98]⟩], 4, ⟨#[113]⟩, 6, 0, ⟨#[]⟩⟩
theorem chk_add : chkO addO = 0 := by kernel_rfl
theorem chk_pop : chkO popO = 0 := by kernel_rfl
theorem fr_add : frO addO = [1, 0, 4, 104, 105, 116, 115, 6] := by
  simp [frO, frP, frB, frN, addO, Plain.numL_small, Plain.fold, ints, ByteArray.size]
theorem fr_pop : frO popO = [6, 2, 1, 97, 1, 98, 1, 113] := by
  simp [frO, frP, frB, frN, popO, Plain.numL_small, Plain.fold, ints, ByteArray.size]
def knS : ByteArray := ⟨#[97, 100, 100, 32, 47, 32, 104, 105, 116, 115, 32, 51, 59, 32, 112, 111, 112, 32, 47, 97, 47, 98, 32, 113]⟩
theorem kn_text : (⟨(txA [addO, popO]).toArray⟩ : ByteArray) = knS := by kernel_rfl
theorem kn_no : parseS ⟨#[97, 100, 100, 32, 47, 32, 104, 105, 116, 115, 32, 48, 51]⟩ = (odZ, 4) := by kernel_rfl
theorem kn_all : parseA knS = ([addO, popO], 0) := by kernel_rfl

set_option maxHeartbeats 1000000 in
set_option maxRecDepth 100000 in
theorem add43_any (w : World) : Calls Tryz.prog 43 #[] w fun e w' => e = .returned (odv none 0 0 addO) ∧ Below w.heap.size w w' := by
  go_enter Tryz.func43, Tryz.ntmps43
  go_wp2
  exact ret_row w.heap.size (oc6 (.slice none 0 0) 1 ⟨#[104, 105, 116, 115]⟩ 1 3 ⟨#[]⟩).toList rfl rfl Tryz.underlying34 rfl Tryz.info34z (heap_alloc_new w _) rfl ⟨rfl, (Below.refl _ w).alloc (Nat.le_refl _) _⟩
set_option maxHeartbeats 1000000 in
set_option maxRecDepth 100000 in
theorem pop42_any (w : World) : Calls Tryz.prog 42 #[] w fun e w' => ∃ pa, e = .returned (odv pa 2 2 popO) ∧ Ki.Rp w' pa 2 popO.p ∧ Below w.heap.size w w' := by
  obtain ⟨w1, hw1⟩ : ∃ q, q = (w.alloc (.cells (oc6 (.slice (some ⟨w.heap.size + 1, 0, none⟩) 2 2) 4 ⟨#[113]⟩ 6 0 ⟨#[]⟩) 34)).alloc (.cells #[.string ⟨#[97]⟩, .string ⟨#[98]⟩] 9) := ⟨_, rfl⟩
  obtain ⟨m1, m2⟩ := new2 w (.cells (oc6 (.slice (some ⟨w.heap.size + 1, 0, none⟩) 2 2) 4 ⟨#[113]⟩ 6 0 ⟨#[]⟩) 34) (.cells #[.string ⟨#[97]⟩, .string ⟨#[98]⟩] 9)
  have d : Below w.heap.size w w1 := by rw [hw1]; exact ((Below.refl _ w).alloc (Nat.le_refl _) _).alloc (by simp) _
  rw [← hw1] at m1 m2
  have hrp : Ki.Rp w1 (some ⟨w.heap.size + 1, 0, none⟩) 2 popO.p := by
    refine ⟨⟨by simp, ?_⟩, by decide, by simp, by decide⟩
    intro a ha j s hj
    cases ha
    match j, hj with
    | 0, hj => cases hj; exact (cell_of_row _ _ 0 _ 9 (0, 0) m2).trans rfl
    | 1, hj => cases hj; exact (cell_of_row _ _ 1 _ 9 (0, 0) m2).trans rfl
  go_enter Tryz.func42, Tryz.ntmps42
  go_wp2
  rw [← hw1]
  exact ret_row w.heap.size (oc6 (.slice (some ⟨w.heap.size + 1, 0, none⟩) 2 2) 4 ⟨#[113]⟩ 6 0 ⟨#[]⟩).toList rfl rfl Tryz.underlying34 rfl Tryz.info34z m1 rfl ⟨_, rfl, hrp, d⟩
theorem num14_any (n : Int) (w : World) : Calls Tryz.prog 14 #[.int .i64 n] w fun e w' => e = .returned (.int .i64 n) ∧ w' = w := by
  go_enter Tryz.func14, Tryz.ntmps14
  go_wp2
  go_ret
  exact ⟨rfl, rfl⟩
end Go.Proofs.YtpepgoelnagoaaaGreatDoor
