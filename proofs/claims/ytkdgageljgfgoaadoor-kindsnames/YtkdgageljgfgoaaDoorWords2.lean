/-
  kinds: words looked up.
-/
import Derived.Test.YtkdgageljgfgoaaDoorWords
namespace Go.Proofs.YtkdgageljgfgoaaDoor
open Go.RowKit Go.Shelf
set_option linter.unusedSimpArgs false
attribute [local go_sem] Oper.semAt_some

theorem new3b (w : World) (o1 o2 o3 : Obj) : (((w.alloc o1).alloc o2).alloc o3).heap[w.heap.size]? = some o1 ∧ (((w.alloc o1).alloc o2).alloc o3).heap[w.heap.size + 1]? = some o2 ∧ (((w.alloc o1).alloc o2).alloc o3).heap[w.heap.size + 2]? = some o3 ∧ Below w.heap.size w (((w.alloc o1).alloc o2).alloc o3) := new3 w o1 o2 o3

/-- A number and a truth of its own are handed back, behind a range over a function. -/
theorem leaveK {fn : Func} {tmps : Array Value} {p q : Tmp} (b c : Nat) {x : Int} {y : Bool} {R : Ending → World → Prop} {W : World} (h : fn.results = #[.cell p 25, .cell q 4]) (hp : tmps.getD p undef = .pointer (some ⟨b, 0, none⟩)) (hq : tmps.getD q undef = .pointer (some ⟨c, 0, none⟩))
    (hc : W.cell? ⟨b, 0, none⟩ = some (.int .i64 x)) (hd : W.cell? ⟨c, 0, none⟩ = some (.bool y)) (hR : R (.returned (.tuple #[.int .i64 x, .bool y])) W) : LeavesInM Fence.wide 6 Tryd.prog fn tmps R [] .returning W := by
  refine leave_none (v := .tuple #[.int .i64 x, .bool y]) ?_ hR
  have h1 : (loadVar 25 ⟨b, 0, none⟩).run Tryd.prog W = .ok (.int .i64 x) W := by go_simp
  have h2 : (loadVar 4 ⟨c, 0, none⟩).run Tryd.prog W = .ok (.bool y) W := by go_simp
  have hp' : tmps[p]?.getD undef = .pointer (some ⟨b, 0, none⟩) := by simpa using hp
  have hq' : tmps[q]?.getD undef = .pointer (some ⟨c, 0, none⟩) := by simpa using hq
  simp [results, h, hp', hq', asAddr, Sem.run_bind, Result.andThen, h1, h2]

set_option maxHeartbeats 2000000 in
set_option maxRecDepth 100000 in
theorem ofWordK {w : World} {L G : Nat} {T : TypeId} {ws : List ByteArray} (t : ByteArray) (h : WAt w L G T ws) (hl : ws.length ≤ 1000) : Calls Tryd.prog 31 #[.func (.func 22) #[] #[.pointer (some ⟨L, 0, none⟩)], .string t] w fun e w' => e = .returned (.tuple #[.int .i64 (ofWB ws t).1, .bool (ofWB ws t).2]) ∧ Below w.heap.size w w' := by
  obtain ⟨wA, hwA⟩ : ∃ wA, wA = ((w.alloc (.cells #[.string t] 9)).alloc (.cells #[.int .i64 0] 25)).alloc (.cells #[.bool false] 4) := ⟨_, rfl⟩
  obtain ⟨m0, m1, m2, hb⟩ := new3b w (.cells #[.string t] 9) (.cells #[.int .i64 0] 25) (.cells #[.bool false] 4)
  rw [← hwA] at m0 m1 m2 hb
  have hsA : wA.heap.size = w.heap.size + 3 := by rw [hwA]; simp
  have hA := h.below hb
  have hit := iterK hA hl
  have hKw : ∀ j, KW L G j → j < w.heap.size := h.lt
  have HW := hide hwA
  obtain ⟨R, hR⟩ : ∃ R, R = ofWB ws t := ⟨_, rfl⟩
  rw [← hR]
  have HR := hide hR
  clear hwA h hR
  have hret : ∀ (x : Int) (y : Bool) (W : World) (fn : Func) (tmps : Array Value), fn.results = #[.cell 4 25, .cell 5 4] → tmps.getD 4 undef = .pointer (some ⟨w.heap.size + 1, 0, none⟩) → tmps.getD 5 undef = .pointer (some ⟨w.heap.size + 1 + 1, 0, none⟩) → W.heap[wA.heap.size]? = some (.deferred (some [])) → W.heap[w.heap.size + 1]? = some (.cells #[.int .i64 x] 25 (0, 0)) → W.heap[w.heap.size + 2]? = some (.cells #[.bool y] 4 (0, 0)) → Below w.heap.size w W → R = (x, y) →
      LeavesInM Fence.wide 6 Tryd.prog fn tmps (fun e w' => e = .returned (.tuple #[.int .i64 R.1, .bool R.2]) ∧ Below w.heap.size w w') ({ target := .collected wA.heap.size, args := #[] } :: []) .returning W := fun x y W fn tmps hres hp hq hKk hTt hTu hbl hx => by
    have ho := only_putObj W wA.heap.size (.deferred none)
    exact leave_mark hKk (leaveK (w.heap.size + 1) (w.heap.size + 2) (x := x) (y := y) hres hp hq (ho.cell (by rw [cell_of_row _ _ 0 _ 25 (0, 0) hTt]; rfl) (by simp only; omega)) (ho.cell (by rw [cell_of_row _ _ 0 _ 4 (0, 0) hTu]; rfl) (by simp only; omega)) ⟨by rw [hx], Below.only hbl ho hbl.size (by intro j e; omega)⟩)
  refine calls_marks Tryd.func31 rfl ?_
  simp only [Tryd.ntmps31, List.size_toArray, List.length_cons, List.length_nil, Nat.reduceAdd, Nat.reduceSub, Array.replicate_succ, Array.replicate_zero, List.push_toArray, List.append_toArray, List.nil_append, List.cons_append]
  go_wp2
  rw [← HW.out]
  refine range_it 22 entersK_92 _ (countL ws) encW _ hit rfl (fun _ _ => rfl) (fun j hj => Nat.lt_of_lt_of_le (hKw j hj) hb.size) (fun j => j = w.heap.size + 1 ∨ j = w.heap.size + 2) (fun j e hj => by have := hKw j hj; omega) (by intro j e; omega)
    (fun k W => Below w.heap.size w W ∧ W.heap[w.heap.size]? = some (.cells #[.string t] 9 (0, 0)) ∧ W.heap[w.heap.size + 1]? = some (.cells #[.int .i64 0] 25 (0, 0)) ∧ W.heap[w.heap.size + 2]? = some (.cells #[.bool false] 4 (0, 0)) ∧ ∀ j y, j < k → (countL ws)[j]? = some y → decide (y.2 = t) = false)
    (fun cd W => cd = .ret ∧ Below w.heap.size w W ∧ W.heap[w.heap.size + 1]? = some (.cells #[.int .i64 R.1] 25 (0, 0)) ∧ W.heap[w.heap.size + 2]? = some (.cells #[.bool R.2] 4 (0, 0)))
    (fun k W W' hi ho => ⟨Below.only hi.1 ho hi.1.size (fun j e => by omega), (ho.block _ (Array.getElem?_eq_some_iff.1 hi.2.1).1 (by omega)).trans hi.2.1, (ho.block _ (Array.getElem?_eq_some_iff.1 hi.2.2.1).1 (by omega)).trans hi.2.2.1, (ho.block _ (Array.getElem?_eq_some_iff.1 hi.2.2.2.1).1 (by omega)).trans hi.2.2.2.1, hi.2.2.2.2⟩)
    (fun cd W W' hi ho => ⟨hi.1, Below.only hi.2.1 ho hi.2.1.size (fun j e => by omega), (ho.block _ (Array.getElem?_eq_some_iff.1 hi.2.2.1).1 (by omega)).trans hi.2.2.1, (ho.block _ (Array.getElem?_eq_some_iff.1 hi.2.2.2).1 (by omega)).trans hi.2.2.2⟩) ⟨hb, m0, m1, m2, fun j y hj => by omega⟩ ?hround ?hdone ?hstop
  case hdone =>
    rintro W ⟨hbW, hcn, hcW, hcU, hno⟩ hlt hk
    have r1 : W.cell? ⟨w.heap.size + 1, 0, none⟩ = some (.int .i64 0) := (cell_of_row _ _ 0 _ 25 (0, 0) hcW).trans rfl
    have z1 : W.frozen? ⟨w.heap.size + 1, 0, none⟩ = false := frozen_of_row _ _ 0 _ 25 hcW
    obtain ⟨s1, s2⟩ := set_one (i := 0) (.int .i64 0) hcW
    obtain ⟨W1, hW1⟩ : ∃ W1, W1 = W.setCell ⟨w.heap.size + 1, 0, none⟩ (.int .i64 0) := ⟨_, rfl⟩
    rw [← hW1] at s1 s2
    have hcU1 := (s2.block _ (Array.getElem?_eq_some_iff.1 hcU).1 (by omega)).trans hcU
    have hk1 := (s2.block _ (Array.getElem?_eq_some_iff.1 hk).1 (by omega)).trans hk
    have r2 : W1.cell? ⟨w.heap.size + 1 + 1, 0, none⟩ = some (.bool false) := (cell_of_row _ _ 0 _ 4 (0, 0) hcU1).trans rfl
    have z2 : W1.frozen? ⟨w.heap.size + 1 + 1, 0, none⟩ = false := frozen_of_row _ _ 0 _ 4 hcU1
    rw [hW1] at r2 z2
    obtain ⟨u1, u2⟩ := set_one (i := 0) (.bool false) hcU1
    have hRn : R = (0, false) := by rw [HR.out]; unfold ofWB; rw [find_none hno]; rfl
    have HX := hide (And.intro hW1 (And.intro (And.intro u1 u2) (And.intro (And.intro s1 s2) (And.intro hbW (And.intro hk1 hRn)))))
    clear hit hKw hk hbW hcn hcW hno hA m0 m1 m2 hRn s1 s2 u1 u2 hcU hcU1 hk1 hW1
    go_wp2
    obtain ⟨hW1, ⟨u1, u2⟩, ⟨s1, s2⟩, hbW, hk1, hy⟩ := HX.out
    rw [← hW1]
    have hb1 := Below.only hbW s2 hbW.size (fun j e => by omega)
    refine hret 0 false _ Tryd.f31 _ rfl rfl rfl ((u2.block _ (Array.getElem?_eq_some_iff.1 hk1).1 (by omega)).trans hk1) ((u2.block _ (Array.getElem?_eq_some_iff.1 s1).1 (by omega)).trans s1) u1 (Below.only hb1 u2 hb1.size (fun j e => by omega)) hy
  case hstop =>
    rintro cd W ⟨rfl, hbl, hTt, hTu⟩ hls hKk
    have HX := hide (And.intro hKk (And.intro hTt (And.intro hTu hbl)))
    clear hKk hTt hTu hbl hit hKw
    go_wp2
    exact hret R.1 R.2 _ Tryd.f31 _ rfl rfl rfl HX.out.1 HX.out.2.1 HX.out.2.2.1 HX.out.2.2.2 rfl
  case hround =>
    rintro k ⟨xn, xs⟩ W hx ⟨hbW, hcn, hcW, hcU, hno⟩ hSame hsz
    clear hSame hit hKw
    dsimp only [encW]
    gi_wp2
    refine ⟨Only.refl _ _, fun W2 ho2 => ?_⟩
    have cn := (ho2.block _ (Array.getElem?_eq_some_iff.1 hcn).1 (by omega)).trans hcn
    have c2 := (ho2.block _ (Array.getElem?_eq_some_iff.1 hcW).1 (by omega)).trans hcW
    have c3 := (ho2.block _ (Array.getElem?_eq_some_iff.1 hcU).1 (by omega)).trans hcU
    have rn : W2.cell? ⟨w.heap.size, 0, none⟩ = some (.string t) := (cell_of_row _ _ 0 _ 9 (0, 0) cn).trans rfl
    have r1 : W2.cell? ⟨w.heap.size + 1, 0, none⟩ = some (.int .i64 0) := (cell_of_row _ _ 0 _ 25 (0, 0) c2).trans rfl
    have r2 := frozen_of_row _ _ 0 _ 25 c2
    obtain ⟨s1, s2⟩ := set_one (i := 0) (.int .i64 (xn : Int)) c2
    obtain ⟨W3, hW3⟩ : ∃ W3, W3 = W2.setCell ⟨w.heap.size + 1, 0, none⟩ (.int .i64 (xn : Int)) := ⟨_, rfl⟩
    rw [← hW3] at s1 s2
    have d3 := (s2.block _ (Array.getElem?_eq_some_iff.1 c3).1 (by omega)).trans c3
    have r3 : W3.cell? ⟨w.heap.size + 1 + 1, 0, none⟩ = some (.bool false) := (cell_of_row _ _ 0 _ 4 (0, 0) d3).trans rfl
    have r4 : W3.frozen? ⟨w.heap.size + 1 + 1, 0, none⟩ = false := frozen_of_row _ _ 0 _ 4 d3
    rw [hW3] at r3 r4
    obtain ⟨u1, u2⟩ := set_one (i := 0) (.bool true) d3
    have HB := hide (Below.only hbW ho2 hbW.size (fun j e => by omega))
    have HS := hide (And.intro hW3 (And.intro (And.intro s1 s2) (And.intro u1 u2)))
    have HC := hide (And.intro cn (And.intro c2 c3))
    by_cases hxn : xs = t
    · have HE := hide hxn
      have hRx : R = ((xn : Int), true) := by rw [HR.out]; unfold ofWB; rw [find_first hno hx (by simpa using hxn)]; rfl
      have HX := hide hRx
      clear hcW hbW hcn c2 cn c3 d3 s1 s2 u1 u2 hRx hno hx hW3 hcU
      subst hxn
      gi_wp2
      obtain ⟨hW3, ⟨s1, s2⟩, u1, u2⟩ := HS.out
      rw [← hW3]
      have hb3 := Below.only HB.out s2 HB.out.size (fun j e => by omega)
      refine ⟨(s2.mono (fun j _ e => .inl e)).next (u2.mono (fun j _ e => .inr e)), rfl, Below.only hb3 u2 hb3.size (fun j e => by omega), ?_, ?_⟩
      · rw [HX.out]; exact (u2.block _ (Array.getElem?_eq_some_iff.1 s1).1 (by omega)).trans s1
      · rw [HX.out]; exact u1
    · have e1 : (xs.toList == t.toList) = false := by
        rw [Bool.eq_false_iff, Ne, bytes_same]; exact hxn
      have hnx : ∀ j y, j < k + 1 → (countL ws)[j]? = some y → decide (y.2 = t) = false := fun j y hj hy => by
        by_cases hjk : j = k
        · subst hjk
          rw [hx] at hy
          cases hy
          simpa using hxn
        · exact hno j y (by omega) hy
      have HX := hide hnx
      clear hcW hbW hcn c2 cn c3 d3 s1 s2 u1 u2 hnx hno hx hxn hW3 hcU
      gi_wp2
      exact ⟨Only.refl _ _, HB.out, HC.out.1, HC.out.2.1, HC.out.2.2, HX.out⟩
theorem OfWordK (t : ByteArray) (w : World) : Calls Tryd.prog 16 #[.string t] w fun e w' => e = .returned (.tuple #[.int .i64 (ofWB kindWs t).1, .bool (ofWB kindWs t).2]) ∧ Below w.heap.size w w' := by
  have k40 := allK w
  go_enter Tryd.func16, Tryd.ntmps16
  go_wp2_with (first
    | (go_at_call 4; refine k40.mono ?_; rintro e w1 ⟨L, G, rfl, hw, -, -, b1⟩; have k39 := ofWordK t hw (by decide); have H1 := hide b1; clear b1 hw)
    | (go_at_call 31; refine k39.mono ?_; rintro e w2 ⟨rfl, b2⟩; have H2 := hide b2; clear b2))
  go_ret2
  exact ⟨rfl, H1.out.trans (H2.out.mono H1.out.size)⟩

end Go.Proofs.YtkdgageljgfgoaaDoor
