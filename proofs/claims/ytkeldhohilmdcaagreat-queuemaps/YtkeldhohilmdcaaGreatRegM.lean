/-
  register: what the reference says of a map (ref12.Map 41), Three where it refuses (45), going over nothing (48).
  register: going over a map that may not be tells nothing (goes 48).
  What Put does to a list: order, members, length; what Get finds.
-/
import Derived.Test.YtkeldhohilmdcaaGreatReg9
import Derived.Test.YtkeldhohilmdcaaGreatRefOK
namespace Go.Proofs.YtkeldhohilmdcaaGreat
open Go.RowKit Go.Shelf
set_option linter.unusedSimpArgs false
attribute [local go_sem] Oper.semAt_some

theorem refOfP (s : ByteArray) (w : World) (hs : s.size ≤ 9223372036854775807) (E : Int) (hE : (if okV s then (0 : Int) else 4) = E) : Calls Tryz.prog 93 #[.string s] w fun e w' => ∃ (g r : Int) (l : ByteArray) (n x : Int), e = .returned (.tuple #[.agg #[.int .i64 g, .int .i64 r, .string l, .int .i64 n, .int .i64 x], .int .i64 E]) ∧ Below w.heap.size w w' := (refOfKey_any s w hs).mono fun e w' hh => by
  obtain ⟨he, hb⟩ := hh
  rw [hE] at he
  exact ⟨_, _, _, _, _, he, hb⟩
set_option maxHeartbeats 4000000 in
set_option maxRecDepth 100000 in
theorem refMap_any {w : World} {ao bo : Option Addr} {c d : Nat} (l : List Kv) (h : Rs w ao (l.map Prod.fst)) (k : Rs w bo (l.map Prod.snd)) (hl : l.length ≤ 1000000) (hs : ∀ x ∈ l, x.1.size ≤ 9223372036854775807) : Calls Tryz.prog 45 #[.slice ao l.length c, .slice bo l.length d] w fun e w' => e = .returned (.bool (mayL l)) ∧ Below w.heap.size w w' := by
  obtain ⟨N, hN⟩ : ∃ N, N = l.length := ⟨_, rfl⟩
  obtain ⟨R, hR⟩ : ∃ R, R = mayL l := ⟨_, rfl⟩
  rw [← hR]
  rw [← hN] at hl ⊢
  have H := hide (And.intro hN (And.intro h k))
  have HR := hide hR
  have HS := hide hs
  clear hN hR h k hs
  go_enter Tryz.func45, Tryz.ntmps45
  go_wp2
  go_loopw [5] (fun iv wr => ∃ i : Nat, i ≤ N ∧ iv = .int .i64 i ∧ Hid ((l.take i).all okKv = true) ∧ Hid (Below w.heap.size w wr)) (fun iv _ => N - (intOf iv).toNat)
  case atStart => exact ⟨0, by omega, rfl, hide (by simp), hide (Below.refl _ _)⟩
  case round =>
    obtain ⟨i, hi, rfl, hrest, HB⟩ := hrel
    by_cases h1 : i < N
    · have z1 : (i : Int) < (N : Int) := by omega
      have d1 : decide (i < N) = true := by simpa using h1
      obtain ⟨x, hx⟩ : ∃ x, l[i]? = some x := ⟨_, List.getElem?_eq_getElem (by rw [← H.out.1]; exact h1)⟩
      obtain ⟨ab, off, rfl, q0⟩ := (H.out.2.1.below HB.out).at (s := x.1) (k := i) (by rw [List.getElem?_map, hx]; rfl)
      obtain ⟨bb, ob, rfl, p0⟩ := (H.out.2.2.below HB.out).at (s := x.2) (k := i) (by rw [List.getElem?_map, hx]; rfl)
      have hsz := HS.out x (List.mem_of_getElem? hx)
      have HX := hide hx
      clear hx
      obtain ⟨key, val⟩ := x
      dsimp only at q0 p0 hsz
      by_cases ho : okV key = true
      · have hof := refOfP key wr hsz 0 (by rw [if_pos ho])
        have HO := hide ho
        clear ho
        by_cases ht : txtB val = true
        · have htx : ∀ W, Calls Tryz.prog 83 #[.string val] W fun e w' => e = .returned (.bool true) ∧ w' = W := fun W => (refText_any val W).mono fun e w' hh => by rw [ht] at hh; exact hh
          have HT := hide ht
          clear ht
          go_wp2_with (first
            | (go_at_call 93; refine hof.mono ?_; rintro e w1 ⟨g, r, l', n, x', rfl, b1⟩; have b2 := b1.trans (((Below.refl _ w1).alloc (Nat.le_refl _) (.cells #[.int .i64 g, .int .i64 r, .string l', .int .i64 n, .int .i64 x'] 43)).mono b1.size); have p1 := cell_stays p0 b2; have HB2 := hide (HB.out.trans (b2.mono HB.out.size)); clear b1 b2; dsimp only)
            | (go_at_call 83; refine (htx _).mono ?_; rintro e w3 ⟨rfl, rfl⟩; dsimp only))
          go_roundw
          case rel => exact ⟨i + 1, by omega, by go_num, hide (by rw [List.take_add_one, HX.out]; simp [hrest.out, okKv, HO.out, HT.out]), HB2⟩
          case measure => simp [intOf]; omega
        · have htx : ∀ W, Calls Tryz.prog 83 #[.string val] W fun e w' => e = .returned (.bool false) ∧ w' = W := fun W => (refText_any val W).mono fun e w' hh => by rw [Bool.eq_false_iff.2 ht] at hh; exact hh
          have hd : R = false := by
            rw [HR.out]
            unfold mayL
            rw [List.all_eq_false]
            exact ⟨_, List.mem_of_getElem? HX.out, by simp [okKv, ht]⟩
          have HD := hide hd
          clear ht hd
          go_wp2_with (first
            | (go_at_call 93; refine hof.mono ?_; rintro e w1 ⟨g, r, l', n, x', rfl, b1⟩; have b2 := b1.trans (((Below.refl _ w1).alloc (Nat.le_refl _) (.cells #[.int .i64 g, .int .i64 r, .string l', .int .i64 n, .int .i64 x'] 43)).mono b1.size); have p1 := cell_stays p0 b2; have HB2 := hide (HB.out.trans (b2.mono HB.out.size)); clear b1 b2; dsimp only)
            | (go_at_call 83; refine (htx _).mono ?_; rintro e w3 ⟨rfl, rfl⟩; dsimp only))
          go_ret
          exact ⟨by first | (rw [HD.out]; rfl) | rw [HD.out], HB2.out⟩
      · have hof := refOfP key wr hsz 4 (by rw [if_neg ho])
        have hd : R = false := by
          rw [HR.out]
          unfold mayL
          rw [List.all_eq_false]
          exact ⟨_, List.mem_of_getElem? HX.out, by simp [okKv, ho]⟩
        have HD := hide hd
        clear ho hd
        go_wp2_with (go_at_call 93; refine hof.mono ?_; rintro e w1 ⟨g, r, l', n, x', rfl, b1⟩; have b2 := b1.trans (((Below.refl _ w1).alloc (Nat.le_refl _) (.cells #[.int .i64 g, .int .i64 r, .string l', .int .i64 n, .int .i64 x'] 43)).mono b1.size); have HB2 := hide (HB.out.trans (b2.mono HB.out.size)); clear b1 b2; dsimp only)
        go_ret
        exact ⟨by first | (rw [HD.out]; rfl) | rw [HD.out], HB2.out⟩
    · obtain rfl : i = N := by omega
      have d1 : decide (i < i) = false := by simp
      have hd : R = true := by
        rw [HR.out]
        have := hrest.out
        rw [H.out.1, List.take_length] at this
        exact this
      have HD := hide hd
      clear hd
      go_wp2
      go_ret
      exact ⟨by first | (rw [HD.out]; rfl) | rw [HD.out], HB.out⟩
/-- Three, where one of the maps may not be. -/
theorem mayP {w : World} {t : Pm.T} {p : Option Addr} (h : Mg w t) (hp : t.ptr = .pointer p) : ∀ W, Below w.heap.size w W → Calls Tryz.prog 46 #[.agg #[.pointer p]] W fun e w' => e = .returned (.bool (mayL t.list)) ∧ Below W.heap.size W w' := fun W hW => by
  have := (h.below hW).may
  unfold Pm.mv at this
  rw [hp] at this
  exact this
set_option maxHeartbeats 4000000 in
set_option maxRecDepth 100000 in
theorem three_bad {w : World} {x y z : Pm.T} {px py pz : Option Addr} (hx : Mg w x) (hpx : x.ptr = .pointer px) (hy : Mg w y) (hpy : y.ptr = .pointer py) (hz : Mg w z) (hpz : z.ptr = .pointer pz) (hbad : (mayL x.list && mayL y.list && mayL z.list) = false) : Calls Tryz.prog 49 #[.agg #[.pointer px], .agg #[.pointer py], .agg #[.pointer pz]] w fun e w' => e = .returned (.tuple #[.agg #[.pointer none], .int .i64 2]) ∧ Below w.heap.size w w' := by
  have hm1 := mayP hx hpx
  have hm2 := mayP hy hpy
  have hm3 := mayP hz hpz
  clear hx hy hz hpx hpy hpz
  generalize mayL x.list = A at *
  generalize mayL y.list = B at *
  generalize mayL z.list = C at *
  obtain ⟨w0, hw0⟩ : ∃ w0, w0 = (((w.alloc (.cells #[.pointer px] 27)).alloc (.cells #[.pointer py] 27)).alloc (.cells #[.pointer pz] 27)).alloc (.cells #[.pointer none] 27) := ⟨_, rfl⟩
  have hn := Pm.new4 w (.cells #[.pointer px] 27) (.cells #[.pointer py] 27) (.cells #[.pointer pz] 27) (.cells #[.pointer none] 27)
  rw [← hw0] at hn
  obtain ⟨m0, m1, m2, m3, b0⟩ := hn
  have HC : Hid (∀ W, Below w0.heap.size w0 W → W.cell? ⟨w.heap.size, 0, none⟩ = some (.pointer px) ∧ W.cell? ⟨w.heap.size + 1, 0, none⟩ = some (.pointer py) ∧ W.cell? ⟨w.heap.size + 1 + 1, 0, none⟩ = some (.pointer pz) ∧ Below w.heap.size w W) := hide (fun W hW => ⟨cell_stays ((cell_of_row _ _ 0 _ 27 (0, 0) m0).trans rfl) hW, cell_stays ((cell_of_row _ _ 0 _ 27 (0, 0) m1).trans rfl) hW, cell_stays ((cell_of_row _ _ 0 _ 27 (0, 0) m2).trans rfl) hW, b0.trans (hW.mono b0.size)⟩)
  have HBAD : Hid (∀ W, Below w0.heap.size w0 W → W.cell? ⟨w.heap.size + 1 + 1 + 1, 0, none⟩ = some (.pointer none) ∧ W.frozen? ⟨w.heap.size + 1 + 1 + 1, 0, none⟩ = false ∧ Hid ((W.setCell ⟨w.heap.size + 1 + 1 + 1, 0, none⟩ (.pointer none)).heap[w.heap.size + 1 + 1 + 1]? = some (.cells #[.pointer none] 27 (0, 0)) ∧ Below w.heap.size w (W.setCell ⟨w.heap.size + 1 + 1 + 1, 0, none⟩ (.pointer none)))) := hide (fun W hW => by
    have q2 := (hW.block _ (Array.getElem?_eq_some_iff.1 m3).1).trans m3
    have q3 := b0.trans (hW.mono b0.size)
    obtain ⟨u, o⟩ := set_one (i := 0) (.pointer none) q2
    exact ⟨(cell_of_row _ _ 0 _ 27 (0, 0) q2).trans rfl, frozen_of_row _ _ 0 _ 27 q2, hide ⟨by simpa using u, Below.only q3 o q3.size (fun j e => by have e' : j = w.heap.size + 1 + 1 + 1 := e; omega)⟩⟩)
  have HW0 := hide hw0
  have HB0 := hide b0
  obtain ⟨c0, c1, c2, -⟩ := HC.out w0 (Below.refl _ _)
  clear m0 m1 m2 m3 b0 hw0
  cases A with
  | false =>
    clear hbad
    go_enter Tryz.func49, Tryz.ntmps49
    go_upto_region 1 with fail
    rw [← HW0.out]
    go_wp2_with (first
      | (go_at_call 46; refine (hm1 w0 HB0.out).mono ?_; rintro e w1 ⟨rfl, b1⟩; have bb1 := b1; obtain ⟨x11, x12, x13, x14⟩ := HC.out w1 bb1; obtain ⟨y11, y12, HY⟩ := HBAD.out w1 bb1; have H1 := hide (And.intro bb1 x14); clear b1 bb1 x14; dsimp only))
    refine ret_row_tmp (w.heap.size + 1 + 1 + 1) [.pointer none] rfl rfl rfl Tryz.underlying27 rfl T27 HY.out.1 rfl ?_
    exact ⟨rfl, HY.out.2⟩
  | true =>
    cases B with
    | false =>
      clear hbad
      go_enter Tryz.func49, Tryz.ntmps49
      go_upto_region 1 with fail
      rw [← HW0.out]
      go_wp2_with (first
        | (go_at_call 46; refine (hm2 w1 H1.out.2).mono ?_; rintro e w2 ⟨rfl, b2⟩; have bb2 := (H1.out.1.trans (b2.mono H1.out.1.size)); obtain ⟨x21, x22, x23, x24⟩ := HC.out w2 bb2; obtain ⟨y21, y22, HY⟩ := HBAD.out w2 bb2; have H2 := hide (And.intro bb2 x24); clear b2 bb2 x24; dsimp only)
        | (go_at_call 46; refine (hm1 w0 HB0.out).mono ?_; rintro e w1 ⟨rfl, b1⟩; have bb1 := b1; obtain ⟨x11, x12, x13, x14⟩ := HC.out w1 bb1; obtain ⟨y11, y12, HY⟩ := HBAD.out w1 bb1; have H1 := hide (And.intro bb1 x14); clear b1 bb1 x14; dsimp only))
      refine ret_row_tmp (w.heap.size + 1 + 1 + 1) [.pointer none] rfl rfl rfl Tryz.underlying27 rfl T27 HY.out.1 rfl ?_
      exact ⟨rfl, HY.out.2⟩
    | true =>
      cases C with
      | false =>
        clear hbad
        go_enter Tryz.func49, Tryz.ntmps49
        go_upto_region 1 with fail
        rw [← HW0.out]
        go_wp2_with (first
          | (go_at_call 46; refine (hm3 w2 H2.out.2).mono ?_; rintro e w3 ⟨rfl, b3⟩; have bb3 := (H2.out.1.trans (b3.mono H2.out.1.size)); obtain ⟨x31, x32, x33, x34⟩ := HC.out w3 bb3; obtain ⟨y31, y32, HY⟩ := HBAD.out w3 bb3; have H3 := hide (And.intro bb3 x34); clear b3 bb3 x34; dsimp only)
          | (go_at_call 46; refine (hm2 w1 H1.out.2).mono ?_; rintro e w2 ⟨rfl, b2⟩; have bb2 := (H1.out.1.trans (b2.mono H1.out.1.size)); obtain ⟨x21, x22, x23, x24⟩ := HC.out w2 bb2; obtain ⟨y21, y22, HY⟩ := HBAD.out w2 bb2; have H2 := hide (And.intro bb2 x24); clear b2 bb2 x24; dsimp only)
          | (go_at_call 46; refine (hm1 w0 HB0.out).mono ?_; rintro e w1 ⟨rfl, b1⟩; have bb1 := b1; obtain ⟨x11, x12, x13, x14⟩ := HC.out w1 bb1; obtain ⟨y11, y12, HY⟩ := HBAD.out w1 bb1; have H1 := hide (And.intro bb1 x14); clear b1 bb1 x14; dsimp only))
        refine ret_row_tmp (w.heap.size + 1 + 1 + 1) [.pointer none] rfl rfl rfl Tryz.underlying27 rfl T27 HY.out.1 rfl ?_
        exact ⟨rfl, HY.out.2⟩
      | true => cases hbad
end Go.Proofs.YtkeldhohilmdcaaGreat
namespace Go.Proofs.YtkeldhohilmdcaaGreat
open Go.RowKit Go.Shelf
set_option linter.unusedSimpArgs false
attribute [local go_sem] Oper.semAt_some

theorem fn_nil86 (f : Fn) (x y : Array Value) (w : World) : (binOp .eql 86 (.func f x y) .nilFunc).run Tryz.prog w = .ok (.bool false) w := by kernel_rfl
set_option maxHeartbeats 4000000 in
set_option maxRecDepth 100000 in
theorem goes_nil {w : World} {t : Pm.T} {L : Nat} (h : Mg w t) (hm : mayL t.list = false) (hL : w.cell? ⟨L, 0, none⟩ = some t.ptr) (hLlt : L < w.heap.size) : Calls Tryz.prog 52 #[.func (.func 118) #[] #[.pointer (some ⟨L, 0, none⟩)], .slice none 0 0, .int .i64 0] w fun e w' => e = .returned (.bool true) ∧ Below w.heap.size w w' := by
  have hnf := fn_nil86
  obtain ⟨w0, hw0⟩ : ∃ w0, w0 = (((w.alloc (.cells #[.slice none 0 0] 22)).alloc (.cells #[.int .i64 0] 3)).alloc (.cells #[.bool false] 4)).alloc (.cells #[.int .i64 0] 3) := ⟨_, rfl⟩
  have hn := Pm.new4 w (.cells #[.slice none 0 0] 22) (.cells #[.int .i64 0] 3) (.cells #[.bool false] 4) (.cells #[.int .i64 0] 3)
  rw [← hw0] at hn
  obtain ⟨m0, m1, m2, m3, b0⟩ := hn
  have s0 : w0.heap.size = w.heap.size + 4 := by rw [hw0]; simp
  have hit := iterAll t L w0 (Pm.In.below b0 h.inn) h.srt h.key (cell_stays hL b0)
  have he : elsL t.list = [] := by rw [elsL, hm]; rfl
  rw [he] at hit
  have hKlt : ∀ j, KA t L j → j < w0.heap.size := fun j hj => by
    rcases hj with rfl | hj
    · omega
    · have := h.inn.blk_lt hj; omega
  have HW0 := hide hw0
  have HM := hide (And.intro m0 (And.intro m1 (And.intro m2 (And.intro m3 (And.intro b0 s0)))))
  clear hw0 m0 m1 m2 m3 b0 s0 h hm hL he
  refine calls_marks Tryz.func52 rfl ?_
  simp only [Tryz.ntmps52, List.size_toArray, List.length_cons, List.length_nil, Nat.reduceAdd, Nat.reduceSub, Array.replicate_succ, Array.replicate_zero, List.push_toArray, List.append_toArray, List.nil_append, List.cons_append]
  go_upto_region 4 with fail
  rw [← HW0.out]
  go_wp2
  refine range_ib (Q := _) 118 enters118 _ ([] : List El) encS _ hit rfl (fun _ _ => rfl) hKlt (fun _ => False) (fun _ e _ => e) (fun _ e => e.elim)
    (fun B k W => Only (fun j => w0.heap.size ≤ j) w0 W) (fun _ _ _ => False)
    (fun B k W W' hB hi ho => hi.trans ho (fun j _ e => by have e' : w0.heap.size + 1 ≤ j ∧ j < B := e; show w0.heap.size ≤ j; omega)) (fun B c W W' hB hi ho => hi) (fun B W hb hB => below_only hb) (fun B c x W hB hx => by cases hx) ?hdone (fun B c W hB hi => hi.elim)
  rintro B W hB hi hlt hk0
  obtain ⟨m0, m1, m2, m3, b0, s0⟩ := HM.out
  have r0 := (hi.block _ (by omega) (fun e => by have e' : w0.heap.size ≤ w.heap.size := e; omega)).trans m0
  have r2 := (hi.block _ (by omega) (fun e => by have e' : w0.heap.size ≤ w.heap.size + 1 + 1 := e; omega)).trans m2
  have r3 := (hi.block _ (by omega) (fun e => by have e' : w0.heap.size ≤ w.heap.size + 1 + 1 + 1 := e; omega)).trans m3
  have q0 : W.cell? ⟨w.heap.size, 0, none⟩ = some (.slice none 0 0) := (cell_of_row _ _ 0 _ 22 (0, 0) r0).trans rfl
  have q3 : W.cell? ⟨w.heap.size + 1 + 1 + 1, 0, none⟩ = some (.int .i64 0) := (cell_of_row _ _ 0 _ 3 (0, 0) r3).trans rfl
  have q2 : W.cell? ⟨w.heap.size + 1 + 1, 0, none⟩ = some (.bool false) := (cell_of_row _ _ 0 _ 4 (0, 0) r2).trans rfl
  have f2 : W.frozen? ⟨w.heap.size + 1 + 1, 0, none⟩ = false := frozen_of_row _ _ 0 _ 4 r2
  obtain ⟨u, o⟩ := set_one (i := 0) (.bool true) r2
  have bW : Below w.heap.size w W := Below.only b0 hi b0.size (fun j e => by have e' : w0.heap.size ≤ j := e; omega)
  have bT := Below.only bW o bW.size (fun j e => by have e' : j = w.heap.size + 1 + 1 := e; omega)
  have kT := (o.block _ hlt (fun e => by have e' : w0.heap.size = w.heap.size + 1 + 1 := e; omega)).trans hk0
  have o1 := only_putObj (W.setCell ⟨w.heap.size + 1 + 1, 0, none⟩ (.bool true)) w0.heap.size (.deferred none)
  have cT : (W.setCell ⟨w.heap.size + 1 + 1, 0, none⟩ (.bool true)).cell? ⟨w.heap.size + 1 + 1, 0, none⟩ = some (.bool true) := (cell_of_row _ _ 0 _ 4 (0, 0) u).trans (by simp)
  have HE := hide (And.intro kT (And.intro (o1.cell cT (fun e => by have e' : w.heap.size + 1 + 1 = w0.heap.size := e; omega)) (Below.only bT o1 bT.size (fun j e => by have e' : j = w0.heap.size := e; omega))))
  clear hit hKlt hi hlt hk0 m0 m1 m2 m3 b0 s0 r0 r2 r3 u o bW bT kT o1 cT HM
  go_wp2
  refine ret_lv ?_
  dsimp only
  exact leave_mark HE.out.1 (leave_cell (w.heap.size + 1 + 1) (x := true) rfl rfl HE.out.2.1 ⟨rfl, HE.out.2.2⟩)
end Go.Proofs.YtkeldhohilmdcaaGreat
namespace Go.Proofs.YtkeldhohilmdcaaGreat.Pm
open Go.RowKit Go.Shelf
set_option linter.unusedSimpArgs false

theorem ins_lessP {x : (ByteArray × ByteArray)} {k : ByteArray} {v : ByteArray} {l : List (ByteArray × ByteArray)} (h : cmpB x.1 k = -1) : ins k v (x :: l) = x :: ins k v l := by
  have hp : pos k (x :: l) = pos k l + 1 := by simp [pos, h]
  have hh : has k (x :: l) = has k l := by unfold has; rw [hp]; simp
  unfold ins
  rw [hp, hh]
  split <;> simp
theorem ins_memP {k : ByteArray} {v : ByteArray} {l : List (ByteArray × ByteArray)} {y : (ByteArray × ByteArray)} (h : y ∈ ins k v l) : y = (k, v) ∨ y ∈ l := by
  unfold ins at h
  rcases List.mem_append.1 h with h | h
  · exact .inr (List.mem_of_mem_take h)
  · rcases List.mem_cons.1 h with h | h
    · exact .inl h
    · exact .inr (List.mem_of_mem_drop h)
theorem srt_insP {l : List (ByteArray × ByteArray)} (h : Srt l) (k : ByteArray) (v : ByteArray) : Srt (ins k v l) := by
  induction l with
  | nil => simp [ins, pos, has, Srt]
  | cons x l ih =>
    obtain ⟨h1, h2⟩ := List.pairwise_cons.1 h
    by_cases hc : cmpB x.1 k = -1
    · rw [ins_lessP hc]
      refine List.Pairwise.cons (fun y hy => ?_) (ih h2)
      rcases ins_memP hy with rfl | hy
      · exact hc
      · exact h1 y hy
    · have hp : pos k (x :: l) = 0 := by simp [pos, hc]
      have hh : has k (x :: l) = decide (x.1 = k) := by unfold has; rw [hp]; rfl
      unfold ins
      rw [hp, hh]
      by_cases he : x.1 = k
      · simp only [he, decide_true, if_true, List.take_zero, List.nil_append, Nat.zero_add, List.drop_succ_cons, List.drop_zero]
        exact List.Pairwise.cons (fun y hy => by have := h1 y hy; rw [he] at this; exact this) h2
      · simp only [he, decide_false, Bool.false_eq_true, if_false, List.take_zero, List.nil_append, List.drop_zero]
        have hk : cmpB k x.1 = -1 := by
          have h3 := ord_B.range x.1 k
          have h4 := ord_B.anti k x.1
          rcases h3 with h3 | h3 | h3
          · exact (hc h3).elim
          · exact (he (ord_B.eq _ _ h3)).elim
          · have := ord_B.anti x.1 k; omega
        refine List.Pairwise.cons (fun y hy => ?_) h
        rcases List.mem_cons.1 hy with rfl | hy
        · exact hk
        · exact ord_B.trans _ _ _ hk (h1 y hy)
theorem mem_ins {l : List (ByteArray × ByteArray)} (h : Srt l) (k v : ByteArray) (x : ByteArray × ByteArray) : x ∈ ins k v l ↔ x = (k, v) ∨ (x ∈ l ∧ x.1 ≠ k) := by
  induction l with
  | nil => simp [ins, pos, has]
  | cons y l ih =>
    obtain ⟨h1, h2⟩ := List.pairwise_cons.1 h
    by_cases hc : cmpB y.1 k = -1
    · rw [ins_lessP hc, List.mem_cons, List.mem_cons, ih h2]
      have hy := cmp_ne hc
      constructor
      · rintro (rfl | rfl | ⟨h3, h4⟩)
        · exact .inr ⟨.inl rfl, hy⟩
        · exact .inl rfl
        · exact .inr ⟨.inr h3, h4⟩
      · rintro (rfl | ⟨rfl | h3, h4⟩)
        · exact .inr (.inl rfl)
        · exact .inl rfl
        · exact .inr (.inr ⟨h3, h4⟩)
    · have hp : pos k (y :: l) = 0 := by simp [pos, hc]
      have hh : has k (y :: l) = decide (y.1 = k) := by unfold has; rw [hp]; rfl
      unfold ins
      rw [hp, hh]
      by_cases he : y.1 = k
      · simp only [he, decide_true, if_true, List.take_zero, List.nil_append, Nat.zero_add, List.drop_succ_cons, List.drop_zero, List.mem_cons]
        constructor
        · rintro (h3 | h3)
          · exact .inl h3
          · exact .inr ⟨.inr h3, fun e => by have := h1 x h3; rw [he, e, ord_B.refl] at this; exact absurd this (by decide)⟩
        · rintro (h3 | ⟨rfl | h3, h4⟩)
          · exact .inl h3
          · exact (h4 he).elim
          · exact .inr h3
      · simp only [he, decide_false, Bool.false_eq_true, if_false, List.take_zero, List.nil_append, List.drop_zero, List.mem_cons]
        have hk : cmpB k y.1 = -1 := by
          rcases cmp_three y.1 k with e | e | e
          · exact (hc e).elim
          · exact (he e).elim
          · exact e
        constructor
        · rintro (h3 | h3)
          · exact .inl h3
          · refine .inr ⟨h3, fun e => ?_⟩
            rcases h3 with rfl | h3
            · exact he e
            · have := ord_B.trans _ _ _ hk (h1 x h3)
              rw [e, ord_B.refl] at this
              exact absurd this (by decide)
        · rintro (h3 | ⟨h3, -⟩)
          · exact .inl h3
          · exact .inr h3
theorem ins_len (k v : ByteArray) (l : List (ByteArray × ByteArray)) : (ins k v l).length ≤ l.length + 1 := by
  unfold ins
  simp only [List.length_append, List.length_take, List.length_cons, List.length_drop]
  have := pos_le k l
  split <;> omega
theorem sub_mem : ∀ {t : T} {k v : ByteArray}, (k, v) ∈ t.list → ∃ p l r, Sub (.node p k v l r) t
  | .nil, k, v, h => by simp [T.list] at h
  | .node p k' v' l r, k, v, h => by
    simp only [T.list, List.mem_append, List.mem_cons] at h
    rcases h with h | h | h
    · obtain ⟨p1, l1, r1, hs⟩ := sub_mem h
      exact ⟨p1, l1, r1, .left hs⟩
    · cases h
      exact ⟨p, l, r, .here⟩
    · obtain ⟨p1, l1, r1, hs⟩ := sub_mem h
      exact ⟨p1, l1, r1, .right hs⟩
theorem find_val {t : T} (hs : Srt t.list) {k v : ByteArray} (h : (k, v) ∈ t.list) : (t.find k).val = v := by
  obtain ⟨p, l, r, hh⟩ := sub_mem h
  rw [T.find_sub hh hs]; rfl
end Go.Proofs.YtkeldhohilmdcaaGreat.Pm
namespace Go.Proofs.YtkeldhohilmdcaaGreat
open Go.RowKit Go.Shelf
/-- The map has just these keys. -/
def KeysOf (t : Pm.T) (l : List Kv) : Prop := ∀ k, (∃ v, (k, v) ∈ t.list) ↔ k ∈ l.map Prod.fst
theorem KeysOf.may {t : Pm.T} {l : List Kv} (h : KeysOf t l) (hs : Pm.Srt t.list) : mayL (l.map fun x => (x.1, (t.find x.1).val)) = mayL t.list := by
  unfold mayL
  rw [Bool.eq_iff_iff, List.all_eq_true, List.all_eq_true]
  constructor
  · rintro hh ⟨k, v⟩ hx
    have hk := (h k).1 ⟨v, hx⟩
    obtain ⟨y, hy, rfl⟩ := List.mem_map.1 hk
    have := hh (y.1, (t.find y.1).val) (List.mem_map.2 ⟨y, hy, rfl⟩)
    rwa [Pm.find_val hs hx] at this
  · rintro hh x hx
    obtain ⟨y, hy, rfl⟩ := List.mem_map.1 hx
    obtain ⟨v, hv⟩ := (h y.1).2 (List.mem_map.2 ⟨y, hy, rfl⟩)
    rw [Pm.find_val hs hv]
    exact hh _ hv
/-- One Put more. -/
theorem Mg.put {w w' : World} {t t' : Pm.T} {k v : ByteArray} (h : Mg w t) (hp : Pm.Puts w.heap.size k v t t') (hi : Pm.In w' t') (hn : t.n < 400) (hk : k.size ≤ 9223372036854775807) : Mg w' t' := by
  have hl := hp.list h.srt
  refine ⟨hi, ?_, (hp.says h.srt h.bal h.inn.underP).bal, ?_, ?_⟩
  · rw [hl]; exact Pm.srt_insP h.srt k v
  · rw [← Pm.T.n_eq, hl]
    have := Pm.ins_len k v t.list
    rw [Pm.T.n_eq] at this
    omega
  · intro x hx
    rw [hl, Pm.mem_ins h.srt] at hx
    rcases hx with rfl | ⟨hx, -⟩
    · exact hk
    · exact h.key x hx
theorem Mg.put_n {w : World} {t t' : Pm.T} {k v : ByteArray} {B : Nat} (h : Mg w t) (hp : Pm.Puts B k v t t') : t'.n ≤ t.n + 1 := by
  rw [← Pm.T.n_eq, hp.list h.srt, ← Pm.T.n_eq]
  exact Pm.ins_len k v t.list
theorem KeysOf.put {w : World} {t t' : Pm.T} {l : List Kv} {k v : ByteArray} {B : Nat} (h : KeysOf t l) (hm : Mg w t) (hp : Pm.Puts B k v t t') : KeysOf t' (l ++ [(k, v)]) := fun j => by
  rw [hp.list hm.srt, List.map_append, List.mem_append, List.map_singleton, List.mem_singleton, ← h j]
  constructor
  · rintro ⟨u, hu⟩
    rw [Pm.mem_ins hm.srt] at hu
    rcases hu with hu | ⟨hu, -⟩
    · cases hu; exact .inr rfl
    · exact .inl ⟨u, hu⟩
  · rintro (⟨u, hu⟩ | rfl)
    · by_cases e : j = k
      · exact ⟨v, (Pm.mem_ins hm.srt _ _ _).2 (.inl (by rw [e]))⟩
      · exact ⟨u, (Pm.mem_ins hm.srt _ _ _).2 (.inr ⟨hu, e⟩)⟩
    · exact ⟨v, (Pm.mem_ins hm.srt _ _ _).2 (.inl rfl)⟩
end Go.Proofs.YtkeldhohilmdcaaGreat
