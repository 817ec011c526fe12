/-
  WALKS over the document's own frames: Put, Same.
-/
import Derived.Test.YtmabfaldndlneaaScan
namespace Go.Proofs.Ytmabfaldndlneaa
open Go.RowKit Crc
set_option linter.unusedSimpArgs false

/-- A frame, whole. -/
def frm (k : Int) (l : List Int) : List Int := head k l ++ l
theorem u8_wrap {k : Int} (h : 0 ≤ k ∧ k ≤ 255) : k % 256 = k := by omega

set_option maxHeartbeats 1000000 in
set_option maxRecDepth 100000 in
theorem refPut_any (k : Int) (ao : Option Addr) (c : Nat) (l : List Int) (w : World) (hk : 0 ≤ k ∧ k ≤ 255) (hr : Rd w ao l) (hn : ao = none → c = 0) (hu : U8 l) (hl : l.length ≤ 16777216) :
    Calls Try.prog 15 #[.int .i64 k, .slice ao l.length c] w fun e w' => Made 5 w w' e (frm k l) := by
  obtain ⟨i0, hi, hz0, hz1, hz2⟩ := info_parts Try.info5
  have hk8 := u8_wrap hk
  have hlm : (l.length : Int) % 4294967296 = l.length := by omega
  have own1 := own_lit w [k] 1 rfl (by omega)
  have b1 : Below w.heap.size w (w.alloc (.cells (u8s [k]).toArray 5)) := (Below.refl _ w).alloc (Nat.le_refl _) _
  have hwd := word_any l.length (w.alloc (.cells (u8s [k]).toArray 5)) (by omega)
  have hsm := sm_lt hk hu
  have hs1 : (w.alloc (.cells (u8s [k]).toArray 5)).heap.size = w.heap.size + 1 := by simp
  have HK := hide hk
  rw [show (u8s [k]).toArray = #[.int .u8 k] from rfl] at own1 b1 hwd hs1
  have h3 : ∀ w2 ao2 c2, Own 5 w2 (w.alloc (.cells #[.int .u8 k] 5)).heap.size (.slice ao2 4 c2) (w4 l.length) → Below (w.alloc (.cells #[.int .u8 k] 5)).heap.size (w.alloc (.cells #[.int .u8 k] 5)) w2 → Own 5 w2 w.heap.size (.slice (some ⟨w.heap.size, 0, none⟩) 1 1) [k] ∧ w.heap.size ≤ w2.heap.size := fun w2 ao2 c2 _ hb => ⟨own1.below hb, by have := hb.size; omega⟩
  have hsum : ∀ w5 ao5 c5, Own 5 w5 w.heap.size (.slice ao5 (5 + l.length) c5) (hd5 k l ++ l) → Calls Try.prog 26 #[.slice ao5 (5 + l.length) c5] w5 fun e w' => e = .returned (.int .u32 (sm k l : Nat)) ∧ w' = w5 := fun w5 ao5 c5 ho => by
    have := refSum_any ao5 c5 (hd5 k l ++ l) w5 ho.rd ((hd5_u8 l HK.out).app hu) (by rw [List.length_append, hd5_length]; omega)
    rw [List.length_append, hd5_length] at this
    exact this
  go_enter Try.func15, Try.ntmps15
  have tk : True := trivial
  go_wp2_with (first
    | (go_at_call 25; clear tk; refine hwd.mono ?_; rintro e w2 ⟨ao2, c2, rfl, own2, hn2, b2⟩; obtain ⟨o1, s2⟩ := h3 w2 ao2 c2 own2 b2; rw [w4_length])
    | (at_builtin; refine wpList_append_rd rfl (.tmp 9) (.tmp 13) 22 rfl w.heap.size 5 i0 Try.underlying22 hi hz0 hz1 hz2 _ [k] rfl o1 ao2 c2 (w4 l.length) rfl hn2 own2.rd (by simp [w4_length]) s2 ?_; intro ao3 c3 w3 own3 g3 hn3; have own3' : Own 5 w3 w.heap.size (.slice ao3 5 c3) (hd5 k l) := own3; have b3 : Below w.heap.size w w3 := (b1.trans (b2.mono (by omega))).grown g3 s2 (fun j hj => (World.ownsRow.lt o1 j hj).1); have s3 := b3.size)
    | (at_builtin; refine wpList_append_rd rfl (.const (.slice none 0 0)) (.tmp 15) 22 rfl w3.heap.size 5 i0 Try.underlying22 hi hz0 hz1 hz2 _ [] rfl (Own.nil _ _ _) ao3 c3 (hd5 k l) rfl hn3 own3'.rd (by simp [hd5_length]) (Nat.le_refl _) ?_; intro ao4 c4 w4' own4 g4 hn4; have own4' : Own 5 w4' w3.heap.size (.slice ao4 5 c4) (hd5 k l) := own4; have b4 : Below w3.heap.size w3 w4' := (Below.refl _ w3).grown g4 (Nat.le_refl _) (fun j hj => by cases hj); have b4w := b3.trans (b4.mono s3))
    | (at_builtin; refine wpList_append_rd rfl (.tmp 16) (.tmp 17) 22 rfl w3.heap.size 5 i0 Try.underlying22 hi hz0 hz1 hz2 _ (hd5 k l) rfl own4' ao c l rfl hn (hr.below b4w) (by rw [hd5_length]; omega) b4.size ?_; intro ao5 c5 w5 own5 g5 hn5; have own5' : Own 5 w5 w3.heap.size (.slice ao5 (5 + l.length) c5) (hd5 k l ++ l) := own5; have b5 : Below w3.heap.size w3 w5 := b4.grown g5 b4.size (fun j hj => (World.ownsRow.lt own4' j hj).1); have hs5 := hsum w5 ao5 c5 (own5'.lift s3); have hw5 := word_any (sm k l) w5 hsm)
    | (go_at_call 26; refine hs5.mono ?_; rintro e w6 ⟨rfl, rfl⟩)
    | (go_at_call 25; refine hw5.mono ?_; rintro e w7 ⟨ao7, c7, rfl, own7, hn7, b7⟩; rw [w4_length]; have own7' : Own 5 w7 w6.heap.size (.slice ao7 4 c7) (w4 (sm k l)) := own7; have b37 := b5.trans (b7.mono b5.size); have o3 := own3'.below b37; have s7 : w.heap.size ≤ w7.heap.size := (by have := b37.size; omega))
    | (at_builtin; refine wpList_append_rd rfl (.tmp 20) (.tmp 22) 22 rfl w.heap.size 5 i0 Try.underlying22 hi hz0 hz1 hz2 _ (hd5 k l) rfl o3 ao7 c7 (w4 (sm k l)) rfl hn7 own7'.rd (by simp [w4_length, hd5_length]) s7 ?_; intro ao8 c8 w8 own8 g8 hn8; have own8' : Own 5 w8 w.heap.size (.slice ao8 9 c8) (head k l) := own8; have b8 : Below w.heap.size w w8 := (b3.trans (b37.mono s3)).grown g8 s7 (fun j hj => (World.ownsRow.lt o3 j hj).1))
    | (at_builtin; refine wpList_append_rd rfl (.tmp 23) (.tmp 24) 22 rfl w.heap.size 5 i0 Try.underlying22 hi hz0 hz1 hz2 _ (head k l) rfl own8' ao c l rfl hn (hr.below b8) (by rw [head_length]; omega) b8.size ?_; intro ao9 c9 w9 own9 g9 hn9))
  go_ret
  exact ⟨ao9, c9, by rw [frm, List.length_append]; rfl, by have := own9; rw [← List.length_append] at this; exact this, hn9, b8.grown g9 b8.size (fun j hj => (World.ownsRow.lt own8' j hj).1)⟩

set_option maxHeartbeats 400000 in
set_option maxRecDepth 100000 in
theorem same_yes (k : Int) (ao bo : Option Addr) (c d : Nat) (l : List Int) (w : World) (r0 : Rd w ao l) (r1 : Rd w bo l) :
    Calls Try.prog 10 #[frv k ao l.length c, frv k bo l.length d] w fun e w' => e = .returned (.bool true) ∧ Below w.heap.size w w' := by
  have hb : Below w.heap.size w ((w.alloc (.cells #[.int .i64 k, .slice ao l.length c] 36)).alloc (.cells #[.int .i64 k, .slice bo l.length d] 36)) := ((Below.refl _ w).alloc (Nat.le_refl _) _).alloc (by simp) _
  have h1 := conv_rd (n := l.length) (cap := c) (r0.below hb) rfl
  have h2 := conv_rd (n := l.length) (cap := d) (r1.below hb) rfl
  go_enter Try.func10, Try.ntmps10
  go_wp2
  go_ret
  exact ⟨by simp, hb⟩

/-- A frame out of its block, and two numbers beside it, are handed back. -/
theorem ret_row_tmp2 {P : Program} {fn : Func} {p q r : Tmp} {ty : TypeId} (b : Nat) (cs : List Value) {R : Ending → World → Prop} {a : Act} {w : World} (h : fn.results = #[.cell p ty, .tmp q, .tmp r]) (hp : a.tmps.getD p undef = .pointer (some ⟨b, 0, none⟩)) {v u : Value} (hq : a.tmps.getD q undef = v) (hr : a.tmps.getD r undef = u)
    {d : TypeDesc} (hu : P.underlying ty = some d) (hd : d.isRow = true) (hi : (P.info? ty).map (·.size) = some cs.length) {t : TypeId} {fr : Nat × Nat} (hc : w.heap[b]? = some (.cells cs.toArray t fr)) (hdef : a.defers = [])
    (hR : R (.returned (.tuple #[.agg cs.toArray, v, u])) w) : bodyPost P fn R .ret a w := by
  refine bodyPost_ret (v := .tuple #[.agg cs.toArray, v, u]) ?_ hdef hR
  have := run_loadVar_mid (P := P) w b 0 ty cs _ (fun j v hv => by rw [cell_of_row w b (0 + j) cs.toArray t fr hc, Nat.zero_add]; simpa using hv) hu hd hi
  have hp' : a.tmps[p]?.getD undef = .pointer (some ⟨b, 0, none⟩) := by simpa using hp
  have hq' : a.tmps[q]?.getD undef = v := by simpa using hq
  have hr' : a.tmps[r]?.getD undef = u := by simpa using hr
  simp [results, h, hp', hq', hr', asAddr, Sem.run_bind, Result.andThen, this]

/-- What Begin answers. -/
def Begs (w w' : World) (b : List Int) (e : Ending) : Prop :=
  (why b ≠ 0 ∧ e = .returned (.tuple #[frv 0 none 0 0, .int .i64 0, .int .i64 (why b : Nat)])) ∨
  (why b = 0 ∧ ∃ A C, e = .returned (.tuple #[frv (fst b).kind A (fst b).body.length C, .int .i64 (9 + ((fst b).body.length : Int)), .int .i64 0]) ∧ Own 5 w' (w.heap.size + 1) (.slice A (fst b).body.length C) (fst b).body ∧ (A = none → C = 0))

set_option maxHeartbeats 600000 in
set_option maxRecDepth 100000 in
theorem begin_any {w : World} {ao : Option Addr} {c : Nat} {b : List Int} (h : Bs w ao c b) (hlen : b.length ≤ 1000000) : Calls Try.prog 19 #[.slice ao b.length c] w fun e w' => Begs w w' b e ∧ Below w.heap.size w w' := by
  have hb1 : Below w.heap.size w (w.alloc (.cells #[.int .i64 0, .slice none 0 0] 36)) := (Below.refl _ w).alloc (Nat.le_refl _) _
  by_cases h9 : b.length < 9
  · have hd : decide ((b.length : Int) < 9) = true := by simp; omega
    have hd2 : decide (b.length < 9) = true := by simpa using h9
    go_enter Try.func19, Try.ntmps19
    go_wp2
    refine ret_row_tmp2 w.heap.size [.int .i64 0, .slice none 0 0] rfl rfl rfl rfl Try.underlying36 rfl (by kernel_rfl) (t := 36) (fr := (0, 0)) (heap_alloc_new w _) rfl ?_
    exact ⟨.inl ⟨by rw [why_few h9]; decide, by rw [why_few h9]; rfl⟩, hb1⟩
  · have hd : decide ((b.length : Int) < 9) = false := by simp; omega
    have hd2 : decide (b.length < 9) = false := by simpa using h9
    obtain ⟨b0, hb0⟩ : ∃ b0, b[0]? = some b0 := ⟨_, List.getElem?_eq_getElem (by omega)⟩
    obtain ⟨ab, off, rfl, _⟩ := h.rd.at hb0
    have hcell : ∀ j : Nat, j < 9 → ∃ x : Nat, x < 256 ∧ b.getD j 0 = (x : Int) ∧ w.cell? ⟨ab, off + j, none⟩ = some (.int .u8 (x : Int)) := fun j hj => by
      obtain ⟨y, hy⟩ : ∃ y, b[j]? = some y := ⟨_, List.getElem?_eq_getElem (by omega)⟩
      have hy8 := h.u8 y (List.mem_of_getElem? hy)
      obtain ⟨x, rfl⟩ := Int.eq_ofNat_of_zero_le hy8.1
      obtain ⟨_, _, e1, e2⟩ := h.rd.at hy
      cases e1
      exact ⟨x, by omega, by rw [List.getD_eq_getElem?_getD, hy]; rfl, e2⟩
    obtain ⟨x0, q0, e0, c0⟩ := hcell 0 (by omega)
    obtain ⟨x1, q1, e1, c1⟩ := hcell 1 (by omega)
    obtain ⟨x2, q2, e2, c2⟩ := hcell 2 (by omega)
    obtain ⟨x3, q3, e3, c3⟩ := hcell 3 (by omega)
    obtain ⟨x4, q4, e4, c4⟩ := hcell 4 (by omega)
    have hl4 : len4 b = ((x1 * 256 + x2) * 256 + x3) * 256 + x4 := by
      unfold len4
      rw [e1, e2, e3, e4]
      simp
    have hR1 := heap_alloc_new w (.cells #[.int .i64 0, .slice none 0 0] 36)
    have hs1 : (w.alloc (.cells #[.int .i64 0, .slice none 0 0] 36)).heap.size = w.heap.size + 1 := by simp
    have hbl1 : (1 : Int) < (b.length : Int) := by omega
    have hbl2 : (2 : Int) < (b.length : Int) := by omega
    have hbl3 : (3 : Int) < (b.length : Int) := by omega
    have hbl4 : (4 : Int) < (b.length : Int) := by omega
    have k0 := (hb1.cell (World.block_lt_of_cell? _ _ c0)).trans c0
    have k1 := (hb1.cell (World.block_lt_of_cell? _ _ c1)).trans c1
    have k2 := (hb1.cell (World.block_lt_of_cell? _ _ c2)).trans c2
    have k3 := (hb1.cell (World.block_lt_of_cell? _ _ c3)).trans c3
    have k4 := (hb1.cell (World.block_lt_of_cell? _ _ c4)).trans c4
    clear c0 c1 c2 c3 c4 hcell
    have H := hide (And.intro h hl4)
    have HE := hide (And.intro e0 hb0)
    clear e0 e1 e2 e3 e4 h hb0 hl4
    go_enter Try.func19, Try.ntmps19
    go_wp2
    go_quiet (fail)
    have hval : (x1 : Int) * 16777216 + (x2 : Int) * 65536 + (x3 : Int) * 256 + (x4 : Int) = (len4 b : Int) := by have := H.out.2; omega
    rw [hval]
    have hbW : Below w.heap.size w ((w.alloc (.cells #[.int .i64 0, .slice none 0 0] 36)).drewN nq) := hb1.trans ((below_drew _ nq).mono (by simp))
    have hRW : ((w.alloc (.cells #[.int .i64 0, .slice none 0 0] 36)).drewN nq).heap[w.heap.size]? = some (.cells #[.int .i64 0, .slice none 0 0] 36 (0, 0)) := hR1
    have hsW : ((w.alloc (.cells #[.int .i64 0, .slice none 0 0] 36)).drewN nq).heap.size = w.heap.size + 1 := hs1
    have kW : ((w.alloc (.cells #[.int .i64 0, .slice none 0 0] 36)).drewN nq).cell? ⟨ab, off + 0, none⟩ = some (.int .u8 (x0 : Int)) := k0
    generalize (w.alloc (.cells #[.int .i64 0, .slice none 0 0] 36)).drewN nq = W at hbW hRW hsW kW ⊢
    rw [Nat.add_zero] at kW
    obtain ⟨r0, r1, z0, z1⟩ := blk2 hRW
    have hcap := H.out.1.cap
    have hRet : ∀ (n : Nat) (w4 : World) (fn : Func) (a : Act), why b = n → n ≠ 0 → Hid (Below w.heap.size w w4 ∧ w4.heap[w.heap.size]? = some (.cells #[.int .i64 0, .slice none 0 0] 36 (0, 0))) → fn.results = #[.cell 2 36, .tmp 3, .tmp 4] → a.tmps.getD 2 undef = .pointer (some ⟨w.heap.size, 0, none⟩) → a.tmps.getD 3 undef = .int .i64 0 → a.tmps.getD 4 undef = .int .i64 (n : Int) → a.defers = [] →
        bodyPost Try.prog fn (fun e w' => Begs w w' b e ∧ Below w.heap.size w w') .ret a ((w4.setCell ⟨w.heap.size, 0, none⟩ (.int .i64 0)).setCell ⟨w.heap.size, 1, none⟩ (.slice none 0 0)) := fun n w4 fn a hw hn HB hres h2 h3 h4 hd => by
      obtain ⟨q1, q2⟩ := HB.out
      refine ret_row_tmp2 w.heap.size [.int .i64 0, .slice none 0 0] hres h2 h3 h4 Try.underlying36 rfl (by kernel_rfl) (t := 36) (fr := (0, 0)) (two_set q2) hd ?_
      exact ⟨.inl ⟨by rw [hw]; exact hn, by rw [hw]⟩, Below.only q1 (two_only _ _ _ _) q1.size (by intro j e; omega)⟩
    have HBW : Hid (Below w.heap.size w W ∧ W.heap[w.heap.size]? = some (.cells #[.int .i64 0, .slice none 0 0] 36 (0, 0))) := hide ⟨hbW, hRW⟩
    obtain ⟨n, hn⟩ : ∃ n, n = len4 b := ⟨_, rfl⟩
    rw [← hn]
    have HN := hide hn
    clear hval hb1 hR1 hs1 k0 k1 k2 k3 k4 hn q1 q2 q3 q4 hbl1 hbl2 hbl3 hbl4
    by_cases hbig : 16777216 < n
    · have hd3 : decide ((16777216 : Int) < (n : Int)) = true := by simp; omega
      have hd4 : decide ((n : Int) ≤ 16777216) = false := by simp; omega
      have hd5 : decide (16777216 < n) = true := by simpa using hbig
      have hd6 : decide (n ≤ 16777216) = false := by simp; omega
      go_wp2
      exact hRet 141 W _ _ (why_big h9 (by rw [← HN.out]; exact hbig)) (by decide) HBW rfl rfl rfl rfl rfl
    · have hd3 : decide ((16777216 : Int) < (n : Int)) = false := by simp; omega
      have hd4 : decide ((n : Int) ≤ 16777216) = true := by simp; omega
      have hd5 : decide (16777216 < n) = false := by simpa using hbig
      have hd6 : decide (n ≤ 16777216) = true := by simp; omega
      have hnb : (n : Int) ≤ 16777216 := by omega
      by_cases htorn : b.length < 9 + n
      · have hd7 : decide ((b.length : Int) < 9 + (n : Int)) = true := by simp; omega
        go_wp2
        exact hRet 140 W _ _ (why_torn h9 (by rw [← HN.out]; exact hbig) (by rw [← HN.out]; exact htorn)) (by decide) HBW rfl rfl rfl rfl rfl
      · have hd7 : decide ((b.length : Int) < 9 + (n : Int)) = false := by simp; omega
        obtain ⟨i0, hi, hz0, hz1, hz2⟩ := info_parts Try.info5
        have hbs := H.out.1.below hbW
        have hbody : Bs W (sub (some ⟨ab, off, none⟩) c 9) (c - 9) ((b.drop 9).take n) := by
          have := hbs.sub (i := 9) (j := 9 + n) (by omega) (by omega)
          rwa [show 9 + n - 9 = n by omega] at this
        have hbl : ((b.drop 9).take n).length = n := by simp; omega
        have hj9 : (9 : Int) + (n : Int) = ((9 + n : Nat) : Int) := by omega
        have HV : Hid (Value.int .i64 ((9 : Int) + (n : Int)) = .int .i64 ((9 + n : Nat) : Int)) := hide (by rw [hj9])
        have HWR : Hid (IntKind.i64.wrap (9 + (n : Int)) = 9 + (n : Int)) := hide (by rw [IntKind.wrap_i64]; omega)
        have hall : Bs W (some ⟨ab, off, none⟩) c (b.take (9 + n)) := hbs.upto (by omega)
        have hle1 : 9 ≤ 9 + n := by omega
        have hle2 : 9 + n ≤ c := by omega
        have hbeq : b.take (9 + n) = b.take 9 ++ (b.drop 9).take n := by rw [List.take_add]
        have HA := hide (And.intro hbody (And.intro hall hbeq))
        have hbr := hbody.rd
        have hbn := hbody.nil
        clear hj9 hbs hbody hall hbeq
        go_upto_region 8 with (fail)
        refine wp_region_lit ?_
        refine wpList_value (OP := Op.move (.tmp 0)) (T := 22) (v := .slice (some ⟨ab, off, none⟩) b.length c) rfl rfl rfl (by go_simp) ?_
        try simp only [Act.put, List.setIfInBounds_toArray, List.set_cons_zero, List.set_cons_succ]
        refine wpList_value (OP := Op.move (.tmp 5)) (T := 3) (v := .int .i64 (n : Int)) rfl rfl rfl (by go_simp) ?_
        try simp only [Act.put, List.setIfInBounds_toArray, List.set_cons_zero, List.set_cons_succ]
        refine wpList_value (OP := Op.binOp BinOp.add 3 (.const (.int .i64 9)) (.tmp 47) 3) (T := 3) (v := .int .i64 ((9 : Int) + (n : Int))) rfl rfl rfl (by go_simp; exact HWR.out) ?_
        try simp only [Act.put, List.setIfInBounds_toArray, List.set_cons_zero, List.set_cons_succ]
        refine wpList_value (OP := Op.slice 22 (.tmp 46) (some (.const (.int .i64 9))) (some (.tmp 48)) none) (T := 22) rfl rfl rfl (exec_slice_mid (ao := some ⟨ab, off, none⟩) (n := b.length) (c := c) (i := 9) (j := 9 + n) rfl rfl HV.out hle1 hle2) ?_
        rw [show 9 + n - 9 = n by omega]
        try simp only [Act.put, List.setIfInBounds_toArray, List.set_cons_zero, List.set_cons_succ]
        refine wpList_append_rd (w := W) rfl (.const (.slice none 0 0)) (.tmp 49) 22 rfl W.heap.size 5 i0 Try.underlying22 hi hz0 hz1 hz2 _ [] rfl (Own.nil _ _ _) (sub (some ⟨ab, off, none⟩) c 9) (c - 9) ((b.drop 9).take n) (by rw [hbl]; rfl) hbn hbr (by simp; omega) (Nat.le_refl _) ?_
        intro ao2 c2 w2 own2 g2 hn2
        rw [hbl, List.length_nil, Nat.zero_add] at own2 ⊢
        rw [List.nil_append] at own2
        try simp only [Act.put, List.setIfInBounds_toArray, List.set_cons_zero, List.set_cons_succ]
        go_wp2
        have b2W : Below W.heap.size W w2 := (Below.refl _ W).grown g2 (Nat.le_refl _) (fun j hj => by cases hj)
        have b2 : Below w.heap.size w w2 := hbW.trans (b2W.mono (by omega))
        have hS9 : w2.drew.cell? ⟨ab, off, none⟩ = some (.int .u8 (x0 : Int)) ∧ Rd w2.drew (some ⟨ab, off, none⟩) (b.take (9 + n)) := ⟨(b2W.cell (World.block_lt_of_cell? _ _ kW)).trans kW, (HA.out.2.1.below b2W).drew.rd⟩
        have hln : (b.take (9 + n)).length = 9 + n := by simp; omega
        have hx8 : (0 : Int) ≤ (x0 : Int) ∧ (x0 : Int) ≤ 255 := by omega
        have hput := refPut_any (x0 : Int) ao2 c2 ((b.drop 9).take n) w2.drew hx8 own2.rd hn2 HA.out.1.u8 (by rw [hbl]; omega)
        rw [hbl] at hput
        have hu1 : U8 (frm (x0 : Int) ((b.drop 9).take n)) := (head_u8 _ hx8).app HA.out.1.u8
        have hu2 : U8 (b.take (9 + n)) := H.out.1.u8.take _
        have hgd : why b = 0 ↔ frm (x0 : Int) ((b.drop 9).take n) = b.take (9 + n) := by
          rw [HA.out.2.2, frm, List.append_left_inj]
          constructor
          · intro h
            have := (why_zero h).2.2.2
            rw [← HN.out, HE.out.1] at this
            exact this
          · intro h
            exact why_good h9 (by rw [← HN.out]; exact hbig) (by rw [← HN.out]; exact htorn) (by rw [← HN.out, HE.out.1]; exact h)
        have HU := hide (And.intro own2 (And.intro b2 (And.intro b2W hgd)))
        have hbl0 : (0 : Int) < (b.length : Int) := by omega
        have hbl0n : 0 < b.length := by omega
        have hxw : IntKind.i64.wrap (x0 : Int) = (x0 : Int) := by rw [IntKind.wrap_i64]; omega
        clear own2 b2 b2W g2 hbr
        by_cases hgood : frm (x0 : Int) ((b.drop 9).take n) = b.take (9 + n)
        · have hst : ((strOfNums (frm (x0 : Int) ((b.drop 9).take n))).toList == (strOfNums (b.take (9 + n))).toList) = true := by rw [hgood]; simp
          have HG := hide hgood
          clear hgood hgd
          refine wp_region_held_drew (S := (fun w' => w'.cell? ⟨ab, off, none⟩ = some (.int .u8 (x0 : Int)) ∧ Rd w' (some ⟨ab, off, none⟩) (b.take (9 + n)))) (by kernel_rfl) (by exact hS9) (fun hHeld => ?_)
          try dsimp only at hHeld
          refine take_op (i := 0) (d := 51) (OP := Op.move (Operand.tmp 0)) (T := 22) (v := ?vq4x) rfl rfl rfl rfl (by kernel_rfl) (by kernel_rfl) (by kernel_rfl) (fun _ _ _ h => h) (by rfl) ?hq4x hHeld ?rq4x
          case hq4x => (intro w' hSw; (try dsimp only at hSw); go_simp <;> with_reducible rfl)
          try simp only [Act.put, List.setIfInBounds_toArray, List.set_cons_zero, List.set_cons_succ]
          refine take_op (i := 1) (d := 52) (OP := Op.indexAddr 22 (Operand.tmp 51) (Operand.const (Value.int IntKind.i64 0))) (T := 0) (v := ?vq5x) rfl rfl rfl rfl (by kernel_rfl) (by kernel_rfl) (by kernel_rfl) (fun _ _ _ h => h) (by rfl) ?hq5x hHeld ?rq5x
          case hq5x => (intro w' hSw; (try dsimp only at hSw); go_simp <;> with_reducible rfl)
          try simp only [Act.put, List.setIfInBounds_toArray, List.set_cons_zero, List.set_cons_succ]
          refine take_op (i := 2) (d := 53) (OP := Op.load 5 (Operand.tmp 52)) (T := 5) (v := ?vq6x) rfl rfl rfl rfl (by kernel_rfl) (by kernel_rfl) (by kernel_rfl) (fun _ _ _ h => h) (by rfl) ?hq6x hHeld ?rq6x
          case hq6x => (intro w' hSw; (try dsimp only at hSw); go_simp <;> with_reducible rfl)
          try simp only [Act.put, List.setIfInBounds_toArray, List.set_cons_zero, List.set_cons_succ]
          refine take_op (i := 3) (d := 54) (OP := Op.convert 5 3 (Operand.tmp 53)) (T := 3) (v := ?vq7x) rfl rfl rfl rfl (by kernel_rfl) (by kernel_rfl) (by kernel_rfl) (fun _ _ _ h => h) (by rfl) ?hq7x hHeld ?rq7x
          case hq7x => (intro w' hSw; (try dsimp only at hSw); go_simp <;> with_reducible rfl)
          try simp only [Act.put, List.setIfInBounds_toArray, List.set_cons_zero, List.set_cons_succ]
          refine take_op (i := 4) (d := 55) (OP := Op.move (Operand.tmp 6)) (T := 22) (v := ?vq8x) rfl rfl rfl rfl (by kernel_rfl) (by kernel_rfl) (by kernel_rfl) (fun _ _ _ h => h) (by rfl) ?hq8x hHeld ?rq8x
          case hq8x => (intro w' hSw; (try dsimp only at hSw); go_simp <;> with_reducible rfl)
          try simp only [Act.put, List.setIfInBounds_toArray, List.set_cons_zero, List.set_cons_succ]
          refine take_op (i := 7) (d := 58) (OP := Op.move (Operand.tmp 0)) (T := 22) (v := ?vq9x) rfl rfl rfl rfl (by kernel_rfl) (by kernel_rfl) (by kernel_rfl) (fun _ _ _ h => h) (by rfl) ?hq9x hHeld ?rq9x
          case hq9x => (intro w' hSw; (try dsimp only at hSw); go_simp <;> with_reducible rfl)
          try simp only [Act.put, List.setIfInBounds_toArray, List.set_cons_zero, List.set_cons_succ]
          refine take_op (i := 8) (d := 59) (OP := Op.move (Operand.tmp 5)) (T := 3) (v := ?vq10x) rfl rfl rfl rfl (by kernel_rfl) (by kernel_rfl) (by kernel_rfl) (fun _ _ _ h => h) (by rfl) ?hq10x hHeld ?rq10x
          case hq10x => (intro w' hSw; (try dsimp only at hSw); go_simp <;> with_reducible rfl)
          try simp only [Act.put, List.setIfInBounds_toArray, List.set_cons_zero, List.set_cons_succ]
          refine take_op (i := 9) (d := 60) (OP := Op.binOp BinOp.add 3 (Operand.const (Value.int IntKind.i64 9)) (Operand.tmp 59) 3) (T := 3) (v := .int .i64 ((9 : Int) + (n : Int))) rfl rfl rfl rfl (by kernel_rfl) (by kernel_rfl) (by kernel_rfl) (fun _ _ _ h => h) (by rfl) ?hz1x hHeld ?rz1x
          case hz1x => (intro w' hSw; go_simp; exact HWR.out)
          try simp only [Act.put, List.setIfInBounds_toArray, List.set_cons_zero, List.set_cons_succ]
          refine take_op (i := 10) (d := 61) (OP := Op.slice 22 (Operand.tmp 58) none (some (Operand.tmp 60)) none) (T := 22) (v := .slice (some ⟨ab, off, none⟩) (9 + n) c) rfl rfl rfl rfl (by kernel_rfl) (by kernel_rfl) (by kernel_rfl) (fun _ _ _ h => h) (by rfl) ?hz2x hHeld ?rz2x
          case hz2x => (intro w' hSw; exact exec_slice_hi (n := b.length) (j := 9 + n) (k := .i64) rfl HV.out hle2 (by intro h; cases h))
          try simp only [Act.put, List.setIfInBounds_toArray, List.set_cons_zero, List.set_cons_succ]
          refine take_op (i := 11) (d := 62) (OP := Op.convert 22 9 (Operand.tmp 61)) (T := 9) (v := .string (strOfNums (b.take (9 + n)))) rfl rfl rfl rfl (by kernel_rfl) (by kernel_rfl) (by kernel_rfl) (fun _ _ _ h => h) (by rfl) ?hz3x hHeld ?rz3x
          case hz3x => (intro w' hSw; have hcv := conv_rd (n := 9 + n) (cap := c) hSw.2 hln; go_simp)
          try simp only [Act.put, List.setIfInBounds_toArray, List.set_cons_zero, List.set_cons_succ]
          refine call_op (i := 5) (d := 56) (OP := Op.call { callee := Callee.value (Operand.func 15), args := #[Operand.tmp 54, Operand.tmp 55], argTypes := #[3, 22] }) (T := 22) (f := 15) (args := #[.int .i64 (x0 : Int), .slice ao2 n c2]) rfl rfl rfl rfl (by kernel_rfl) (by rfl) (by go_simp) ?_
          refine (hput).mono ?_
          rintro e w3 ⟨ao3, c3, rfl, own3, hn3, b3⟩
          have hcv3 := conv_rd (n := (frm (x0 : Int) ((b.drop 9).take n)).length) (cap := c3) own3.rd rfl
          have hS9b : w3.cell? ⟨ab, off, none⟩ = some (.int .u8 (x0 : Int)) ∧ Rd w3 (some ⟨ab, off, none⟩) (b.take (9 + n)) := ⟨(b3.cell (World.block_lt_of_cell? _ _ hHeld.1)).trans hHeld.1, hHeld.2.below b3⟩
          refine ⟨_, rfl, hS9b, ?_⟩
          replace hHeld := hS9b
          try simp only [Act.put, List.setIfInBounds_toArray, List.set_cons_zero, List.set_cons_succ]
          refine alone_op (i := 6) (d := 57) (OP := Op.convert 22 9 (Operand.tmp 56)) (T := 9) (v := ?vq15x) rfl rfl rfl rfl (by kernel_rfl) (by rfl) ?hq15x hHeld ?rq15x
          case hq15x => (go_simp <;> with_reducible rfl)
          try simp only [Act.put, List.setIfInBounds_toArray, List.set_cons_zero, List.set_cons_succ]
          refine take_op (i := 12) (d := 63) (OP := Op.binOp BinOp.neq 9 (Operand.tmp 57) (Operand.tmp 62) 9) (T := 4) (v := ?vq16x) rfl rfl rfl rfl (by kernel_rfl) (by kernel_rfl) (by kernel_rfl) (fun _ _ _ h => h) (by rfl) ?hq16x hHeld ?rq16x
          case hq16x => (intro w' hSw; (try dsimp only at hSw); go_simp <;> with_reducible rfl)
          try simp only [Act.put, List.setIfInBounds_toArray, List.set_cons_zero, List.set_cons_succ]
          refine wpAnyH_done (by kernel_rfl) ?_ _
          obtain ⟨own2, b2, b2W, hgd⟩ := HU.out
          have b23 : Below w2.heap.size w2 w3 := below_undrew0 b3
          have b3W := b2W.trans (b23.mono b2W.size)
          have hr3 := (b3W.block w.heap.size (by omega)).trans hRW
          obtain ⟨p0, p1, y0, y1⟩ := blk2 hr3
          have hc3 : w3.cell? ⟨ab, off, none⟩ = some (.int .u8 (x0 : Int)) := hHeld.1
          have HX := hide (And.intro hr3 (And.intro (own2.below b23) (hbW.trans (b3W.mono (by omega)))))
          clear hHeld hS9 hS9b hput hcv3 hst own3 own2 b2 b2W hgd b3 b23 b3W hr3
          go_wp2
          refine ret_row_tmp2 w.heap.size [.int .i64 (x0 : Int), .slice ao2 n c2] rfl rfl rfl rfl Try.underlying36 rfl (by kernel_rfl) (t := 36) (fr := (0, 0)) (two_set HX.out.1) rfl ?_
          have hw0 := HU.out.2.2.2.2 HG.out
          have hf : (fst b).body = (b.drop 9).take n := by rw [HN.out]; rfl
          have hf2 : (fst b).kind = (x0 : Int) := HE.out.1
          have ho := two_only w3 w.heap.size (.int .i64 (x0 : Int)) (.slice ao2 n c2)
          refine ⟨.inr ⟨hw0, ao2, c2, ?_, ?_, hn2⟩, Below.only HX.out.2.2 ho HX.out.2.2.size (by intro j e; omega)⟩
          · rw [hf, hf2, hbl]; rfl
          · rw [hf, hbl]
            exact (ho.own HX.out.2.1 (fun j hj e => by have := (own_new HX.out.2.1 j hj).1; omega)).lift (by omega)
        · have hst : ((strOfNums (frm (x0 : Int) ((b.drop 9).take n))).toList == (strOfNums (b.take (9 + n))).toList) = false := str_ne hu1 hu2 hgood
          have HG := hide hgood
          clear hgood hgd
          refine wp_region_held_drew (S := (fun w' => w'.cell? ⟨ab, off, none⟩ = some (.int .u8 (x0 : Int)) ∧ Rd w' (some ⟨ab, off, none⟩) (b.take (9 + n)))) (by kernel_rfl) (by exact hS9) (fun hHeld => ?_)
          try dsimp only at hHeld
          refine take_op (i := 0) (d := 51) (OP := Op.move (Operand.tmp 0)) (T := 22) (v := ?vq20x) rfl rfl rfl rfl (by kernel_rfl) (by kernel_rfl) (by kernel_rfl) (fun _ _ _ h => h) (by rfl) ?hq20x hHeld ?rq20x
          case hq20x => (intro w' hSw; (try dsimp only at hSw); go_simp <;> with_reducible rfl)
          try simp only [Act.put, List.setIfInBounds_toArray, List.set_cons_zero, List.set_cons_succ]
          refine take_op (i := 1) (d := 52) (OP := Op.indexAddr 22 (Operand.tmp 51) (Operand.const (Value.int IntKind.i64 0))) (T := 0) (v := ?vq21x) rfl rfl rfl rfl (by kernel_rfl) (by kernel_rfl) (by kernel_rfl) (fun _ _ _ h => h) (by rfl) ?hq21x hHeld ?rq21x
          case hq21x => (intro w' hSw; (try dsimp only at hSw); go_simp <;> with_reducible rfl)
          try simp only [Act.put, List.setIfInBounds_toArray, List.set_cons_zero, List.set_cons_succ]
          refine take_op (i := 2) (d := 53) (OP := Op.load 5 (Operand.tmp 52)) (T := 5) (v := ?vq22x) rfl rfl rfl rfl (by kernel_rfl) (by kernel_rfl) (by kernel_rfl) (fun _ _ _ h => h) (by rfl) ?hq22x hHeld ?rq22x
          case hq22x => (intro w' hSw; (try dsimp only at hSw); go_simp <;> with_reducible rfl)
          try simp only [Act.put, List.setIfInBounds_toArray, List.set_cons_zero, List.set_cons_succ]
          refine take_op (i := 3) (d := 54) (OP := Op.convert 5 3 (Operand.tmp 53)) (T := 3) (v := ?vq23x) rfl rfl rfl rfl (by kernel_rfl) (by kernel_rfl) (by kernel_rfl) (fun _ _ _ h => h) (by rfl) ?hq23x hHeld ?rq23x
          case hq23x => (intro w' hSw; (try dsimp only at hSw); go_simp <;> with_reducible rfl)
          try simp only [Act.put, List.setIfInBounds_toArray, List.set_cons_zero, List.set_cons_succ]
          refine take_op (i := 4) (d := 55) (OP := Op.move (Operand.tmp 6)) (T := 22) (v := ?vq24x) rfl rfl rfl rfl (by kernel_rfl) (by kernel_rfl) (by kernel_rfl) (fun _ _ _ h => h) (by rfl) ?hq24x hHeld ?rq24x
          case hq24x => (intro w' hSw; (try dsimp only at hSw); go_simp <;> with_reducible rfl)
          try simp only [Act.put, List.setIfInBounds_toArray, List.set_cons_zero, List.set_cons_succ]
          refine take_op (i := 7) (d := 58) (OP := Op.move (Operand.tmp 0)) (T := 22) (v := ?vq25x) rfl rfl rfl rfl (by kernel_rfl) (by kernel_rfl) (by kernel_rfl) (fun _ _ _ h => h) (by rfl) ?hq25x hHeld ?rq25x
          case hq25x => (intro w' hSw; (try dsimp only at hSw); go_simp <;> with_reducible rfl)
          try simp only [Act.put, List.setIfInBounds_toArray, List.set_cons_zero, List.set_cons_succ]
          refine take_op (i := 8) (d := 59) (OP := Op.move (Operand.tmp 5)) (T := 3) (v := ?vq26x) rfl rfl rfl rfl (by kernel_rfl) (by kernel_rfl) (by kernel_rfl) (fun _ _ _ h => h) (by rfl) ?hq26x hHeld ?rq26x
          case hq26x => (intro w' hSw; (try dsimp only at hSw); go_simp <;> with_reducible rfl)
          try simp only [Act.put, List.setIfInBounds_toArray, List.set_cons_zero, List.set_cons_succ]
          refine take_op (i := 9) (d := 60) (OP := Op.binOp BinOp.add 3 (Operand.const (Value.int IntKind.i64 9)) (Operand.tmp 59) 3) (T := 3) (v := .int .i64 ((9 : Int) + (n : Int))) rfl rfl rfl rfl (by kernel_rfl) (by kernel_rfl) (by kernel_rfl) (fun _ _ _ h => h) (by rfl) ?hz17x hHeld ?rz17x
          case hz17x => (intro w' hSw; go_simp; exact HWR.out)
          try simp only [Act.put, List.setIfInBounds_toArray, List.set_cons_zero, List.set_cons_succ]
          refine take_op (i := 10) (d := 61) (OP := Op.slice 22 (Operand.tmp 58) none (some (Operand.tmp 60)) none) (T := 22) (v := .slice (some ⟨ab, off, none⟩) (9 + n) c) rfl rfl rfl rfl (by kernel_rfl) (by kernel_rfl) (by kernel_rfl) (fun _ _ _ h => h) (by rfl) ?hz18x hHeld ?rz18x
          case hz18x => (intro w' hSw; exact exec_slice_hi (n := b.length) (j := 9 + n) (k := .i64) rfl HV.out hle2 (by intro h; cases h))
          try simp only [Act.put, List.setIfInBounds_toArray, List.set_cons_zero, List.set_cons_succ]
          refine take_op (i := 11) (d := 62) (OP := Op.convert 22 9 (Operand.tmp 61)) (T := 9) (v := .string (strOfNums (b.take (9 + n)))) rfl rfl rfl rfl (by kernel_rfl) (by kernel_rfl) (by kernel_rfl) (fun _ _ _ h => h) (by rfl) ?hz19x hHeld ?rz19x
          case hz19x => (intro w' hSw; have hcv := conv_rd (n := 9 + n) (cap := c) hSw.2 hln; go_simp)
          try simp only [Act.put, List.setIfInBounds_toArray, List.set_cons_zero, List.set_cons_succ]
          refine call_op (i := 5) (d := 56) (OP := Op.call { callee := Callee.value (Operand.func 15), args := #[Operand.tmp 54, Operand.tmp 55], argTypes := #[3, 22] }) (T := 22) (f := 15) (args := #[.int .i64 (x0 : Int), .slice ao2 n c2]) rfl rfl rfl rfl (by kernel_rfl) (by rfl) (by go_simp) ?_
          refine (hput).mono ?_
          rintro e w3 ⟨ao3, c3, rfl, own3, hn3, b3⟩
          have hcv3 := conv_rd (n := (frm (x0 : Int) ((b.drop 9).take n)).length) (cap := c3) own3.rd rfl
          have hS9b : w3.cell? ⟨ab, off, none⟩ = some (.int .u8 (x0 : Int)) ∧ Rd w3 (some ⟨ab, off, none⟩) (b.take (9 + n)) := ⟨(b3.cell (World.block_lt_of_cell? _ _ hHeld.1)).trans hHeld.1, hHeld.2.below b3⟩
          refine ⟨_, rfl, hS9b, ?_⟩
          replace hHeld := hS9b
          try simp only [Act.put, List.setIfInBounds_toArray, List.set_cons_zero, List.set_cons_succ]
          refine alone_op (i := 6) (d := 57) (OP := Op.convert 22 9 (Operand.tmp 56)) (T := 9) (v := ?vq31x) rfl rfl rfl rfl (by kernel_rfl) (by rfl) ?hq31x hHeld ?rq31x
          case hq31x => (go_simp <;> with_reducible rfl)
          try simp only [Act.put, List.setIfInBounds_toArray, List.set_cons_zero, List.set_cons_succ]
          refine take_op (i := 12) (d := 63) (OP := Op.binOp BinOp.neq 9 (Operand.tmp 57) (Operand.tmp 62) 9) (T := 4) (v := ?vq32x) rfl rfl rfl rfl (by kernel_rfl) (by kernel_rfl) (by kernel_rfl) (fun _ _ _ h => h) (by rfl) ?hq32x hHeld ?rq32x
          case hq32x => (intro w' hSw; (try dsimp only at hSw); go_simp <;> with_reducible rfl)
          try simp only [Act.put, List.setIfInBounds_toArray, List.set_cons_zero, List.set_cons_succ]
          refine wpAnyH_done (by kernel_rfl) ?_ _
          obtain ⟨own2, b2, b2W, hgd⟩ := HU.out
          have b23 : Below w2.heap.size w2 w3 := below_undrew0 b3
          have b3W := b2W.trans (b23.mono b2W.size)
          have hr3 := (b3W.block w.heap.size (by omega)).trans hRW
          obtain ⟨p0, p1, y0, y1⟩ := blk2 hr3
          have HX : Hid (Below w.heap.size w w3 ∧ w3.heap[w.heap.size]? = some (.cells #[.int .i64 0, .slice none 0 0] 36 (0, 0))) := hide ⟨hbW.trans (b3W.mono (by omega)), hr3⟩
          clear hHeld hS9 hS9b hput hcv3 hst own3 own2 b2 b2W hgd b3 b23 b3W hr3
          go_wp2
          exact hRet 141 w3 _ _ (why_bad h9 (by rw [← HN.out]; exact hbig) (by rw [← HN.out]; exact htorn) (fun hh => by
            refine HG.out (HU.out.2.2.2.1 (why_good h9 (by rw [← HN.out]; exact hbig) (by rw [← HN.out]; exact htorn) hh)))) (by decide) HX rfl rfl rfl rfl rfl
end Go.Proofs.Ytmabfaldndlneaa
