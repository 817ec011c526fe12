/-
  journal: the law's stands (89).
-/
import Derived.Test.YtkkpdgfllnbigaaGreatMg22
import Derived.Test.YtkkpdgfllnbigaaGreatMg21
import Derived.Test.YtkkpdgfllnbigaaGreatMg18
namespace Go.Proofs.YtkkpdgfllnbigaaGreat.Jo
open Go.RowKit Go.Shelf
set_option linter.unusedSimpArgs false
attribute [local go_sem] Oper.semAt_some

theorem slice_one {w : World} {b off : Nat} {l : List El} {i cap : Nat} {x : El} (hr : Re w (some ⟨b, off, none⟩) l) (hx : l[i]? = some x) (hc : l.length ≤ cap) :
    (∀ w', (Instr.slice 22 (.slice (some ⟨b, off, none⟩) l.length cap) (some (.int .i64 i)) (some (.int .i64 ((i : Int) + 1))) none).run Tryz.prog w' = .ok (.slice (some ⟨b, off + i * 6, none⟩) 1 (cap - i)) w') ∧ Re w (some ⟨b, off + i * 6, none⟩) [x] := by
  have hi : i < l.length := (List.getElem?_eq_some_iff.1 hx).1
  constructor
  · intro w'
    have h1 : ((i : Int) + 1) = ((i + 1 : Nat) : Int) := by omega
    have h3 : i + 1 - i = 1 := by omega
    have h4 : ¬ cap = i := by omega
    rw [h1]
    simp [Instr.slice, Instr.sliceBounds, Instr.sliceBound, asIntOf, run_underlying Tryz.underlying22, go_sem, show i ≤ cap by omega, show i + 1 ≤ cap by omega, show i ≤ i + 1 by omega, Tryz.sizeOf53, h3, h4, add_lit]
    intro hcc
    exact absurd (hcc (by omega)) (by omega)
  · have h := (hr.drop i (by omega)).take 1
    rw [drop_cons' hx] at h
    exact h
theorem txt0 : txtB ⟨#[]⟩ = true := by decide +kernel
theorem restE_len (l : List El) (s : St) : (restE l s).length ≤ l.length := by
  unfold restE
  split
  · exact Nat.le_refl _
  · exact List.length_filter_le _ _
theorem exec_sl2 {ev : Operand → Value} {x y z : Operand} {T : TypeId} {w : World} {u a b v : Value} (hx : ev x = u) (hy : ev y = a) (hz : ev z = b) (h : (Instr.slice 22 u (some a) (some b) none).run Tryz.prog w = .ok v w) :
    (execOp ev { dst := none, op := .slice 22 x (some y) (some z) none, type := T, pos := "", after := #[], guard := none }).run Tryz.prog w = .ok (.value v) w := by
  have h2 : (Instr.sliceAt 22 u (some a) (some b) none).run Tryz.prog w = .ok v w := by simp [Instr.sliceAt, run_underlying Tryz.underlying22, h]
  simp [execOp, hx, hy, hz, h2, Result.andThen]
theorem exec_ne43 {ev' : Operand → Value} {x y : Operand} {T : TypeId} {w : World} {p q : St} {B : Bool} (hx : ev' x = svT p) (hy : ev' y = svT q) (hB : (!decide (p = q)) = B) : (execOp ev' { dst := none, op := .binOp .neq 43 x y 43, type := T, pos := "", after := #[], guard := none }).run Tryz.prog w = .ok (.value (.bool B)) w := by
  have h := fun W => run_ne43 p q W
  rw [hB] at h
  obtain ⟨g, r, l, n, i⟩ := p
  obtain ⟨g', r', l', n', i'⟩ := q
  unfold execOp
  simp only [hx, hy]
  dsimp only [svT, sv] at h ⊢
  go_simp
theorem exec_ne53 {ev' : Operand → Value} {x y : Operand} {T : TypeId} {w : World} {p q : El} {B : Bool} (hx : ev' x = ev p) (hy : ev' y = ev q) (hB : (!decide (p = q)) = B) : (execOp ev' { dst := none, op := .binOp .neq 53 x y 53, type := T, pos := "", after := #[], guard := none }).run Tryz.prog w = .ok (.value (.bool B)) w := by
  have h := fun W => run_ne77 p q W
  rw [hB] at h
  obtain ⟨⟨g, r, l, n, i⟩, t⟩ := p
  obtain ⟨⟨g', r', l', n', i'⟩, t'⟩ := q
  unfold execOp
  simp only [hx, hy]
  dsimp only [ev] at h ⊢
  go_simp
theorem atL_out {l : List Kv} {z : Int} (h : z < 0 ∨ z = (elsL l).length) : atL l z = (zE, false) := by
  unfold atL
  split
  · rename_i hm
    have : (elsL l)[z.toNat]? = none := by rw [List.getElem?_eq_none_iff]; omega
    rw [this]
  · rfl
theorem atL_in {l : List Kv} (hm : mayL l = true) {z : Int} {x : El} (h0 : 0 ≤ z) (hx : (elsL l)[z.toNat]? = some x) : atL l z = (x, true) := by
  unfold atL
  rw [if_pos ⟨hm, h0⟩, hx]
theorem sinceS {w : World} {t : Pm.T} {pm : Option Addr} (s : St) (hp : t.ptr = .pointer pm) : Calls Tryz.prog 105 #[.agg #[.pointer pm], svT s] w fun e w' => ∃ L Sb : Nat, e = .returned (.func (.func 162) #[] #[.pointer (some ⟨Sb, 0, none⟩), .pointer (some ⟨L, 0, none⟩)]) ∧ (w'.cell? ⟨L, 0, none⟩ = some (.pointer pm) ∧ L < w'.heap.size ∧ w'.heap[Sb]? = some (.cells #[.int .i64 s.1, .int .i64 s.2.1, .string s.2.2.1, .int .i64 s.2.2.2.1, .int .i64 s.2.2.2.2] 43 (0, 0))) ∧ Below w.heap.size w w' := by
  have := since105 t s w
  unfold Pm.mv at this
  rw [hp] at this
  refine this.mono fun e w' hh => ?_
  obtain ⟨he, hw⟩ := hh
  refine ⟨_, _, he, ?_, by rw [hw]; exact ((Below.refl _ w).alloc (Nat.le_refl _) _).alloc (by simp) _⟩
  rw [hw]
  exact ⟨(cell_of_row _ _ 0 _ 27 (0, 0) (new2 w _ _).1).trans rfl, (by simp; omega), (new2 w _ _).2⟩
set_option maxHeartbeats 16000000 in
set_option maxRecDepth 100000 in
theorem stands89 {w : World} {t : Pm.T} {pm : Option Addr} {ao : Option Addr} {c : Nat} {l : List El} (s : St) (h : Mg w t) (hp : t.ptr = .pointer pm) (hm : mayL t.list = true) (hl : l = elsL t.list) (hre : Re w ao l) (hcap : l.length ≤ c) (hss : s.2.2.1.size ≤ 9223372036854775807) : Calls Tryz.prog 89 #[.agg #[.pointer pm], .slice ao l.length c, svT s] w fun e w' => e = .returned (.bool true) ∧ Below w.heap.size w w' := by
  obtain ⟨g, r, lb, n, ix⟩ := s
  obtain ⟨w0, hw0⟩ : ∃ q, q = (w.alloc (.cells #[.pointer pm] 27)).alloc (.cells #[.int .i64 g, .int .i64 r, .string lb, .int .i64 n, .int .i64 ix] 43) := ⟨_, rfl⟩
  obtain ⟨m0, m1⟩ := new2 w (.cells #[.pointer pm] 27) (.cells #[.int .i64 g, .int .i64 r, .string lb, .int .i64 n, .int .i64 ix] 43)
  have b0 : Below w.heap.size w w0 := by rw [hw0]; exact ((Below.refl _ w).alloc (Nat.le_refl _) _).alloc (by simp) _
  rw [← hw0] at m0 m1
  obtain ⟨Mb, hMb⟩ : ∃ q, q = w.heap.size := ⟨_, rfl⟩
  obtain ⟨Sb, hSb⟩ : ∃ q, q = w.heap.size + 1 := ⟨_, rfl⟩
  rw [← hMb] at m0
  rw [← hSb] at m1
  have HC : Hid (∀ W, Below w0.heap.size w0 W → W.cell? ⟨Mb, 0, none⟩ = some (.pointer pm) ∧ W.heap[Sb]? = some (.cells #[.int .i64 g, .int .i64 r, .string lb, .int .i64 n, .int .i64 ix] 43 (0, 0)) ∧ Below w.heap.size w W) := hide (fun W hW => ⟨cell_stays ((cell_of_row _ _ 0 _ 27 (0, 0) m0).trans rfl) hW, (hW.block _ (gI m1).1).trans m1, b0.trans (hW.mono b0.size)⟩)
  have HW0 := hide (And.intro hw0 (And.intro hSb (And.intro hMb b0)))
  obtain ⟨N, hN⟩ : ∃ q, q = l.length := ⟨_, rfl⟩
  have hNb : N ≤ 400 := by rw [hN, hl]; exact Nat.le_trans (els_few t) h.few
  obtain ⟨TL, hTL⟩ : ∃ q, q = l.map Prod.snd := ⟨_, rfl⟩
  have hTN : TL.length = N := by rw [hTL, List.length_map, hN]
  have kE : ∀ W, Below w0.heap.size w0 W → Calls Tryz.prog 97 #[.agg #[.pointer pm]] W fun e w' => ∃ a1 c1, e = .returned (.tuple #[.slice a1 N c1, .int .i64 0]) ∧ Re w' a1 l ∧ Below W.heap.size W w' := fun W hW => by
    have := elementsJ (h.below (b0.trans (hW.mono b0.size))) hp
    rw [← hl, hm, if_pos rfl, ← hN] at this
    exact this.mono fun e w' ⟨x1, x2, h1, h2, h3⟩ => ⟨x1, x2, h1, h2.re, h3⟩
  have kT : ∀ W, Below w0.heap.size w0 W → Calls Tryz.prog 101 #[.agg #[.pointer pm]] W fun e w' => ∃ a1 c1, e = .returned (.tuple #[.slice a1 N c1, .int .i64 0]) ∧ Rs w' a1 TL ∧ Below W.heap.size W w' := fun W hW => by
    have := textsJ (h.below (b0.trans (hW.mono b0.size))) hp
    rw [← hl, hm, if_pos rfl, ← hTL, hTN] at this
    exact this.mono fun e w' ⟨x1, x2, h1, h2, h3⟩ => ⟨x1, x2, h1, h2.rs, h3⟩
  have kS : ∀ W a1 c1, Below w0.heap.size w0 W → Re W a1 l → Calls Tryz.prog 39 #[.slice a1 N c1, .slice ao N c] W fun e w' => e = .returned (.bool true) ∧ Below W.heap.size W w' := fun W a1 c1 hW hr => by
    have := sameEls_any (c := c1) (d := c) hr (hre.below (b0.trans (hW.mono b0.size))) (by omega) (by omega)
    rw [decide_eq_true rfl, ← hN] at this
    exact this.mono (fun e w' ⟨he, n, hn⟩ => ⟨he, by rw [hn]; exact below_drew _ _⟩)
  have kX : ∀ W, Below w0.heap.size w0 W → Calls Tryz.prog 156 #[.slice ao N c] W fun e w' => ∃ a1 c1, e = .returned (.slice a1 N c1) ∧ Rs w' a1 TL ∧ Below W.heap.size W w' := fun W hW => by
    have := jtexts82 (c := c) l (hre.below (b0.trans (hW.mono b0.size))) (by omega)
    rw [← hTL, ← hN] at this
    refine this.mono fun e w' hh => ?_
    obtain ⟨v, he, ho, hb⟩ := hh
    obtain ⟨a', c', hv, -⟩ := row_form ho
    rw [hTN] at hv
    subst hv
    exact ⟨a', c', he, ho.rs, hb⟩
  have kU : ∀ W a1 c1 a2 c2, Rs W a1 TL → Rs W a2 TL → Calls Tryz.prog 108 #[.slice a1 N c1, .slice a2 N c2] W fun e w' => e = .returned (.bool true) ∧ Below W.heap.size W w' := fun W a1 c1 a2 c2 h1 h2 => by
    have := sameTexts_any (c := c1) (d := c2) h1 h2 (by omega) (by omega)
    rw [decide_eq_true rfl, hTN] at this
    exact this.mono (fun e w' ⟨he, n, hn⟩ => ⟨he, by rw [hn]; exact below_drew _ _⟩)
  have kM : ∀ W, Below w0.heap.size w0 W → Calls Tryz.prog 100 #[.agg #[.pointer pm]] W fun e w' => e = .returned (.bool true) ∧ Below W.heap.size W w' := fun W hW => by
    have := jmayP h hp W (b0.trans (hW.mono b0.size))
    rw [hm] at this
    exact this
  have kZ : ∀ W, Calls Tryz.prog 105 #[.agg #[.pointer pm], .agg #[.int .i64 0, .int .i64 0, .string ⟨#[]⟩, .int .i64 0, .int .i64 0]] W fun e w' => ∃ L Tb : Nat, e = .returned (.func (.func 162) #[] #[.pointer (some ⟨Tb, 0, none⟩), .pointer (some ⟨L, 0, none⟩)]) ∧ (w'.cell? ⟨L, 0, none⟩ = some (.pointer pm) ∧ L < w'.heap.size ∧ w'.heap[Tb]? = some (.cells #[.int .i64 0, .int .i64 0, .string ⟨#[]⟩, .int .i64 0, .int .i64 0] 43 (0, 0))) ∧ Below W.heap.size W w' := fun W => sinceS (w := W) zS hp
  have kN : ∀ W, Calls Tryz.prog 105 #[.agg #[.pointer pm], .agg #[.int .i64 g, .int .i64 r, .string lb, .int .i64 n, .int .i64 ix]] W fun e w' => ∃ L Tb : Nat, e = .returned (.func (.func 162) #[] #[.pointer (some ⟨Tb, 0, none⟩), .pointer (some ⟨L, 0, none⟩)]) ∧ (w'.cell? ⟨L, 0, none⟩ = some (.pointer pm) ∧ L < w'.heap.size ∧ w'.heap[Tb]? = some (.cells #[.int .i64 g, .int .i64 r, .string lb, .int .i64 n, .int .i64 ix] 43 (0, 0))) ∧ Below W.heap.size W w' := fun W => sinceS (w := W) (g, r, lb, n, ix) hp
  have kG : ∀ W L Tb lv, Below w0.heap.size w0 W → W.cell? ⟨L, 0, none⟩ = some (.pointer pm) → L < W.heap.size → W.heap[Tb]? = some (.cells #[.int .i64 0, .int .i64 0, .string ⟨#[]⟩, .int .i64 0, .int .i64 0] 43 (0, 0)) → Calls Tryz.prog 104 #[.func (.func 162) #[] #[.pointer (some ⟨Tb, 0, none⟩), .pointer (some ⟨L, 0, none⟩)], .slice ao N c, .int .i64 lv] W fun e w' => e = .returned (.bool true) ∧ Below W.heap.size W w' := fun W L Tb lv hW h1 h2 h3 => by
    have := jgoes_all (c := c) (lv := lv) (sT := zS) (xs := l) (h.below (b0.trans (hW.mono b0.size))) (by rw [sinL_zero]; exact hl) (by omega) (by rw [hp]; exact h1) h2 h3 (hre.below (b0.trans (hW.mono b0.size)))
    rw [← hN] at this
    exact this
  obtain ⟨RL, hRL⟩ : ∃ q, q = restE l (g, r, lb, n, ix) := ⟨_, rfl⟩
  have hRs : RL = sinL t.list (g, r, lb, n, ix) := by rw [hRL, hl]; exact (sin_rest hm h.srt _).symm
  have hRb : RL.length ≤ 400 := by rw [hRL]; have := restE_len l (g, r, lb, n, ix); omega
  have kF : ∀ W L Tb a1 c1, Below w0.heap.size w0 W → W.cell? ⟨L, 0, none⟩ = some (.pointer pm) → L < W.heap.size → W.heap[Tb]? = some (.cells #[.int .i64 g, .int .i64 r, .string lb, .int .i64 n, .int .i64 ix] 43 (0, 0)) → Re W a1 RL → Calls Tryz.prog 104 #[.func (.func 162) #[] #[.pointer (some ⟨Tb, 0, none⟩), .pointer (some ⟨L, 0, none⟩)], .slice a1 RL.length c1, .int .i64 0] W fun e w' => e = .returned (.bool true) ∧ Below W.heap.size W w' := fun W L Tb a1 c1 hW h1 h2 h3 h4 =>
    jgoes_all (sT := (g, r, lb, n, ix)) (xs := RL) (h.below (b0.trans (hW.mono b0.size))) hRs (by omega) (by rw [hp]; exact h1) h2 h3 h4
  have kAt : ∀ (z : Int) W, Below w0.heap.size w0 W → -1 ≤ z → z ≤ 1000 → Calls Tryz.prog 103 #[.agg #[.pointer pm], .int .i64 z] W fun e w' => e = .returned (.tuple #[ev (atL t.list z).1, .bool (atL t.list z).2]) ∧ Below W.heap.size W w' := fun z W hW h1 h2 => jAt_any z (h.below (b0.trans (hW.mono b0.size))) hp (by omega) (by omega)
  have kV : ∀ W, Calls Tryz.prog 91 #[.agg #[.int .i64 g, .int .i64 r, .string lb, .int .i64 n, .int .i64 ix], .string ⟨#[]⟩] W fun e w' => e = .returned (.bool (stV (g, r, lb, n, ix))) ∧ Below W.heap.size W w' := fun W => (jfits39 (g, r, lb, n, ix) ⟨#[]⟩ W hss).mono fun e w' hh => ⟨by rw [hh.1, txt0, Bool.and_true], hh.2⟩
  have kB : ∀ (x : El) W a1 c1, x ∈ l → Re W a1 [x] → Calls Tryz.prog 92 #[.slice a1 1 c1, .agg #[.int .i64 g, .int .i64 r, .string lb, .int .i64 n, .int .i64 ix]] W fun e w' => e = .returned (.bool (decide (cmpT x.1 (g, r, lb, n, ix) = -1))) ∧ Below W.heap.size W w' := fun x W a1 c1 hx hr => by
    have := behind14 (c := c1) [x] (g, r, lb, n, ix) hr (by simp) (fun y hy => by rw [List.mem_singleton.1 hy]; exact okEl_size (els_ok hm x (by rw [← hl]; exact hx)))
    exact this
  have hAo : ∀ (z : Int), z < 0 ∨ z = N → atL t.list z = (zE, false) := fun z hz => atL_out (by rw [← hl, ← hN]; exact hz)
  have hAi : ∀ (z : Int) (x : El), 0 ≤ z → l[z.toNat]? = some x → atL t.list z = (x, true) := fun z x h0 hx => atL_in hm h0 (by rw [← hl]; exact hx)
  have HF := hide (And.intro hRL (And.intro hN (And.intro hre (And.intro hcap (And.intro hAo hAi)))))
  rw [← hN]
  generalize hAT : atL t.list = AT at *
  clear h hp hm hl hre hcap m0 m1 hw0 hMb hSb b0 hTL hTN hRs hss hRL hN hAo hAi hAT
  obtain ⟨c0, -, -⟩ := HC.out w0 (Below.refl _ _)
  dsimp only [svT, sv]
  go_enter Tryz.func89, Tryz.ntmps89
  go_upto_region 1 with fail
  rw [← HW0.out.1, ← HW0.out.2.1, ← HW0.out.2.2.1]
  go_upto_region 3 with (first
    | (go_at_call 101; refine (kT _ H1.out.2).mono ?_; rintro e w2 ⟨a2, c2, rfl, r2, b2⟩; have H2 := hide (And.intro (H1.out.1.below b2) (And.intro r2 (H1.out.2.trans (b2.mono H1.out.2.size)))); clear r2 b2; dsimp only)
    | (go_at_call 97; refine (kE _ (Below.refl _ _)).mono ?_; rintro e w1 ⟨a1, c1, rfl, r1, b1⟩; have H1 := hide (And.intro r1 b1); obtain ⟨c0, -, -⟩ := HC.out w1 b1; clear r1 b1; dsimp only))
  obtain ⟨cM, -, -⟩ := HC.out w2 H2.out.2.2
  have tk : True := trivial
  have tk2 : True := trivial
  go_upto_region 5 with (first
    | (go_at_call 87; refine (jnum35 _ _).mono ?_; rintro e wz ⟨rfl, rfl⟩; dsimp only)
    | (go_at_call 39; refine (kS _ _ _ H2.out.2.2 H2.out.1).mono ?_; rintro e w3 ⟨rfl, b3⟩; have H3 := hide (And.intro (H2.out.2.1.below b3) (H2.out.2.2.trans (b3.mono H2.out.2.2.size))); clear b3; dsimp only)
    | (go_at_call 156; refine (kX _ H3.out.2).mono ?_; rintro e w4 ⟨a4, c4, rfl, r4, b4⟩; have H4 := hide (And.intro (H3.out.1.below b4) (And.intro r4 (H3.out.2.trans (b4.mono H3.out.2.size)))); clear r4 b4; dsimp only)
    | (go_at_call 108; refine (kU _ _ _ _ _ H4.out.1 H4.out.2.1).mono ?_; rintro e w5 ⟨rfl, b5⟩; have H5 := hide (H4.out.2.2.trans (b5.mono H4.out.2.2.size)); obtain ⟨cM, -, -⟩ := HC.out w5 H5.out; clear b5; dsimp only)
    | (go_at_call 100; refine (kM _ H5.out).mono ?_; rintro e w6 ⟨rfl, b6⟩; have H6 := hide (H5.out.trans (b6.mono H5.out.size)); obtain ⟨cM, -, -⟩ := HC.out w6 H6.out; clear b6; dsimp only)
    | (go_at_call 105; clear tk; refine (kZ _).mono ?_; rintro e w7 ⟨L7, T7, rfl, hf7, b7⟩; have H7 := hide (And.intro hf7 (H6.out.trans (b7.mono H6.out.size))); clear hf7 b7; dsimp only)
    | (go_at_call 104; clear tk2; refine (kG _ _ _ _ H7.out.2 H7.out.1.1 H7.out.1.2.1 H7.out.1.2.2).mono ?_; rintro e w8 ⟨rfl, b8⟩; have H8 := hide (H7.out.2.trans (b8.mono H7.out.2.size)); obtain ⟨cM, -, -⟩ := HC.out w8 H8.out; clear b8; dsimp only)
    | (go_at_call 105; refine (kZ _).mono ?_; rintro e w9 ⟨L9, T9, rfl, hf9, b9⟩; have H9 := hide (And.intro hf9 (H8.out.trans (b9.mono H8.out.size))); clear hf9 b9; dsimp only)
    | (go_at_call 104; refine (kG _ _ _ _ H9.out.2 H9.out.1.1 H9.out.1.2.1 H9.out.1.2.2).mono ?_; rintro e w10 ⟨rfl, b10⟩; have H10 := hide (H9.out.2.trans (b10.mono H9.out.2.size)); clear b10; dsimp only))
  clear kE kT kS kX kU kM kZ kG cM H2 H3 H4 H5 H6 H7 H8 H9
  go_wp2
  obtain ⟨V, hV⟩ : ∃ q, q = stV (g, r, lb, n, ix) := ⟨_, rfl⟩
  rw [← hV] at kV
  have HV := hide hV
  clear hV
  go_loopw [11, 12] (fun v11 v12 wr => ∃ (i : Nat) (p : List El) (a5 : Option Addr) (c5 : Nat), i ≤ N ∧ p.length ≤ i ∧ v11 = .slice a5 p.length c5 ∧ v12 = .int .i64 (i : Nat) ∧ Hid (p = ((l.take i).filter fun x => stV (g, r, lb, n, ix) && (!decide (cmpT x.1 (g, r, lb, n, ix) = -1) && !decide (x.1 = (g, r, lb, n, ix)))) ∧ (a5 = none → c5 = 0) ∧ Below w10.heap.size w10 wr ∧ Oe wr w10.heap.size (.slice a5 p.length c5) p)) (fun _ v12 _ => N - (intOf v12).toNat)
  case atStart => exact ⟨0, [], none, 0, Nat.zero_le _, Nat.le_refl _, rfl, rfl, hide ⟨rfl, fun _ => rfl, Below.refl _ _, Oe.nil _ _⟩⟩
  case round =>
    obtain ⟨i, p, a5, c5, hi, hpl, rfl, rfl, HI⟩ := hrel
    by_cases h1 : i < N
    · have z1 : (i : Int) < (N : Int) := by omega
      have d1 : decide (i < N) = true := by simpa using h1
      obtain ⟨x, hx⟩ : ∃ x, l[i]? = some x := ⟨_, List.getElem?_eq_getElem (by rw [← HF.out.2.1]; exact h1)⟩
      have bw := H10.out.trans (HI.out.2.2.1.mono H10.out.size)
      obtain ⟨-, sB, bww⟩ := HC.out wr bw
      have hrr := HF.out.2.2.1.below bww
      obtain ⟨b, off, hao, x0, x1, x2, x3, x4, x5⟩ := hrr.cells hx
      have hfil : ((l.take (i + 1)).filter fun x => stV (g, r, lb, n, ix) && (!decide (cmpT x.1 (g, r, lb, n, ix) = -1) && !decide (x.1 = (g, r, lb, n, ix)))) = p ++ (if (V && (!decide (cmpT x.1 (g, r, lb, n, ix) = -1) && !decide (x.1 = (g, r, lb, n, ix)))) = true then [x] else []) := by
        rw [List.take_add_one, hx, List.filter_append, ← HI.out.1, HV.out]
        congr 1
        simp [List.filter_cons]
      have kB1 := fun W a1 c1 => kB x W a1 c1 (List.mem_of_getElem? hx)
      have hAO := hao
      rw [hao] at hrr
      obtain ⟨hsl, hr1⟩ := slice_one hrr hx HF.out.2.2.2.1
      rw [← HF.out.2.1] at hsl
      subst hao
      have hsB : wr.cell? ⟨Sb, 0, none⟩ = some (.int .i64 g) ∧ wr.cell? ⟨Sb, 1, none⟩ = some (.int .i64 r) ∧ wr.cell? ⟨Sb, 2, none⟩ = some (.string lb) ∧ wr.cell? ⟨Sb, 3, none⟩ = some (.int .i64 n) ∧ wr.cell? ⟨Sb, 4, none⟩ = some (.int .i64 ix) := ⟨(cell_of_row _ _ 0 _ 43 (0, 0) sB).trans rfl, (cell_of_row _ _ 1 _ 43 (0, 0) sB).trans rfl, (cell_of_row _ _ 2 _ 43 (0, 0) sB).trans rfl, (cell_of_row _ _ 3 _ 43 (0, 0) sB).trans rfl, (cell_of_row _ _ 4 _ 43 (0, 0) sB).trans rfl⟩
      obtain ⟨s0, s1, s2, s3, s4⟩ := hsB
      have HFL := hide hfil
      have HR1 := hide hr1
      have H0 := hide (And.intro HI.out.2.2.1 HI.out.2.2.2)
      obtain ⟨BH, hBH⟩ : ∃ q, q = decide (cmpT x.1 (g, r, lb, n, ix) = -1) := ⟨_, rfl⟩
      obtain ⟨EQ, hEQ⟩ : ∃ q, q = decide (x.1 = (g, r, lb, n, ix)) := ⟨_, rfl⟩
      rw [← hBH] at HFL kB1
      rw [← hEQ] at HFL
      have hne : (!decide (x.1 = (g, r, lb, n, ix))) = !EQ := by rw [hEQ]
      clear hfil hr1 hrr bw bww sB hx hBH hEQ kB
      obtain ⟨⟨g1, r1, l1, n1, i1⟩, t1⟩ := x
      dsimp only at x0 x1 x2 x3 x4 x5 hne
      cases V with
      | false =>
        go_upto_region 9 with fail
        refine wp_region_held_drew (S := fun w' => w'.cell? ⟨Sb, 0, none⟩ = some (.int .i64 g) ∧ w'.cell? ⟨Sb, 1, none⟩ = some (.int .i64 r) ∧ w'.cell? ⟨Sb, 2, none⟩ = some (.string lb) ∧ w'.cell? ⟨Sb, 3, none⟩ = some (.int .i64 n) ∧ w'.cell? ⟨Sb, 4, none⟩ = some (.int .i64 ix) ∧ w'.cell? ⟨b, off + i * 6, none⟩ = some (.int .i64 g1) ∧ w'.cell? ⟨b, off + i * 6 + 1, none⟩ = some (.int .i64 r1) ∧ w'.cell? ⟨b, off + i * 6 + 2, none⟩ = some (.string l1) ∧ w'.cell? ⟨b, off + i * 6 + 3, none⟩ = some (.int .i64 n1) ∧ w'.cell? ⟨b, off + i * 6 + 4, none⟩ = some (.int .i64 i1) ∧ w'.cell? ⟨b, off + i * 6 + 5, none⟩ = some (.string t1) ∧ Below wr.heap.size wr w') (by kernel_rfl) (by exact ⟨s0, s1, s2, s3, s4, x0, x1, x2, x3, x4, x5, drew_below wr⟩) (fun hHeld => ?_)
        try dsimp only at hHeld
        refine take_op (i := 0) (d := 72) (OP := Op.load 43 (Operand.tmp 5)) (T := 43) (v := ?v1) rfl rfl rfl rfl (by kernel_rfl) (by kernel_rfl) (by kernel_rfl) (fun _ _ _ h => h) (by rfl) ?h1 hHeld ?r1
        case h1 => (intro w' hSw; (try dsimp only at hSw); go_simp <;> with_reducible rfl)
        try simp only [Act.put, sI, sZ, sS]
        refine call_op (i := 1) (d := 73) (OP := Op.call { callee := Callee.value (Operand.func 91), args := #[Operand.tmp 72, Operand.const (Value.string { data := #[] })], argTypes := #[43, 9] }) (T := 4) (f := 91) (args := #[.agg #[.int .i64 g, .int .i64 r, .string lb, .int .i64 n, .int .i64 ix], .string ⟨#[]⟩]) rfl rfl rfl rfl (by kernel_rfl) (by rfl) (by go_simp) ?_
        refine (kV _).mono ?_
        rintro e z1 ⟨rfl, bz1⟩
        have qz1 : z1.cell? ⟨Sb, 0, none⟩ = some (.int .i64 g) ∧ z1.cell? ⟨Sb, 1, none⟩ = some (.int .i64 r) ∧ z1.cell? ⟨Sb, 2, none⟩ = some (.string lb) ∧ z1.cell? ⟨Sb, 3, none⟩ = some (.int .i64 n) ∧ z1.cell? ⟨Sb, 4, none⟩ = some (.int .i64 ix) ∧ z1.cell? ⟨b, off + i * 6, none⟩ = some (.int .i64 g1) ∧ z1.cell? ⟨b, off + i * 6 + 1, none⟩ = some (.int .i64 r1) ∧ z1.cell? ⟨b, off + i * 6 + 2, none⟩ = some (.string l1) ∧ z1.cell? ⟨b, off + i * 6 + 3, none⟩ = some (.int .i64 n1) ∧ z1.cell? ⟨b, off + i * 6 + 4, none⟩ = some (.int .i64 i1) ∧ z1.cell? ⟨b, off + i * 6 + 5, none⟩ = some (.string t1) ∧ Below wr.heap.size wr z1 := ⟨cell_stays hHeld.1 bz1, cell_stays hHeld.2.1 bz1, cell_stays hHeld.2.2.1 bz1, cell_stays hHeld.2.2.2.1 bz1, cell_stays hHeld.2.2.2.2.1 bz1, cell_stays hHeld.2.2.2.2.2.1 bz1, cell_stays hHeld.2.2.2.2.2.2.1 bz1, cell_stays hHeld.2.2.2.2.2.2.2.1 bz1, cell_stays hHeld.2.2.2.2.2.2.2.2.1 bz1, cell_stays hHeld.2.2.2.2.2.2.2.2.2.1 bz1, cell_stays hHeld.2.2.2.2.2.2.2.2.2.2.1 bz1, (hHeld.2.2.2.2.2.2.2.2.2.2.2).trans (bz1.mono (hHeld.2.2.2.2.2.2.2.2.2.2.2).size)⟩
        refine ⟨_, rfl, qz1, ?_⟩
        replace hHeld := qz1
        clear qz1 bz1
        try simp only [Act.put, sI, sZ, sS]
        refine take_op (i := 2) (d := 74) (OP := Op.move (Operand.tmp 73)) (T := 4) (v := ?v2) rfl rfl rfl rfl (by kernel_rfl) (by kernel_rfl) (by kernel_rfl) (fun _ _ _ h => h) (by rfl) ?h2 hHeld ?r2
        case h2 => (intro w' hSw; (try dsimp only at hSw); go_simp <;> with_reducible rfl)
        try simp only [Act.put, sI, sZ, sS]
        refine pass_op (i := 3) (d := 75) rfl rfl (by kernel_rfl) (by kernel_rfl) (by kernel_rfl) (fun _ _ _ h => h) (by rfl) hHeld ?_
        try simp only [Act.put, sI, sZ, sS]
        refine pass_op (i := 4) (d := 76) rfl rfl (by kernel_rfl) (by kernel_rfl) (by kernel_rfl) (fun _ _ _ h => h) (by rfl) hHeld ?_
        try simp only [Act.put, sI, sZ, sS]
        refine pass_op (i := 5) (d := 77) rfl rfl (by kernel_rfl) (by kernel_rfl) (by kernel_rfl) (fun _ _ _ h => h) (by rfl) hHeld ?_
        try simp only [Act.put, sI, sZ, sS]
        refine pass_op (i := 6) (d := 78) rfl rfl (by kernel_rfl) (by kernel_rfl) (by kernel_rfl) (fun _ _ _ h => h) (by rfl) hHeld ?_
        try simp only [Act.put, sI, sZ, sS]
        refine pass_op (i := 7) (d := 79) rfl rfl (by kernel_rfl) (by kernel_rfl) (by kernel_rfl) (fun _ _ _ h => h) (by rfl) hHeld ?_
        try simp only [Act.put, sI, sZ, sS]
        refine pass_op (i := 8) (d := 80) rfl rfl (by kernel_rfl) (by kernel_rfl) (by kernel_rfl) (fun _ _ _ h => h) (by rfl) hHeld ?_
        try simp only [Act.put, sI, sZ, sS]
        refine pass_op (i := 9) (d := 81) rfl rfl (by kernel_rfl) (by kernel_rfl) (by kernel_rfl) (fun _ _ _ h => h) (by rfl) hHeld ?_
        try simp only [Act.put, sI, sZ, sS]
        refine pass_op (i := 10) (d := 82) rfl rfl (by kernel_rfl) (by kernel_rfl) (by kernel_rfl) (fun _ _ _ h => h) (by rfl) hHeld ?_
        try simp only [Act.put, sI, sZ, sS]
        refine take_op (i := 11) (d := 83) (OP := Op.pick (Operand.tmp 74) (Operand.tmp 82) (Operand.const (Value.bool false))) (T := 4) (v := ?v3) rfl rfl rfl rfl (by kernel_rfl) (by kernel_rfl) (by kernel_rfl) (fun _ _ _ h => h) (by rfl) ?h3 hHeld ?r3
        case h3 => (intro w' hSw; (try dsimp only at hSw); go_simp <;> with_reducible rfl)
        try simp only [Act.put, sI, sZ, sS]
        refine take_op (i := 12) (d := 84) (OP := Op.move (Operand.tmp 83)) (T := 4) (v := ?v4) rfl rfl rfl rfl (by kernel_rfl) (by kernel_rfl) (by kernel_rfl) (fun _ _ _ h => h) (by rfl) ?h4 hHeld ?r4
        case h4 => (intro w' hSw; (try dsimp only at hSw); go_simp <;> with_reducible rfl)
        try simp only [Act.put, sI, sZ, sS]
        refine pass_op (i := 13) (d := 85) rfl rfl (by kernel_rfl) (by kernel_rfl) (by kernel_rfl) (fun _ _ _ h => h) (by rfl) hHeld ?_
        try simp only [Act.put, sI, sZ, sS]
        refine pass_op (i := 14) (d := 86) rfl rfl (by kernel_rfl) (by kernel_rfl) (by kernel_rfl) (fun _ _ _ h => h) (by rfl) hHeld ?_
        try simp only [Act.put, sI, sZ, sS]
        refine pass_op (i := 15) (d := 87) rfl rfl (by kernel_rfl) (by kernel_rfl) (by kernel_rfl) (fun _ _ _ h => h) (by rfl) hHeld ?_
        try simp only [Act.put, sI, sZ, sS]
        refine pass_op (i := 16) (d := 88) rfl rfl (by kernel_rfl) (by kernel_rfl) (by kernel_rfl) (fun _ _ _ h => h) (by rfl) hHeld ?_
        try simp only [Act.put, sI, sZ, sS]
        refine pass_op (i := 17) (d := 89) rfl rfl (by kernel_rfl) (by kernel_rfl) (by kernel_rfl) (fun _ _ _ h => h) (by rfl) hHeld ?_
        try simp only [Act.put, sI, sZ, sS]
        refine pass_op (i := 18) (d := 90) rfl rfl (by kernel_rfl) (by kernel_rfl) (by kernel_rfl) (fun _ _ _ h => h) (by rfl) hHeld ?_
        try simp only [Act.put, sI, sZ, sS]
        refine pass_op (i := 19) (d := 91) rfl rfl (by kernel_rfl) (by kernel_rfl) (by kernel_rfl) (fun _ _ _ h => h) (by rfl) hHeld ?_
        try simp only [Act.put, sI, sZ, sS]
        refine take_op (i := 20) (d := 92) (OP := Op.pick (Operand.tmp 84) (Operand.tmp 91) (Operand.const (Value.bool false))) (T := 4) (v := ?v5) rfl rfl rfl rfl (by kernel_rfl) (by kernel_rfl) (by kernel_rfl) (fun _ _ _ h => h) (by rfl) ?h5 hHeld ?r5
        case h5 => (intro w' hSw; (try dsimp only at hSw); go_simp <;> with_reducible rfl)
        try simp only [Act.put, sI, sZ, sS]
        refine wpAnyH_done (by kernel_rfl) ?_ _
        have HE := hide hHeld.2.2.2.2.2.2.2.2.2.2.2
        obtain ⟨-, -, -, -, -, x0, x1, x2, x3, x4, x5, -⟩ := hHeld
        skip
        clear x0 x1 x2 x3 x4 x5 s0 s1 s2 s3 s4 hsl hne kB1 kV kF kAt
        go_wp2
        go_roundw
        case rel => exact ⟨i + 1, p, a5, c5, by omega, by omega, rfl, by go_num, hide ⟨by rw [HFL.out]; simp, HI.out.2.1, HI.out.2.2.1.trans (HE.out.mono HI.out.2.2.1.size), HI.out.2.2.2.below HE.out⟩⟩
        case measure => simp [intOf]; omega
      | true =>
        cases BH with
        | true =>
          go_upto_region 9 with fail
          refine wp_region_held_drew (S := fun w' => w'.cell? ⟨Sb, 0, none⟩ = some (.int .i64 g) ∧ w'.cell? ⟨Sb, 1, none⟩ = some (.int .i64 r) ∧ w'.cell? ⟨Sb, 2, none⟩ = some (.string lb) ∧ w'.cell? ⟨Sb, 3, none⟩ = some (.int .i64 n) ∧ w'.cell? ⟨Sb, 4, none⟩ = some (.int .i64 ix) ∧ w'.cell? ⟨b, off + i * 6, none⟩ = some (.int .i64 g1) ∧ w'.cell? ⟨b, off + i * 6 + 1, none⟩ = some (.int .i64 r1) ∧ w'.cell? ⟨b, off + i * 6 + 2, none⟩ = some (.string l1) ∧ w'.cell? ⟨b, off + i * 6 + 3, none⟩ = some (.int .i64 n1) ∧ w'.cell? ⟨b, off + i * 6 + 4, none⟩ = some (.int .i64 i1) ∧ w'.cell? ⟨b, off + i * 6 + 5, none⟩ = some (.string t1) ∧ Below wr.heap.size wr w') (by kernel_rfl) (by exact ⟨s0, s1, s2, s3, s4, x0, x1, x2, x3, x4, x5, drew_below wr⟩) (fun hHeld => ?_)
          try dsimp only at hHeld
          refine take_op (i := 0) (d := 72) (OP := Op.load 43 (Operand.tmp 5)) (T := 43) (v := ?v6) rfl rfl rfl rfl (by kernel_rfl) (by kernel_rfl) (by kernel_rfl) (fun _ _ _ h => h) (by rfl) ?h6 hHeld ?r6
          case h6 => (intro w' hSw; (try dsimp only at hSw); go_simp <;> with_reducible rfl)
          try simp only [Act.put, sI, sZ, sS]
          refine call_op (i := 1) (d := 73) (OP := Op.call { callee := Callee.value (Operand.func 91), args := #[Operand.tmp 72, Operand.const (Value.string { data := #[] })], argTypes := #[43, 9] }) (T := 4) (f := 91) (args := #[.agg #[.int .i64 g, .int .i64 r, .string lb, .int .i64 n, .int .i64 ix], .string ⟨#[]⟩]) rfl rfl rfl rfl (by kernel_rfl) (by rfl) (by go_simp) ?_
          refine (kV _).mono ?_
          rintro e z1 ⟨rfl, bz1⟩
          have qz1 : z1.cell? ⟨Sb, 0, none⟩ = some (.int .i64 g) ∧ z1.cell? ⟨Sb, 1, none⟩ = some (.int .i64 r) ∧ z1.cell? ⟨Sb, 2, none⟩ = some (.string lb) ∧ z1.cell? ⟨Sb, 3, none⟩ = some (.int .i64 n) ∧ z1.cell? ⟨Sb, 4, none⟩ = some (.int .i64 ix) ∧ z1.cell? ⟨b, off + i * 6, none⟩ = some (.int .i64 g1) ∧ z1.cell? ⟨b, off + i * 6 + 1, none⟩ = some (.int .i64 r1) ∧ z1.cell? ⟨b, off + i * 6 + 2, none⟩ = some (.string l1) ∧ z1.cell? ⟨b, off + i * 6 + 3, none⟩ = some (.int .i64 n1) ∧ z1.cell? ⟨b, off + i * 6 + 4, none⟩ = some (.int .i64 i1) ∧ z1.cell? ⟨b, off + i * 6 + 5, none⟩ = some (.string t1) ∧ Below wr.heap.size wr z1 := ⟨cell_stays hHeld.1 bz1, cell_stays hHeld.2.1 bz1, cell_stays hHeld.2.2.1 bz1, cell_stays hHeld.2.2.2.1 bz1, cell_stays hHeld.2.2.2.2.1 bz1, cell_stays hHeld.2.2.2.2.2.1 bz1, cell_stays hHeld.2.2.2.2.2.2.1 bz1, cell_stays hHeld.2.2.2.2.2.2.2.1 bz1, cell_stays hHeld.2.2.2.2.2.2.2.2.1 bz1, cell_stays hHeld.2.2.2.2.2.2.2.2.2.1 bz1, cell_stays hHeld.2.2.2.2.2.2.2.2.2.2.1 bz1, (hHeld.2.2.2.2.2.2.2.2.2.2.2).trans (bz1.mono (hHeld.2.2.2.2.2.2.2.2.2.2.2).size)⟩
          refine ⟨_, rfl, qz1, ?_⟩
          replace hHeld := qz1
          clear qz1 bz1
          try simp only [Act.put, sI, sZ, sS]
          refine take_op (i := 2) (d := 74) (OP := Op.move (Operand.tmp 73)) (T := 4) (v := ?v7) rfl rfl rfl rfl (by kernel_rfl) (by kernel_rfl) (by kernel_rfl) (fun _ _ _ h => h) (by rfl) ?h7 hHeld ?r7
          case h7 => (intro w' hSw; (try dsimp only at hSw); go_simp <;> with_reducible rfl)
          try simp only [Act.put, sI, sZ, sS]
          refine take_op (i := 3) (d := 75) (OP := Op.move (Operand.tmp 1)) (T := 22) (v := ?v8) rfl rfl rfl rfl (by kernel_rfl) (by kernel_rfl) (by kernel_rfl) (fun _ _ _ h => h) (by rfl) ?h8 hHeld ?r8
          case h8 => (intro w' hSw; (try dsimp only at hSw); go_simp <;> with_reducible rfl)
          try simp only [Act.put, sI, sZ, sS]
          refine take_op (i := 4) (d := 76) (OP := Op.move (Operand.tmp 12)) (T := 3) (v := ?v9) rfl rfl rfl rfl (by kernel_rfl) (by kernel_rfl) (by kernel_rfl) (fun _ _ _ h => h) (by rfl) ?h9 hHeld ?r9
          case h9 => (intro w' hSw; (try dsimp only at hSw); go_simp <;> with_reducible rfl)
          try simp only [Act.put, sI, sZ, sS]
          refine take_op (i := 5) (d := 77) (OP := Op.move (Operand.tmp 12)) (T := 3) (v := ?v10) rfl rfl rfl rfl (by kernel_rfl) (by kernel_rfl) (by kernel_rfl) (fun _ _ _ h => h) (by rfl) ?h10 hHeld ?r10
          case h10 => (intro w' hSw; (try dsimp only at hSw); go_simp <;> with_reducible rfl)
          try simp only [Act.put, sI, sZ, sS]
          refine take_op (i := 6) (d := 78) (OP := Op.binOp BinOp.add 3 (Operand.tmp 77) (Operand.const (Value.int IntKind.i64 1)) 3) (T := 3) (v := .int .i64 ((i : Int) + 1)) rfl rfl rfl rfl (by kernel_rfl) (by kernel_rfl) (by kernel_rfl) (fun _ _ _ h => h) (by rfl) ?h11 hHeld ?r11
          case h11 => (intro w' hSw; (try dsimp only at hSw); go_simp <;> (rw [IntKind.wrap_i64]; omega))
          try simp only [Act.put, sI, sZ, sS]
          refine take_op (i := 7) (d := 79) (OP := Op.slice 22 (Operand.tmp 75) (some (Operand.tmp 76)) (some (Operand.tmp 78)) none) (T := 22) (v := .slice (some ⟨b, off + i * 6, none⟩) 1 (c - i)) rfl rfl rfl rfl (by kernel_rfl) (by kernel_rfl) (by kernel_rfl) (fun _ _ _ h => h) (by rfl) ?h12 hHeld ?r12
          case h12 => (intro w' hSw; exact exec_sl2 rfl rfl rfl (hsl w'))
          try simp only [Act.put, sI, sZ, sS]
          refine take_op (i := 8) (d := 80) (OP := Op.load 43 (Operand.tmp 5)) (T := 43) (v := ?v13) rfl rfl rfl rfl (by kernel_rfl) (by kernel_rfl) (by kernel_rfl) (fun _ _ _ h => h) (by rfl) ?h13 hHeld ?r13
          case h13 => (intro w' hSw; (try dsimp only at hSw); go_simp <;> with_reducible rfl)
          try simp only [Act.put, sI, sZ, sS]
          refine call_op (i := 9) (d := 81) (OP := Op.call { callee := Callee.value (Operand.func 92), args := #[Operand.tmp 79, Operand.tmp 80], argTypes := #[22, 43] }) (T := 4) (f := 92) (args := #[.slice (some ⟨b, off + i * 6, none⟩) 1 (c - i), .agg #[.int .i64 g, .int .i64 r, .string lb, .int .i64 n, .int .i64 ix]]) rfl rfl rfl rfl (by kernel_rfl) (by rfl) (by go_simp) ?_
          refine (kB1 _ _ _ (HR1.out.below hHeld.2.2.2.2.2.2.2.2.2.2.2)).mono ?_
          rintro e z2 ⟨rfl, bz2⟩
          have qz2 : z2.cell? ⟨Sb, 0, none⟩ = some (.int .i64 g) ∧ z2.cell? ⟨Sb, 1, none⟩ = some (.int .i64 r) ∧ z2.cell? ⟨Sb, 2, none⟩ = some (.string lb) ∧ z2.cell? ⟨Sb, 3, none⟩ = some (.int .i64 n) ∧ z2.cell? ⟨Sb, 4, none⟩ = some (.int .i64 ix) ∧ z2.cell? ⟨b, off + i * 6, none⟩ = some (.int .i64 g1) ∧ z2.cell? ⟨b, off + i * 6 + 1, none⟩ = some (.int .i64 r1) ∧ z2.cell? ⟨b, off + i * 6 + 2, none⟩ = some (.string l1) ∧ z2.cell? ⟨b, off + i * 6 + 3, none⟩ = some (.int .i64 n1) ∧ z2.cell? ⟨b, off + i * 6 + 4, none⟩ = some (.int .i64 i1) ∧ z2.cell? ⟨b, off + i * 6 + 5, none⟩ = some (.string t1) ∧ Below wr.heap.size wr z2 := ⟨cell_stays hHeld.1 bz2, cell_stays hHeld.2.1 bz2, cell_stays hHeld.2.2.1 bz2, cell_stays hHeld.2.2.2.1 bz2, cell_stays hHeld.2.2.2.2.1 bz2, cell_stays hHeld.2.2.2.2.2.1 bz2, cell_stays hHeld.2.2.2.2.2.2.1 bz2, cell_stays hHeld.2.2.2.2.2.2.2.1 bz2, cell_stays hHeld.2.2.2.2.2.2.2.2.1 bz2, cell_stays hHeld.2.2.2.2.2.2.2.2.2.1 bz2, cell_stays hHeld.2.2.2.2.2.2.2.2.2.2.1 bz2, (hHeld.2.2.2.2.2.2.2.2.2.2.2).trans (bz2.mono (hHeld.2.2.2.2.2.2.2.2.2.2.2).size)⟩
          refine ⟨_, rfl, qz2, ?_⟩
          replace hHeld := qz2
          clear qz2 bz2
          try simp only [Act.put, sI, sZ, sS]
          refine take_op (i := 10) (d := 82) (OP := Op.unOp UnOp.not 4 (Operand.tmp 81)) (T := 4) (v := ?v14) rfl rfl rfl rfl (by kernel_rfl) (by kernel_rfl) (by kernel_rfl) (fun _ _ _ h => h) (by rfl) ?h14 hHeld ?r14
          case h14 => (intro w' hSw; (try dsimp only at hSw); go_simp <;> with_reducible rfl)
          try simp only [Act.put, sI, sZ, sS]
          refine take_op (i := 11) (d := 83) (OP := Op.pick (Operand.tmp 74) (Operand.tmp 82) (Operand.const (Value.bool false))) (T := 4) (v := ?v15) rfl rfl rfl rfl (by kernel_rfl) (by kernel_rfl) (by kernel_rfl) (fun _ _ _ h => h) (by rfl) ?h15 hHeld ?r15
          case h15 => (intro w' hSw; (try dsimp only at hSw); go_simp <;> with_reducible rfl)
          try simp only [Act.put, sI, sZ, sS]
          refine take_op (i := 12) (d := 84) (OP := Op.move (Operand.tmp 83)) (T := 4) (v := ?v16) rfl rfl rfl rfl (by kernel_rfl) (by kernel_rfl) (by kernel_rfl) (fun _ _ _ h => h) (by rfl) ?h16 hHeld ?r16
          case h16 => (intro w' hSw; (try dsimp only at hSw); go_simp <;> with_reducible rfl)
          try simp only [Act.put, sI, sZ, sS]
          refine pass_op (i := 13) (d := 85) rfl rfl (by kernel_rfl) (by kernel_rfl) (by kernel_rfl) (fun _ _ _ h => h) (by rfl) hHeld ?_
          try simp only [Act.put, sI, sZ, sS]
          refine pass_op (i := 14) (d := 86) rfl rfl (by kernel_rfl) (by kernel_rfl) (by kernel_rfl) (fun _ _ _ h => h) (by rfl) hHeld ?_
          try simp only [Act.put, sI, sZ, sS]
          refine pass_op (i := 15) (d := 87) rfl rfl (by kernel_rfl) (by kernel_rfl) (by kernel_rfl) (fun _ _ _ h => h) (by rfl) hHeld ?_
          try simp only [Act.put, sI, sZ, sS]
          refine pass_op (i := 16) (d := 88) rfl rfl (by kernel_rfl) (by kernel_rfl) (by kernel_rfl) (fun _ _ _ h => h) (by rfl) hHeld ?_
          try simp only [Act.put, sI, sZ, sS]
          refine pass_op (i := 17) (d := 89) rfl rfl (by kernel_rfl) (by kernel_rfl) (by kernel_rfl) (fun _ _ _ h => h) (by rfl) hHeld ?_
          try simp only [Act.put, sI, sZ, sS]
          refine pass_op (i := 18) (d := 90) rfl rfl (by kernel_rfl) (by kernel_rfl) (by kernel_rfl) (fun _ _ _ h => h) (by rfl) hHeld ?_
          try simp only [Act.put, sI, sZ, sS]
          refine pass_op (i := 19) (d := 91) rfl rfl (by kernel_rfl) (by kernel_rfl) (by kernel_rfl) (fun _ _ _ h => h) (by rfl) hHeld ?_
          try simp only [Act.put, sI, sZ, sS]
          refine take_op (i := 20) (d := 92) (OP := Op.pick (Operand.tmp 84) (Operand.tmp 91) (Operand.const (Value.bool false))) (T := 4) (v := ?v17) rfl rfl rfl rfl (by kernel_rfl) (by kernel_rfl) (by kernel_rfl) (fun _ _ _ h => h) (by rfl) ?h17 hHeld ?r17
          case h17 => (intro w' hSw; (try dsimp only at hSw); go_simp <;> with_reducible rfl)
          try simp only [Act.put, sI, sZ, sS]
          refine wpAnyH_done (by kernel_rfl) ?_ _
          have HE := hide hHeld.2.2.2.2.2.2.2.2.2.2.2
          obtain ⟨-, -, -, -, -, x0, x1, x2, x3, x4, x5, -⟩ := hHeld
          skip
          clear x0 x1 x2 x3 x4 x5 s0 s1 s2 s3 s4 hsl hne kB1 kV kF kAt
          go_wp2
          go_roundw
          case rel => exact ⟨i + 1, p, a5, c5, by omega, by omega, rfl, by go_num, hide ⟨by rw [HFL.out]; simp, HI.out.2.1, HI.out.2.2.1.trans (HE.out.mono HI.out.2.2.1.size), HI.out.2.2.2.below HE.out⟩⟩
          case measure => simp [intOf]; omega
        | false =>
          cases EQ with
          | true =>
            go_upto_region 9 with fail
            refine wp_region_held_drew (S := fun w' => w'.cell? ⟨Sb, 0, none⟩ = some (.int .i64 g) ∧ w'.cell? ⟨Sb, 1, none⟩ = some (.int .i64 r) ∧ w'.cell? ⟨Sb, 2, none⟩ = some (.string lb) ∧ w'.cell? ⟨Sb, 3, none⟩ = some (.int .i64 n) ∧ w'.cell? ⟨Sb, 4, none⟩ = some (.int .i64 ix) ∧ w'.cell? ⟨b, off + i * 6, none⟩ = some (.int .i64 g1) ∧ w'.cell? ⟨b, off + i * 6 + 1, none⟩ = some (.int .i64 r1) ∧ w'.cell? ⟨b, off + i * 6 + 2, none⟩ = some (.string l1) ∧ w'.cell? ⟨b, off + i * 6 + 3, none⟩ = some (.int .i64 n1) ∧ w'.cell? ⟨b, off + i * 6 + 4, none⟩ = some (.int .i64 i1) ∧ w'.cell? ⟨b, off + i * 6 + 5, none⟩ = some (.string t1) ∧ Below wr.heap.size wr w') (by kernel_rfl) (by exact ⟨s0, s1, s2, s3, s4, x0, x1, x2, x3, x4, x5, drew_below wr⟩) (fun hHeld => ?_)
            try dsimp only at hHeld
            refine take_op (i := 0) (d := 72) (OP := Op.load 43 (Operand.tmp 5)) (T := 43) (v := ?v18) rfl rfl rfl rfl (by kernel_rfl) (by kernel_rfl) (by kernel_rfl) (fun _ _ _ h => h) (by rfl) ?h18 hHeld ?r18
            case h18 => (intro w' hSw; (try dsimp only at hSw); go_simp <;> with_reducible rfl)
            try simp only [Act.put, sI, sZ, sS]
            refine call_op (i := 1) (d := 73) (OP := Op.call { callee := Callee.value (Operand.func 91), args := #[Operand.tmp 72, Operand.const (Value.string { data := #[] })], argTypes := #[43, 9] }) (T := 4) (f := 91) (args := #[.agg #[.int .i64 g, .int .i64 r, .string lb, .int .i64 n, .int .i64 ix], .string ⟨#[]⟩]) rfl rfl rfl rfl (by kernel_rfl) (by rfl) (by go_simp) ?_
            refine (kV _).mono ?_
            rintro e z1 ⟨rfl, bz1⟩
            have qz1 : z1.cell? ⟨Sb, 0, none⟩ = some (.int .i64 g) ∧ z1.cell? ⟨Sb, 1, none⟩ = some (.int .i64 r) ∧ z1.cell? ⟨Sb, 2, none⟩ = some (.string lb) ∧ z1.cell? ⟨Sb, 3, none⟩ = some (.int .i64 n) ∧ z1.cell? ⟨Sb, 4, none⟩ = some (.int .i64 ix) ∧ z1.cell? ⟨b, off + i * 6, none⟩ = some (.int .i64 g1) ∧ z1.cell? ⟨b, off + i * 6 + 1, none⟩ = some (.int .i64 r1) ∧ z1.cell? ⟨b, off + i * 6 + 2, none⟩ = some (.string l1) ∧ z1.cell? ⟨b, off + i * 6 + 3, none⟩ = some (.int .i64 n1) ∧ z1.cell? ⟨b, off + i * 6 + 4, none⟩ = some (.int .i64 i1) ∧ z1.cell? ⟨b, off + i * 6 + 5, none⟩ = some (.string t1) ∧ Below wr.heap.size wr z1 := ⟨cell_stays hHeld.1 bz1, cell_stays hHeld.2.1 bz1, cell_stays hHeld.2.2.1 bz1, cell_stays hHeld.2.2.2.1 bz1, cell_stays hHeld.2.2.2.2.1 bz1, cell_stays hHeld.2.2.2.2.2.1 bz1, cell_stays hHeld.2.2.2.2.2.2.1 bz1, cell_stays hHeld.2.2.2.2.2.2.2.1 bz1, cell_stays hHeld.2.2.2.2.2.2.2.2.1 bz1, cell_stays hHeld.2.2.2.2.2.2.2.2.2.1 bz1, cell_stays hHeld.2.2.2.2.2.2.2.2.2.2.1 bz1, (hHeld.2.2.2.2.2.2.2.2.2.2.2).trans (bz1.mono (hHeld.2.2.2.2.2.2.2.2.2.2.2).size)⟩
            refine ⟨_, rfl, qz1, ?_⟩
            replace hHeld := qz1
            clear qz1 bz1
            try simp only [Act.put, sI, sZ, sS]
            refine take_op (i := 2) (d := 74) (OP := Op.move (Operand.tmp 73)) (T := 4) (v := ?v19) rfl rfl rfl rfl (by kernel_rfl) (by kernel_rfl) (by kernel_rfl) (fun _ _ _ h => h) (by rfl) ?h19 hHeld ?r19
            case h19 => (intro w' hSw; (try dsimp only at hSw); go_simp <;> with_reducible rfl)
            try simp only [Act.put, sI, sZ, sS]
            refine take_op (i := 3) (d := 75) (OP := Op.move (Operand.tmp 1)) (T := 22) (v := ?v20) rfl rfl rfl rfl (by kernel_rfl) (by kernel_rfl) (by kernel_rfl) (fun _ _ _ h => h) (by rfl) ?h20 hHeld ?r20
            case h20 => (intro w' hSw; (try dsimp only at hSw); go_simp <;> with_reducible rfl)
            try simp only [Act.put, sI, sZ, sS]
            refine take_op (i := 4) (d := 76) (OP := Op.move (Operand.tmp 12)) (T := 3) (v := ?v21) rfl rfl rfl rfl (by kernel_rfl) (by kernel_rfl) (by kernel_rfl) (fun _ _ _ h => h) (by rfl) ?h21 hHeld ?r21
            case h21 => (intro w' hSw; (try dsimp only at hSw); go_simp <;> with_reducible rfl)
            try simp only [Act.put, sI, sZ, sS]
            refine take_op (i := 5) (d := 77) (OP := Op.move (Operand.tmp 12)) (T := 3) (v := ?v22) rfl rfl rfl rfl (by kernel_rfl) (by kernel_rfl) (by kernel_rfl) (fun _ _ _ h => h) (by rfl) ?h22 hHeld ?r22
            case h22 => (intro w' hSw; (try dsimp only at hSw); go_simp <;> with_reducible rfl)
            try simp only [Act.put, sI, sZ, sS]
            refine take_op (i := 6) (d := 78) (OP := Op.binOp BinOp.add 3 (Operand.tmp 77) (Operand.const (Value.int IntKind.i64 1)) 3) (T := 3) (v := .int .i64 ((i : Int) + 1)) rfl rfl rfl rfl (by kernel_rfl) (by kernel_rfl) (by kernel_rfl) (fun _ _ _ h => h) (by rfl) ?h23 hHeld ?r23
            case h23 => (intro w' hSw; (try dsimp only at hSw); go_simp <;> (rw [IntKind.wrap_i64]; omega))
            try simp only [Act.put, sI, sZ, sS]
            refine take_op (i := 7) (d := 79) (OP := Op.slice 22 (Operand.tmp 75) (some (Operand.tmp 76)) (some (Operand.tmp 78)) none) (T := 22) (v := .slice (some ⟨b, off + i * 6, none⟩) 1 (c - i)) rfl rfl rfl rfl (by kernel_rfl) (by kernel_rfl) (by kernel_rfl) (fun _ _ _ h => h) (by rfl) ?h24 hHeld ?r24
            case h24 => (intro w' hSw; exact exec_sl2 rfl rfl rfl (hsl w'))
            try simp only [Act.put, sI, sZ, sS]
            refine take_op (i := 8) (d := 80) (OP := Op.load 43 (Operand.tmp 5)) (T := 43) (v := ?v25) rfl rfl rfl rfl (by kernel_rfl) (by kernel_rfl) (by kernel_rfl) (fun _ _ _ h => h) (by rfl) ?h25 hHeld ?r25
            case h25 => (intro w' hSw; (try dsimp only at hSw); go_simp <;> with_reducible rfl)
            try simp only [Act.put, sI, sZ, sS]
            refine call_op (i := 9) (d := 81) (OP := Op.call { callee := Callee.value (Operand.func 92), args := #[Operand.tmp 79, Operand.tmp 80], argTypes := #[22, 43] }) (T := 4) (f := 92) (args := #[.slice (some ⟨b, off + i * 6, none⟩) 1 (c - i), .agg #[.int .i64 g, .int .i64 r, .string lb, .int .i64 n, .int .i64 ix]]) rfl rfl rfl rfl (by kernel_rfl) (by rfl) (by go_simp) ?_
            refine (kB1 _ _ _ (HR1.out.below hHeld.2.2.2.2.2.2.2.2.2.2.2)).mono ?_
            rintro e z2 ⟨rfl, bz2⟩
            have qz2 : z2.cell? ⟨Sb, 0, none⟩ = some (.int .i64 g) ∧ z2.cell? ⟨Sb, 1, none⟩ = some (.int .i64 r) ∧ z2.cell? ⟨Sb, 2, none⟩ = some (.string lb) ∧ z2.cell? ⟨Sb, 3, none⟩ = some (.int .i64 n) ∧ z2.cell? ⟨Sb, 4, none⟩ = some (.int .i64 ix) ∧ z2.cell? ⟨b, off + i * 6, none⟩ = some (.int .i64 g1) ∧ z2.cell? ⟨b, off + i * 6 + 1, none⟩ = some (.int .i64 r1) ∧ z2.cell? ⟨b, off + i * 6 + 2, none⟩ = some (.string l1) ∧ z2.cell? ⟨b, off + i * 6 + 3, none⟩ = some (.int .i64 n1) ∧ z2.cell? ⟨b, off + i * 6 + 4, none⟩ = some (.int .i64 i1) ∧ z2.cell? ⟨b, off + i * 6 + 5, none⟩ = some (.string t1) ∧ Below wr.heap.size wr z2 := ⟨cell_stays hHeld.1 bz2, cell_stays hHeld.2.1 bz2, cell_stays hHeld.2.2.1 bz2, cell_stays hHeld.2.2.2.1 bz2, cell_stays hHeld.2.2.2.2.1 bz2, cell_stays hHeld.2.2.2.2.2.1 bz2, cell_stays hHeld.2.2.2.2.2.2.1 bz2, cell_stays hHeld.2.2.2.2.2.2.2.1 bz2, cell_stays hHeld.2.2.2.2.2.2.2.2.1 bz2, cell_stays hHeld.2.2.2.2.2.2.2.2.2.1 bz2, cell_stays hHeld.2.2.2.2.2.2.2.2.2.2.1 bz2, (hHeld.2.2.2.2.2.2.2.2.2.2.2).trans (bz2.mono (hHeld.2.2.2.2.2.2.2.2.2.2.2).size)⟩
            refine ⟨_, rfl, qz2, ?_⟩
            replace hHeld := qz2
            clear qz2 bz2
            try simp only [Act.put, sI, sZ, sS]
            refine take_op (i := 10) (d := 82) (OP := Op.unOp UnOp.not 4 (Operand.tmp 81)) (T := 4) (v := ?v26) rfl rfl rfl rfl (by kernel_rfl) (by kernel_rfl) (by kernel_rfl) (fun _ _ _ h => h) (by rfl) ?h26 hHeld ?r26
            case h26 => (intro w' hSw; (try dsimp only at hSw); go_simp <;> with_reducible rfl)
            try simp only [Act.put, sI, sZ, sS]
            refine take_op (i := 11) (d := 83) (OP := Op.pick (Operand.tmp 74) (Operand.tmp 82) (Operand.const (Value.bool false))) (T := 4) (v := ?v27) rfl rfl rfl rfl (by kernel_rfl) (by kernel_rfl) (by kernel_rfl) (fun _ _ _ h => h) (by rfl) ?h27 hHeld ?r27
            case h27 => (intro w' hSw; (try dsimp only at hSw); go_simp <;> with_reducible rfl)
            try simp only [Act.put, sI, sZ, sS]
            refine take_op (i := 12) (d := 84) (OP := Op.move (Operand.tmp 83)) (T := 4) (v := ?v28) rfl rfl rfl rfl (by kernel_rfl) (by kernel_rfl) (by kernel_rfl) (fun _ _ _ h => h) (by rfl) ?h28 hHeld ?r28
            case h28 => (intro w' hSw; (try dsimp only at hSw); go_simp <;> with_reducible rfl)
            try simp only [Act.put, sI, sZ, sS]
            refine take_op (i := 13) (d := 85) (OP := Op.move (Operand.tmp 1)) (T := 22) (v := ?v29) rfl rfl rfl rfl (by kernel_rfl) (by kernel_rfl) (by kernel_rfl) (fun _ _ _ h => h) (by rfl) ?h29 hHeld ?r29
            case h29 => (intro w' hSw; (try dsimp only at hSw); go_simp <;> with_reducible rfl)
            try simp only [Act.put, sI, sZ, sS]
            refine take_op (i := 14) (d := 86) (OP := Op.move (Operand.tmp 12)) (T := 3) (v := ?v30) rfl rfl rfl rfl (by kernel_rfl) (by kernel_rfl) (by kernel_rfl) (fun _ _ _ h => h) (by rfl) ?h30 hHeld ?r30
            case h30 => (intro w' hSw; (try dsimp only at hSw); go_simp <;> with_reducible rfl)
            try simp only [Act.put, sI, sZ, sS]
            refine take_op (i := 15) (d := 87) (OP := Op.indexAddr 22 (Operand.tmp 85) (Operand.tmp 86)) (T := 0) (v := ?v31) rfl rfl rfl rfl (by kernel_rfl) (by kernel_rfl) (by kernel_rfl) (fun _ _ _ h => h) (by rfl) ?h31 hHeld ?r31
            case h31 => (intro w' hSw; (try dsimp only at hSw); go_simp <;> with_reducible rfl)
            try simp only [Act.put, sI, sZ, sS]
            refine take_op (i := 16) (d := 88) (OP := Op.fieldAddr 53 (Operand.tmp 87) 0) (T := 0) (v := ?v32) rfl rfl rfl rfl (by kernel_rfl) (by kernel_rfl) (by kernel_rfl) (fun _ _ _ h => h) (by rfl) ?h32 hHeld ?r32
            case h32 => (intro w' hSw; (try dsimp only at hSw); go_simp <;> with_reducible rfl)
            try simp only [Act.put, sI, sZ, sS]
            refine take_op (i := 17) (d := 89) (OP := Op.load 43 (Operand.tmp 88)) (T := 43) (v := ?v33) rfl rfl rfl rfl (by kernel_rfl) (by kernel_rfl) (by kernel_rfl) (fun _ _ _ h => h) (by rfl) ?h33 hHeld ?r33
            case h33 => (intro w' hSw; (try dsimp only at hSw); go_simp <;> with_reducible rfl)
            try simp only [Act.put, sI, sZ, sS]
            refine take_op (i := 18) (d := 90) (OP := Op.load 43 (Operand.tmp 5)) (T := 43) (v := ?v34) rfl rfl rfl rfl (by kernel_rfl) (by kernel_rfl) (by kernel_rfl) (fun _ _ _ h => h) (by rfl) ?h34 hHeld ?r34
            case h34 => (intro w' hSw; (try dsimp only at hSw); go_simp <;> with_reducible rfl)
            try simp only [Act.put, sI, sZ, sS]
            refine take_op (i := 19) (d := 91) (OP := Op.binOp BinOp.neq 43 (Operand.tmp 89) (Operand.tmp 90) 43) (T := 4) (v := .bool false) rfl rfl rfl rfl (by kernel_rfl) (by kernel_rfl) (by kernel_rfl) (fun _ _ _ h => h) (by rfl) ?h35 hHeld ?r35
            case h35 => (intro w' hSw; exact exec_ne43 (p := (g1, r1, l1, n1, i1)) (q := (g, r, lb, n, ix)) rfl rfl hne)
            try simp only [Act.put, sI, sZ, sS]
            refine take_op (i := 20) (d := 92) (OP := Op.pick (Operand.tmp 84) (Operand.tmp 91) (Operand.const (Value.bool false))) (T := 4) (v := ?v36) rfl rfl rfl rfl (by kernel_rfl) (by kernel_rfl) (by kernel_rfl) (fun _ _ _ h => h) (by rfl) ?h36 hHeld ?r36
            case h36 => (intro w' hSw; (try dsimp only at hSw); go_simp <;> with_reducible rfl)
            try simp only [Act.put, sI, sZ, sS]
            refine wpAnyH_done (by kernel_rfl) ?_ _
            have HE := hide hHeld.2.2.2.2.2.2.2.2.2.2.2
            obtain ⟨-, -, -, -, -, x0, x1, x2, x3, x4, x5, -⟩ := hHeld
            skip
            clear x0 x1 x2 x3 x4 x5 s0 s1 s2 s3 s4 hsl hne kB1 kV kF kAt
            go_wp2
            go_roundw
            case rel => exact ⟨i + 1, p, a5, c5, by omega, by omega, rfl, by go_num, hide ⟨by rw [HFL.out]; simp, HI.out.2.1, HI.out.2.2.1.trans (HE.out.mono HI.out.2.2.1.size), HI.out.2.2.2.below HE.out⟩⟩
            case measure => simp [intOf]; omega
          | false =>
            go_upto_region 9 with fail
            refine wp_region_held_drew (S := fun w' => w'.cell? ⟨Sb, 0, none⟩ = some (.int .i64 g) ∧ w'.cell? ⟨Sb, 1, none⟩ = some (.int .i64 r) ∧ w'.cell? ⟨Sb, 2, none⟩ = some (.string lb) ∧ w'.cell? ⟨Sb, 3, none⟩ = some (.int .i64 n) ∧ w'.cell? ⟨Sb, 4, none⟩ = some (.int .i64 ix) ∧ w'.cell? ⟨b, off + i * 6, none⟩ = some (.int .i64 g1) ∧ w'.cell? ⟨b, off + i * 6 + 1, none⟩ = some (.int .i64 r1) ∧ w'.cell? ⟨b, off + i * 6 + 2, none⟩ = some (.string l1) ∧ w'.cell? ⟨b, off + i * 6 + 3, none⟩ = some (.int .i64 n1) ∧ w'.cell? ⟨b, off + i * 6 + 4, none⟩ = some (.int .i64 i1) ∧ w'.cell? ⟨b, off + i * 6 + 5, none⟩ = some (.string t1) ∧ Below wr.heap.size wr w') (by kernel_rfl) (by exact ⟨s0, s1, s2, s3, s4, x0, x1, x2, x3, x4, x5, drew_below wr⟩) (fun hHeld => ?_)
            try dsimp only at hHeld
            refine take_op (i := 0) (d := 72) (OP := Op.load 43 (Operand.tmp 5)) (T := 43) (v := ?v37) rfl rfl rfl rfl (by kernel_rfl) (by kernel_rfl) (by kernel_rfl) (fun _ _ _ h => h) (by rfl) ?h37 hHeld ?r37
            case h37 => (intro w' hSw; (try dsimp only at hSw); go_simp <;> with_reducible rfl)
            try simp only [Act.put, sI, sZ, sS]
            refine call_op (i := 1) (d := 73) (OP := Op.call { callee := Callee.value (Operand.func 91), args := #[Operand.tmp 72, Operand.const (Value.string { data := #[] })], argTypes := #[43, 9] }) (T := 4) (f := 91) (args := #[.agg #[.int .i64 g, .int .i64 r, .string lb, .int .i64 n, .int .i64 ix], .string ⟨#[]⟩]) rfl rfl rfl rfl (by kernel_rfl) (by rfl) (by go_simp) ?_
            refine (kV _).mono ?_
            rintro e z1 ⟨rfl, bz1⟩
            have qz1 : z1.cell? ⟨Sb, 0, none⟩ = some (.int .i64 g) ∧ z1.cell? ⟨Sb, 1, none⟩ = some (.int .i64 r) ∧ z1.cell? ⟨Sb, 2, none⟩ = some (.string lb) ∧ z1.cell? ⟨Sb, 3, none⟩ = some (.int .i64 n) ∧ z1.cell? ⟨Sb, 4, none⟩ = some (.int .i64 ix) ∧ z1.cell? ⟨b, off + i * 6, none⟩ = some (.int .i64 g1) ∧ z1.cell? ⟨b, off + i * 6 + 1, none⟩ = some (.int .i64 r1) ∧ z1.cell? ⟨b, off + i * 6 + 2, none⟩ = some (.string l1) ∧ z1.cell? ⟨b, off + i * 6 + 3, none⟩ = some (.int .i64 n1) ∧ z1.cell? ⟨b, off + i * 6 + 4, none⟩ = some (.int .i64 i1) ∧ z1.cell? ⟨b, off + i * 6 + 5, none⟩ = some (.string t1) ∧ Below wr.heap.size wr z1 := ⟨cell_stays hHeld.1 bz1, cell_stays hHeld.2.1 bz1, cell_stays hHeld.2.2.1 bz1, cell_stays hHeld.2.2.2.1 bz1, cell_stays hHeld.2.2.2.2.1 bz1, cell_stays hHeld.2.2.2.2.2.1 bz1, cell_stays hHeld.2.2.2.2.2.2.1 bz1, cell_stays hHeld.2.2.2.2.2.2.2.1 bz1, cell_stays hHeld.2.2.2.2.2.2.2.2.1 bz1, cell_stays hHeld.2.2.2.2.2.2.2.2.2.1 bz1, cell_stays hHeld.2.2.2.2.2.2.2.2.2.2.1 bz1, (hHeld.2.2.2.2.2.2.2.2.2.2.2).trans (bz1.mono (hHeld.2.2.2.2.2.2.2.2.2.2.2).size)⟩
            refine ⟨_, rfl, qz1, ?_⟩
            replace hHeld := qz1
            clear qz1 bz1
            try simp only [Act.put, sI, sZ, sS]
            refine take_op (i := 2) (d := 74) (OP := Op.move (Operand.tmp 73)) (T := 4) (v := ?v38) rfl rfl rfl rfl (by kernel_rfl) (by kernel_rfl) (by kernel_rfl) (fun _ _ _ h => h) (by rfl) ?h38 hHeld ?r38
            case h38 => (intro w' hSw; (try dsimp only at hSw); go_simp <;> with_reducible rfl)
            try simp only [Act.put, sI, sZ, sS]
            refine take_op (i := 3) (d := 75) (OP := Op.move (Operand.tmp 1)) (T := 22) (v := ?v39) rfl rfl rfl rfl (by kernel_rfl) (by kernel_rfl) (by kernel_rfl) (fun _ _ _ h => h) (by rfl) ?h39 hHeld ?r39
            case h39 => (intro w' hSw; (try dsimp only at hSw); go_simp <;> with_reducible rfl)
            try simp only [Act.put, sI, sZ, sS]
            refine take_op (i := 4) (d := 76) (OP := Op.move (Operand.tmp 12)) (T := 3) (v := ?v40) rfl rfl rfl rfl (by kernel_rfl) (by kernel_rfl) (by kernel_rfl) (fun _ _ _ h => h) (by rfl) ?h40 hHeld ?r40
            case h40 => (intro w' hSw; (try dsimp only at hSw); go_simp <;> with_reducible rfl)
            try simp only [Act.put, sI, sZ, sS]
            refine take_op (i := 5) (d := 77) (OP := Op.move (Operand.tmp 12)) (T := 3) (v := ?v41) rfl rfl rfl rfl (by kernel_rfl) (by kernel_rfl) (by kernel_rfl) (fun _ _ _ h => h) (by rfl) ?h41 hHeld ?r41
            case h41 => (intro w' hSw; (try dsimp only at hSw); go_simp <;> with_reducible rfl)
            try simp only [Act.put, sI, sZ, sS]
            refine take_op (i := 6) (d := 78) (OP := Op.binOp BinOp.add 3 (Operand.tmp 77) (Operand.const (Value.int IntKind.i64 1)) 3) (T := 3) (v := .int .i64 ((i : Int) + 1)) rfl rfl rfl rfl (by kernel_rfl) (by kernel_rfl) (by kernel_rfl) (fun _ _ _ h => h) (by rfl) ?h42 hHeld ?r42
            case h42 => (intro w' hSw; (try dsimp only at hSw); go_simp <;> (rw [IntKind.wrap_i64]; omega))
            try simp only [Act.put, sI, sZ, sS]
            refine take_op (i := 7) (d := 79) (OP := Op.slice 22 (Operand.tmp 75) (some (Operand.tmp 76)) (some (Operand.tmp 78)) none) (T := 22) (v := .slice (some ⟨b, off + i * 6, none⟩) 1 (c - i)) rfl rfl rfl rfl (by kernel_rfl) (by kernel_rfl) (by kernel_rfl) (fun _ _ _ h => h) (by rfl) ?h43 hHeld ?r43
            case h43 => (intro w' hSw; exact exec_sl2 rfl rfl rfl (hsl w'))
            try simp only [Act.put, sI, sZ, sS]
            refine take_op (i := 8) (d := 80) (OP := Op.load 43 (Operand.tmp 5)) (T := 43) (v := ?v44) rfl rfl rfl rfl (by kernel_rfl) (by kernel_rfl) (by kernel_rfl) (fun _ _ _ h => h) (by rfl) ?h44 hHeld ?r44
            case h44 => (intro w' hSw; (try dsimp only at hSw); go_simp <;> with_reducible rfl)
            try simp only [Act.put, sI, sZ, sS]
            refine call_op (i := 9) (d := 81) (OP := Op.call { callee := Callee.value (Operand.func 92), args := #[Operand.tmp 79, Operand.tmp 80], argTypes := #[22, 43] }) (T := 4) (f := 92) (args := #[.slice (some ⟨b, off + i * 6, none⟩) 1 (c - i), .agg #[.int .i64 g, .int .i64 r, .string lb, .int .i64 n, .int .i64 ix]]) rfl rfl rfl rfl (by kernel_rfl) (by rfl) (by go_simp) ?_
            refine (kB1 _ _ _ (HR1.out.below hHeld.2.2.2.2.2.2.2.2.2.2.2)).mono ?_
            rintro e z2 ⟨rfl, bz2⟩
            have qz2 : z2.cell? ⟨Sb, 0, none⟩ = some (.int .i64 g) ∧ z2.cell? ⟨Sb, 1, none⟩ = some (.int .i64 r) ∧ z2.cell? ⟨Sb, 2, none⟩ = some (.string lb) ∧ z2.cell? ⟨Sb, 3, none⟩ = some (.int .i64 n) ∧ z2.cell? ⟨Sb, 4, none⟩ = some (.int .i64 ix) ∧ z2.cell? ⟨b, off + i * 6, none⟩ = some (.int .i64 g1) ∧ z2.cell? ⟨b, off + i * 6 + 1, none⟩ = some (.int .i64 r1) ∧ z2.cell? ⟨b, off + i * 6 + 2, none⟩ = some (.string l1) ∧ z2.cell? ⟨b, off + i * 6 + 3, none⟩ = some (.int .i64 n1) ∧ z2.cell? ⟨b, off + i * 6 + 4, none⟩ = some (.int .i64 i1) ∧ z2.cell? ⟨b, off + i * 6 + 5, none⟩ = some (.string t1) ∧ Below wr.heap.size wr z2 := ⟨cell_stays hHeld.1 bz2, cell_stays hHeld.2.1 bz2, cell_stays hHeld.2.2.1 bz2, cell_stays hHeld.2.2.2.1 bz2, cell_stays hHeld.2.2.2.2.1 bz2, cell_stays hHeld.2.2.2.2.2.1 bz2, cell_stays hHeld.2.2.2.2.2.2.1 bz2, cell_stays hHeld.2.2.2.2.2.2.2.1 bz2, cell_stays hHeld.2.2.2.2.2.2.2.2.1 bz2, cell_stays hHeld.2.2.2.2.2.2.2.2.2.1 bz2, cell_stays hHeld.2.2.2.2.2.2.2.2.2.2.1 bz2, (hHeld.2.2.2.2.2.2.2.2.2.2.2).trans (bz2.mono (hHeld.2.2.2.2.2.2.2.2.2.2.2).size)⟩
            refine ⟨_, rfl, qz2, ?_⟩
            replace hHeld := qz2
            clear qz2 bz2
            try simp only [Act.put, sI, sZ, sS]
            refine take_op (i := 10) (d := 82) (OP := Op.unOp UnOp.not 4 (Operand.tmp 81)) (T := 4) (v := ?v45) rfl rfl rfl rfl (by kernel_rfl) (by kernel_rfl) (by kernel_rfl) (fun _ _ _ h => h) (by rfl) ?h45 hHeld ?r45
            case h45 => (intro w' hSw; (try dsimp only at hSw); go_simp <;> with_reducible rfl)
            try simp only [Act.put, sI, sZ, sS]
            refine take_op (i := 11) (d := 83) (OP := Op.pick (Operand.tmp 74) (Operand.tmp 82) (Operand.const (Value.bool false))) (T := 4) (v := ?v46) rfl rfl rfl rfl (by kernel_rfl) (by kernel_rfl) (by kernel_rfl) (fun _ _ _ h => h) (by rfl) ?h46 hHeld ?r46
            case h46 => (intro w' hSw; (try dsimp only at hSw); go_simp <;> with_reducible rfl)
            try simp only [Act.put, sI, sZ, sS]
            refine take_op (i := 12) (d := 84) (OP := Op.move (Operand.tmp 83)) (T := 4) (v := ?v47) rfl rfl rfl rfl (by kernel_rfl) (by kernel_rfl) (by kernel_rfl) (fun _ _ _ h => h) (by rfl) ?h47 hHeld ?r47
            case h47 => (intro w' hSw; (try dsimp only at hSw); go_simp <;> with_reducible rfl)
            try simp only [Act.put, sI, sZ, sS]
            refine take_op (i := 13) (d := 85) (OP := Op.move (Operand.tmp 1)) (T := 22) (v := ?v48) rfl rfl rfl rfl (by kernel_rfl) (by kernel_rfl) (by kernel_rfl) (fun _ _ _ h => h) (by rfl) ?h48 hHeld ?r48
            case h48 => (intro w' hSw; (try dsimp only at hSw); go_simp <;> with_reducible rfl)
            try simp only [Act.put, sI, sZ, sS]
            refine take_op (i := 14) (d := 86) (OP := Op.move (Operand.tmp 12)) (T := 3) (v := ?v49) rfl rfl rfl rfl (by kernel_rfl) (by kernel_rfl) (by kernel_rfl) (fun _ _ _ h => h) (by rfl) ?h49 hHeld ?r49
            case h49 => (intro w' hSw; (try dsimp only at hSw); go_simp <;> with_reducible rfl)
            try simp only [Act.put, sI, sZ, sS]
            refine take_op (i := 15) (d := 87) (OP := Op.indexAddr 22 (Operand.tmp 85) (Operand.tmp 86)) (T := 0) (v := ?v50) rfl rfl rfl rfl (by kernel_rfl) (by kernel_rfl) (by kernel_rfl) (fun _ _ _ h => h) (by rfl) ?h50 hHeld ?r50
            case h50 => (intro w' hSw; (try dsimp only at hSw); go_simp <;> with_reducible rfl)
            try simp only [Act.put, sI, sZ, sS]
            refine take_op (i := 16) (d := 88) (OP := Op.fieldAddr 53 (Operand.tmp 87) 0) (T := 0) (v := ?v51) rfl rfl rfl rfl (by kernel_rfl) (by kernel_rfl) (by kernel_rfl) (fun _ _ _ h => h) (by rfl) ?h51 hHeld ?r51
            case h51 => (intro w' hSw; (try dsimp only at hSw); go_simp <;> with_reducible rfl)
            try simp only [Act.put, sI, sZ, sS]
            refine take_op (i := 17) (d := 89) (OP := Op.load 43 (Operand.tmp 88)) (T := 43) (v := ?v52) rfl rfl rfl rfl (by kernel_rfl) (by kernel_rfl) (by kernel_rfl) (fun _ _ _ h => h) (by rfl) ?h52 hHeld ?r52
            case h52 => (intro w' hSw; (try dsimp only at hSw); go_simp <;> with_reducible rfl)
            try simp only [Act.put, sI, sZ, sS]
            refine take_op (i := 18) (d := 90) (OP := Op.load 43 (Operand.tmp 5)) (T := 43) (v := ?v53) rfl rfl rfl rfl (by kernel_rfl) (by kernel_rfl) (by kernel_rfl) (fun _ _ _ h => h) (by rfl) ?h53 hHeld ?r53
            case h53 => (intro w' hSw; (try dsimp only at hSw); go_simp <;> with_reducible rfl)
            try simp only [Act.put, sI, sZ, sS]
            refine take_op (i := 19) (d := 91) (OP := Op.binOp BinOp.neq 43 (Operand.tmp 89) (Operand.tmp 90) 43) (T := 4) (v := .bool true) rfl rfl rfl rfl (by kernel_rfl) (by kernel_rfl) (by kernel_rfl) (fun _ _ _ h => h) (by rfl) ?h54 hHeld ?r54
            case h54 => (intro w' hSw; exact exec_ne43 (p := (g1, r1, l1, n1, i1)) (q := (g, r, lb, n, ix)) rfl rfl hne)
            try simp only [Act.put, sI, sZ, sS]
            refine take_op (i := 20) (d := 92) (OP := Op.pick (Operand.tmp 84) (Operand.tmp 91) (Operand.const (Value.bool false))) (T := 4) (v := ?v55) rfl rfl rfl rfl (by kernel_rfl) (by kernel_rfl) (by kernel_rfl) (fun _ _ _ h => h) (by rfl) ?h55 hHeld ?r55
            case h55 => (intro w' hSw; (try dsimp only at hSw); go_simp <;> with_reducible rfl)
            try simp only [Act.put, sI, sZ, sS]
            refine wpAnyH_done (by kernel_rfl) ?_ _
            have HE := hide hHeld.2.2.2.2.2.2.2.2.2.2.2
            obtain ⟨-, -, -, -, -, x0, x1, x2, x3, x4, x5, -⟩ := hHeld
            skip
            have H3 := hide (And.intro (H0.out.1.trans (HE.out.mono H0.out.1.size)) (H0.out.2.below HE.out))
            clear s0 s1 s2 s3 s4 hsl hne kB1 kV kF kAt
            go_wp2_with (refine pushT ((g1, r1, l1, n1, i1), t1) H3 (Nat.le_refl _) (by omega) rfl _ _ rfl rfl rfl ?_; intro a6 c6 w6 H6)
            go_roundw
            case rel => exact ⟨i + 1, p ++ [((g1, r1, l1, n1, i1), t1)], a6, c6, by omega, by rw [List.length_append]; simp; omega, by rw [List.length_append]; rfl, by go_num, hide ⟨by rw [HFL.out]; simp, H6.out.1, H6.out.2.1, by rw [List.length_append]; exact H6.out.2.2⟩⟩
            case measure => simp [intOf]; omega
    · obtain rfl : i = N := by omega
      have d1 : decide (i < i) = false := by simp
      have bw := H10.out.trans (HI.out.2.2.1.mono H10.out.size)
      obtain ⟨cM, sB, bww⟩ := HC.out wr bw
      have hsB : wr.cell? ⟨Sb, 0, none⟩ = some (.int .i64 g) ∧ wr.cell? ⟨Sb, 1, none⟩ = some (.int .i64 r) ∧ wr.cell? ⟨Sb, 2, none⟩ = some (.string lb) ∧ wr.cell? ⟨Sb, 3, none⟩ = some (.int .i64 n) ∧ wr.cell? ⟨Sb, 4, none⟩ = some (.int .i64 ix) := ⟨(cell_of_row _ _ 0 _ 43 (0, 0) sB).trans rfl, (cell_of_row _ _ 1 _ 43 (0, 0) sB).trans rfl, (cell_of_row _ _ 2 _ 43 (0, 0) sB).trans rfl, (cell_of_row _ _ 3 _ 43 (0, 0) sB).trans rfl, (cell_of_row _ _ 4 _ 43 (0, 0) sB).trans rfl⟩
      obtain ⟨s0, s1, s2, s3, s4⟩ := hsB
      have hzz := fun W => run_eq52' (g, r, lb, n, ix) zS W
      have hfull : p = l.filter fun x => stV (g, r, lb, n, ix) && (!decide (cmpT x.1 (g, r, lb, n, ix) = -1) && !decide (x.1 = (g, r, lb, n, ix))) := by rw [HI.out.1, HF.out.2.1, List.take_length]
      have HBW := hide bw
      obtain ⟨W20, rfl⟩ : ∃ q, q = wr := ⟨_, rfl⟩
      by_cases hz : ((g, r, lb, n, ix) : St) = zS
      · rw [decide_eq_true hz] at hzz
        dsimp only [svT, sv, zS] at hzz
        have hRL : RL = l := by rw [HF.out.1]; unfold restE; rw [if_pos hz]
        have HR : Hid (Re W20 ao RL) := hide (by rw [hRL]; exact HF.out.2.2.1.below bww)
        have hlr : RL.length = i := by rw [hRL]; exact HF.out.2.1.symm
        rw [hlr] at kF hRb
        clear hz hRL hlr
        clear sB bww bw hfull kB kV cM
        go_wp2
        clear s0 s1 s2 s3 s4 hzz
        go_loopw [13] (fun v13 wq => ∃ z : Int, -1 ≤ z ∧ z ≤ (i : Int) + 1 ∧ v13 = .int .i64 z ∧ Hid (Below W20.heap.size W20 wq)) (fun v13 _ => ((i : Int) + 1 - intOf v13).toNat)
        case atStart => exact ⟨-1, by omega, by omega, rfl, hide (Below.refl _ _)⟩
        case round =>
          obtain ⟨z, hz0, hz1, rfl, HBQ⟩ := hrel
          obtain ⟨wq, rfl⟩ : ∃ q, q = wr := ⟨_, rfl⟩
          have HQ0 := hide (HBW.out.trans (HBQ.out.mono HBW.out.size))
          obtain ⟨cM, sB, -⟩ := HC.out wq HQ0.out
          by_cases h2 : z < (i : Int) + 1
          · have d2 : decide (z < (i : Int) + 1) = true := by simpa using h2
            have kA1 := kAt z wq HQ0.out hz0 (by omega)
            clear kAt kF kN sB
            by_cases ho : z < 0 ∨ z = (i : Int)
            · rw [HF.out.2.2.2.2.1 z ho] at kA1
              dsimp only [ev, zE, zS] at kA1
              have heq := fun W => run_ne77 zE zE W
              rw [decide_eq_true rfl] at heq
              dsimp only [ev, zE, zS] at heq
              go_upto_region 17 with (go_at_call 103; refine kA1.mono ?_; rintro e w20 ⟨rfl, b20⟩; have H20 := hide b20; clear b20; dsimp only)
              obtain ⟨Xb, hXb⟩ : ∃ q, q = w20.heap.size := ⟨_, rfl⟩
              obtain ⟨W21, hW21⟩ : ∃ q, q = w20.alloc (.cells #[.int .i64 0, .int .i64 0, .string ⟨#[]⟩, .int .i64 0, .int .i64 0, .string ⟨#[]⟩] 53) := ⟨_, rfl⟩
              have b21 : Below w20.heap.size w20 W21 := by rw [hW21]; exact (Below.refl _ w20).alloc (Nat.le_refl _) _
              have n0 : W21.heap[Xb]? = some (.cells #[.int .i64 0, .int .i64 0, .string ⟨#[]⟩, .int .i64 0, .int .i64 0, .string ⟨#[]⟩] 53 (0, 0)) := by rw [hW21, hXb]; exact heap_alloc_new w20 _
              obtain ⟨xa0, xa1, xa2, xa3, xa4, xa5⟩ := cells_of_enc n0
              have H21 := hide (H20.out.trans (b21.mono H20.out.size))
              rw [← hW21, ← hXb]
              clear hXb hW21 n0 b21
              by_cases hz3 : z < 0
              · have e1 : decide (z < 0) = true := by simpa using hz3
                go_wp2
                go_roundw
                case rel => exact ⟨z + 1, by omega, by omega, by go_num, hide (HBQ.out.trans (H21.out.mono HBQ.out.size))⟩
                case measure => simp [intOf]; omega
              · have e1 : decide (z < 0) = false := by simpa using hz3
                obtain rfl : z = (i : Int) := by omega
                have e2 : decide ((i : Int) = (i : Int)) = true := by simp
                have e3 : ((i : Int) == (i : Int)) = true := by simp
                go_wp2
                go_roundw
                case rel => exact ⟨(i : Int) + 1, by omega, by omega, by go_num, hide (HBQ.out.trans (H21.out.mono HBQ.out.size))⟩
                case measure => simp [intOf]
            · obtain ⟨k, rfl⟩ : ∃ k : Nat, z = k := ⟨z.toNat, by omega⟩
              obtain ⟨x, hx⟩ : ∃ x, l[k]? = some x := ⟨_, List.getElem?_eq_getElem (by rw [← HF.out.2.1]; omega)⟩
              rw [HF.out.2.2.2.2.2 (k : Int) x (by omega) (by simpa using hx)] at kA1
              have zk : (k : Int) < (i : Int) := by omega
              have e1 : decide ((k : Int) < 0) = false := decide_eq_false (by omega)
              have e2 : decide ((k : Int) = (i : Int)) = false := decide_eq_false (by omega)
              have e3 : ((k : Int) == (i : Int)) = false := by rw [beq_eq_false_iff_ne]; omega
              have hra := fun W (hW : Below w.heap.size w W) => (HF.out.2.2.1.below hW).cells hx
              obtain ⟨⟨g1, r1, l1, n1, i1⟩, t1⟩ := x
              dsimp only [ev] at kA1
              clear hx
              go_upto_region 17 with (go_at_call 103; refine kA1.mono ?_; rintro e w20 ⟨rfl, b20⟩; have H20 := hide b20; clear b20; dsimp only)
              obtain ⟨Xb, hXb⟩ : ∃ q, q = w20.heap.size := ⟨_, rfl⟩
              obtain ⟨W21, hW21⟩ : ∃ q, q = w20.alloc (.cells #[.int .i64 g1, .int .i64 r1, .string l1, .int .i64 n1, .int .i64 i1, .string t1] 53) := ⟨_, rfl⟩
              have b21 : Below w20.heap.size w20 W21 := by rw [hW21]; exact (Below.refl _ w20).alloc (Nat.le_refl _) _
              have n0 : W21.heap[Xb]? = some (.cells #[.int .i64 g1, .int .i64 r1, .string l1, .int .i64 n1, .int .i64 i1, .string t1] 53 (0, 0)) := by rw [hW21, hXb]; exact heap_alloc_new w20 _
              obtain ⟨xa0, xa1, xa2, xa3, xa4, xa5⟩ := cells_of_enc n0
              have H21 := hide (H20.out.trans (b21.mono H20.out.size))
              rw [← hW21, ← hXb]
              clear hXb hW21 n0 b21
              obtain ⟨b, off, hao, y0, y1, y2, y3, y4, y5⟩ := hra W21 ((HC.out wq HQ0.out).2.2.trans (H21.out.mono (HC.out wq HQ0.out).2.2.size))
              dsimp only at y0 y1 y2 y3 y4 y5
              have HAO := hide hao
              subst hao
              go_upto_region 20 with fail
              refine wp_region_held_drew (S := fun w' => w'.cell? ⟨Xb, 0, none⟩ = some (.int .i64 g1) ∧ w'.cell? ⟨Xb, 1, none⟩ = some (.int .i64 r1) ∧ w'.cell? ⟨Xb, 2, none⟩ = some (.string l1) ∧ w'.cell? ⟨Xb, 3, none⟩ = some (.int .i64 n1) ∧ w'.cell? ⟨Xb, 4, none⟩ = some (.int .i64 i1) ∧ w'.cell? ⟨Xb, 5, none⟩ = some (.string t1) ∧ w'.cell? ⟨b, off + k * 6, none⟩ = some (.int .i64 g1) ∧ w'.cell? ⟨b, off + k * 6 + 1, none⟩ = some (.int .i64 r1) ∧ w'.cell? ⟨b, off + k * 6 + 2, none⟩ = some (.string l1) ∧ w'.cell? ⟨b, off + k * 6 + 3, none⟩ = some (.int .i64 n1) ∧ w'.cell? ⟨b, off + k * 6 + 4, none⟩ = some (.int .i64 i1) ∧ w'.cell? ⟨b, off + k * 6 + 5, none⟩ = some (.string t1) ∧ Below W21.heap.size W21 w') (by kernel_rfl) (by exact ⟨xa0, xa1, xa2, xa3, xa4, xa5, y0, y1, y2, y3, y4, y5, drew_below W21⟩) (fun hHeld => ?_)
              try dsimp only at hHeld
              refine take_op (i := 0) (d := 131) (OP := Op.move (Operand.tmp 15)) (T := 4) (v := ?v56) rfl rfl rfl rfl (by kernel_rfl) (by kernel_rfl) (by kernel_rfl) (fun _ _ _ h => h) (by rfl) ?h56 hHeld ?r56
              case h56 => (intro w' hSw; (try dsimp only at hSw); go_simp <;> with_reducible rfl)
              try simp only [Act.put, sI, sZ, sS]
              refine take_op (i := 1) (d := 132) (OP := Op.unOp UnOp.not 4 (Operand.tmp 131)) (T := 4) (v := ?v57) rfl rfl rfl rfl (by kernel_rfl) (by kernel_rfl) (by kernel_rfl) (fun _ _ _ h => h) (by rfl) ?h57 hHeld ?r57
              case h57 => (intro w' hSw; (try dsimp only at hSw); go_simp <;> with_reducible rfl)
              try simp only [Act.put, sI, sZ, sS]
              refine take_op (i := 2) (d := 133) (OP := Op.move (Operand.tmp 132)) (T := 4) (v := ?v58) rfl rfl rfl rfl (by kernel_rfl) (by kernel_rfl) (by kernel_rfl) (fun _ _ _ h => h) (by rfl) ?h58 hHeld ?r58
              case h58 => (intro w' hSw; (try dsimp only at hSw); go_simp <;> with_reducible rfl)
              try simp only [Act.put, sI, sZ, sS]
              refine take_op (i := 3) (d := 134) (OP := Op.load 53 (Operand.tmp 14)) (T := 53) (v := ev ((g1, r1, l1, n1, i1), t1)) rfl rfl rfl rfl (by kernel_rfl) (by kernel_rfl) (by kernel_rfl) (fun _ _ _ h => h) (by rfl) ?h59 hHeld ?r59
              case h59 => (intro w' hSw; exact exec_ld53 rfl hSw.1 hSw.2.1 hSw.2.2.1 hSw.2.2.2.1 hSw.2.2.2.2.1 hSw.2.2.2.2.2.1)
              try simp only [Act.put, sI, sZ, sS]
              refine take_op (i := 4) (d := 135) (OP := Op.move (Operand.tmp 1)) (T := 22) (v := ?v60) rfl rfl rfl rfl (by kernel_rfl) (by kernel_rfl) (by kernel_rfl) (fun _ _ _ h => h) (by rfl) ?h60 hHeld ?r60
              case h60 => (intro w' hSw; (try dsimp only at hSw); go_simp <;> with_reducible rfl)
              try simp only [Act.put, sI, sZ, sS]
              refine take_op (i := 5) (d := 136) (OP := Op.move (Operand.tmp 13)) (T := 3) (v := ?v61) rfl rfl rfl rfl (by kernel_rfl) (by kernel_rfl) (by kernel_rfl) (fun _ _ _ h => h) (by rfl) ?h61 hHeld ?r61
              case h61 => (intro w' hSw; (try dsimp only at hSw); go_simp <;> with_reducible rfl)
              try simp only [Act.put, sI, sZ, sS]
              refine take_op (i := 6) (d := 137) (OP := Op.indexAddr 22 (Operand.tmp 135) (Operand.tmp 136)) (T := 0) (v := .pointer (some ⟨b, off + k * 6, none⟩)) rfl rfl rfl rfl (by kernel_rfl) (by kernel_rfl) (by kernel_rfl) (fun _ _ _ h => h) (by rfl) ?h62 hHeld ?r62
              case h62 => (intro w' hSw; exact exec_ixE rfl rfl zk)
              try simp only [Act.put, sI, sZ, sS]
              refine take_op (i := 7) (d := 138) (OP := Op.load 53 (Operand.tmp 137)) (T := 53) (v := ev ((g1, r1, l1, n1, i1), t1)) rfl rfl rfl rfl (by kernel_rfl) (by kernel_rfl) (by kernel_rfl) (fun _ _ _ h => h) (by rfl) ?h63 hHeld ?r63
              case h63 => (intro w' hSw; exact exec_ld53 rfl hSw.2.2.2.2.2.2.1 hSw.2.2.2.2.2.2.2.1 hSw.2.2.2.2.2.2.2.2.1 hSw.2.2.2.2.2.2.2.2.2.1 hSw.2.2.2.2.2.2.2.2.2.2.1 hSw.2.2.2.2.2.2.2.2.2.2.2.1)
              try simp only [Act.put, sI, sZ, sS]
              refine take_op (i := 8) (d := 139) (OP := Op.binOp BinOp.neq 53 (Operand.tmp 134) (Operand.tmp 138) 53) (T := 4) (v := .bool false) rfl rfl rfl rfl (by kernel_rfl) (by kernel_rfl) (by kernel_rfl) (fun _ _ _ h => h) (by rfl) ?h64 hHeld ?r64
              case h64 => (intro w' hSw; exact exec_ne53 (p := ((g1, r1, l1, n1, i1), t1)) (q := ((g1, r1, l1, n1, i1), t1)) rfl rfl (by rw [decide_eq_true rfl]; rfl))
              try simp only [Act.put, sI, sZ, sS]
              refine take_op (i := 9) (d := 140) (OP := Op.pick (Operand.tmp 133) (Operand.const (Value.bool true)) (Operand.tmp 139)) (T := 4) (v := ?v65) rfl rfl rfl rfl (by kernel_rfl) (by kernel_rfl) (by kernel_rfl) (fun _ _ _ h => h) (by rfl) ?h65 hHeld ?r65
              case h65 => (intro w' hSw; (try dsimp only at hSw); go_simp <;> with_reducible rfl)
              try simp only [Act.put, sI, sZ, sS]
              refine wpAnyH_done (by kernel_rfl) ?_ _
              have HE := hide hHeld.2.2.2.2.2.2.2.2.2.2.2.2
              clear hHeld
              go_wp2
              go_roundw
              case rel => exact ⟨(k : Int) + 1, by omega, by omega, by go_num, hide (HBQ.out.trans ((H21.out.trans (HE.out.mono H21.out.size)).mono HBQ.out.size))⟩
              case measure => simp [intOf]; omega
          · obtain rfl : z = (i : Int) + 1 := by omega
            have d2 : decide ((i : Int) + 1 < (i : Int) + 1) = false := by simp
            have d3 : ¬ ((i : Int) + 1 < (i : Int) + 1) := by omega
            have hsB : wq.cell? ⟨Sb, 0, none⟩ = some (.int .i64 g) ∧ wq.cell? ⟨Sb, 1, none⟩ = some (.int .i64 r) ∧ wq.cell? ⟨Sb, 2, none⟩ = some (.string lb) ∧ wq.cell? ⟨Sb, 3, none⟩ = some (.int .i64 n) ∧ wq.cell? ⟨Sb, 4, none⟩ = some (.int .i64 ix) := ⟨(cell_of_row _ _ 0 _ 43 (0, 0) sB).trans rfl, (cell_of_row _ _ 1 _ 43 (0, 0) sB).trans rfl, (cell_of_row _ _ 2 _ 43 (0, 0) sB).trans rfl, (cell_of_row _ _ 3 _ 43 (0, 0) sB).trans rfl, (cell_of_row _ _ 4 _ 43 (0, 0) sB).trans rfl⟩
            obtain ⟨s0, s1, s2, s3, s4⟩ := hsB
            have HRQ := hide (HR.out.below HBQ.out)
            clear kAt sB
            go_wp2_with (first
              | (go_at_call 104; refine (kF _ _ _ _ _ K1.out.2.2 K1.out.1.1 K1.out.1.2.1 K1.out.1.2.2 K1.out.2.1).mono ?_; rintro e w30 ⟨rfl, b30⟩; have K2 := hide (K1.out.2.2.trans (b30.mono K1.out.2.2.size)); clear b30; dsimp only)
              | (go_at_call 105; refine (kN _).mono ?_; rintro e w29 ⟨L9, T9, rfl, hf9, b29⟩; have K1 := hide (And.intro hf9 (And.intro (HRQ.out.below b29) (HQ0.out.trans (b29.mono HQ0.out.size)))); clear hf9 b29; dsimp only))
            go_ret
            exact ⟨rfl, (HC.out _ K2.out).2.2⟩
      · rw [decide_eq_false hz] at hzz
        dsimp only [svT, sv, zS] at hzz
        have hRL : RL = p := by rw [HF.out.1, hfull]; unfold restE; rw [if_neg hz]
        have HR : Hid (Re W20 a5 RL) := hide (by rw [hRL]; exact HI.out.2.2.2.re)
        have hlr : RL.length = p.length := by rw [hRL]
        rw [hlr] at kF hRb
        clear hz hRL hlr
        clear sB bww bw hfull kB kV cM
        go_wp2
        clear s0 s1 s2 s3 s4 hzz
        go_loopw [13] (fun v13 wq => ∃ z : Int, -1 ≤ z ∧ z ≤ (i : Int) + 1 ∧ v13 = .int .i64 z ∧ Hid (Below W20.heap.size W20 wq)) (fun v13 _ => ((i : Int) + 1 - intOf v13).toNat)
        case atStart => exact ⟨-1, by omega, by omega, rfl, hide (Below.refl _ _)⟩
        case round =>
          obtain ⟨z, hz0, hz1, rfl, HBQ⟩ := hrel
          obtain ⟨wq, rfl⟩ : ∃ q, q = wr := ⟨_, rfl⟩
          have HQ0 := hide (HBW.out.trans (HBQ.out.mono HBW.out.size))
          obtain ⟨cM, sB, -⟩ := HC.out wq HQ0.out
          by_cases h2 : z < (i : Int) + 1
          · have d2 : decide (z < (i : Int) + 1) = true := by simpa using h2
            have kA1 := kAt z wq HQ0.out hz0 (by omega)
            clear kAt kF kN sB
            by_cases ho : z < 0 ∨ z = (i : Int)
            · rw [HF.out.2.2.2.2.1 z ho] at kA1
              dsimp only [ev, zE, zS] at kA1
              have heq := fun W => run_ne77 zE zE W
              rw [decide_eq_true rfl] at heq
              dsimp only [ev, zE, zS] at heq
              go_upto_region 17 with (go_at_call 103; refine kA1.mono ?_; rintro e w20 ⟨rfl, b20⟩; have H20 := hide b20; clear b20; dsimp only)
              obtain ⟨Xb, hXb⟩ : ∃ q, q = w20.heap.size := ⟨_, rfl⟩
              obtain ⟨W21, hW21⟩ : ∃ q, q = w20.alloc (.cells #[.int .i64 0, .int .i64 0, .string ⟨#[]⟩, .int .i64 0, .int .i64 0, .string ⟨#[]⟩] 53) := ⟨_, rfl⟩
              have b21 : Below w20.heap.size w20 W21 := by rw [hW21]; exact (Below.refl _ w20).alloc (Nat.le_refl _) _
              have n0 : W21.heap[Xb]? = some (.cells #[.int .i64 0, .int .i64 0, .string ⟨#[]⟩, .int .i64 0, .int .i64 0, .string ⟨#[]⟩] 53 (0, 0)) := by rw [hW21, hXb]; exact heap_alloc_new w20 _
              obtain ⟨xa0, xa1, xa2, xa3, xa4, xa5⟩ := cells_of_enc n0
              have H21 := hide (H20.out.trans (b21.mono H20.out.size))
              rw [← hW21, ← hXb]
              clear hXb hW21 n0 b21
              by_cases hz3 : z < 0
              · have e1 : decide (z < 0) = true := by simpa using hz3
                go_wp2
                go_roundw
                case rel => exact ⟨z + 1, by omega, by omega, by go_num, hide (HBQ.out.trans (H21.out.mono HBQ.out.size))⟩
                case measure => simp [intOf]; omega
              · have e1 : decide (z < 0) = false := by simpa using hz3
                obtain rfl : z = (i : Int) := by omega
                have e2 : decide ((i : Int) = (i : Int)) = true := by simp
                have e3 : ((i : Int) == (i : Int)) = true := by simp
                go_wp2
                go_roundw
                case rel => exact ⟨(i : Int) + 1, by omega, by omega, by go_num, hide (HBQ.out.trans (H21.out.mono HBQ.out.size))⟩
                case measure => simp [intOf]
            · obtain ⟨k, rfl⟩ : ∃ k : Nat, z = k := ⟨z.toNat, by omega⟩
              obtain ⟨x, hx⟩ : ∃ x, l[k]? = some x := ⟨_, List.getElem?_eq_getElem (by rw [← HF.out.2.1]; omega)⟩
              rw [HF.out.2.2.2.2.2 (k : Int) x (by omega) (by simpa using hx)] at kA1
              have zk : (k : Int) < (i : Int) := by omega
              have e1 : decide ((k : Int) < 0) = false := decide_eq_false (by omega)
              have e2 : decide ((k : Int) = (i : Int)) = false := decide_eq_false (by omega)
              have e3 : ((k : Int) == (i : Int)) = false := by rw [beq_eq_false_iff_ne]; omega
              have hra := fun W (hW : Below w.heap.size w W) => (HF.out.2.2.1.below hW).cells hx
              obtain ⟨⟨g1, r1, l1, n1, i1⟩, t1⟩ := x
              dsimp only [ev] at kA1
              clear hx
              go_upto_region 17 with (go_at_call 103; refine kA1.mono ?_; rintro e w20 ⟨rfl, b20⟩; have H20 := hide b20; clear b20; dsimp only)
              obtain ⟨Xb, hXb⟩ : ∃ q, q = w20.heap.size := ⟨_, rfl⟩
              obtain ⟨W21, hW21⟩ : ∃ q, q = w20.alloc (.cells #[.int .i64 g1, .int .i64 r1, .string l1, .int .i64 n1, .int .i64 i1, .string t1] 53) := ⟨_, rfl⟩
              have b21 : Below w20.heap.size w20 W21 := by rw [hW21]; exact (Below.refl _ w20).alloc (Nat.le_refl _) _
              have n0 : W21.heap[Xb]? = some (.cells #[.int .i64 g1, .int .i64 r1, .string l1, .int .i64 n1, .int .i64 i1, .string t1] 53 (0, 0)) := by rw [hW21, hXb]; exact heap_alloc_new w20 _
              obtain ⟨xa0, xa1, xa2, xa3, xa4, xa5⟩ := cells_of_enc n0
              have H21 := hide (H20.out.trans (b21.mono H20.out.size))
              rw [← hW21, ← hXb]
              clear hXb hW21 n0 b21
              obtain ⟨b, off, hao, y0, y1, y2, y3, y4, y5⟩ := hra W21 ((HC.out wq HQ0.out).2.2.trans (H21.out.mono (HC.out wq HQ0.out).2.2.size))
              dsimp only at y0 y1 y2 y3 y4 y5
              have HAO := hide hao
              subst hao
              go_upto_region 20 with fail
              refine wp_region_held_drew (S := fun w' => w'.cell? ⟨Xb, 0, none⟩ = some (.int .i64 g1) ∧ w'.cell? ⟨Xb, 1, none⟩ = some (.int .i64 r1) ∧ w'.cell? ⟨Xb, 2, none⟩ = some (.string l1) ∧ w'.cell? ⟨Xb, 3, none⟩ = some (.int .i64 n1) ∧ w'.cell? ⟨Xb, 4, none⟩ = some (.int .i64 i1) ∧ w'.cell? ⟨Xb, 5, none⟩ = some (.string t1) ∧ w'.cell? ⟨b, off + k * 6, none⟩ = some (.int .i64 g1) ∧ w'.cell? ⟨b, off + k * 6 + 1, none⟩ = some (.int .i64 r1) ∧ w'.cell? ⟨b, off + k * 6 + 2, none⟩ = some (.string l1) ∧ w'.cell? ⟨b, off + k * 6 + 3, none⟩ = some (.int .i64 n1) ∧ w'.cell? ⟨b, off + k * 6 + 4, none⟩ = some (.int .i64 i1) ∧ w'.cell? ⟨b, off + k * 6 + 5, none⟩ = some (.string t1) ∧ Below W21.heap.size W21 w') (by kernel_rfl) (by exact ⟨xa0, xa1, xa2, xa3, xa4, xa5, y0, y1, y2, y3, y4, y5, drew_below W21⟩) (fun hHeld => ?_)
              try dsimp only at hHeld
              refine take_op (i := 0) (d := 131) (OP := Op.move (Operand.tmp 15)) (T := 4) (v := ?v66) rfl rfl rfl rfl (by kernel_rfl) (by kernel_rfl) (by kernel_rfl) (fun _ _ _ h => h) (by rfl) ?h66 hHeld ?r66
              case h66 => (intro w' hSw; (try dsimp only at hSw); go_simp <;> with_reducible rfl)
              try simp only [Act.put, sI, sZ, sS]
              refine take_op (i := 1) (d := 132) (OP := Op.unOp UnOp.not 4 (Operand.tmp 131)) (T := 4) (v := ?v67) rfl rfl rfl rfl (by kernel_rfl) (by kernel_rfl) (by kernel_rfl) (fun _ _ _ h => h) (by rfl) ?h67 hHeld ?r67
              case h67 => (intro w' hSw; (try dsimp only at hSw); go_simp <;> with_reducible rfl)
              try simp only [Act.put, sI, sZ, sS]
              refine take_op (i := 2) (d := 133) (OP := Op.move (Operand.tmp 132)) (T := 4) (v := ?v68) rfl rfl rfl rfl (by kernel_rfl) (by kernel_rfl) (by kernel_rfl) (fun _ _ _ h => h) (by rfl) ?h68 hHeld ?r68
              case h68 => (intro w' hSw; (try dsimp only at hSw); go_simp <;> with_reducible rfl)
              try simp only [Act.put, sI, sZ, sS]
              refine take_op (i := 3) (d := 134) (OP := Op.load 53 (Operand.tmp 14)) (T := 53) (v := ev ((g1, r1, l1, n1, i1), t1)) rfl rfl rfl rfl (by kernel_rfl) (by kernel_rfl) (by kernel_rfl) (fun _ _ _ h => h) (by rfl) ?h69 hHeld ?r69
              case h69 => (intro w' hSw; exact exec_ld53 rfl hSw.1 hSw.2.1 hSw.2.2.1 hSw.2.2.2.1 hSw.2.2.2.2.1 hSw.2.2.2.2.2.1)
              try simp only [Act.put, sI, sZ, sS]
              refine take_op (i := 4) (d := 135) (OP := Op.move (Operand.tmp 1)) (T := 22) (v := ?v70) rfl rfl rfl rfl (by kernel_rfl) (by kernel_rfl) (by kernel_rfl) (fun _ _ _ h => h) (by rfl) ?h70 hHeld ?r70
              case h70 => (intro w' hSw; (try dsimp only at hSw); go_simp <;> with_reducible rfl)
              try simp only [Act.put, sI, sZ, sS]
              refine take_op (i := 5) (d := 136) (OP := Op.move (Operand.tmp 13)) (T := 3) (v := ?v71) rfl rfl rfl rfl (by kernel_rfl) (by kernel_rfl) (by kernel_rfl) (fun _ _ _ h => h) (by rfl) ?h71 hHeld ?r71
              case h71 => (intro w' hSw; (try dsimp only at hSw); go_simp <;> with_reducible rfl)
              try simp only [Act.put, sI, sZ, sS]
              refine take_op (i := 6) (d := 137) (OP := Op.indexAddr 22 (Operand.tmp 135) (Operand.tmp 136)) (T := 0) (v := .pointer (some ⟨b, off + k * 6, none⟩)) rfl rfl rfl rfl (by kernel_rfl) (by kernel_rfl) (by kernel_rfl) (fun _ _ _ h => h) (by rfl) ?h72 hHeld ?r72
              case h72 => (intro w' hSw; exact exec_ixE rfl rfl zk)
              try simp only [Act.put, sI, sZ, sS]
              refine take_op (i := 7) (d := 138) (OP := Op.load 53 (Operand.tmp 137)) (T := 53) (v := ev ((g1, r1, l1, n1, i1), t1)) rfl rfl rfl rfl (by kernel_rfl) (by kernel_rfl) (by kernel_rfl) (fun _ _ _ h => h) (by rfl) ?h73 hHeld ?r73
              case h73 => (intro w' hSw; exact exec_ld53 rfl hSw.2.2.2.2.2.2.1 hSw.2.2.2.2.2.2.2.1 hSw.2.2.2.2.2.2.2.2.1 hSw.2.2.2.2.2.2.2.2.2.1 hSw.2.2.2.2.2.2.2.2.2.2.1 hSw.2.2.2.2.2.2.2.2.2.2.2.1)
              try simp only [Act.put, sI, sZ, sS]
              refine take_op (i := 8) (d := 139) (OP := Op.binOp BinOp.neq 53 (Operand.tmp 134) (Operand.tmp 138) 53) (T := 4) (v := .bool false) rfl rfl rfl rfl (by kernel_rfl) (by kernel_rfl) (by kernel_rfl) (fun _ _ _ h => h) (by rfl) ?h74 hHeld ?r74
              case h74 => (intro w' hSw; exact exec_ne53 (p := ((g1, r1, l1, n1, i1), t1)) (q := ((g1, r1, l1, n1, i1), t1)) rfl rfl (by rw [decide_eq_true rfl]; rfl))
              try simp only [Act.put, sI, sZ, sS]
              refine take_op (i := 9) (d := 140) (OP := Op.pick (Operand.tmp 133) (Operand.const (Value.bool true)) (Operand.tmp 139)) (T := 4) (v := ?v75) rfl rfl rfl rfl (by kernel_rfl) (by kernel_rfl) (by kernel_rfl) (fun _ _ _ h => h) (by rfl) ?h75 hHeld ?r75
              case h75 => (intro w' hSw; (try dsimp only at hSw); go_simp <;> with_reducible rfl)
              try simp only [Act.put, sI, sZ, sS]
              refine wpAnyH_done (by kernel_rfl) ?_ _
              have HE := hide hHeld.2.2.2.2.2.2.2.2.2.2.2.2
              clear hHeld
              go_wp2
              go_roundw
              case rel => exact ⟨(k : Int) + 1, by omega, by omega, by go_num, hide (HBQ.out.trans ((H21.out.trans (HE.out.mono H21.out.size)).mono HBQ.out.size))⟩
              case measure => simp [intOf]; omega
          · obtain rfl : z = (i : Int) + 1 := by omega
            have d2 : decide ((i : Int) + 1 < (i : Int) + 1) = false := by simp
            have d3 : ¬ ((i : Int) + 1 < (i : Int) + 1) := by omega
            have hsB : wq.cell? ⟨Sb, 0, none⟩ = some (.int .i64 g) ∧ wq.cell? ⟨Sb, 1, none⟩ = some (.int .i64 r) ∧ wq.cell? ⟨Sb, 2, none⟩ = some (.string lb) ∧ wq.cell? ⟨Sb, 3, none⟩ = some (.int .i64 n) ∧ wq.cell? ⟨Sb, 4, none⟩ = some (.int .i64 ix) := ⟨(cell_of_row _ _ 0 _ 43 (0, 0) sB).trans rfl, (cell_of_row _ _ 1 _ 43 (0, 0) sB).trans rfl, (cell_of_row _ _ 2 _ 43 (0, 0) sB).trans rfl, (cell_of_row _ _ 3 _ 43 (0, 0) sB).trans rfl, (cell_of_row _ _ 4 _ 43 (0, 0) sB).trans rfl⟩
            obtain ⟨s0, s1, s2, s3, s4⟩ := hsB
            have HRQ := hide (HR.out.below HBQ.out)
            clear kAt sB
            go_wp2_with (first
              | (go_at_call 104; refine (kF _ _ _ _ _ K1.out.2.2 K1.out.1.1 K1.out.1.2.1 K1.out.1.2.2 K1.out.2.1).mono ?_; rintro e w30 ⟨rfl, b30⟩; have K2 := hide (K1.out.2.2.trans (b30.mono K1.out.2.2.size)); clear b30; dsimp only)
              | (go_at_call 105; refine (kN _).mono ?_; rintro e w29 ⟨L9, T9, rfl, hf9, b29⟩; have K1 := hide (And.intro hf9 (And.intro (HRQ.out.below b29) (HQ0.out.trans (b29.mono HQ0.out.size)))); clear hf9 b29; dsimp only))
            go_ret
            exact ⟨rfl, (HC.out _ K2.out).2.2⟩
end Go.Proofs.YtkkpdgfllnbigaaGreat.Jo
