/-
  known: THE WALK.
-/
import Derived.Test.YtleaaoknjflgoaaKnown
import Derived.Test.YtleaaoknjflgoaaOf
import Derived.Test.YtleaaoknjflgoaaAt
import Derived.Test.YtleaaoknjflgoaaMade
import Derived.BigCall
import Derived.BigGuard
import Derived.BigGuardPart
import Derived.BigRegion
namespace Go.Proofs.Ytleaaoknjflgoaa
open Go.RowKit Go.Shelf
set_option linter.unusedSimpArgs false

theorem of3 (kv vv : Value) (W : World) (hk : Cs W kv [.string kB, .string kA, .string kC]) (hv : Cs W vv [.int .i64 2, .int .i64 1, .int .i64 3]) : Calls Try.prog 21 #[kv, vv] W fun e w' => ∃ p q r, e = .returned (.tuple #[mv (t3 p q r), .int .i64 0]) ∧ In w' (t3 p q r) ∧ Below W.heap.size W w' := by
  refine (of_any [kB, kA, kC] [2, 1, 3] kv vv W hk hv (by decide)).mono ?_
  rintro e w' ⟨hb, ⟨_, h⟩ | ⟨t, p, he, _, hp, hl, hs, hbal, hi⟩⟩
  · rcases h with h | h
    · exact absurd rfl h
    · exact absurd (by decide) h
  · have h1 : (p.map (ent [kB, kA, kC] [2, 1, 3])).Perm ((List.range 3).map (ent [kB, kA, kC] [2, 1, 3])) := hp.map _
    have h2 : ((List.range 3).map (ent [kB, kA, kC] [2, 1, 3])) = [(kB, 2), (kA, 1), (kC, 3)] := by decide
    rw [h2] at h1
    have h3 : ([(kB, 2), (kA, 1), (kC, 3)] : List Nm).Perm l3 := by decide
    have h4 := srt_same hs srt3 (by rw [hl]; exact h1.trans h3)
    obtain ⟨a, b, c, rfl⟩ := is3 h4 hbal
    exact ⟨a, b, c, he, hi, hb⟩
theorem of2 (kv vv : Value) (W : World) (hk : Cs W kv [.string kA, .string kA]) (hv : Cs W vv [.int .i64 1, .int .i64 2]) : Calls Try.prog 21 #[kv, vv] W fun e w' => e = .returned (.tuple #[mv .nil, .int .i64 2]) ∧ Below W.heap.size W w' := by
  refine (of_any [kA, kA] [1, 2] kv vv W hk hv (by decide)).mono ?_
  rintro e w' ⟨hb, ⟨he, _⟩ | ⟨t, p, he, _, hp, hl, hs, hbal, hi⟩⟩
  · exact ⟨he, hb⟩
  · have h1 : (p.map (ent [kA, kA] [1, 2])).Perm ((List.range 2).map (ent [kA, kA] [1, 2])) := hp.map _
    have h2 : ((List.range 2).map (ent [kA, kA] [1, 2])) = [(kA, 1), (kA, 2)] := by decide
    rw [h2, ← hl] at h1
    have hn : t.list.length = 2 := h1.length_eq
    match ht : t.list, hn with
    | [x, y], _ =>
      rw [ht] at hs h1
      have hx : x.1 = kA := by
        have := h1.mem_iff.1 (List.mem_cons_self (a := x) (l := [y]))
        simp only [List.mem_cons, List.not_mem_nil, or_false] at this
        rcases this with rfl | rfl <;> rfl
      have hy : y.1 = kA := by
        have := h1.mem_iff.1 (show y ∈ [x, y] by simp)
        simp only [List.mem_cons, List.not_mem_nil, or_false] at this
        rcases this with rfl | rfl <;> rfl
      have := (List.pairwise_cons.1 hs).1 y (by simp)
      rw [hx, hy, ord_B.refl] at this
      exact absurd this (by decide)
theorem cs_new (w : World) (l : List Value) (ty : TypeId) : Cs (w.alloc (.cells l.toArray ty)) (.slice (some ⟨w.heap.size, 0, none⟩) l.length l.length) l := ⟨_, _, rfl, Nat.le_refl _, fun j u hj => ⟨_, _, rfl, by
  rw [Nat.zero_add, cell_of_row _ _ j _ ty (0, 0) (heap_alloc_new w _)]
  simpa using hj⟩⟩

theorem of3w (W : World) : Calls Try.prog 21 #[.slice (some ⟨W.heap.size, 0, none⟩) 3 3, .slice (some ⟨W.heap.size + 1, 0, none⟩) 3 3] ((W.alloc (.cells #[.string ⟨#[98]⟩, .string ⟨#[97]⟩, .string ⟨#[99]⟩] 9)).alloc (.cells #[.int .i64 2, .int .i64 1, .int .i64 3] 3)) fun e w' => ∃ p q r, e = .returned (.tuple #[.agg #[.pointer (some ⟨p, 0, none⟩)], .int .i64 0]) ∧ In w' (t3 p q r) ∧ Below W.heap.size W w' := by
  have h1 := cs_new W [.string kB, .string kA, .string kC] 9
  have h2 := cs_new (W.alloc (.cells [Value.string kB, .string kA, .string kC].toArray 9)) [.int .i64 2, .int .i64 1, .int .i64 3] 3
  have hb0 : Below W.heap.size W (W.alloc (.cells [Value.string kB, .string kA, .string kC].toArray 9)) := (Below.refl _ W).alloc (Nat.le_refl _) _
  have hb1 : Below (W.alloc (.cells [Value.string kB, .string kA, .string kC].toArray 9)).heap.size (W.alloc (.cells [Value.string kB, .string kA, .string kC].toArray 9)) _ := (Below.refl _ _).alloc (Nat.le_refl _) (.cells [Value.int .i64 2, .int .i64 1, .int .i64 3].toArray 3)
  have h := of3 _ _ _ (h1.below hb1) h2
  have hs : (W.alloc (.cells [Value.string kB, .string kA, .string kC].toArray 9)).heap.size = W.heap.size + 1 := by simp
  rw [hs] at h
  refine h.mono ?_
  rintro e w' ⟨p, q, r, he, hi, hb⟩
  exact ⟨p, q, r, he, hi, (hb0.trans (hb1.mono hb0.size)).trans (hb.mono (hb0.trans (hb1.mono hb0.size)).size)⟩
theorem of2w (W : World) : Calls Try.prog 21 #[.slice (some ⟨W.heap.size, 0, none⟩) 2 2, .slice (some ⟨W.heap.size + 1, 0, none⟩) 2 2] ((W.alloc (.cells #[.string ⟨#[97]⟩, .string ⟨#[97]⟩] 9)).alloc (.cells #[.int .i64 1, .int .i64 2] 3)) fun e w' => e = .returned (.tuple #[.agg #[.pointer none], .int .i64 2]) ∧ Below W.heap.size W w' := by
  have h1 := cs_new W [.string kA, .string kA] 9
  have h2 := cs_new (W.alloc (.cells [Value.string kA, .string kA].toArray 9)) [.int .i64 1, .int .i64 2] 3
  have hb0 : Below W.heap.size W (W.alloc (.cells [Value.string kA, .string kA].toArray 9)) := (Below.refl _ W).alloc (Nat.le_refl _) _
  have hb1 : Below (W.alloc (.cells [Value.string kA, .string kA].toArray 9)).heap.size (W.alloc (.cells [Value.string kA, .string kA].toArray 9)) _ := (Below.refl _ _).alloc (Nat.le_refl _) (.cells [Value.int .i64 1, .int .i64 2].toArray 3)
  have h := of2 _ _ _ (h1.below hb1) h2
  have hs : (W.alloc (.cells [Value.string kA, .string kA].toArray 9)).heap.size = W.heap.size + 1 := by simp
  rw [hs] at h
  refine h.mono ?_
  rintro e w' ⟨he, hb⟩
  exact ⟨he, (hb0.trans (hb1.mono hb0.size)).trans (hb.mono (hb0.trans (hb1.mono hb0.size)).size)⟩
def tn (a b q : Nat) : T := .node a kB 2 (.node q kA 1 .nil .nil) (.node b kC 9 .nil .nil)
theorem k_get_b {p q r : Nat} {W : World} (h : In W (t3 p q r)) : Calls Try.prog 31 #[.agg #[.pointer (some ⟨p, 0, none⟩)], .string ⟨#[98]⟩] W fun e w' => e = .returned (.tuple #[.int .i64 2, .bool true]) ∧ Below W.heap.size W w' := get_any (t3 p q r) kB W h
theorem k_get_c {p q r : Nat} {W : World} (h : In W (t3 p q r)) : Calls Try.prog 31 #[.agg #[.pointer (some ⟨p, 0, none⟩)], .string ⟨#[99]⟩] W fun e w' => e = .returned (.tuple #[.int .i64 3, .bool true]) ∧ Below W.heap.size W w' := get_any (t3 p q r) kC W h
theorem k_get_n {a b q : Nat} {W : World} (h : In W (tn a b q)) : Calls Try.prog 31 #[.agg #[.pointer (some ⟨a, 0, none⟩)], .string ⟨#[99]⟩] W fun e w' => e = .returned (.tuple #[.int .i64 9, .bool true]) ∧ Below W.heap.size W w' := get_any (tn a b q) kC W h
theorem k_at {p q r : Nat} {W : World} (h : In W (t3 p q r)) : Calls Try.prog 32 #[.agg #[.pointer (some ⟨p, 0, none⟩)], .int .i64 0] W fun e w' => e = .returned (.tuple #[.string ⟨#[97]⟩, .int .i64 1, .bool true]) ∧ Below W.heap.size W w' := mAt_any (t3 p q r) 0 W h (by decide) (by decide) (by simp [T.n, t3])
theorem k_take_b {p q r : Nat} {W : World} (h : In W (t3 p q r)) : Calls Try.prog 13 #[.agg #[.pointer (some ⟨p, 0, none⟩)], .string ⟨#[98]⟩] W fun e w' => ∃ x t', e = .returned (.agg #[.pointer x]) ∧ t'.ptr = .pointer x ∧ In w' t' ∧ t'.find kB = .nil ∧ Below W.heap.size W w' := by
  refine Calls.mono (mTake_any (t3 p q r) kB W h (by simp [T.n, t3])) ?_
  rintro e w' ⟨t', rfl, hi, ht, hb⟩
  obtain ⟨x, hx⟩ := t'.ptr_shape
  exact ⟨x, t', by unfold mv; rw [hx], hx, hi, take_b ht, hb⟩
theorem k_get_0 {x : Option Addr} {t' : T} {W : World} (hx : t'.ptr = .pointer x) (h : In W t') (hf : t'.find kB = .nil) : Calls Try.prog 31 #[.agg #[.pointer x], .string ⟨#[98]⟩] W fun e w' => e = .returned (.tuple #[.int .i64 0, .bool false]) ∧ Below W.heap.size W w' := by
  have := get_any t' kB W h
  rw [hf] at this
  unfold mv at this
  rw [hx] at this
  exact this
theorem In.under {w : World} : ∀ {t : T}, In w t → t.under w.heap.size
  | .nil, _ => trivial
  | .node _ _ _ _ _, h => ⟨h.lt, In.under h.2.1, In.under h.2.2⟩
theorem k_take_x {p q r : Nat} {W : World} (h : In W (t3 p q r)) : Calls Try.prog 13 #[.agg #[.pointer (some ⟨p, 0, none⟩)], .string ⟨#[120]⟩] W fun e w' => e = .returned (.agg #[.pointer (some ⟨p, 0, none⟩)]) ∧ Below W.heap.size W w' := by
  refine Calls.mono (mTake_any (t3 p q r) kX W h (by simp [T.n, t3])) ?_
  rintro e w' ⟨t', rfl, hi, ht, hb⟩
  rw [take_x ht (In.under h)]
  exact ⟨rfl, hb⟩
theorem k_put_c {p q r : Nat} {W : World} (h : In W (t3 p q r)) : Calls Try.prog 9 #[.agg #[.pointer (some ⟨p, 0, none⟩)], .string ⟨#[99]⟩, .int .i64 9] W fun e w' => ∃ a b, e = .returned (.agg #[.pointer (some ⟨a, 0, none⟩)]) ∧ In w' (tn a b q) ∧ Below W.heap.size W w' := by
  refine Calls.mono (mPut_any (t3 p q r) kC 9 W h (by simp [T.n, t3])) ?_
  rintro e w' ⟨t', rfl, hi, ht, hb⟩
  obtain ⟨a, b, rfl⟩ := put_c ht
  exact ⟨a, b, rfl, hi, hb⟩
theorem k_j1 {p q r : Nat} {W : World} (h : In W (t3 p q r)) : Calls Try.prog 18 #[.agg #[.pointer (some ⟨p, 0, none⟩)], .string ⟨#[99]⟩, .int .i64 0, .agg #[.pointer none]] W fun e w' => e = .returned (.tuple #[.agg #[.pointer none], .int .i64 2]) ∧ Below W.heap.size W w' := by
  refine Calls.mono (mJoin_any (t3 p q r) .nil kC 0 W h trivial (by simp [T.n, t3])) ?_
  have hf : fitsB (t3 p q r) kC .nil = false := rfl
  rintro e w' ⟨t', he, h1, _, _, hb⟩
  rw [hf] at he
  rw [h1 hf] at he
  exact ⟨he, hb⟩
theorem k_j2 {p q r : Nat} {W : World} (h : In W (t3 p q r)) : Calls Try.prog 18 #[.agg #[.pointer none], .string ⟨#[97]⟩, .int .i64 0, .agg #[.pointer (some ⟨p, 0, none⟩)]] W fun e w' => e = .returned (.tuple #[.agg #[.pointer none], .int .i64 2]) ∧ Below W.heap.size W w' := by
  refine Calls.mono (mJoin_any .nil (t3 p q r) kA 0 W trivial h (by simp [T.n, t3])) ?_
  have hf : fitsB .nil kA (t3 p q r) = false := rfl
  rintro e w' ⟨t', he, h1, _, _, hb⟩
  rw [hf] at he
  rw [h1 hf] at he
  exact ⟨he, hb⟩
theorem k_len {p q r : Nat} {W : World} (h : In W (t3 p q r)) : Calls Try.prog 19 #[.agg #[.pointer (some ⟨p, 0, none⟩)]] W fun e w' => e = .returned (.int .i64 3) ∧ Below W.heap.size W w' := mLen_any (t3 p q r) W h
theorem k_h {p q r : Nat} {W : World} (h : In W (t3 p q r)) : Calls Try.prog 12 #[.agg #[.pointer (some ⟨p, 0, none⟩)]] W fun e w' => e = .returned (.int .i64 2) ∧ Below W.heap.size W w' := mHeight_any (t3 p q r) W h
theorem k_same {p q r : Nat} {W : World} (h : In W (t3 p q r)) : Calls Try.prog 15 #[.agg #[.pointer (some ⟨p, 0, none⟩)], .agg #[.pointer (some ⟨p, 0, none⟩)]] W fun e w' => e = .returned (.bool true) ∧ Below W.heap.size W w' := by
  have := mSame_any (t3 p q r) (t3 p q r) W h h
  rw [decide_eq_true rfl] at this
  exact this
theorem k_sh {p q r a b : Nat} {W : World} (h : In W (t3 p q r)) (h2 : In W (tn a b q)) : ∃ s : Nat, 1 ≤ s ∧ Calls Try.prog 20 #[.agg #[.pointer (some ⟨p, 0, none⟩)], .agg #[.pointer (some ⟨a, 0, none⟩)]] W fun e w' => e = .returned (.int .i64 (s : Nat)) ∧ Below W.heap.size W w' := ⟨_, shares p q r a b, shared_any (t3 p q r) (tn a b q) W h h2 (by simp [T.n, t3])⟩

set_option maxHeartbeats 8000000 in
set_option maxRecDepth 100000 in
theorem known_any (w : World) : Calls Try.prog 7 #[] w fun e w' => e = .returned (.bool true) ∧ Below w.heap.size w w' := by
  go_enter Try.func7, Try.ntmps7
  have g1 := of3w w
  go_upto_region 2 with (go_at_call 21; refine g1.mono ?_; rintro e w1 ⟨p, q, r, rfl, hi1, b1⟩; dsimp only)
  clear g1
  obtain ⟨wa, hwa⟩ : ∃ wa, wa = w1.alloc (.cells #[.pointer (some ⟨p, 0, none⟩)] 26) := ⟨_, rfl⟩
  have ba1 : Below w1.heap.size w1 wa := by rw [hwa]; exact (Below.refl _ w1).alloc (Nat.le_refl _) _
  have ba : Below w.heap.size w wa := b1.trans (ba1.mono b1.size)
  have ia := In.below ba1 hi1
  have cm : wa.cell? ⟨w1.heap.size, 0, none⟩ = some (.pointer (some ⟨p, 0, none⟩)) := by rw [hwa]; exact cell_new w1 _ 26
  rw [← hwa]
  have HA := hide (And.intro ba ia)
  have HWA := hide hwa
  clear hwa ba1 b1 hi1 ba ia
  obtain ⟨B1, hB1⟩ : ∃ B1, B1 = w1.heap.size := ⟨_, rfl⟩
  rw [← hB1] at cm ⊢
  clear hB1
  have g2 := of2w wa
  go_upto_region 3 with (go_at_call 21; refine g2.mono ?_; rintro e w2 ⟨rfl, b2⟩; have c2 := cell_stays cm b2; dsimp only)
  clear g2
  obtain ⟨wb, hwb⟩ : ∃ wb, wb = w2.alloc (.cells #[.pointer none] 26) := ⟨_, rfl⟩
  have bb1 : Below w2.heap.size w2 wb := by rw [hwb]; exact (Below.refl _ w2).alloc (Nat.le_refl _) _
  have Hb : Below wa.heap.size wa wb := b2.trans (bb1.mono b2.size)
  have cb := cell_stays cm Hb
  rw [← hwb]
  have HB := hide Hb
  clear hwb bb1 b2 c2 cm Hb
  go_upto_region 7 with (first
    | (go_at_call 13; refine (k_take_b (In.below HB.out HA.out.2)).mono ?_; rintro e w3 ⟨x3, t', rfl, hx3, i3, f3, b3⟩; have c3 := cell_stays cb b3; have H3 := hide (And.intro hx3 (And.intro i3 (And.intro f3 (HB.out.trans (b3.mono HB.out.size))))); clear hx3 i3 f3 b3; dsimp only)
    | (go_at_call_of 31 x3; refine (k_get_0 H3.out.1 H3.out.2.1 H3.out.2.2.1).mono ?_; rintro e w4 ⟨rfl, b4⟩; have c4 := cell_stays c3 b4; have H4 := hide (H3.out.2.2.2.trans (b4.mono H3.out.2.2.2.size)); clear b4; dsimp only)
    | (go_at_call 31; refine (k_get_b (In.below H4.out HA.out.2)).mono ?_; rintro e w5 ⟨rfl, b5⟩; have c5 := cell_stays c4 b5; have H5 := hide (H4.out.trans (b5.mono H4.out.size)); clear b5; dsimp only)
    | (go_at_call 32; refine (k_at (In.below H5.out HA.out.2)).mono ?_; rintro e w6 ⟨rfl, b6⟩; have c6 := cell_stays c5 b6; have H6 := hide (H5.out.trans (b6.mono H5.out.size)); clear b6; dsimp only)
    | (go_at_call 9; refine (k_put_c (In.below H6.out HA.out.2)).mono ?_; rintro e w7 ⟨a, b, rfl, i7, b7⟩; have c7 := cell_stays c6 b7; have H7 := hide (And.intro i7 (H6.out.trans (b7.mono H6.out.size))); clear b7 i7; dsimp only))
  obtain ⟨wc, hwc⟩ : ∃ wc, wc = w7.alloc (.cells #[.pointer (some ⟨a, 0, none⟩)] 26) := ⟨_, rfl⟩
  have bc1 : Below w7.heap.size w7 wc := by rw [hwc]; exact (Below.refl _ w7).alloc (Nat.le_refl _) _
  have d0 : wc.cell? ⟨w7.heap.size, 0, none⟩ = some (.pointer (some ⟨a, 0, none⟩)) := by rw [hwc]; exact cell_new w7 _ 26
  have c0 := cell_stays c7 bc1
  have HC := hide (And.intro (In.below bc1 H7.out.1) (H7.out.2.trans (bc1.mono H7.out.2.size)))
  rw [← hwc]
  obtain ⟨B2, hB2⟩ : ∃ B2, B2 = w7.heap.size := ⟨_, rfl⟩
  rw [← hB2] at d0 ⊢
  clear hB2 hwc bc1 c3 c4 c5 c6 c7 cb
  go_upto_region 9 with (first
    | (go_at_call_of 31 a; refine (k_get_n HC.out.1).mono ?_; rintro e w8 ⟨rfl, b8⟩; have c8 := cell_stays c0 b8; have d8 := cell_stays d0 b8; have H8 := hide (And.intro (In.below b8 HC.out.1) (HC.out.2.trans (b8.mono HC.out.2.size))); clear b8; dsimp only)
    | (go_at_call 31; refine (k_get_c (In.below H8.out.2 HA.out.2)).mono ?_; rintro e w9 ⟨rfl, b9⟩; have c9 := cell_stays c8 b9; have d9 := cell_stays d8 b9; have H9 := hide (And.intro (In.below b9 H8.out.1) (H8.out.2.trans (b9.mono H8.out.2.size))); clear b9; dsimp only))
  go_upto_region 10 with (go_at_call 18; refine (k_j1 (In.below H9.out.2 HA.out.2)).mono ?_; rintro e w10 ⟨rfl, b10⟩; have c10 := cell_stays c9 b10; have d10 := cell_stays d9 b10; have H10 := hide (And.intro (In.below b10 H9.out.1) (H9.out.2.trans (b10.mono H9.out.2.size))); clear b10; dsimp only)
  obtain ⟨wd, hwd⟩ : ∃ wd, wd = w10.alloc (.cells #[.pointer none] 26) := ⟨_, rfl⟩
  have bd1 : Below w10.heap.size w10 wd := by rw [hwd]; exact (Below.refl _ w10).alloc (Nat.le_refl _) _
  have HD := hide (And.intro (In.below bd1 H10.out.1) (H10.out.2.trans (bd1.mono H10.out.2.size)))
  have cd := cell_stays c10 bd1
  have dd := cell_stays d10 bd1
  rw [← hwd]
  clear hwd bd1 c0 c8 c9 c10 d0 d8 d9 d10
  go_upto_region 11 with (go_at_call 18; refine (k_j2 (In.below HD.out.2 HA.out.2)).mono ?_; rintro e w11 ⟨rfl, b11⟩; have c11 := cell_stays cd b11; have d11 := cell_stays dd b11; have H11 := hide (And.intro (In.below b11 HD.out.1) (HD.out.2.trans (b11.mono HD.out.2.size))); clear b11; dsimp only)
  obtain ⟨we, hwe⟩ : ∃ we, we = w11.alloc (.cells #[.pointer none] 26) := ⟨_, rfl⟩
  have be1 : Below w11.heap.size w11 we := by rw [hwe]; exact (Below.refl _ w11).alloc (Nat.le_refl _) _
  have HN := hide (In.below be1 H11.out.1)
  have q0 : we.cell? ⟨B1, 0, none⟩ = some (.pointer (some ⟨p, 0, none⟩)) ∧ we.cell? ⟨B2, 0, none⟩ = some (.pointer (some ⟨a, 0, none⟩)) ∧ Hid (Below wa.heap.size wa we) := ⟨cell_stays c11 be1, cell_stays d11 be1, hide (H11.out.2.trans (be1.mono H11.out.2.size))⟩
  rw [← hwe]
  clear hwe be1 cd dd c11 d11
  dsimp only [List.append]
  have qd : we.drew.cell? ⟨B1, 0, none⟩ = some (.pointer (some ⟨p, 0, none⟩)) ∧ we.drew.cell? ⟨B2, 0, none⟩ = some (.pointer (some ⟨a, 0, none⟩)) ∧ Hid (Below wa.heap.size wa we.drew) := ⟨q0.1, q0.2.1, hide (q0.2.2.out.trans ((drew_below we).mono q0.2.2.out.size))⟩
  refine wp_region_held_drew (S := (fun w' => w'.cell? ⟨B1, 0, none⟩ = some (.pointer (some ⟨p, 0, none⟩)) ∧ w'.cell? ⟨B2, 0, none⟩ = some (.pointer (some ⟨a, 0, none⟩)) ∧ Hid (Below wa.heap.size wa w'))) (by kernel_rfl) qd (fun hHeld => ?_)
  try dsimp only at hHeld
  refine take_op (i := 0) (d := 74) (OP := Op.move (Operand.tmp 18)) (T := 46) (v := ?vzz1) rfl rfl rfl rfl (by kernel_rfl) (by kernel_rfl) (by kernel_rfl) (fun _ _ _ h => h) (by rfl) ?hzz1 hHeld ?rzz1
  case hzz1 => (intro w' hSw; (try dsimp only at hSw); go_simp <;> with_reducible rfl)
  try simp only [Act.put, List.setIfInBounds_toArray, List.set_cons_zero, List.set_cons_succ]
  refine take_op (i := 1) (d := 75) (OP := Op.binOp BinOp.eql 46 (Operand.tmp 74) (Operand.const (Value.int IntKind.i64 2)) 46) (T := 4) (v := ?vzz2) rfl rfl rfl rfl (by kernel_rfl) (by kernel_rfl) (by kernel_rfl) (fun _ _ _ h => h) (by rfl) ?hzz2 hHeld ?rzz2
  case hzz2 => (intro w' hSw; (try dsimp only at hSw); go_simp <;> with_reducible rfl)
  try simp only [Act.put, List.setIfInBounds_toArray, List.set_cons_zero, List.set_cons_succ]
  refine take_op (i := 2) (d := 76) (OP := Op.move (Operand.tmp 75)) (T := 4) (v := ?vzz3) rfl rfl rfl rfl (by kernel_rfl) (by kernel_rfl) (by kernel_rfl) (fun _ _ _ h => h) (by rfl) ?hzz3 hHeld ?rzz3
  case hzz3 => (intro w' hSw; (try dsimp only at hSw); go_simp <;> with_reducible rfl)
  try simp only [Act.put, List.setIfInBounds_toArray, List.set_cons_zero, List.set_cons_succ]
  refine take_op (i := 3) (d := 77) (OP := Op.move (Operand.tmp 20)) (T := 46) (v := ?vzz4) rfl rfl rfl rfl (by kernel_rfl) (by kernel_rfl) (by kernel_rfl) (fun _ _ _ h => h) (by rfl) ?hzz4 hHeld ?rzz4
  case hzz4 => (intro w' hSw; (try dsimp only at hSw); go_simp <;> with_reducible rfl)
  try simp only [Act.put, List.setIfInBounds_toArray, List.set_cons_zero, List.set_cons_succ]
  refine take_op (i := 4) (d := 78) (OP := Op.binOp BinOp.eql 46 (Operand.tmp 77) (Operand.const (Value.int IntKind.i64 2)) 46) (T := 4) (v := ?vzz5) rfl rfl rfl rfl (by kernel_rfl) (by kernel_rfl) (by kernel_rfl) (fun _ _ _ h => h) (by rfl) ?hzz5 hHeld ?rzz5
  case hzz5 => (intro w' hSw; (try dsimp only at hSw); go_simp <;> with_reducible rfl)
  try simp only [Act.put, List.setIfInBounds_toArray, List.set_cons_zero, List.set_cons_succ]
  refine take_op (i := 5) (d := 79) (OP := Op.pick (Operand.tmp 76) (Operand.tmp 78) (Operand.const (Value.bool false))) (T := 4) (v := ?vzz6) rfl rfl rfl rfl (by kernel_rfl) (by kernel_rfl) (by kernel_rfl) (fun _ _ _ h => h) (by rfl) ?hzz6 hHeld ?rzz6
  case hzz6 => (intro w' hSw; (try dsimp only at hSw); go_simp <;> with_reducible rfl)
  try simp only [Act.put, List.setIfInBounds_toArray, List.set_cons_zero, List.set_cons_succ]
  refine take_op (i := 6) (d := 80) (OP := Op.move (Operand.tmp 79)) (T := 4) (v := ?vzz7) rfl rfl rfl rfl (by kernel_rfl) (by kernel_rfl) (by kernel_rfl) (fun _ _ _ h => h) (by rfl) ?hzz7 hHeld ?rzz7
  case hzz7 => (intro w' hSw; (try dsimp only at hSw); go_simp <;> with_reducible rfl)
  try simp only [Act.put, List.setIfInBounds_toArray, List.set_cons_zero, List.set_cons_succ]
  refine take_op (i := 7) (d := 81) (OP := Op.move (Operand.tmp 2)) (T := 46) (v := ?vzz8) rfl rfl rfl rfl (by kernel_rfl) (by kernel_rfl) (by kernel_rfl) (fun _ _ _ h => h) (by rfl) ?hzz8 hHeld ?rzz8
  case hzz8 => (intro w' hSw; (try dsimp only at hSw); go_simp <;> with_reducible rfl)
  try simp only [Act.put, List.setIfInBounds_toArray, List.set_cons_zero, List.set_cons_succ]
  refine take_op (i := 8) (d := 82) (OP := Op.binOp BinOp.eql 46 (Operand.tmp 81) (Operand.const (Value.int IntKind.i64 0)) 46) (T := 4) (v := ?vzz9) rfl rfl rfl rfl (by kernel_rfl) (by kernel_rfl) (by kernel_rfl) (fun _ _ _ h => h) (by rfl) ?hzz9 hHeld ?rzz9
  case hzz9 => (intro w' hSw; (try dsimp only at hSw); go_simp <;> with_reducible rfl)
  try simp only [Act.put, List.setIfInBounds_toArray, List.set_cons_zero, List.set_cons_succ]
  refine take_op (i := 9) (d := 83) (OP := Op.pick (Operand.tmp 80) (Operand.tmp 82) (Operand.const (Value.bool false))) (T := 4) (v := ?vzz10) rfl rfl rfl rfl (by kernel_rfl) (by kernel_rfl) (by kernel_rfl) (fun _ _ _ h => h) (by rfl) ?hzz10 hHeld ?rzz10
  case hzz10 => (intro w' hSw; (try dsimp only at hSw); go_simp <;> with_reducible rfl)
  try simp only [Act.put, List.setIfInBounds_toArray, List.set_cons_zero, List.set_cons_succ]
  refine take_op (i := 10) (d := 84) (OP := Op.move (Operand.tmp 83)) (T := 4) (v := ?vzz11) rfl rfl rfl rfl (by kernel_rfl) (by kernel_rfl) (by kernel_rfl) (fun _ _ _ h => h) (by rfl) ?hzz11 hHeld ?rzz11
  case hzz11 => (intro w' hSw; (try dsimp only at hSw); go_simp <;> with_reducible rfl)
  try simp only [Act.put, List.setIfInBounds_toArray, List.set_cons_zero, List.set_cons_succ]
  refine take_op (i := 11) (d := 85) (OP := Op.move (Operand.tmp 4)) (T := 46) (v := ?vzz12) rfl rfl rfl rfl (by kernel_rfl) (by kernel_rfl) (by kernel_rfl) (fun _ _ _ h => h) (by rfl) ?hzz12 hHeld ?rzz12
  case hzz12 => (intro w' hSw; (try dsimp only at hSw); go_simp <;> with_reducible rfl)
  try simp only [Act.put, List.setIfInBounds_toArray, List.set_cons_zero, List.set_cons_succ]
  refine take_op (i := 12) (d := 86) (OP := Op.binOp BinOp.eql 46 (Operand.tmp 85) (Operand.const (Value.int IntKind.i64 2)) 46) (T := 4) (v := ?vzz13) rfl rfl rfl rfl (by kernel_rfl) (by kernel_rfl) (by kernel_rfl) (fun _ _ _ h => h) (by rfl) ?hzz13 hHeld ?rzz13
  case hzz13 => (intro w' hSw; (try dsimp only at hSw); go_simp <;> with_reducible rfl)
  try simp only [Act.put, List.setIfInBounds_toArray, List.set_cons_zero, List.set_cons_succ]
  refine take_op (i := 13) (d := 87) (OP := Op.pick (Operand.tmp 84) (Operand.tmp 86) (Operand.const (Value.bool false))) (T := 4) (v := ?vzz14) rfl rfl rfl rfl (by kernel_rfl) (by kernel_rfl) (by kernel_rfl) (fun _ _ _ h => h) (by rfl) ?hzz14 hHeld ?rzz14
  case hzz14 => (intro w' hSw; (try dsimp only at hSw); go_simp <;> with_reducible rfl)
  try simp only [Act.put, List.setIfInBounds_toArray, List.set_cons_zero, List.set_cons_succ]
  refine take_op (i := 14) (d := 88) (OP := Op.move (Operand.tmp 87)) (T := 4) (v := ?vzz15) rfl rfl rfl rfl (by kernel_rfl) (by kernel_rfl) (by kernel_rfl) (fun _ _ _ h => h) (by rfl) ?hzz15 hHeld ?rzz15
  case hzz15 => (intro w' hSw; (try dsimp only at hSw); go_simp <;> with_reducible rfl)
  try simp only [Act.put, List.setIfInBounds_toArray, List.set_cons_zero, List.set_cons_succ]
  refine take_op (i := 15) (d := 89) (OP := Op.load 26 (Operand.tmp 1)) (T := 26) (v := ?vzz16) rfl rfl rfl rfl (by kernel_rfl) (by kernel_rfl) (by kernel_rfl) (fun _ _ _ h => h) (by rfl) ?hzz16 hHeld ?rzz16
  case hzz16 => (intro w' hSw; (try dsimp only at hSw); go_simp <;> with_reducible rfl)
  try simp only [Act.put, List.setIfInBounds_toArray, List.set_cons_zero, List.set_cons_succ]
  refine call_op (i := 16) (d := 90) (OP := Op.call { callee := Callee.value (Operand.func 19), args := #[Operand.tmp 89], argTypes := #[26] }) (T := 3) (f := 19) (args := #[.agg #[.pointer (some ⟨p, 0, none⟩)]]) rfl rfl rfl rfl (by kernel_rfl) (by rfl) (by go_simp) ?_
  refine (k_len (In.below qd.2.2.out HA.out.2)).mono ?_
  rintro e v1 ⟨rfl, bv1⟩
  have qv1 : v1.cell? ⟨B1, 0, none⟩ = some (.pointer (some ⟨p, 0, none⟩)) ∧ v1.cell? ⟨B2, 0, none⟩ = some (.pointer (some ⟨a, 0, none⟩)) ∧ Hid (Below wa.heap.size wa v1) := ⟨cell_stays qd.1 bv1, cell_stays qd.2.1 bv1, hide (qd.2.2.out.trans (bv1.mono qd.2.2.out.size))⟩
  refine ⟨_, rfl, qv1, ?_⟩
  replace hHeld := qv1
  try simp only [Act.put, List.setIfInBounds_toArray, List.set_cons_zero, List.set_cons_succ]
  refine take_op (i := 17) (d := 91) (OP := Op.binOp BinOp.eql 3 (Operand.tmp 90) (Operand.const (Value.int IntKind.i64 3)) 3) (T := 4) (v := ?vzz17) rfl rfl rfl rfl (by kernel_rfl) (by kernel_rfl) (by kernel_rfl) (fun _ _ _ h => h) (by rfl) ?hzz17 hHeld ?rzz17
  case hzz17 => (intro w' hSw; (try dsimp only at hSw); go_simp <;> with_reducible rfl)
  try simp only [Act.put, List.setIfInBounds_toArray, List.set_cons_zero, List.set_cons_succ]
  refine take_op (i := 18) (d := 92) (OP := Op.pick (Operand.tmp 88) (Operand.tmp 91) (Operand.const (Value.bool false))) (T := 4) (v := ?vzz18) rfl rfl rfl rfl (by kernel_rfl) (by kernel_rfl) (by kernel_rfl) (fun _ _ _ h => h) (by rfl) ?hzz18 hHeld ?rzz18
  case hzz18 => (intro w' hSw; (try dsimp only at hSw); go_simp <;> with_reducible rfl)
  try simp only [Act.put, List.setIfInBounds_toArray, List.set_cons_zero, List.set_cons_succ]
  refine take_op (i := 19) (d := 93) (OP := Op.move (Operand.tmp 92)) (T := 4) (v := ?vzz19) rfl rfl rfl rfl (by kernel_rfl) (by kernel_rfl) (by kernel_rfl) (fun _ _ _ h => h) (by rfl) ?hzz19 hHeld ?rzz19
  case hzz19 => (intro w' hSw; (try dsimp only at hSw); go_simp <;> with_reducible rfl)
  try simp only [Act.put, List.setIfInBounds_toArray, List.set_cons_zero, List.set_cons_succ]
  refine take_op (i := 20) (d := 94) (OP := Op.load 26 (Operand.tmp 1)) (T := 26) (v := ?vzz20) rfl rfl rfl rfl (by kernel_rfl) (by kernel_rfl) (by kernel_rfl) (fun _ _ _ h => h) (by rfl) ?hzz20 hHeld ?rzz20
  case hzz20 => (intro w' hSw; (try dsimp only at hSw); go_simp <;> with_reducible rfl)
  try simp only [Act.put, List.setIfInBounds_toArray, List.set_cons_zero, List.set_cons_succ]
  refine call_op (i := 21) (d := 95) (OP := Op.call { callee := Callee.value (Operand.func 12), args := #[Operand.tmp 94], argTypes := #[26] }) (T := 3) (f := 12) (args := #[.agg #[.pointer (some ⟨p, 0, none⟩)]]) rfl rfl rfl rfl (by kernel_rfl) (by rfl) (by go_simp) ?_
  refine (k_h (In.below qv1.2.2.out HA.out.2)).mono ?_
  rintro e v2 ⟨rfl, bv2⟩
  have qv2 : v2.cell? ⟨B1, 0, none⟩ = some (.pointer (some ⟨p, 0, none⟩)) ∧ v2.cell? ⟨B2, 0, none⟩ = some (.pointer (some ⟨a, 0, none⟩)) ∧ Hid (Below wa.heap.size wa v2) := ⟨cell_stays qv1.1 bv2, cell_stays qv1.2.1 bv2, hide (qv1.2.2.out.trans (bv2.mono qv1.2.2.out.size))⟩
  refine ⟨_, rfl, qv2, ?_⟩
  replace hHeld := qv2
  try simp only [Act.put, List.setIfInBounds_toArray, List.set_cons_zero, List.set_cons_succ]
  refine take_op (i := 22) (d := 96) (OP := Op.binOp BinOp.eql 3 (Operand.tmp 95) (Operand.const (Value.int IntKind.i64 2)) 3) (T := 4) (v := ?vzz21) rfl rfl rfl rfl (by kernel_rfl) (by kernel_rfl) (by kernel_rfl) (fun _ _ _ h => h) (by rfl) ?hzz21 hHeld ?rzz21
  case hzz21 => (intro w' hSw; (try dsimp only at hSw); go_simp <;> with_reducible rfl)
  try simp only [Act.put, List.setIfInBounds_toArray, List.set_cons_zero, List.set_cons_succ]
  refine take_op (i := 23) (d := 97) (OP := Op.pick (Operand.tmp 93) (Operand.tmp 96) (Operand.const (Value.bool false))) (T := 4) (v := ?vzz22) rfl rfl rfl rfl (by kernel_rfl) (by kernel_rfl) (by kernel_rfl) (fun _ _ _ h => h) (by rfl) ?hzz22 hHeld ?rzz22
  case hzz22 => (intro w' hSw; (try dsimp only at hSw); go_simp <;> with_reducible rfl)
  try simp only [Act.put, List.setIfInBounds_toArray, List.set_cons_zero, List.set_cons_succ]
  refine take_op (i := 24) (d := 98) (OP := Op.move (Operand.tmp 97)) (T := 4) (v := ?vzz23) rfl rfl rfl rfl (by kernel_rfl) (by kernel_rfl) (by kernel_rfl) (fun _ _ _ h => h) (by rfl) ?hzz23 hHeld ?rzz23
  case hzz23 => (intro w' hSw; (try dsimp only at hSw); go_simp <;> with_reducible rfl)
  try simp only [Act.put, List.setIfInBounds_toArray, List.set_cons_zero, List.set_cons_succ]
  refine take_op (i := 25) (d := 99) (OP := Op.move (Operand.tmp 9)) (T := 9) (v := ?vzz24) rfl rfl rfl rfl (by kernel_rfl) (by kernel_rfl) (by kernel_rfl) (fun _ _ _ h => h) (by rfl) ?hzz24 hHeld ?rzz24
  case hzz24 => (intro w' hSw; (try dsimp only at hSw); go_simp <;> with_reducible rfl)
  try simp only [Act.put, List.setIfInBounds_toArray, List.set_cons_zero, List.set_cons_succ]
  refine take_op (i := 26) (d := 100) (OP := Op.binOp BinOp.eql 9 (Operand.tmp 99) (Operand.const (Value.string { data := #[97] })) 9) (T := 4) (v := ?vzz25) rfl rfl rfl rfl (by kernel_rfl) (by kernel_rfl) (by kernel_rfl) (fun _ _ _ h => h) (by rfl) ?hzz25 hHeld ?rzz25
  case hzz25 => (intro w' hSw; (try dsimp only at hSw); go_simp <;> with_reducible rfl)
  try simp only [Act.put, List.setIfInBounds_toArray, List.set_cons_zero, List.set_cons_succ]
  refine take_op (i := 27) (d := 101) (OP := Op.pick (Operand.tmp 98) (Operand.tmp 100) (Operand.const (Value.bool false))) (T := 4) (v := ?vzz26) rfl rfl rfl rfl (by kernel_rfl) (by kernel_rfl) (by kernel_rfl) (fun _ _ _ h => h) (by rfl) ?hzz26 hHeld ?rzz26
  case hzz26 => (intro w' hSw; (try dsimp only at hSw); go_simp <;> with_reducible rfl)
  try simp only [Act.put, List.setIfInBounds_toArray, List.set_cons_zero, List.set_cons_succ]
  refine take_op (i := 28) (d := 102) (OP := Op.move (Operand.tmp 101)) (T := 4) (v := ?vzz27) rfl rfl rfl rfl (by kernel_rfl) (by kernel_rfl) (by kernel_rfl) (fun _ _ _ h => h) (by rfl) ?hzz27 hHeld ?rzz27
  case hzz27 => (intro w' hSw; (try dsimp only at hSw); go_simp <;> with_reducible rfl)
  try simp only [Act.put, List.setIfInBounds_toArray, List.set_cons_zero, List.set_cons_succ]
  refine take_op (i := 29) (d := 103) (OP := Op.move (Operand.tmp 10)) (T := 3) (v := ?vzz28) rfl rfl rfl rfl (by kernel_rfl) (by kernel_rfl) (by kernel_rfl) (fun _ _ _ h => h) (by rfl) ?hzz28 hHeld ?rzz28
  case hzz28 => (intro w' hSw; (try dsimp only at hSw); go_simp <;> with_reducible rfl)
  try simp only [Act.put, List.setIfInBounds_toArray, List.set_cons_zero, List.set_cons_succ]
  refine take_op (i := 30) (d := 104) (OP := Op.binOp BinOp.eql 3 (Operand.tmp 103) (Operand.const (Value.int IntKind.i64 1)) 3) (T := 4) (v := ?vzz29) rfl rfl rfl rfl (by kernel_rfl) (by kernel_rfl) (by kernel_rfl) (fun _ _ _ h => h) (by rfl) ?hzz29 hHeld ?rzz29
  case hzz29 => (intro w' hSw; (try dsimp only at hSw); go_simp <;> with_reducible rfl)
  try simp only [Act.put, List.setIfInBounds_toArray, List.set_cons_zero, List.set_cons_succ]
  refine take_op (i := 31) (d := 105) (OP := Op.pick (Operand.tmp 102) (Operand.tmp 104) (Operand.const (Value.bool false))) (T := 4) (v := ?vzz30) rfl rfl rfl rfl (by kernel_rfl) (by kernel_rfl) (by kernel_rfl) (fun _ _ _ h => h) (by rfl) ?hzz30 hHeld ?rzz30
  case hzz30 => (intro w' hSw; (try dsimp only at hSw); go_simp <;> with_reducible rfl)
  try simp only [Act.put, List.setIfInBounds_toArray, List.set_cons_zero, List.set_cons_succ]
  refine take_op (i := 32) (d := 106) (OP := Op.move (Operand.tmp 105)) (T := 4) (v := ?vzz31) rfl rfl rfl rfl (by kernel_rfl) (by kernel_rfl) (by kernel_rfl) (fun _ _ _ h => h) (by rfl) ?hzz31 hHeld ?rzz31
  case hzz31 => (intro w' hSw; (try dsimp only at hSw); go_simp <;> with_reducible rfl)
  try simp only [Act.put, List.setIfInBounds_toArray, List.set_cons_zero, List.set_cons_succ]
  refine take_op (i := 33) (d := 107) (OP := Op.move (Operand.tmp 11)) (T := 4) (v := ?vzz32) rfl rfl rfl rfl (by kernel_rfl) (by kernel_rfl) (by kernel_rfl) (fun _ _ _ h => h) (by rfl) ?hzz32 hHeld ?rzz32
  case hzz32 => (intro w' hSw; (try dsimp only at hSw); go_simp <;> with_reducible rfl)
  try simp only [Act.put, List.setIfInBounds_toArray, List.set_cons_zero, List.set_cons_succ]
  refine take_op (i := 34) (d := 108) (OP := Op.pick (Operand.tmp 106) (Operand.tmp 107) (Operand.const (Value.bool false))) (T := 4) (v := ?vzz33) rfl rfl rfl rfl (by kernel_rfl) (by kernel_rfl) (by kernel_rfl) (fun _ _ _ h => h) (by rfl) ?hzz33 hHeld ?rzz33
  case hzz33 => (intro w' hSw; (try dsimp only at hSw); go_simp <;> with_reducible rfl)
  try simp only [Act.put, List.setIfInBounds_toArray, List.set_cons_zero, List.set_cons_succ]
  refine take_op (i := 35) (d := 109) (OP := Op.move (Operand.tmp 108)) (T := 4) (v := ?vzz34) rfl rfl rfl rfl (by kernel_rfl) (by kernel_rfl) (by kernel_rfl) (fun _ _ _ h => h) (by rfl) ?hzz34 hHeld ?rzz34
  case hzz34 => (intro w' hSw; (try dsimp only at hSw); go_simp <;> with_reducible rfl)
  try simp only [Act.put, List.setIfInBounds_toArray, List.set_cons_zero, List.set_cons_succ]
  refine take_op (i := 36) (d := 110) (OP := Op.load 26 (Operand.tmp 1)) (T := 26) (v := ?vzz35) rfl rfl rfl rfl (by kernel_rfl) (by kernel_rfl) (by kernel_rfl) (fun _ _ _ h => h) (by rfl) ?hzz35 hHeld ?rzz35
  case hzz35 => (intro w' hSw; (try dsimp only at hSw); go_simp <;> with_reducible rfl)
  try simp only [Act.put, List.setIfInBounds_toArray, List.set_cons_zero, List.set_cons_succ]
  refine take_op (i := 38) (d := 112) (OP := Op.load 26 (Operand.tmp 1)) (T := 26) (v := ?vzz36) rfl rfl rfl rfl (by kernel_rfl) (by kernel_rfl) (by kernel_rfl) (fun _ _ _ h => h) (by rfl) ?hzz36 hHeld ?rzz36
  case hzz36 => (intro w' hSw; (try dsimp only at hSw); go_simp <;> with_reducible rfl)
  try simp only [Act.put, List.setIfInBounds_toArray, List.set_cons_zero, List.set_cons_succ]
  refine call_op (i := 37) (d := 111) (OP := Op.call { callee := Callee.value (Operand.func 13), args := #[Operand.tmp 110, Operand.const (Value.string { data := #[120] })], argTypes := #[26, 9] }) (T := 26) (f := 13) (args := #[.agg #[.pointer (some ⟨p, 0, none⟩)], .string ⟨#[120]⟩]) rfl rfl rfl rfl (by kernel_rfl) (by rfl) (by go_simp) ?_
  refine (k_take_x (In.below qv2.2.2.out HA.out.2)).mono ?_
  rintro e v3 ⟨rfl, bv3⟩
  have qv3 : v3.cell? ⟨B1, 0, none⟩ = some (.pointer (some ⟨p, 0, none⟩)) ∧ v3.cell? ⟨B2, 0, none⟩ = some (.pointer (some ⟨a, 0, none⟩)) ∧ Hid (Below wa.heap.size wa v3) := ⟨cell_stays qv2.1 bv3, cell_stays qv2.2.1 bv3, hide (qv2.2.2.out.trans (bv3.mono qv2.2.2.out.size))⟩
  refine ⟨_, rfl, qv3, ?_⟩
  replace hHeld := qv3
  try simp only [Act.put, List.setIfInBounds_toArray, List.set_cons_zero, List.set_cons_succ]
  refine call_op (i := 39) (d := 113) (OP := Op.call { callee := Callee.value (Operand.func 15), args := #[Operand.tmp 111, Operand.tmp 112], argTypes := #[26, 26] }) (T := 4) (f := 15) (args := #[.agg #[.pointer (some ⟨p, 0, none⟩)], .agg #[.pointer (some ⟨p, 0, none⟩)]]) rfl rfl rfl rfl (by kernel_rfl) (by rfl) (by go_simp) ?_
  refine (k_same (In.below qv3.2.2.out HA.out.2)).mono ?_
  rintro e v4 ⟨rfl, bv4⟩
  have qv4 : v4.cell? ⟨B1, 0, none⟩ = some (.pointer (some ⟨p, 0, none⟩)) ∧ v4.cell? ⟨B2, 0, none⟩ = some (.pointer (some ⟨a, 0, none⟩)) ∧ Hid (Below wa.heap.size wa v4) := ⟨cell_stays qv3.1 bv4, cell_stays qv3.2.1 bv4, hide (qv3.2.2.out.trans (bv4.mono qv3.2.2.out.size))⟩
  refine ⟨_, rfl, qv4, ?_⟩
  replace hHeld := qv4
  try simp only [Act.put, List.setIfInBounds_toArray, List.set_cons_zero, List.set_cons_succ]
  refine take_op (i := 40) (d := 114) (OP := Op.pick (Operand.tmp 109) (Operand.tmp 113) (Operand.const (Value.bool false))) (T := 4) (v := ?vzz37) rfl rfl rfl rfl (by kernel_rfl) (by kernel_rfl) (by kernel_rfl) (fun _ _ _ h => h) (by rfl) ?hzz37 hHeld ?rzz37
  case hzz37 => (intro w' hSw; (try dsimp only at hSw); go_simp <;> with_reducible rfl)
  try simp only [Act.put, List.setIfInBounds_toArray, List.set_cons_zero, List.set_cons_succ]
  refine take_op (i := 41) (d := 115) (OP := Op.move (Operand.tmp 114)) (T := 4) (v := ?vzz38) rfl rfl rfl rfl (by kernel_rfl) (by kernel_rfl) (by kernel_rfl) (fun _ _ _ h => h) (by rfl) ?hzz38 hHeld ?rzz38
  case hzz38 => (intro w' hSw; (try dsimp only at hSw); go_simp <;> with_reducible rfl)
  try simp only [Act.put, List.setIfInBounds_toArray, List.set_cons_zero, List.set_cons_succ]
  refine take_op (i := 42) (d := 116) (OP := Op.move (Operand.tmp 5)) (T := 3) (v := ?vzz39) rfl rfl rfl rfl (by kernel_rfl) (by kernel_rfl) (by kernel_rfl) (fun _ _ _ h => h) (by rfl) ?hzz39 hHeld ?rzz39
  case hzz39 => (intro w' hSw; (try dsimp only at hSw); go_simp <;> with_reducible rfl)
  try simp only [Act.put, List.setIfInBounds_toArray, List.set_cons_zero, List.set_cons_succ]
  refine take_op (i := 43) (d := 117) (OP := Op.binOp BinOp.eql 3 (Operand.tmp 116) (Operand.const (Value.int IntKind.i64 0)) 3) (T := 4) (v := ?vzz40) rfl rfl rfl rfl (by kernel_rfl) (by kernel_rfl) (by kernel_rfl) (fun _ _ _ h => h) (by rfl) ?hzz40 hHeld ?rzz40
  case hzz40 => (intro w' hSw; (try dsimp only at hSw); go_simp <;> with_reducible rfl)
  try simp only [Act.put, List.setIfInBounds_toArray, List.set_cons_zero, List.set_cons_succ]
  refine take_op (i := 44) (d := 118) (OP := Op.pick (Operand.tmp 115) (Operand.tmp 117) (Operand.const (Value.bool false))) (T := 4) (v := ?vzz41) rfl rfl rfl rfl (by kernel_rfl) (by kernel_rfl) (by kernel_rfl) (fun _ _ _ h => h) (by rfl) ?hzz41 hHeld ?rzz41
  case hzz41 => (intro w' hSw; (try dsimp only at hSw); go_simp <;> with_reducible rfl)
  try simp only [Act.put, List.setIfInBounds_toArray, List.set_cons_zero, List.set_cons_succ]
  refine take_op (i := 45) (d := 119) (OP := Op.move (Operand.tmp 118)) (T := 4) (v := ?vzz42) rfl rfl rfl rfl (by kernel_rfl) (by kernel_rfl) (by kernel_rfl) (fun _ _ _ h => h) (by rfl) ?hzz42 hHeld ?rzz42
  case hzz42 => (intro w' hSw; (try dsimp only at hSw); go_simp <;> with_reducible rfl)
  try simp only [Act.put, List.setIfInBounds_toArray, List.set_cons_zero, List.set_cons_succ]
  refine take_op (i := 46) (d := 120) (OP := Op.move (Operand.tmp 6)) (T := 4) (v := ?vzz43) rfl rfl rfl rfl (by kernel_rfl) (by kernel_rfl) (by kernel_rfl) (fun _ _ _ h => h) (by rfl) ?hzz43 hHeld ?rzz43
  case hzz43 => (intro w' hSw; (try dsimp only at hSw); go_simp <;> with_reducible rfl)
  try simp only [Act.put, List.setIfInBounds_toArray, List.set_cons_zero, List.set_cons_succ]
  refine take_op (i := 47) (d := 121) (OP := Op.unOp UnOp.not 4 (Operand.tmp 120)) (T := 4) (v := ?vzz44) rfl rfl rfl rfl (by kernel_rfl) (by kernel_rfl) (by kernel_rfl) (fun _ _ _ h => h) (by rfl) ?hzz44 hHeld ?rzz44
  case hzz44 => (intro w' hSw; (try dsimp only at hSw); go_simp <;> with_reducible rfl)
  try simp only [Act.put, List.setIfInBounds_toArray, List.set_cons_zero, List.set_cons_succ]
  refine take_op (i := 48) (d := 122) (OP := Op.pick (Operand.tmp 119) (Operand.tmp 121) (Operand.const (Value.bool false))) (T := 4) (v := ?vzz45) rfl rfl rfl rfl (by kernel_rfl) (by kernel_rfl) (by kernel_rfl) (fun _ _ _ h => h) (by rfl) ?hzz45 hHeld ?rzz45
  case hzz45 => (intro w' hSw; (try dsimp only at hSw); go_simp <;> with_reducible rfl)
  try simp only [Act.put, List.setIfInBounds_toArray, List.set_cons_zero, List.set_cons_succ]
  refine take_op (i := 49) (d := 123) (OP := Op.move (Operand.tmp 122)) (T := 4) (v := ?vzz46) rfl rfl rfl rfl (by kernel_rfl) (by kernel_rfl) (by kernel_rfl) (fun _ _ _ h => h) (by rfl) ?hzz46 hHeld ?rzz46
  case hzz46 => (intro w' hSw; (try dsimp only at hSw); go_simp <;> with_reducible rfl)
  try simp only [Act.put, List.setIfInBounds_toArray, List.set_cons_zero, List.set_cons_succ]
  refine take_op (i := 50) (d := 124) (OP := Op.move (Operand.tmp 7)) (T := 3) (v := ?vzz47) rfl rfl rfl rfl (by kernel_rfl) (by kernel_rfl) (by kernel_rfl) (fun _ _ _ h => h) (by rfl) ?hzz47 hHeld ?rzz47
  case hzz47 => (intro w' hSw; (try dsimp only at hSw); go_simp <;> with_reducible rfl)
  try simp only [Act.put, List.setIfInBounds_toArray, List.set_cons_zero, List.set_cons_succ]
  refine take_op (i := 51) (d := 125) (OP := Op.binOp BinOp.eql 3 (Operand.tmp 124) (Operand.const (Value.int IntKind.i64 2)) 3) (T := 4) (v := ?vzz48) rfl rfl rfl rfl (by kernel_rfl) (by kernel_rfl) (by kernel_rfl) (fun _ _ _ h => h) (by rfl) ?hzz48 hHeld ?rzz48
  case hzz48 => (intro w' hSw; (try dsimp only at hSw); go_simp <;> with_reducible rfl)
  try simp only [Act.put, List.setIfInBounds_toArray, List.set_cons_zero, List.set_cons_succ]
  refine take_op (i := 52) (d := 126) (OP := Op.pick (Operand.tmp 123) (Operand.tmp 125) (Operand.const (Value.bool false))) (T := 4) (v := ?vzz49) rfl rfl rfl rfl (by kernel_rfl) (by kernel_rfl) (by kernel_rfl) (fun _ _ _ h => h) (by rfl) ?hzz49 hHeld ?rzz49
  case hzz49 => (intro w' hSw; (try dsimp only at hSw); go_simp <;> with_reducible rfl)
  try simp only [Act.put, List.setIfInBounds_toArray, List.set_cons_zero, List.set_cons_succ]
  refine take_op (i := 53) (d := 127) (OP := Op.move (Operand.tmp 126)) (T := 4) (v := ?vzz50) rfl rfl rfl rfl (by kernel_rfl) (by kernel_rfl) (by kernel_rfl) (fun _ _ _ h => h) (by rfl) ?hzz50 hHeld ?rzz50
  case hzz50 => (intro w' hSw; (try dsimp only at hSw); go_simp <;> with_reducible rfl)
  try simp only [Act.put, List.setIfInBounds_toArray, List.set_cons_zero, List.set_cons_succ]
  refine take_op (i := 54) (d := 128) (OP := Op.move (Operand.tmp 8)) (T := 4) (v := ?vzz51) rfl rfl rfl rfl (by kernel_rfl) (by kernel_rfl) (by kernel_rfl) (fun _ _ _ h => h) (by rfl) ?hzz51 hHeld ?rzz51
  case hzz51 => (intro w' hSw; (try dsimp only at hSw); go_simp <;> with_reducible rfl)
  try simp only [Act.put, List.setIfInBounds_toArray, List.set_cons_zero, List.set_cons_succ]
  refine take_op (i := 55) (d := 129) (OP := Op.pick (Operand.tmp 127) (Operand.tmp 128) (Operand.const (Value.bool false))) (T := 4) (v := ?vzz52) rfl rfl rfl rfl (by kernel_rfl) (by kernel_rfl) (by kernel_rfl) (fun _ _ _ h => h) (by rfl) ?hzz52 hHeld ?rzz52
  case hzz52 => (intro w' hSw; (try dsimp only at hSw); go_simp <;> with_reducible rfl)
  try simp only [Act.put, List.setIfInBounds_toArray, List.set_cons_zero, List.set_cons_succ]
  refine take_op (i := 56) (d := 130) (OP := Op.move (Operand.tmp 129)) (T := 4) (v := ?vzz53) rfl rfl rfl rfl (by kernel_rfl) (by kernel_rfl) (by kernel_rfl) (fun _ _ _ h => h) (by rfl) ?hzz53 hHeld ?rzz53
  case hzz53 => (intro w' hSw; (try dsimp only at hSw); go_simp <;> with_reducible rfl)
  try simp only [Act.put, List.setIfInBounds_toArray, List.set_cons_zero, List.set_cons_succ]
  refine take_op (i := 57) (d := 131) (OP := Op.move (Operand.tmp 13)) (T := 3) (v := ?vzz54) rfl rfl rfl rfl (by kernel_rfl) (by kernel_rfl) (by kernel_rfl) (fun _ _ _ h => h) (by rfl) ?hzz54 hHeld ?rzz54
  case hzz54 => (intro w' hSw; (try dsimp only at hSw); go_simp <;> with_reducible rfl)
  try simp only [Act.put, List.setIfInBounds_toArray, List.set_cons_zero, List.set_cons_succ]
  refine take_op (i := 58) (d := 132) (OP := Op.binOp BinOp.eql 3 (Operand.tmp 131) (Operand.const (Value.int IntKind.i64 9)) 3) (T := 4) (v := ?vzz55) rfl rfl rfl rfl (by kernel_rfl) (by kernel_rfl) (by kernel_rfl) (fun _ _ _ h => h) (by rfl) ?hzz55 hHeld ?rzz55
  case hzz55 => (intro w' hSw; (try dsimp only at hSw); go_simp <;> with_reducible rfl)
  try simp only [Act.put, List.setIfInBounds_toArray, List.set_cons_zero, List.set_cons_succ]
  refine take_op (i := 59) (d := 133) (OP := Op.pick (Operand.tmp 130) (Operand.tmp 132) (Operand.const (Value.bool false))) (T := 4) (v := ?vzz56) rfl rfl rfl rfl (by kernel_rfl) (by kernel_rfl) (by kernel_rfl) (fun _ _ _ h => h) (by rfl) ?hzz56 hHeld ?rzz56
  case hzz56 => (intro w' hSw; (try dsimp only at hSw); go_simp <;> with_reducible rfl)
  try simp only [Act.put, List.setIfInBounds_toArray, List.set_cons_zero, List.set_cons_succ]
  refine take_op (i := 60) (d := 134) (OP := Op.move (Operand.tmp 133)) (T := 4) (v := ?vzz57) rfl rfl rfl rfl (by kernel_rfl) (by kernel_rfl) (by kernel_rfl) (fun _ _ _ h => h) (by rfl) ?hzz57 hHeld ?rzz57
  case hzz57 => (intro w' hSw; (try dsimp only at hSw); go_simp <;> with_reducible rfl)
  try simp only [Act.put, List.setIfInBounds_toArray, List.set_cons_zero, List.set_cons_succ]
  refine take_op (i := 61) (d := 135) (OP := Op.move (Operand.tmp 15)) (T := 3) (v := ?vzz58) rfl rfl rfl rfl (by kernel_rfl) (by kernel_rfl) (by kernel_rfl) (fun _ _ _ h => h) (by rfl) ?hzz58 hHeld ?rzz58
  case hzz58 => (intro w' hSw; (try dsimp only at hSw); go_simp <;> with_reducible rfl)
  try simp only [Act.put, List.setIfInBounds_toArray, List.set_cons_zero, List.set_cons_succ]
  refine take_op (i := 62) (d := 136) (OP := Op.binOp BinOp.eql 3 (Operand.tmp 135) (Operand.const (Value.int IntKind.i64 3)) 3) (T := 4) (v := ?vzz59) rfl rfl rfl rfl (by kernel_rfl) (by kernel_rfl) (by kernel_rfl) (fun _ _ _ h => h) (by rfl) ?hzz59 hHeld ?rzz59
  case hzz59 => (intro w' hSw; (try dsimp only at hSw); go_simp <;> with_reducible rfl)
  try simp only [Act.put, List.setIfInBounds_toArray, List.set_cons_zero, List.set_cons_succ]
  refine take_op (i := 63) (d := 137) (OP := Op.pick (Operand.tmp 134) (Operand.tmp 136) (Operand.const (Value.bool false))) (T := 4) (v := ?vzz60) rfl rfl rfl rfl (by kernel_rfl) (by kernel_rfl) (by kernel_rfl) (fun _ _ _ h => h) (by rfl) ?hzz60 hHeld ?rzz60
  case hzz60 => (intro w' hSw; (try dsimp only at hSw); go_simp <;> with_reducible rfl)
  try simp only [Act.put, List.setIfInBounds_toArray, List.set_cons_zero, List.set_cons_succ]
  refine take_op (i := 64) (d := 138) (OP := Op.move (Operand.tmp 137)) (T := 4) (v := ?vzz61) rfl rfl rfl rfl (by kernel_rfl) (by kernel_rfl) (by kernel_rfl) (fun _ _ _ h => h) (by rfl) ?hzz61 hHeld ?rzz61
  case hzz61 => (intro w' hSw; (try dsimp only at hSw); go_simp <;> with_reducible rfl)
  try simp only [Act.put, List.setIfInBounds_toArray, List.set_cons_zero, List.set_cons_succ]
  refine take_op (i := 65) (d := 139) (OP := Op.load 26 (Operand.tmp 1)) (T := 26) (v := ?vzz62) rfl rfl rfl rfl (by kernel_rfl) (by kernel_rfl) (by kernel_rfl) (fun _ _ _ h => h) (by rfl) ?hzz62 hHeld ?rzz62
  case hzz62 => (intro w' hSw; (try dsimp only at hSw); go_simp <;> with_reducible rfl)
  try simp only [Act.put, List.setIfInBounds_toArray, List.set_cons_zero, List.set_cons_succ]
  refine take_op (i := 66) (d := 140) (OP := Op.load 26 (Operand.tmp 12)) (T := 26) (v := ?vzz63) rfl rfl rfl rfl (by kernel_rfl) (by kernel_rfl) (by kernel_rfl) (fun _ _ _ h => h) (by rfl) ?hzz63 hHeld ?rzz63
  case hzz63 => (intro w' hSw; (try dsimp only at hSw); go_simp <;> with_reducible rfl)
  try simp only [Act.put, List.setIfInBounds_toArray, List.set_cons_zero, List.set_cons_succ]
  have in4 : In v4 (tn a b q) := In.below bv4 (In.below bv3 (In.below bv2 (In.below bv1 (In.below (drew_below we) HN.out))))
  obtain ⟨s5, hs5, g5⟩ := k_sh (In.below qv4.2.2.out HA.out.2) in4
  have hs6 : (1 : Int) ≤ (s5 : Int) := by omega
  have hs7 : decide ((1 : Int) ≤ (s5 : Int)) = true := by simpa using hs6
  refine call_op (i := 67) (d := 141) (OP := Op.call { callee := Callee.value (Operand.func 20), args := #[Operand.tmp 139, Operand.tmp 140], argTypes := #[26, 26] }) (T := 3) (f := 20) (args := #[.agg #[.pointer (some ⟨p, 0, none⟩)], .agg #[.pointer (some ⟨a, 0, none⟩)]]) rfl rfl rfl rfl (by kernel_rfl) (by rfl) (by go_simp) ?_
  refine (g5).mono ?_
  rintro e v5 ⟨rfl, bv5⟩
  have qv5 : v5.cell? ⟨B1, 0, none⟩ = some (.pointer (some ⟨p, 0, none⟩)) ∧ v5.cell? ⟨B2, 0, none⟩ = some (.pointer (some ⟨a, 0, none⟩)) ∧ Hid (Below wa.heap.size wa v5) := ⟨cell_stays qv4.1 bv5, cell_stays qv4.2.1 bv5, hide (qv4.2.2.out.trans (bv5.mono qv4.2.2.out.size))⟩
  refine ⟨_, rfl, qv5, ?_⟩
  replace hHeld := qv5
  try simp only [Act.put, List.setIfInBounds_toArray, List.set_cons_zero, List.set_cons_succ]
  refine take_op (i := 68) (d := 142) (OP := Op.binOp BinOp.geq 3 (Operand.tmp 141) (Operand.const (Value.int IntKind.i64 1)) 3) (T := 4) (v := ?vzz64) rfl rfl rfl rfl (by kernel_rfl) (by kernel_rfl) (by kernel_rfl) (fun _ _ _ h => h) (by rfl) ?hzz64 hHeld ?rzz64
  case hzz64 => (intro w' hSw; (try dsimp only at hSw); go_simp <;> with_reducible rfl)
  try simp only [Act.put, List.setIfInBounds_toArray, List.set_cons_zero, List.set_cons_succ]
  refine take_op (i := 69) (d := 143) (OP := Op.pick (Operand.tmp 138) (Operand.tmp 142) (Operand.const (Value.bool false))) (T := 4) (v := ?vzz65) rfl rfl rfl rfl (by kernel_rfl) (by kernel_rfl) (by kernel_rfl) (fun _ _ _ h => h) (by rfl) ?hzz65 hHeld ?rzz65
  case hzz65 => (intro w' hSw; (try dsimp only at hSw); go_simp <;> with_reducible rfl)
  try simp only [Act.put, List.setIfInBounds_toArray, List.set_cons_zero, List.set_cons_succ]
  refine take_op (i := 70) (d := 0) (OP := Op.assign (Operand.tmp 143)) (T := 4) (v := ?vzz66) rfl rfl rfl rfl (by kernel_rfl) (by kernel_rfl) (by kernel_rfl) (fun _ _ _ h => h) (by rfl) ?hzz66 hHeld ?rzz66
  case hzz66 => (intro w' hSw; (try dsimp only at hSw); go_simp <;> with_reducible rfl)
  try simp only [Act.put, List.setIfInBounds_toArray, List.set_cons_zero, List.set_cons_succ]
  refine wpAnyH_done (by kernel_rfl) ?_ _
  go_wp2
  go_ret
  exact ⟨by simp [hs7], HA.out.1.trans (qv5.2.2.out.mono HA.out.1.size)⟩
end Go.Proofs.Ytleaaoknjflgoaa
