/-
  The walk of CounterTogether 5.
-/
import Derived.Test.YtlhfkdgdbjinoaaKnown
namespace Go.Proofs.Ytlhfkdgdbjinoaa
open Go.RowKit Go.Shelf
set_option linter.unusedSimpArgs false
attribute [local go_sem] Oper.semAt_some

def In64 (n : Int) : Prop := -9223372036854775808 ≤ n ∧ n ≤ 9223372036854775807
theorem In64.w {n : Int} (h : In64 n) : wrap64 n = n := by unfold In64 at h; unfold wrap64; omega
theorem sumN_in (l : List Int) (a : Int) (h : In64 a) : In64 (sumN a l) := by rw [sumN_eq l a h.w]; exact w64_in _

theorem tog_plain {base : Int} (hb : In64 base) (a b : List Int) :
    manyN base base [sumN base a, sumN base b] = wrap64 (base + wrap64 (sumN 0 a + sumN 0 b)) ∧ manyN base base [sumN base b, sumN base a] = wrap64 (base + wrap64 (sumN 0 a + sumN 0 b)) ∧
    manyN base base [base, sumN base b] = sumN base b ∧ manyN base base [sumN base a, base] = sumN base a := by
  have h0 : wrap64 0 = 0 := by decide +kernel
  rw [sumN_eq a base hb.w, sumN_eq b base hb.w, sumN_eq a 0 h0, sumN_eq b 0 h0]
  simp only [manyN_eq _ _ _ hb.w, List.sum_cons, List.sum_nil, List.length_cons, List.length_nil]
  generalize a.sum = A
  generalize b.sum = B
  unfold In64 at hb
  unfold wrap64
  refine ⟨?_, ?_, ?_, ?_⟩ <;> omega

set_option maxHeartbeats 4000000 in
set_option maxRecDepth 100000 in
theorem tog_long (base : Int) (la lb : Nat) (aa ab : Option Addr) (ca cb : Nat) (w : World) (h : 500 < la ∨ 500 < lb) : Calls Try.prog 5 #[.int .i64 base, .slice aa la ca, .slice ab lb cb] w fun e w' => e = .returned (.bool true) ∧ Below w.heap.size w w' := by
  have k := known_any w
  by_cases hA : (500 : Int) < la
  · clear h
    go_enter Try.func5, Try.ntmps5
    go_wp2_with (go_at_call 6; refine k.mono ?_; rintro e w' ⟨rfl, bk⟩)
    go_ret
    exact ⟨rfl, bk⟩
  · have hB : (500 : Int) < lb := by omega
    clear h
    go_enter Try.func5, Try.ntmps5
    go_wp2_with (go_at_call 6; refine k.mono ?_; rintro e w' ⟨rfl, bk⟩)
    go_ret
    exact ⟨rfl, bk⟩

/-- What Split answers, for any number of parts from 1 on. -/
def splitA (x : Int) (p : Nat) : List Int := if 64 < p then [] else splitL x p
theorem split_any {w : World} {n : Int} {p : Nat} (hn : In64 n) (hp : 1 ≤ p) : Calls Try.prog 16 #[.int .i64 n, .int .i64 p] w fun e w' => MadeN 2 w w' e (splitA n p) := by
  unfold splitA
  by_cases h : 64 < p
  · rw [if_pos h]
    refine (split_no (w := w) (n := n) (p := p) (by omega)).mono ?_
    rintro e w' ⟨rfl, rfl⟩
    exact ⟨none, 0, rfl, Nw.nil _ _ _, fun _ => rfl, Below.refl _ _⟩
  · rw [if_neg h]
    exact split_yes hn hp (by omega)
theorem splitA_sum {x : Int} {p : Nat} (hx : In64 x) (hp : 1 ≤ p) : sumN 0 (splitA x p) = if 64 < (p : Int) then 0 else x := by
  unfold splitA
  by_cases h : 64 < p
  · rw [if_pos h, if_pos (by omega)]; rfl
  · rw [if_neg h, if_neg (by omega)]; exact splitL_sum x p hp hx
theorem splitA_len (x : Int) (p : Nat) : (splitA x p).length ≤ 64 := by
  unfold splitA; split
  · simp
  · rw [splitL_len]; omega

set_option maxHeartbeats 4000000 in
set_option maxRecDepth 100000 in
theorem tog_walk (base : Int) (a b : List Int) (aa ab : Option Addr) (ca cb : Nat) (w : World) (hb : In64 base) (hA : Nd w aa a) (hB : Nd w ab b) (la : a.length ≤ 500) (lb : b.length ≤ 500) :
    Calls Try.prog 5 #[.int .i64 base, .slice aa a.length ca, .slice ab b.length cb] w fun e w' => e = .returned (.bool true) ∧ Below w.heap.size w w' := by
  have k := known_any w
  obtain ⟨p1, p2, p3, p4⟩ := tog_plain hb a b
  obtain ⟨x, hx⟩ : ∃ x, x = sumN base a := ⟨_, rfl⟩
  obtain ⟨y, hy⟩ : ∃ y, y = sumN base b := ⟨_, rfl⟩
  obtain ⟨all, hall⟩ : ∃ z, z = wrap64 (base + wrap64 (sumN 0 a + sumN 0 b)) := ⟨_, rfl⟩
  rw [← hx, ← hy, ← hall] at p1 p2
  rw [← hy] at p3
  rw [← hx] at p4
  have ix : In64 x := by rw [hx]; exact sumN_in _ _ hb
  obtain ⟨NA, hNA⟩ : ∃ N, N = a.length := ⟨_, rfl⟩
  obtain ⟨NB, hNB⟩ : ∃ N, N = b.length := ⟨_, rfl⟩
  have k14a := fun W : World => three_any (w := W) base x y
  have k14b := fun W : World => three_any (w := W) base y x
  have k14c := fun W : World => three_any (w := W) base base y
  have k14d := fun W : World => three_any (w := W) base x base
  have k8 := fun W : World => many_any (b := base) (c := 2) (Nd.lit W [x, y] 2 (0, 0)) (by simp)
  simp only [p1, p2, p3, p4, n64s, List.map_cons, List.map_nil, List.length_cons, List.length_nil, Nat.reduceAdd] at k14a k14b k14c k14d k8
  have k7a := fun (W : World) (hW : Below w.heap.size w W) => sum_any (c := ca) (hA.below hW) (by omega)
  have k7b := fun (W : World) (hW : Below w.heap.size w W) => sum_any (c := cb) (hB.below hW) (by omega)
  obtain ⟨sa, hsa⟩ : ∃ z, z = sumN 0 a := ⟨_, rfl⟩
  obtain ⟨sb, hsb⟩ : ∃ z, z = sumN 0 b := ⟨_, rfl⟩
  simp only [← hsa, ← hNA] at k7a
  simp only [← hsb, ← hNB] at k7b
  have k12a := fun W => add_any sa sb W
  obtain ⟨sc, hsc⟩ : ∃ z, z = wrap64 (sa + sb) := ⟨_, rfl⟩
  have k12b := fun W => add_any base sc W
  have k16 := fun W : World => split_any (w := W) (n := x) (p := NA + 1) ix (by omega)
  have k18 := fun W => whole_any x ((NA + 1 : Nat) : Int) W
  rw [← splitA_sum ix (by omega)] at k18
  have k7c := fun (W : World) (ao : Option Addr) (c : Nat) (h : Nd W ao (splitA x (NA + 1))) => sum_any (c := c) h (by have := splitA_len x (NA + 1); omega)
  obtain ⟨sw, hsw⟩ : ∃ z, z = sumN 0 (splitA x (NA + 1)) := ⟨_, rfl⟩
  simp only [← hsw] at k18 k7c
  rw [← hsa, ← hsb, ← hsc] at hall
  simp only [← hsc] at k12a
  simp only [← hall] at k12b
  rw [Int.natCast_add] at k18
  simp only [Int.natCast_add] at k16
  rw [← hNA, ← hNB]
  rw [← hNA] at la
  rw [← hNB] at lb
  have H := hide (And.intro hx (And.intro hy (And.intro hNA (And.intro hNB (And.intro hA hB)))))
  clear p1 p2 p3 p4 hx hy hall hsa hsb hsc hsw hNA hNB hA hB hb ix
  have z1 : ¬ ((500 : Int) < NA) := by omega
  have z2 : ¬ ((500 : Int) < NB) := by omega
  go_enter Try.func5, Try.ntmps5
  go_wp2_with (go_at_call 6; refine k.mono ?_; rintro e w1 ⟨rfl, b1⟩; clear k)
  go_loopw [7, 9] (fun s i wr => ∃ k : Nat, k ≤ NA ∧ i = .int .i64 k ∧ s = .int .i64 (sumN base (a.take k)) ∧ wr = w1) (fun _ i _ => NA - (intOf i).toNat)
  case atStart => exact ⟨0, Nat.zero_le _, rfl, rfl, rfl⟩
  case round =>
    obtain ⟨k, hk, rfl, rfl, rfl⟩ := hrel
    by_cases hlt : k < NA
    · clear k7a k7b k14a k14b k14c k14d k8 k12a k12b k16 k18 k7c
      have d1 : decide (k < NA) = true := by simpa using hlt
      have d1' : (k : Int) < (NA : Int) := by omega
      obtain ⟨v, hv⟩ : ∃ v, a[k]? = some v := ⟨_, List.getElem?_eq_getElem (by rw [← H.out.2.2.1]; exact hlt)⟩
      obtain ⟨p, off, rfl, hck⟩ := (H.out.2.2.2.2.1.below b1).at hv
      have HV := hide hv
      clear hv
      have ka := add_any (sumN base (a.take k)) v wr
      go_wp2_with (go_at_call 12; refine ka.mono ?_; rintro e w' ⟨rfl, rfl⟩)
      go_roundw
      case rel => exact ⟨k + 1, by omega, by go_num, by rw [sumN_take HV.out], trivial⟩
      case measure => simp [intOf]; omega
    · obtain rfl : k = NA := by omega
      have e1 : sumN base (a.take k) = x := by rw [H.out.2.2.1, List.take_length]; exact H.out.1.symm
      rw [e1]
      clear e1 hlt hk
      have d1 : ¬ ((k : Int) < (k : Int)) := by omega
      obtain ⟨wo, rfl⟩ : ∃ wo, wo = wr := ⟨_, rfl⟩
      go_wp2
      go_loopw [8, 10] (fun s i w2 => ∃ j : Nat, j ≤ NB ∧ i = .int .i64 j ∧ s = .int .i64 (sumN base (b.take j)) ∧ w2 = wo) (fun _ i _ => NB - (intOf i).toNat)
      case atStart => exact ⟨0, Nat.zero_le _, rfl, rfl, rfl⟩
      case round =>
        obtain ⟨j, hj, rfl, rfl, rfl⟩ := hrel
        by_cases hlt : j < NB
        · clear k7a k7b k14a k14b k14c k14d k8 k12a k12b k16 k18 k7c
          have d2 : decide (j < NB) = true := by simpa using hlt
          have d2' : (j : Int) < (NB : Int) := by omega
          obtain ⟨v, hv⟩ : ∃ v, b[j]? = some v := ⟨_, List.getElem?_eq_getElem (by rw [← H.out.2.2.2.1]; exact hlt)⟩
          obtain ⟨p, off, rfl, hck⟩ := (H.out.2.2.2.2.2.below b1).at hv
          have HV := hide hv
          clear hv
          have ka := add_any (sumN base (b.take j)) v wr
          go_wp2_with (go_at_call 12; refine ka.mono ?_; rintro e w' ⟨rfl, rfl⟩)
          go_roundw
          case rel => exact ⟨j + 1, by omega, by go_num, by rw [sumN_take HV.out], trivial⟩
          case measure => simp [intOf]; omega
        · obtain rfl : j = NB := by omega
          have e1 : sumN base (b.take j) = y := by rw [H.out.2.2.2.1, List.take_length]; exact H.out.2.1.symm
          rw [e1]
          clear e1 hlt hj
          have d2 : ¬ ((j : Int) < (j : Int)) := by omega
          have wi : wrap64 ((k : Int) + 1) = (k : Int) + 1 := by unfold wrap64; omega
          go_wp2_with (first
            | (go_at_call 7; refine (k7a _ b1).mono ?_; rintro e w2 ⟨rfl, b2⟩; clear k7a)
            | (go_at_call 7; refine (k7b _ (b1.trans (b2.mono b1.size))).mono ?_; rintro e w3 ⟨rfl, b3⟩; clear k7b)
            | (go_at_call 12; refine (k12a _).mono ?_; rintro e w' ⟨rfl, rfl⟩; clear k12a)
            | (go_at_call 12; refine (k12b _).mono ?_; rintro e w' ⟨rfl, rfl⟩; clear k12b)
            | (go_at_call 14; refine (k14a _).mono ?_; rintro e w4 ⟨rfl, b4⟩; clear k14a)
            | (go_at_call 14; refine (k14b _).mono ?_; rintro e w5 ⟨rfl, b5⟩; clear k14b)
            | (go_at_call 8; refine (k8 _).mono ?_; rintro e w' ⟨rfl, rfl⟩; clear k8)
            | (go_at_call 14; refine (k14c _).mono ?_; rintro e w6 ⟨rfl, b6⟩; clear k14c)
            | (go_at_call 14; refine (k14d _).mono ?_; rintro e w7 ⟨rfl, b7⟩; clear k14d)
            | (go_at_call 16; refine (k16 _).mono ?_; rintro e w8 ⟨a8, c8, rfl, o8, n8, b8⟩; clear k16)
            | (go_at_call 7; refine (k7c _ _ _ o8.rd).mono ?_; rintro e w9 ⟨rfl, b9⟩; clear k7c)
            | (go_at_call 18; refine (k18 _).mono ?_; rintro e w' ⟨rfl, rfl⟩; clear k18))
          go_ret
          have h2 := b1.trans (b2.mono b1.size)
          have h3 := h2.trans (b3.mono h2.size)
          have h4 := h3.trans (b4.mono h3.size)
          have h5 := h4.trans (b5.mono h4.size)
          have h5a := h5.alloc h5.size (.cells #[.int .i64 x, .int .i64 y] 2)
          have h6 := h5a.trans (b6.mono h5a.size)
          have h7 := h6.trans (b7.mono h6.size)
          have h8 := h7.trans (b8.mono h7.size)
          exact ⟨rfl, h8.trans (b9.mono h8.size)⟩
end Go.Proofs.Ytlhfkdgdbjinoaa
