/-
  THE DOCUMENT's Path, CmpPlace, Place, and the program's Place: what they answer.
-/
import Derived.Test.YtcpigbojebjlaaaDoorRefKey
import Derived.Test.YtcpigbojebjlaaaDoorRefCmp
import Derived.Test.YtcpigbojebjlaaaDoorPlace
import Derived.Test.YtcpigbojebjlaaaDoorPath
namespace Go.Proofs.YtcpigbojebjlaaaDoor
open Go.RowKit Go.Shelf
set_option linter.unusedSimpArgs false

set_option maxHeartbeats 1000000 in
set_option maxRecDepth 100000 in
theorem refPath_any {w : World} {ao : Option Addr} {c : Nat} {l : List ByteArray} (h : Rs w ao l) : Calls Tryd.prog 26 #[.slice ao l.length c] w fun e w' => e = .returned (.bool (pathB l)) ∧ Below w.heap.size w w' := by
  unfold pathB
  obtain ⟨N, hN⟩ : ∃ N, N = l.length := ⟨_, rfl⟩
  obtain ⟨A, hA⟩ : ∃ A, A = l.all (fun s => keyB s.data.toList) := ⟨_, rfl⟩
  rw [← hN, ← hA]
  have H := hide (And.intro hN hA)
  clear hN hA
  by_cases h6 : N ≤ 6
  · have e1 : ¬ ((6 : Int) < (N : Int)) := by omega
    have d1 : decide (N ≤ 6) = true := by simpa using h6
    rw [d1, Bool.true_and]
    go_enter Tryd.func26, Tryd.ntmps26
    go_wp2
    go_loopw [3] (fun v3 wz => ∃ i : Nat, i ≤ N ∧ v3 = .int .i64 i ∧ Hid ((l.drop i).all (fun s => keyB s.data.toList) = A) ∧ Hid (Below w.heap.size w wz)) (fun v3 _ => N - (intOf v3).toNat)
    case atStart => exact ⟨0, by omega, rfl, hide (by simpa using H.out.2.symm), hide (Below.refl _ _)⟩
    case round =>
      obtain ⟨i, hi, rfl, HD, HW⟩ := hrel
      by_cases hc : i < N
      · have z1 : (i : Int) < (N : Int) := by omega
        have hx : l[i]? = some (l[i]'(by rw [← H.out.1]; exact hc)) := List.getElem?_eq_getElem _
        generalize l[i]'(by rw [← H.out.1]; exact hc) = s at hx
        have hst : (l.drop i).all (fun s => keyB s.data.toList) = (keyB s.data.toList && (l.drop (i + 1)).all (fun s => keyB s.data.toList)) := by
          obtain ⟨hlt, he⟩ := List.getElem?_eq_some_iff.1 hx
          rw [List.drop_eq_getElem_cons hlt, List.all_cons, he]
        obtain ⟨g, off, rfl, hcx⟩ := (h.below HW.out).at hx
        have hk := refKey_any s wr
        have HS := hide hst
        clear hst hx
        generalize keyB s.data.toList = K at HS hk
        cases K with
        | true =>
          go_wp2_with (go_at_call 13; refine hk.mono ?_; rintro e w8 ⟨rfl, b8⟩)
          go_roundw
          case rel => exact ⟨i + 1, by omega, by go_num, hide (by have := HS.out; rw [Bool.true_and] at this; rw [← this]; exact HD.out), hide (HW.out.trans (b8.mono HW.out.size))⟩
          case measure => simp [intOf]; omega
        | false =>
          have hE := hide (show A = false by rw [← HD.out, HS.out, Bool.false_and])
          go_wp2_with (go_at_call 13; refine hk.mono ?_; rintro e w8 ⟨rfl, b8⟩)
          go_ret
          exact ⟨by rw [hE.out]; rfl, HW.out.trans (b8.mono HW.out.size)⟩
      · have z1 : ¬ (i : Int) < (N : Int) := by omega
        have hE := hide (show A = true by rw [← HD.out, List.drop_eq_nil_of_le (by rw [← H.out.1]; omega)]; rfl)
        go_wp2
        go_ret
        exact ⟨by rw [hE.out]; rfl, HW.out⟩
  · have e1 : (6 : Int) < (N : Int) := by omega
    have d1 : decide (N ≤ 6) = false := by simpa using h6
    rw [d1, Bool.false_and]
    go_enter Tryd.func26, Tryd.ntmps26
    go_wp2
    go_ret
    exact ⟨rfl, Below.refl _ _⟩

set_option maxHeartbeats 1000000 in
set_option maxRecDepth 100000 in
theorem refCmpPlace_any {w : World} {a b : Option Addr} {c d : Nat} {l m : List ByteArray} (x y : Int) (s t : ByteArray) (hl : Rs w a l) (hm : Rs w b m) (hn : l.length ≤ 9223372036854775807) (hz : ∀ s ∈ l, s.size ≤ 9223372036854775807) (hs : s.size ≤ 9223372036854775807) :
    Calls Tryd.prog 34 #[plv a l.length c x s, plv b m.length d y t] w fun e w' => e = .returned (.int .i64 (cmpL l m x y s t)) ∧ Below w.heap.size w w' := by
  obtain ⟨N, hN⟩ : ∃ N, N = l.length := ⟨_, rfl⟩
  obtain ⟨M, hM⟩ : ∃ M, M = m.length := ⟨_, rfl⟩
  have hcp : ∀ W, Below w.heap.size w W → Calls Tryd.prog 32 #[.slice a N c, .slice b M d] W fun e w' => e = .returned (.int .i64 (cmpP l m)) ∧ ∃ n, w' = W.drewN n := fun W hW => by rw [hN, hM]; exact refCmpPath_any (hl.below hW) (hm.below hW) hn hz
  rw [← hN, ← hM]
  obtain ⟨m0, m1⟩ := new2 w (.cells #[.slice a N c, .int .i64 x, .string s] 47) (.cells #[.slice b M d, .int .i64 y, .string t] 47)
  have hb : Below w.heap.size w ((w.alloc (.cells #[.slice a N c, .int .i64 x, .string s] 47)).alloc (.cells #[.slice b M d, .int .i64 y, .string t] 47)) := ((Below.refl _ w).alloc (Nat.le_refl _) _).alloc (by simp) _
  obtain ⟨p0, p1, p2, -, -, -⟩ := blk3 m0
  obtain ⟨q0, q1, q2, -, -, -⟩ := blk3 m1
  have hcell : ∀ (W : World) (n : Nat) (p : Addr), (W.drewN n).cell? p = W.cell? p := fun _ _ _ => rfl
  have hnum := fun W => number_any x y W
  have hcb := fun W => refCmp_any s t W hs
  have hcp' := hcp _ hb
  have hE : cmpL l m x y s t = if cmpP l m = 0 then (if cmpI x y = 0 then cmpB s t else cmpI x y) else cmpP l m := by
    unfold cmpL
    simp only [orL]
    split
    · split
      · split
        · next h => exact h.symm
        · rfl
      · rfl
    · rfl
  rw [hE]
  clear hE hcp hl hm hz hN hM m0 m1
  generalize cmpP l m = C at hcp' ⊢
  generalize cmpI x y = K at hnum ⊢
  generalize cmpB s t = S at hcb ⊢
  by_cases h0 : C = 0
  · subst h0
    rw [if_pos rfl]
    by_cases h1 : K = 0
    · subst h1
      rw [if_pos rfl]
      go_enter Tryd.func34, Tryd.ntmps34
      go_wp2_with (first
        | (go_at_call 32; refine hcp'.mono ?_; rintro e w1 ⟨rfl, n1, rfl⟩)
        | (go_at_call 52; refine (hnum _).mono ?_; rintro e w2 ⟨rfl, rfl⟩)
        | (go_at_call 30; refine (hcb _).mono ?_; rintro e w3 ⟨rfl, n3, rfl⟩))
      go_ret
      exact ⟨rfl, below_dr hb _⟩
    · rw [if_neg h1]
      have hkb : (K == 0) = false := by simpa using h1
      go_enter Tryd.func34, Tryd.ntmps34
      go_wp2_with (first
        | (go_at_call 32; refine hcp'.mono ?_; rintro e w1 ⟨rfl, n1, rfl⟩)
        | (go_at_call 52; refine (hnum _).mono ?_; rintro e w2 ⟨rfl, rfl⟩))
      go_ret
      exact ⟨rfl, below_dr hb _⟩
  · rw [if_neg h0]
    have hkb : (C == 0) = false := by simpa using h0
    go_enter Tryd.func34, Tryd.ntmps34
    go_wp2_with (go_at_call 32; refine hcp'.mono ?_; rintro e w1 ⟨rfl, n1, rfl⟩)
    go_ret
    exact ⟨rfl, below_dr hb _⟩

def placeB (l : List ByteArray) (x : Int) (s : ByteArray) : Bool := pathB l && keyB s.data.toList && decide (1 ≤ x) && decide (x ≤ 6)
set_option maxHeartbeats 1000000 in
set_option maxRecDepth 100000 in
theorem place_any {w : World} {a : Option Addr} {c : Nat} {l : List ByteArray} (x : Int) (s : ByteArray) (hl : Rs w a l) (hcap : l.length ≤ c) (hn : a = none → c = 0) (hT : Tabs w) (hlen : l.length ≤ 140737488355328) :
    Calls Tryd.prog 35 #[plv a l.length c x s] w fun e w' => e = .returned (.bool (placeB l x s)) ∧ Below w.heap.size w w' := by
  obtain ⟨N, hN⟩ : ∃ N, N = l.length := ⟨_, rfl⟩
  have hp : ∀ W, Below w.heap.size w W → Calls Tryd.prog 25 #[.slice a N c] W fun e w' => e = .returned (.bool (pathB l)) ∧ Below W.heap.size W w' := fun W hW => by rw [hN]; exact path_any (hl.below hW) hcap hn (Tabs.below hT hW) hlen
  have hk : ∀ W, Below w.heap.size w W → Calls Tryd.prog 12 #[.string s] W fun e w' => e = .returned (.bool (keyB s.data.toList)) ∧ Below W.heap.size W w' := fun W hW => key_any s W (Tabs.below hT hW)
  have hb : Below w.heap.size w (w.alloc (.cells #[.slice a N c, .int .i64 x, .string s] 47)) := (Below.refl _ w).alloc (Nat.le_refl _) _
  have m0 := heap_alloc_new w (.cells #[.slice a N c, .int .i64 x, .string s] 47)
  obtain ⟨p0, p1, p2, -, -, -⟩ := blk3 m0
  have hp' := hp _ hb
  unfold placeB
  rw [← hN]
  clear hp m0 hN hl hcap hn hlen
  generalize pathB l = B at hp' ⊢
  generalize keyB s.data.toList = K at hk ⊢
  cases B with
  | false =>
    simp only [Bool.false_and]
    go_enter Tryd.func35, Tryd.ntmps35
    go_wp2_with (go_at_call 25; refine hp'.mono ?_; rintro e w1 ⟨rfl, b1⟩)
    go_ret
    exact ⟨rfl, hb.trans (b1.mono hb.size)⟩
  | true =>
    simp only [Bool.true_and]
    by_cases h1 : 1 ≤ x
    · have d1 : decide (1 ≤ x) = true := by simpa using h1
      by_cases h2 : x ≤ 6
      · have d2 : decide (x ≤ 6) = true := by simpa using h2
        rw [d1, d2, Bool.and_true, Bool.and_true]
        go_enter Tryd.func35, Tryd.ntmps35
        go_wp2_with (first
          | (go_at_call 25; refine hp'.mono ?_; rintro e w1 ⟨rfl, b1⟩; have u1 := (b1.cell (World.block_lt_of_cell? _ _ p1)).trans p1; have u2 := (b1.cell (World.block_lt_of_cell? _ _ p2)).trans p2; have hk' := hk _ (hb.trans (b1.mono hb.size)))
          | (go_at_call 12; refine hk'.mono ?_; rintro e w2 ⟨rfl, b2⟩))
        go_ret
        exact ⟨rfl, (hb.trans (b1.mono hb.size)).trans (b2.mono (hb.trans (b1.mono hb.size)).size)⟩
      · have d2 : decide (x ≤ 6) = false := by simpa using h2
        rw [d2, Bool.and_false]
        go_enter Tryd.func35, Tryd.ntmps35
        go_wp2_with (go_at_call 25; refine hp'.mono ?_; rintro e w1 ⟨rfl, b1⟩; have u1 := (b1.cell (World.block_lt_of_cell? _ _ p1)).trans p1)
        go_ret
        exact ⟨rfl, hb.trans (b1.mono hb.size)⟩
    · have d1 : decide (1 ≤ x) = false := by simpa using h1
      rw [d1, Bool.and_false, Bool.false_and]
      go_enter Tryd.func35, Tryd.ntmps35
      go_wp2_with (go_at_call 25; refine hp'.mono ?_; rintro e w1 ⟨rfl, b1⟩; have u1 := (b1.cell (World.block_lt_of_cell? _ _ p1)).trans p1)
      go_ret
      exact ⟨rfl, hb.trans (b1.mono hb.size)⟩
set_option maxHeartbeats 1000000 in
set_option maxRecDepth 100000 in
theorem refPlace_any {w : World} {a : Option Addr} {c : Nat} {l : List ByteArray} (x : Int) (s : ByteArray) (hl : Rs w a l) :
    Calls Tryd.prog 36 #[plv a l.length c x s] w fun e w' => e = .returned (.bool (placeB l x s)) ∧ Below w.heap.size w w' := by
  obtain ⟨N, hN⟩ : ∃ N, N = l.length := ⟨_, rfl⟩
  have hp : ∀ W, Below w.heap.size w W → Calls Tryd.prog 26 #[.slice a N c] W fun e w' => e = .returned (.bool (pathB l)) ∧ Below W.heap.size W w' := fun W hW => by rw [hN]; exact refPath_any (hl.below hW)
  have hk : ∀ W, Calls Tryd.prog 13 #[.string s] W fun e w' => e = .returned (.bool (keyB s.data.toList)) ∧ Below W.heap.size W w' := fun W => refKey_any s W
  have hb : Below w.heap.size w (w.alloc (.cells #[.slice a N c, .int .i64 x, .string s] 47)) := (Below.refl _ w).alloc (Nat.le_refl _) _
  have m0 := heap_alloc_new w (.cells #[.slice a N c, .int .i64 x, .string s] 47)
  obtain ⟨p0, p1, p2, -, -, -⟩ := blk3 m0
  have hp' := hp _ hb
  unfold placeB
  rw [← hN]
  clear hp m0 hN hl
  generalize pathB l = B at hp' ⊢
  generalize keyB s.data.toList = K at hk ⊢
  cases B with
  | false =>
    simp only [Bool.false_and]
    go_enter Tryd.func36, Tryd.ntmps36
    go_wp2_with (go_at_call 26; refine hp'.mono ?_; rintro e w1 ⟨rfl, b1⟩)
    go_ret
    exact ⟨rfl, hb.trans (b1.mono hb.size)⟩
  | true =>
    cases K with
    | false =>
      simp only [Bool.true_and, Bool.false_and]
      go_enter Tryd.func36, Tryd.ntmps36
      go_wp2_with (first
        | (go_at_call 26; refine hp'.mono ?_; rintro e w1 ⟨rfl, b1⟩; have u1 := (b1.cell (World.block_lt_of_cell? _ _ p1)).trans p1; have u2 := (b1.cell (World.block_lt_of_cell? _ _ p2)).trans p2)
        | (go_at_call 13; refine (hk _).mono ?_; rintro e w2 ⟨rfl, b2⟩))
      go_ret
      exact ⟨rfl, (hb.trans (b1.mono hb.size)).trans (b2.mono (hb.trans (b1.mono hb.size)).size)⟩
    | true =>
      simp only [Bool.true_and]
      by_cases h1 : 1 ≤ x
      · have d1 : decide (1 ≤ x) = true := by simpa using h1
        by_cases h2 : x ≤ 6
        · have d2 : decide (x ≤ 6) = true := by simpa using h2
          rw [d1, d2, Bool.and_true]
          go_enter Tryd.func36, Tryd.ntmps36
          go_wp2_with (first
            | (go_at_call 26; refine hp'.mono ?_; rintro e w1 ⟨rfl, b1⟩; have u1 := (b1.cell (World.block_lt_of_cell? _ _ p1)).trans p1; have u2 := (b1.cell (World.block_lt_of_cell? _ _ p2)).trans p2)
            | (go_at_call 13; refine (hk _).mono ?_; rintro e w2 ⟨rfl, b2⟩; have t1 := (b2.cell (World.block_lt_of_cell? _ _ u1)).trans u1))
          go_ret
          exact ⟨rfl, (hb.trans (b1.mono hb.size)).trans (b2.mono (hb.trans (b1.mono hb.size)).size)⟩
        · have d2 : decide (x ≤ 6) = false := by simpa using h2
          rw [d2, Bool.and_false]
          go_enter Tryd.func36, Tryd.ntmps36
          go_wp2_with (first
            | (go_at_call 26; refine hp'.mono ?_; rintro e w1 ⟨rfl, b1⟩; have u1 := (b1.cell (World.block_lt_of_cell? _ _ p1)).trans p1; have u2 := (b1.cell (World.block_lt_of_cell? _ _ p2)).trans p2)
            | (go_at_call 13; refine (hk _).mono ?_; rintro e w2 ⟨rfl, b2⟩; have t1 := (b2.cell (World.block_lt_of_cell? _ _ u1)).trans u1))
          go_ret
          exact ⟨rfl, (hb.trans (b1.mono hb.size)).trans (b2.mono (hb.trans (b1.mono hb.size)).size)⟩
      · have d1 : decide (1 ≤ x) = false := by simpa using h1
        rw [d1, Bool.false_and]
        go_enter Tryd.func36, Tryd.ntmps36
        go_wp2_with (first
          | (go_at_call 26; refine hp'.mono ?_; rintro e w1 ⟨rfl, b1⟩; have u1 := (b1.cell (World.block_lt_of_cell? _ _ p1)).trans p1; have u2 := (b1.cell (World.block_lt_of_cell? _ _ p2)).trans p2)
          | (go_at_call 13; refine (hk _).mono ?_; rintro e w2 ⟨rfl, b2⟩; have t1 := (b2.cell (World.block_lt_of_cell? _ _ u1)).trans u1))
        go_ret
        exact ⟨rfl, (hb.trans (b1.mono hb.size)).trans (b2.mono (hb.trans (b1.mono hb.size)).size)⟩
end Go.Proofs.YtcpigbojebjlaaaDoor
