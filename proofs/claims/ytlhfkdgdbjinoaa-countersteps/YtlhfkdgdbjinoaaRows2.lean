/-
  Lists of numbers: the document's Same 9, Sum 10, Many 11, the program's Many 8, Three 14.
-/
import Derived.Test.YtlhfkdgdbjinoaaSmall
import Derived.Deep.QuietTactic
import Derived.BigQuiet
namespace Go.Proofs.Ytlhfkdgdbjinoaa
open Go.RowKit Go.Shelf
set_option linter.unusedSimpArgs false
attribute [local go_sem] Oper.semAt_some

/-- The sum of l on n, going round. -/
def sumN (n : Int) (l : List Int) : Int := l.foldl (fun a x => wrap64 (a + x)) n
/-- What l has beside the base, on n. -/
def manyN (b n : Int) (l : List Int) : Int := l.foldl (fun a x => wrap64 (a + wrap64 (x - b))) n
theorem sumN_take {n x : Int} {l : List Int} {k : Nat} (h : l[k]? = some x) : sumN n (l.take (k + 1)) = wrap64 (sumN n (l.take k) + x) := by
  unfold sumN; rw [List.take_add_one, h]; simp
theorem manyN_take {b n x : Int} {l : List Int} {k : Nat} (h : l[k]? = some x) : manyN b n (l.take (k + 1)) = wrap64 (manyN b n (l.take k) + wrap64 (x - b)) := by
  unfold manyN; rw [List.take_add_one, h]; simp

theorem Nd.drewN {w : World} {ao : Option Addr} {l : List Int} (h : Nd w ao l) (n : Nat) : Nd (w.drewN n) ao l := h.below ⟨rfl, rfl, rfl, Nat.le_refl _, fun _ _ => rfl⟩

set_option maxHeartbeats 1000000 in
set_option maxRecDepth 100000 in
theorem refSum_any {w : World} {ao : Option Addr} {c : Nat} {l : List Int} (h : Nd w ao l) (hl : l.length ≤ 1000000) : Calls Try.prog 10 #[.slice ao l.length c] w fun e w' => e = .returned (.int .i64 (sumN 0 l)) ∧ w' = w := by
  obtain ⟨N, hN⟩ : ∃ N, N = l.length := ⟨_, rfl⟩
  rw [← hN] at hl ⊢
  have HN := hide hN
  clear hN
  go_enter Try.func10, Try.ntmps10
  go_wp2
  go_loopw [3, 4] (fun s i wr => ∃ k : Nat, k ≤ N ∧ i = .int .i64 k ∧ s = .int .i64 (sumN 0 (l.take k)) ∧ wr = w) (fun _ i _ => N - (intOf i).toNat)
  case atStart => exact ⟨0, Nat.zero_le _, rfl, rfl, rfl⟩
  case round =>
    obtain ⟨k, hk, rfl, rfl, rfl⟩ := hrel
    by_cases hlt : k < N
    · have d1 : decide (k < N) = true := by simpa using hlt
      have d1' : (k : Int) < (N : Int) := by omega
      obtain ⟨x, hx⟩ : ∃ x, l[k]? = some x := ⟨_, List.getElem?_eq_getElem (by rw [← HN.out]; exact hlt)⟩
      obtain ⟨ab, off, rfl, hck⟩ := h.at hx
      have HX := hide hx
      clear hx
      go_wp2
      go_roundw
      case rel => exact ⟨k + 1, by omega, by go_num, by rw [sumN_take HX.out], trivial⟩
      case measure => simp [intOf]; omega
    · obtain rfl : k = N := by omega
      go_wp2
      go_ret
      exact ⟨by rw [HN.out, List.take_length]; rfl, rfl⟩

set_option maxHeartbeats 1000000 in
set_option maxRecDepth 100000 in
theorem refMany_any {w : World} {b : Int} {ao : Option Addr} {c : Nat} {l : List Int} (h : Nd w ao l) (hl : l.length ≤ 1000000) : Calls Try.prog 11 #[.int .i64 b, .slice ao l.length c] w fun e w' => e = .returned (.int .i64 (manyN b b l)) ∧ w' = w := by
  obtain ⟨N, hN⟩ : ∃ N, N = l.length := ⟨_, rfl⟩
  rw [← hN] at hl ⊢
  have HN := hide hN
  clear hN
  go_enter Try.func11, Try.ntmps11
  go_wp2
  go_loopw [5, 6] (fun s i wr => ∃ k : Nat, k ≤ N ∧ i = .int .i64 k ∧ s = .int .i64 (manyN b b (l.take k)) ∧ wr = w) (fun _ i _ => N - (intOf i).toNat)
  case atStart => exact ⟨0, Nat.zero_le _, rfl, rfl, rfl⟩
  case round =>
    obtain ⟨k, hk, rfl, rfl, rfl⟩ := hrel
    by_cases hlt : k < N
    · have d1 : decide (k < N) = true := by simpa using hlt
      have d1' : (k : Int) < (N : Int) := by omega
      obtain ⟨x, hx⟩ : ∃ x, l[k]? = some x := ⟨_, List.getElem?_eq_getElem (by rw [← HN.out]; exact hlt)⟩
      obtain ⟨ab, off, rfl, hck⟩ := h.at hx
      have HX := hide hx
      clear hx
      go_wp2
      go_roundw
      case rel => exact ⟨k + 1, by omega, by go_num, by rw [manyN_take HX.out], trivial⟩
      case measure => simp [intOf]; omega
    · obtain rfl : k = N := by omega
      go_wp2
      go_ret
      exact ⟨by rw [HN.out, List.take_length]; rfl, rfl⟩

set_option maxHeartbeats 1000000 in
set_option maxRecDepth 100000 in
theorem many_any {w : World} {b : Int} {ao : Option Addr} {c : Nat} {l : List Int} (h : Nd w ao l) (hl : l.length ≤ 1000000) : Calls Try.prog 8 #[.int .i64 b, .slice ao l.length c] w fun e w' => e = .returned (.int .i64 (manyN b b l)) ∧ w' = w := by
  obtain ⟨N, hN⟩ : ∃ N, N = l.length := ⟨_, rfl⟩
  rw [← hN] at hl ⊢
  have HN := hide hN
  clear hN
  go_enter Try.func8, Try.ntmps8
  go_wp2
  go_loopw [5, 11] (fun s i wr => ∃ k : Nat, k ≤ N ∧ i = .int .i64 k ∧ s = .int .i64 (manyN b b (l.take k)) ∧ wr = w) (fun _ i _ => N - (intOf i).toNat)
  case atStart => exact ⟨0, Nat.zero_le _, rfl, rfl, rfl⟩
  case round =>
    obtain ⟨k, hk, rfl, rfl, rfl⟩ := hrel
    by_cases hlt : k < N
    · have d1 : decide (k < N) = true := by simpa using hlt
      have d1' : (k : Int) < (N : Int) := by omega
      obtain ⟨x, hx⟩ : ∃ x, l[k]? = some x := ⟨_, List.getElem?_eq_getElem (by rw [← HN.out]; exact hlt)⟩
      obtain ⟨ab, off, rfl, hck⟩ := h.at hx
      have HX := hide hx
      clear hx
      have hd := delta_any b x wr
      go_wp2_with (go_at_call 13; refine hd.mono ?_; rintro e w' ⟨rfl, rfl⟩)
      go_roundw
      case rel => exact ⟨k + 1, by omega, by go_num, by rw [manyN_take HX.out], trivial⟩
      case measure => simp [intOf]; omega
    · obtain rfl : k = N := by omega
      have d1 : decide (k < k) = false := by simp
      go_wp2
      go_ret
      exact ⟨by rw [HN.out, List.take_length]; rfl, rfl⟩

set_option maxHeartbeats 1000000 in
set_option maxRecDepth 100000 in
theorem refSame_any {w : World} {a b : Option Addr} {c d : Nat} {l m : List Int} (hl : Nd w a l) (hm : Nd w b m) (hn : l.length ≤ 1000000) :
    Calls Try.prog 9 #[.slice a l.length c, .slice b m.length d] w fun e w' => e = .returned (.bool (decide (l = m))) ∧ ∃ n, w' = w.drewN n := by
  obtain ⟨N, hN⟩ : ∃ N, N = l.length := ⟨_, rfl⟩
  obtain ⟨M, hM⟩ : ∃ M, M = m.length := ⟨_, rfl⟩
  rw [← hN] at hn
  rw [← hN, ← hM]
  have H := hide (And.intro hN hM)
  clear hN hM
  obtain ⟨R, hR⟩ : ∃ R, R = decide (l = m) := ⟨_, rfl⟩
  rw [← hR]
  have HR := hide hR
  clear hR
  by_cases hNM : N = M
  · subst hNM
    go_enter Try.func9, Try.ntmps9
    go_wp2
    go_loopw [5] (fun iv wr => ∃ i : Nat, i ≤ N ∧ iv = .int .i64 i ∧ Hid (l.take i = m.take i) ∧ ∃ n, wr = w.drewN n) (fun iv _ => N - (intOf iv).toNat)
    case atStart => exact ⟨0, by omega, rfl, hide (by simp), 0, rfl⟩
    case round =>
      obtain ⟨i, hi, rfl, hrest, n, hwr⟩ := hrel
      have hlr : Nd wr a l := by rw [hwr]; exact hl.drewN n
      have hmr : Nd wr b m := by rw [hwr]; exact hm.drewN n
      have HWR := hide hwr
      clear hwr
      by_cases h1 : i < N
      · have z1 : (i : Int) < (N : Int) := by omega
        have d1 : decide (i < N) = true := by simpa using h1
        obtain ⟨x, hx⟩ : ∃ x, l[i]? = some x := ⟨_, List.getElem?_eq_getElem (by rw [← H.out.1]; exact h1)⟩
        obtain ⟨y, hy⟩ : ∃ y, m[i]? = some y := ⟨_, List.getElem?_eq_getElem (by rw [← H.out.2]; exact h1)⟩
        obtain ⟨ab, off, rfl, hcx⟩ := hlr.at hx
        obtain ⟨bb, ob, rfl, hcy⟩ := hmr.at hy
        have HX := hide (And.intro hx hy)
        clear hx hy
        by_cases hxy : x = y
        · subst hxy
          go_wp2
          go_quiet (fail)
          go_wp2
          go_roundw
          case rel => exact ⟨i + 1, by omega, by go_num, hide (by rw [List.take_add_one, List.take_add_one, HX.out.1, HX.out.2, hrest.out]), _, by rw [HWR.out, World.drewN_drewN]⟩
          case measure => simp [intOf]; omega
        · have hd : decide (l = m) = false := by
            simp only [decide_eq_false_iff_not]
            rintro rfl
            have := HX.out.1.symm.trans HX.out.2
            exact hxy (by simpa using this)
          have HD := hide (HR.out.trans hd)
          clear hd
          go_wp2
          go_quiet (fail)
          go_wp2
          go_ret
          exact ⟨by rw [HD.out]; rfl, _, by rw [HWR.out, World.drewN_drewN]⟩
      · obtain rfl : i = N := by omega
        have hd : decide (l = m) = true := by
          have := hrest.out
          rw [List.take_of_length_le (by rw [← H.out.1]; omega), List.take_of_length_le (by rw [← H.out.2]; omega)] at this
          simpa using this
        have HD := hide (HR.out.trans hd)
        clear hd
        go_wp2
        go_ret
        exact ⟨by rw [HD.out]; rfl, _, HWR.out⟩
  · have hd : decide (l = m) = false := by
      simp only [decide_eq_false_iff_not]
      rintro rfl
      exact hNM (H.out.1.trans H.out.2.symm)
    have HD := hide (HR.out.trans hd)
    clear hd
    have hne : ((N : Int) == (M : Int)) = false := by simpa using fun e => hNM (by omega)
    go_enter Try.func9, Try.ntmps9
    go_wp2
    go_ret
    exact ⟨by rw [HD.out]; rfl, 0, rfl⟩

theorem Nd.lit (w : World) (l : List Int) (t : TypeId) (fr : Nat × Nat) : Nd (w.alloc (.cells (n64s l).toArray t fr)) (some ⟨w.heap.size, 0, none⟩) l :=
  ⟨by simp, fun a ha j u hj => by
    cases ha
    rw [add_lit, cell_of_row _ _ (0 + j) (n64s l).toArray t fr (heap_alloc_last w _), Nat.zero_add]
    simpa using hj⟩
theorem three_any {w : World} (b x y : Int) : Calls Try.prog 14 #[.int .i64 b, .int .i64 x, .int .i64 y] w fun e w' => e = .returned (.int .i64 (manyN b b [x, y])) ∧ Below w.heap.size w w' := by
  have hm := many_any (b := b) (c := 2) (Nd.lit w [x, y] 2 (0, 0)) (by simp)
  dsimp only [n64s, List.map_cons, List.map_nil, List.length_cons, List.length_nil] at hm
  go_enter Try.func14, Try.ntmps14
  go_wp2_with (go_at_call 8; refine hm.mono ?_; rintro e w' ⟨rfl, rfl⟩)
  go_ret
  exact ⟨rfl, (Below.refl _ w).alloc (Nat.le_refl _) _⟩
end Go.Proofs.Ytlhfkdgdbjinoaa
