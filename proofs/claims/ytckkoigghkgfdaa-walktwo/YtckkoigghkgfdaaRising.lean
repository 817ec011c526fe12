/-
  rising: THE PLACES OF KEYS, BY THE KEYS' ORDER.
-/
import Derived.Test.YtckkoigghkgfdaaSort
import Derived.Test.YtckkoigghkgfdaaCsl
namespace Go.Proofs.Ytckkoigghkgfdaa
open Go.RowKit Go.Shelf
set_option linter.unusedSimpArgs false

def pl (N i : Nat) : List Value := (List.range N).map fun j => .int .i64 (if j < i then ((j : Nat) : Int) else 0)
theorem pl_get {N i j : Nat} (h : j < N) : (pl N i)[j]? = some (.int .i64 (if j < i then ((j : Nat) : Int) else 0)) := by simp [pl, h]
theorem pl_len (N i : Nat) : (pl N i).length = N := by simp [pl]
theorem pl_set {N i : Nat} (h : i < N) : (pl N i).set i (.int .i64 ((i : Nat) : Int)) = pl N (i + 1) := by
  apply List.ext_getElem?
  intro j
  rw [List.getElem?_set]
  by_cases e : i = j
  · subst e; simp [pl, h]
  · rw [if_neg e]
    by_cases hj : j < N
    · rw [pl_get hj, pl_get hj]
      by_cases h1 : j < i
      · rw [if_pos h1, if_pos (by omega)]
      · rw [if_neg h1, if_neg (by omega)]
    · rw [List.getElem?_eq_none (by rw [pl_len]; omega), List.getElem?_eq_none (by rw [pl_len]; omega)]
theorem pl_zero (N : Nat) : (madeCells (Value.int .i64 0).cells (N * 1)).toList = pl N 0 := by
  show (madeCells #[Value.int .i64 0] (N * 1)).toList = _
  rw [toList_madeCells_one, Nat.mul_one]
  apply List.ext_getElem?
  intro j
  by_cases hj : j < N
  · rw [pl_get hj]; simp [hj]
  · rw [List.getElem?_eq_none (by simp; omega), List.getElem?_eq_none (by rw [pl_len]; omega)]
theorem _root_.Go.Proofs.Try.info3 : (Try.prog.info? 3).map (fun i => (i.zero, i.size, i.bytes)) = some (some (.int .i64 0), 1, 8) := by kernel_rfl

theorem ofFn_range (n : Nat) : (Array.ofFn (fun x : Fin n => x)).toList.map Fin.val = List.range n := by
  rw [Array.toList_ofFn]
  apply List.ext_getElem
  · simp
  · intro j h1 h2
    simp
/-- What rising hands back: the places in the keys' order. -/
structure Rises (ks : List ByteArray) (p : List Nat) : Prop where
  perm : p.Perm (List.range ks.length)
  up : ∀ (i j x y : Nat) (kx ky : ByteArray), i < j → p[i]? = some x → p[j]? = some y → ks[x]? = some kx → ks[y]? = some ky → cmpB ky kx ≠ -1

set_option maxHeartbeats 4000000 in
set_option maxRecDepth 100000 in
theorem rising_any (ks : List ByteArray) (v : Value) (w : World) (h : Cs w v (ks.map .string)) (hl : ks.length ≤ 100000) : Calls Try.prog 39 #[v] w fun e w' => ∃ g cap p, e = .returned (.slice (some ⟨g, 0, none⟩) ks.length cap) ∧ ks.length ≤ cap ∧ Rises ks p ∧ (∀ j x, p[j]? = some x → w'.cell? ⟨g, j, none⟩ = some (.int .i64 (x : Nat))) ∧ Below w.heap.size w w' := by
  obtain ⟨ao, kcap, rfl, hkc, hr⟩ := h.ex
  rw [List.length_map] at *
  have hb0 : Below w.heap.size w (w.alloc (.cells #[.slice ao ks.length kcap] 22)) := (Below.refl _ w).alloc (Nat.le_refl _) _
  have hbox : (w.alloc (.cells #[.slice ao ks.length kcap] 22)).cell? ⟨w.heap.size, 0, none⟩ = some (.slice ao ks.length kcap) := cell_new w _ 22
  obtain ⟨N, hN⟩ : ∃ N, N = ks.length := ⟨_, rfl⟩
  rw [← hN] at hbox hb0 hl hkc ⊢
  obtain ⟨w1, hw1⟩ : ∃ w1, w1 = w.alloc (.cells #[.slice ao N kcap] 22) := ⟨_, rfl⟩
  have hs1 : w1.heap.size = w.heap.size + 1 := by rw [hw1]; simp
  obtain ⟨i3, hi1, hi2, hi3, hi4⟩ := info_parts Try.info3
  obtain ⟨w2, hrun, hown, hgr⟩ := run_make_full (P := Try.prog) w1 w1.heap.size 23 3 i3 (.int .i64 0) 1 Try.underlying23 hi1 hi2 hi3 .i64 .i64 N (by rw [hi4]; omega) (by unfold maxLen; omega) (Nat.le_refl _)
  rw [pl_zero] at hown
  rw [← hw1] at hb0 hbox
  have hb2 : Below w1.heap.size w1 w2 := (Below.refl _ w1).grown hgr (Nat.le_refl _) (fun j hj => by cases hj)
  rw [hs1] at hown hrun
  have HW := hide hw1
  have HS := hide hs1
  have HH := hide (And.intro hb0 (And.intro hbox (And.intro hown (And.intro hb2 (And.intro hr hN)))))
  rw [hw1] at hrun
  clear h hr hb0 hbox hown hb2 hgr hi1 hi2 hi3 hi4 hs1 hw1 hN
  go_enter Try.func39, Try.ntmps39
  go_wp2
  go_loopw [10] (fun v10 wr => ∃ i : Nat, i ≤ N ∧ v10 = .int .i64 i ∧ Hid (wr.ownsRow (w.heap.size + 1) 3 1 (.slice (some ⟨w.heap.size + 1, 0, none⟩) N N) N (pl N i) ∧ Below w1.heap.size w1 wr)) (fun v10 _ => N - (intOf v10).toNat)
  case atStart => exact ⟨0, by omega, rfl, hide ⟨HH.out.2.2.1, HH.out.2.2.2.1⟩⟩
  case round =>
    obtain ⟨i, hi, rfl, HI⟩ := hrel
    by_cases hiN : i < N
    · have z1 : (i : Int) < (N : Int) := by omega
      have hc := HI.out.1.cellAt i (by omega)
      rw [pl_get hiN] at hc
      have hf := HI.out.1.frozenAt i
      have hst := HI.out.1.stored i (.int .i64 ((i : Nat) : Int))
      rw [pl_set hiN] at hst
      have HST := hide hst
      clear hst
      generalize (if i < i then ((i : Nat) : Int) else 0) = z at hc
      go_wp2
      go_roundw
      case rel => exact ⟨i + 1, by omega, by go_num, hide ⟨HST.out.1, HI.out.2.grown HST.out.2 HI.out.2.size (fun j hj => by cases hj; rw [HS.out]; exact Nat.le_refl _)⟩⟩
      case measure => simp [intOf]; omega
    · have hN : i = N := by omega
      subst hN
      have z2 : decide ((i : Int) < (i : Int)) = false := by simp
      clear hi hiN
      have hown := HI.out.1
      have hbw := HI.out.2
      have hbx := cell_stays HH.out.2.1 hbw
      cases i with
      | zero =>
        have hs : ∀ W fv, Calls Try.prog 59 #[.slice (some ⟨w.heap.size + 1, 0, none⟩) 0 0, fv] W fun e w' => e = .returned (.tuple #[]) ∧ w' = W := fun W fv => AnyF.slices_SortFunc_none (P := Try.prog) (ρ := Try.sortInts_ren) { Try.sortInts with } _ _ _ _
        clear hown hbx z2
        have HB := hide hbw
        clear hbw
        go_wp2_with (go_at_call 59; refine (hs _ _).mono ?_; rintro e w' ⟨rfl, hw⟩; replace hw := hw.symm; subst hw)
        go_ret
        exact ⟨_, _, [], rfl, Nat.le_refl _, ⟨by rw [← HH.out.2.2.2.2.2]; exact List.Perm.refl _, by simp⟩, by simp, HH.out.1.trans (HB.out.mono HH.out.1.size)⟩
      | succ M =>
        have hlen := HH.out.2.2.2.2.2
        have hr := HH.out.2.2.2.2.1
        have hkx : ∀ x : Fin (M + 1), ∃ y, ks[x.val]? = some y := fun x => ⟨ks[x.val]'(by rw [← hlen]; exact x.isLt), List.getElem?_eq_getElem _⟩
        obtain ⟨kf, hkf⟩ : ∃ kf : Fin (M + 1) → ByteArray, ∀ x, ks[x.val]? = some (kf x) := ⟨fun x => ks[x.val]'(by rw [← hlen]; exact x.isLt), fun x => List.getElem?_eq_getElem _⟩
        obtain ⟨b, off, hao, hzz⟩ := hr 0 (.string (kf ⟨0, by omega⟩)) (by rw [List.getElem?_map, hkf ⟨0, by omega⟩]; rfl)
        have hk : ∀ x : Fin (M + 1), w.cell? ⟨b, off + x.val, none⟩ = some (.string (kf x)) := fun x => by
          obtain ⟨b', off', h1, h2⟩ := hr x.val (.string (kf x)) (by rw [List.getElem?_map, hkf x]; rfl)
          rw [hao] at h1
          simp only [Option.some.injEq, Addr.mk.injEq] at h1
          obtain ⟨rfl, rfl, _⟩ := h1
          exact h2
        have hbw0 := HH.out.1.trans (hbw.mono HH.out.1.size)
        have hblt : b < w.heap.size := World.block_lt_of_cell? w _ (hk ⟨0, by omega⟩)
        have hH : Sort.Holds encP wr (w.heap.size + 1) 0 (Array.ofFn (fun x : Fin (M + 1) => x)) := fun j hj => by
          have hj' : j < M + 1 := by simpa using hj
          refine ⟨?_, hown.frozenAt _⟩
          rw [Nat.zero_add, hown.cellAt j (by omega), pl_get hj', getElem!_pos _ j hj]
          simp [encP, hj']
        have hs := sort63 M kf w.heap.size (w.heap.size + 1) b off (M + 1) kcap (Array.ofFn (fun x : Fin (M + 1) => x)) (by simp) wr (by rw [← hao]; exact hbx) (fun x => cell_stays (hk x) hbw0) (by omega) (by omega) hH (by omega)
        have HB := hide hbw0
        have HK := hide hkf
        have HL := hide hlen
        clear hzz
        clear hown hbx hk hH hr hkx hkf hlen hbw hbw0 hblt hao z2
        go_wp2_with (go_at_call 59; refine hs.mono ?_; rintro e w' ⟨rfl, d', hsz, hp, hup, hhd, ho⟩)
        go_ret
        refine ⟨_, _, d'.toList.map Fin.val, rfl, Nat.le_refl _, ⟨?_, ?_⟩, ?_, HB.out.trans (ho.below HB.out.size (fun k e => by rw [e]; omega))⟩
        · rw [← HL.out]
          refine (hp.map Fin.val).trans ?_
          rw [ofFn_range]
        · intro i j x y kx ky hij hx hy hkx hky
          rw [List.getElem?_map] at hx hy
          obtain ⟨fx, hfx, rfl⟩ := Option.map_eq_some_iff.1 hx
          obtain ⟨fy, hfy, rfl⟩ := Option.map_eq_some_iff.1 hy
          have hjl := (List.getElem?_eq_some_iff.1 hfy).1
          rw [Array.length_toList, hsz] at hjl
          have := hup i j hij hjl
          rw [Array.getElem?_toList] at hfx hfy
          rw [Array.getElem!_eq_getD, Array.getElem!_eq_getD, Array.getD_eq_getD_getElem?, Array.getD_eq_getD_getElem?, hfx, hfy] at this
          rw [HK.out fx] at hkx
          rw [HK.out fy] at hky
          cases hkx
          cases hky
          exact this
        · intro j x hx
          rw [List.getElem?_map] at hx
          obtain ⟨fx, hfx, rfl⟩ := Option.map_eq_some_iff.1 hx
          have hjl := (List.getElem?_eq_some_iff.1 hfx).1
          rw [Array.length_toList] at hjl
          have := (hhd j hjl).1
          rw [Array.getElem?_toList] at hfx
          rw [Nat.zero_add, Array.getElem!_eq_getD, Array.getD_eq_getD_getElem?, hfx] at this
          exact this
end Go.Proofs.Ytckkoigghkgfdaa
