/-
  THE DOCUMENT's Cmp, CmpPath, Same: what they answer.
-/
import Derived.Test.YtcpigbojebjlaaaDoorKey
import Derived.Deep.QuietTactic
import Derived.BigQuiet
namespace Go.Proofs.YtcpigbojebjlaaaDoor
open Go.RowKit Go.Shelf
set_option linter.unusedSimpArgs false

def cmpI (a b : Int) : Int := if a < b then -1 else if b < a then 1 else 0
theorem number_any (a b : Int) (w : World) : Calls Tryd.prog 52 #[.int .i64 a, .int .i64 b] w fun e w' => e = .returned (.int .i64 (cmpI a b)) ∧ w' = w := by
  unfold cmpI
  by_cases h1 : a < b
  · rw [if_pos h1]
    go_enter Tryd.func52, Tryd.ntmps52
    go_wp2
    go_ret
    exact ⟨rfl, rfl⟩
  · rw [if_neg h1]
    by_cases h2 : b < a
    · rw [if_pos h2]
      go_enter Tryd.func52, Tryd.ntmps52
      go_wp2
      go_ret
      exact ⟨rfl, rfl⟩
    · rw [if_neg h2]
      go_enter Tryd.func52, Tryd.ntmps52
      go_wp2
      go_ret
      exact ⟨rfl, rfl⟩

theorem cb_step {l m : List UInt8} {i : Nat} (h1 : i < l.length) (h2 : i < m.length) : Lib.compareBytes (l.drop i) (m.drop i) = if l[i] < m[i] then -1 else if m[i] < l[i] then 1 else Lib.compareBytes (l.drop (i + 1)) (m.drop (i + 1)) := by
  rw [List.drop_eq_getElem_cons h1, List.drop_eq_getElem_cons h2, Lib.compareBytes]
theorem cb_end {l m : List UInt8} {i : Nat} (h1 : i ≤ l.length) (h2 : i ≤ m.length) (h : ¬ (i < l.length ∧ i < m.length)) : Lib.compareBytes (l.drop i) (m.drop i) = cmpI l.length m.length := by
  unfold cmpI
  by_cases e1 : i = l.length
  · have d1 : l.drop i = [] := List.drop_eq_nil_of_le (by omega)
    rw [d1]
    by_cases e2 : i = m.length
    · have d2 : m.drop i = [] := List.drop_eq_nil_of_le (by omega)
      rw [d2, if_neg (by omega), if_neg (by omega)]; rfl
    · rw [List.drop_eq_getElem_cons (show i < m.length by omega), if_pos (by omega)]; rfl
  · have e2 : i = m.length := by omega
    have d2 : m.drop i = [] := List.drop_eq_nil_of_le (by omega)
    rw [d2, List.drop_eq_getElem_cons (show i < l.length by omega), if_neg (by omega), if_pos (by omega)]; rfl

set_option maxHeartbeats 1000000 in
set_option maxRecDepth 100000 in
theorem refCmp_any (a b : ByteArray) (w : World) (ha : a.size ≤ 9223372036854775807) : Calls Tryd.prog 30 #[.string a, .string b] w fun e w' => e = .returned (.int .i64 (cmpB a b)) ∧ ∃ n, w' = w.drewN n := by
  have hla : a.data.toList.length = a.size := (Lib.size_eq a).symm
  have hlb : b.data.toList.length = b.size := (Lib.size_eq b).symm
  obtain ⟨R, hR⟩ : ∃ R, R = cmpB a b := ⟨_, rfl⟩
  rw [← hR]
  have H := hide hR
  clear hR
  go_enter Tryd.func30, Tryd.ntmps30
  go_wp2
  go_loopw [5] (fun iv wr => ∃ i : Nat, i ≤ a.size ∧ i ≤ b.size ∧ iv = .int .i64 i ∧ Hid (Lib.compareBytes (a.data.toList.drop i) (b.data.toList.drop i) = R) ∧ ∃ n, wr = w.drewN n) (fun iv _ => a.size - (intOf iv).toNat)
  case atStart => exact ⟨0, by omega, by omega, rfl, hide (by rw [H.out]; rfl), 0, rfl⟩
  case round =>
    obtain ⟨i, hi, hib, rfl, hrest, n, rfl⟩ := hrel
    by_cases hc : i < a.size ∧ i < b.size
    · obtain ⟨h1, h2⟩ := hc
      have z1 : (i : Int) < (a.size : Int) := by omega
      have z2 : (i : Int) < (b.size : Int) := by omega
      have d1 : decide (i < a.size) = true := by simpa using h1
      have d2 : decide (i < b.size) = true := by simpa using h2
      have hst := cb_step (l := a.data.toList) (m := b.data.toList) (i := i) (by omega) (by omega)
      have g1 : a.data.toList[i]'(by omega) = a[i]'h1 := by rw [← getD_byte a i h1]; simp [List.getD, List.getElem?_eq_getElem (show i < a.data.toList.length by omega)]
      have g2 : b.data.toList[i]'(by omega) = b[i]'h2 := by rw [← getD_byte b i h2]; simp [List.getD, List.getElem?_eq_getElem (show i < b.data.toList.length by omega)]
      rw [g1, g2] at hst
      obtain ⟨x, hx⟩ : ∃ x, a[i]'h1 = x := ⟨_, rfl⟩
      obtain ⟨y, hy⟩ : ∃ y, b[i]'h2 = y := ⟨_, rfl⟩
      have ix : ∀ W, (Instr.index 9 (.string a) (.int .i64 (i : Int))).run Tryd.prog W = .ok (.int .u8 (x.toNat : Int)) W := fun W => by
        rw [run_index_string W 9 a .i64 (i : Int) Tryd.underlying9, dif_pos ⟨by omega, z1⟩, ← hx]; rfl
      have iy : ∀ W, (Instr.index 9 (.string b) (.int .i64 (i : Int))).run Tryd.prog W = .ok (.int .u8 (y.toNat : Int)) W := fun W => by
        rw [run_index_string W 9 b .i64 (i : Int) Tryd.underlying9, dif_pos ⟨by omega, z2⟩, ← hy]; rfl
      rw [hx, hy] at hst
      have HS := hide hst
      clear hst g1 g2 hx hy
      by_cases c1 : x.toNat < y.toNat
      · have k1 : (x.toNat : Int) < (y.toNat : Int) := by omega
        have HE := hide (show R = -1 by rw [← hrest.out, HS.out, if_pos (UInt8.lt_iff_toNat_lt.2 c1)])
        go_wp2
        go_quiet (fail)
        go_wp2
        go_ret
        exact ⟨by rw [HE.out]; rfl, _, World.drewN_drewN _ _ _⟩
      · have k1 : ¬ ((x.toNat : Int) < (y.toNat : Int)) := by omega
        have n1 : ¬ x < y := fun e => c1 (UInt8.lt_iff_toNat_lt.1 e)
        by_cases c2 : y.toNat < x.toNat
        · have k2 : (y.toNat : Int) < (x.toNat : Int) := by omega
          have HE := hide (show R = 1 by rw [← hrest.out, HS.out, if_neg n1, if_pos (UInt8.lt_iff_toNat_lt.2 c2)])
          clear n1
          go_wp2
          go_quiet (fail)
          go_wp2
          go_quiet (fail)
          go_wp2
          go_ret
          exact ⟨by rw [HE.out]; rfl, _, by rw [World.drewN_drewN, World.drewN_drewN]⟩
        · have k2 : ¬ ((y.toNat : Int) < (x.toNat : Int)) := by omega
          have n2 : ¬ y < x := fun e => c2 (UInt8.lt_iff_toNat_lt.1 e)
          have HE := hide (show Lib.compareBytes (a.data.toList.drop (i + 1)) (b.data.toList.drop (i + 1)) = R by rw [← hrest.out, HS.out, if_neg n1, if_neg n2])
          clear n1 n2
          go_wp2
          go_quiet (fail)
          go_wp2
          go_quiet (fail)
          go_wp2
          go_roundw
          case rel => exact ⟨i + 1, by omega, by omega, by go_num, hide HE.out, _, rfl⟩
          case measure => simp [intOf]; omega
    · have HE := hide (show R = cmpI (a.size : Int) (b.size : Int) by rw [← hrest.out, cb_end (by omega) (by omega) (by omega), hla, hlb])
      have hnum := fun W => number_any (a.size : Int) (b.size : Int) W
      generalize cmpI (a.size : Int) (b.size : Int) = X at HE hnum
      by_cases h1 : i < a.size
      · have d1 : decide (i < a.size) = true := by simpa using h1
        have z1 : (i : Int) < (a.size : Int) := by omega
        have d2 : decide (i < b.size) = false := by simp; omega
        have z2 : ¬ ((i : Int) < (b.size : Int)) := by omega
        go_wp2_with (go_at_call 52; refine (hnum _).mono ?_; rintro e w' ⟨rfl, rfl⟩)
        go_ret
        exact ⟨by rw [HE.out]; rfl, n, rfl⟩
      · have d1 : decide (i < a.size) = false := by simp; omega
        have z1 : ¬ ((i : Int) < (a.size : Int)) := by omega
        go_wp2_with (go_at_call 52; refine (hnum _).mono ?_; rintro e w' ⟨rfl, rfl⟩)
        go_ret
        exact ⟨by rw [HE.out]; rfl, n, rfl⟩

theorem Rs.drewN {w : World} {ao : Option Addr} {l : List ByteArray} (h : Rs w ao l) (n : Nat) : Rs (w.drewN n) ao l := h.below ⟨rfl, rfl, rfl, Nat.le_refl _, fun _ _ => rfl⟩
theorem cmpP_num {l m : List ByteArray} {i : Nat} (h1 : i ≤ l.length) (h2 : i ≤ m.length) (h : ¬ (i < l.length ∧ i < m.length)) : cmpP (l.drop i) (m.drop i) = cmpI l.length m.length := by
  unfold cmpI
  by_cases e1 : i = l.length
  · have d1 : l.drop i = [] := List.drop_eq_nil_of_le (by omega)
    rw [d1]
    by_cases e2 : i = m.length
    · have d2 : m.drop i = [] := List.drop_eq_nil_of_le (by omega)
      rw [d2, if_neg (by omega), if_neg (by omega)]; rfl
    · rw [List.drop_eq_getElem_cons (show i < m.length by omega), if_pos (by omega)]; rfl
  · have e2 : i = m.length := by omega
    have d2 : m.drop i = [] := List.drop_eq_nil_of_le (by omega)
    rw [d2, List.drop_eq_getElem_cons (show i < l.length by omega), if_neg (by omega), if_pos (by omega)]; rfl
set_option maxHeartbeats 1000000 in
set_option maxRecDepth 100000 in
theorem refCmpPath_any {w : World} {a b : Option Addr} {c d : Nat} {l m : List ByteArray} (hl : Rs w a l) (hm : Rs w b m) (hn : l.length ≤ 9223372036854775807) (hz : ∀ s ∈ l, s.size ≤ 9223372036854775807) :
    Calls Tryd.prog 32 #[.slice a l.length c, .slice b m.length d] w fun e w' => e = .returned (.int .i64 (cmpP l m)) ∧ ∃ n, w' = w.drewN n := by
  obtain ⟨N, hN⟩ : ∃ N, N = l.length := ⟨_, rfl⟩
  obtain ⟨M, hM⟩ : ∃ M, M = m.length := ⟨_, rfl⟩
  obtain ⟨R, hR⟩ : ∃ R, R = cmpP l m := ⟨_, rfl⟩
  rw [← hN] at hn
  rw [← hN, ← hM, ← hR]
  have H := hide (And.intro hN (And.intro hM hR))
  clear hN hM hR
  go_enter Tryd.func32, Tryd.ntmps32
  go_wp2
  go_loopw [5] (fun iv wr => ∃ i : Nat, i ≤ N ∧ i ≤ M ∧ iv = .int .i64 i ∧ Hid (cmpP (l.drop i) (m.drop i) = R) ∧ ∃ n, wr = w.drewN n) (fun iv _ => N - (intOf iv).toNat)
  case atStart => exact ⟨0, by omega, by omega, rfl, hide (by simpa using H.out.2.2.symm), 0, rfl⟩
  case round =>
    obtain ⟨i, hi, him, rfl, hrest, n, hwr⟩ := hrel
    have hlr : Rs wr a l := by rw [hwr]; exact hl.drewN n
    have hmr : Rs wr b m := by rw [hwr]; exact hm.drewN n
    have HWR := hide hwr
    clear hwr
    by_cases hc : i < N ∧ i < M
    · obtain ⟨h1, h2⟩ := hc
      have z1 : (i : Int) < (N : Int) := by omega
      have z2 : (i : Int) < (M : Int) := by omega
      have d1 : decide (i < N) = true := by simpa using h1
      have d2 : decide (i < M) = true := by simpa using h2
      obtain ⟨x, hx⟩ : ∃ x, l[i]? = some x := ⟨_, List.getElem?_eq_getElem (by rw [← H.out.1]; exact h1)⟩
      obtain ⟨y, hy⟩ : ∃ y, m[i]? = some y := ⟨_, List.getElem?_eq_getElem (by rw [← H.out.2.1]; exact h2)⟩
      obtain ⟨ab, off, rfl, hcx⟩ := hlr.at hx
      obtain ⟨bb, ob, rfl, hcy⟩ := hmr.at hy
      have hst := cmpP_step hx hy
      have hcv := fun W => refCmp_any x y W (hz x (List.mem_of_getElem? hx))
      obtain ⟨cv, hcv'⟩ : ∃ cv, cv = cmpB x y := ⟨_, rfl⟩
      rw [← hcv'] at hst
      simp only [← hcv'] at hcv
      have HS := hide hst
      clear hst hcv' hx hy
      by_cases hz0 : cv = 0
      · have hzb : (cv == 0) = true := by simp [hz0]
        have HZ := hide hz0
        clear hz0
        go_wp2
        go_quiet (first | (go_at_call 30; refine Calls.quiet_of (hcv _)))
        go_wp2
        go_roundw
        case rel => exact ⟨i + 1, by omega, by omega, by go_num, hide (by have := HS.out; rw [if_pos HZ.out] at this; rw [← this]; exact hrest.out), _, by rw [HWR.out, World.drewN_drewN]⟩
        case measure => simp [intOf]; omega
      · have hzb : (cv == 0) = false := by simpa using hz0
        go_wp2
        go_quiet (first | (go_at_call 30; refine Calls.quiet_of (hcv _)))
        go_wp2
        go_ret
        refine ⟨?_, _, by rw [HWR.out, World.drewN_drewN]⟩
        have := HS.out
        rw [if_neg hz0, hrest.out] at this
        rw [this]; rfl
    · have HE := hide (show R = cmpI (N : Int) (M : Int) by rw [← hrest.out, H.out.1, H.out.2.1]; exact cmpP_num (by rw [← H.out.1]; exact hi) (by rw [← H.out.2.1]; exact him) (by rw [← H.out.1, ← H.out.2.1]; exact hc))
      have hnum := fun W => number_any (N : Int) (M : Int) W
      generalize cmpI (N : Int) (M : Int) = X at HE hnum
      by_cases h1 : i < N
      · have d1 : decide (i < N) = true := by simpa using h1
        have z1 : (i : Int) < (N : Int) := by omega
        have d2 : decide (i < M) = false := by simp; omega
        have z2 : ¬ ((i : Int) < (M : Int)) := by omega
        go_wp2_with (go_at_call 52; refine (hnum _).mono ?_; rintro e w' ⟨rfl, rfl⟩)
        go_ret
        exact ⟨by rw [HE.out]; rfl, n, HWR.out⟩
      · have d1 : decide (i < N) = false := by simp; omega
        have z1 : ¬ ((i : Int) < (N : Int)) := by omega
        go_wp2_with (go_at_call 52; refine (hnum _).mono ?_; rintro e w' ⟨rfl, rfl⟩)
        go_ret
        exact ⟨by rw [HE.out]; rfl, n, HWR.out⟩
theorem same_any {w : World} {a b : Option Addr} {c d : Nat} {l m : List ByteArray} (hl : Rs w a l) (hm : Rs w b m) (hn : l.length ≤ 9223372036854775807) (hz : ∀ s ∈ l, s.size ≤ 9223372036854775807) :
    Calls Tryd.prog 20 #[.slice a l.length c, .slice b m.length d] w fun e w' => e = .returned (.bool (cmpP l m == 0)) ∧ ∃ n, w' = w.drewN n := by
  have h := refCmpPath_any (c := c) (d := d) hl hm hn hz
  generalize cmpP l m = X at h ⊢
  go_enter Tryd.func20, Tryd.ntmps20
  go_wp2_with (go_at_call 32; refine h.mono ?_; rintro e w' ⟨rfl, n, rfl⟩)
  go_ret
  exact ⟨rfl, n, rfl⟩
theorem num_any (n : Int) (w : World) : Calls Tryd.prog 21 #[.int .i64 n] w fun e w' => e = .returned (.int .i64 n) ∧ w' = w := by
  go_enter Tryd.func21, Tryd.ntmps21
  go_wp2
  go_ret
  exact ⟨rfl, rfl⟩
end Go.Proofs.YtcpigbojebjlaaaDoor
