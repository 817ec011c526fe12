/-
  PATHS' TEXTS: plainly (joinB), and what the program's Join answers.
  THE DOCUMENT's Cmp, CmpPath, Same: what they answer.
  PLACES HELD AGAINST EACH OTHER: cmp.Compare, cmp.Or, the program's CmpPlace.
  PLAINLY: the three orders; what was joined is split as it was.
-/
import Derived.Test.YtpepgoelnagoaaaGreatDoorMg4
import Derived.Test.YtpepgoelnagoaaaGreatDoorMg3
import Derived.Deep.QuietTactic
import Derived.BigQuiet
namespace Go.Proofs.YtpepgoelnagoaaaGreatDoor
open Go.RowKit Go.Shelf
set_option linter.unusedSimpArgs false

def joinB (l : List ByteArray) : List UInt8 := if l = [] then [47] else l.flatMap (fun s => 47 :: s.data.toList)
theorem path_sizes {l : List ByteArray} (h : pathB l = true) : l.length ≤ 6 ∧ ∀ s ∈ l, s.size ≤ 64 := by
  unfold pathB at h
  rw [Bool.and_eq_true, decide_eq_true_eq, List.all_eq_true] at h
  refine ⟨h.1, fun s hs => ?_⟩
  have := h.2 s hs
  unfold keyB at this
  simp only [Bool.and_eq_true, decide_eq_true_eq] at this
  rw [Lib.size_eq]
  exact this.1.1.2
theorem flatJ_length (l : List ByteArray) (h : ∀ s ∈ l, s.size ≤ 64) : (l.flatMap (fun s => 47 :: s.data.toList)).length ≤ 65 * l.length := by
  induction l with
  | nil => simp
  | cons b l ih =>
    have h1 := h b (by simp)
    have h2 := ih (fun s hs => h s (by simp [hs]))
    rw [List.flatMap_cons, List.length_append]
    rw [Lib.size_eq] at h1
    simp only [List.length_cons]
    omega
theorem flatJ_take (l : List ByteArray) (i : Nat) (s : ByteArray) (h : l[i]? = some s) : (l.take (i + 1)).flatMap (fun s => 47 :: s.data.toList) = (l.take i).flatMap (fun s => 47 :: s.data.toList) ++ [47] ++ s.data.toList := by
  obtain ⟨h1, rfl⟩ := List.getElem?_eq_some_iff.1 h
  rw [List.take_succ_eq_append_getElem h1, List.flatMap_append]
  simp
def joinE (l : List ByteArray) : Value := if pathB l then .tuple #[.string ⟨(joinB l).toArray⟩, .int .i64 0] else .tuple #[.string ⟨#[]⟩, .int .i64 2]

set_option maxHeartbeats 2000000 in
set_option maxRecDepth 100000 in
theorem joinK_any {w : World} {ao : Option Addr} {c : Nat} {l : List ByteArray} (h : Rs w ao l) (hcap : l.length ≤ c) (hn : ao = none → c = 0) (hT : Tabs w) (hlen : l.length ≤ 140737488355328) :
    Calls Tryz.prog 101 #[.slice ao l.length c] w fun e w' => e = .returned (joinE l) ∧ Below w.heap.size w w' := by
  have hp := path_any h hcap hn hT hlen
  unfold joinE
  cases hpb : pathB l with
  | false =>
    rw [hpb] at hp
    go_enter Tryz.func101, Tryz.ntmps101
    go_wp2_with (go_at_call 90; refine hp.mono ?_; rintro e w1 ⟨rfl, b1⟩)
    go_ret2
    exact ⟨rfl, b1⟩
  | true =>
    rw [hpb] at hp
    obtain ⟨hl6, hsz⟩ := path_sizes hpb
    simp only [if_true]
    by_cases h0 : l = []
    · subst h0
      go_enter Tryz.func101, Tryz.ntmps101
      go_wp2_with (go_at_call 90; refine hp.mono ?_; rintro e w1 ⟨rfl, b1⟩)
      go_ret2
      exact ⟨rfl, b1⟩
    · rw [joinB, if_neg h0]
      have hl0 : 0 < l.length := List.length_pos_iff.2 h0
      obtain ⟨N, hN⟩ : ∃ N, N = l.length := ⟨_, rfl⟩
      rw [← hN] at hp hl0 hl6 ⊢
      have hz : ((N : Int) == 0) = false := by simp; omega
      have H := hide (And.intro hN (And.intro h hsz))
      clear hN h hsz h0 hpb hcap hlen
      go_enter Tryz.func101, Tryz.ntmps101
      go_wp2_with (go_at_call 90; refine hp.mono ?_; rintro e w1 ⟨rfl, b1⟩)
      have hs1 := b1.size
      have hbA : Below w.heap.size w (w1.alloc (.cells #[.pointer none, .slice none 0 0] 179)) := b1.alloc hs1 _
      have hf0 := Bd.fresh w1 (w1.heap.size + 1)
      have HI := hide (And.intro hbA hf0)
      clear hbA hf0
      go_loopw [15] (fun iv wr => ∃ (i : Nat) (v : Value), i ≤ N ∧ iv = .int .i64 i ∧ Hid (Bd wr (w1.heap.size + 1) w1.heap.size v ((l.take i).flatMap (fun s => 47 :: s.data.toList))) ∧ Hid (Below w.heap.size w wr) ∧ w1.heap.size + 1 ≤ wr.heap.size) (fun iv _ => N - (intOf iv).toNat)
      case atStart => exact ⟨0, _, Nat.zero_le _, rfl, hide (by simpa using HI.out.2), hide HI.out.1, by simp⟩
      case round =>
        obtain ⟨i, v, hi, rfl, HB, HW, hsw⟩ := hrel
        by_cases hlt : i < N
        · have hlt' : (i : Int) < (N : Int) := by omega
          have hdl : decide (i < N) = true := by simpa using hlt
          obtain ⟨s, hs⟩ : ∃ s, l[i]? = some s := ⟨_, List.getElem?_eq_getElem (by rw [← H.out.1]; exact hlt)⟩
          obtain ⟨ab, off, rfl, hcs⟩ := (H.out.2.1.below HW.out).at hs
          have hss := H.out.2.2 s (List.mem_of_getElem? hs)
          have hft := flatJ_take l i s hs
          have hacc : ((l.take i).flatMap (fun s => 47 :: s.data.toList)).length ≤ 400 := by
            have := flatJ_length (l.take i) (fun s hs => H.out.2.2 s (List.mem_of_mem_take hs))
            have h2 : (l.take i).length ≤ 6 := by rw [List.length_take]; omega
            omega
          obtain ⟨acc, hac⟩ : ∃ acc, acc = (l.take i).flatMap (fun s => 47 :: s.data.toList) := ⟨_, rfl⟩
          rw [← hac] at HB hft hacc
          have HF := hide hft
          have hw47 : Calls Tryz.prog 135 #[.pointer (some ⟨w1.heap.size, 0, none⟩), .int .u8 47] wr fun e w' => e = .returned .nilIface ∧ Wrote wr w' (w1.heap.size + 1) w1.heap.size v (acc ++ [47]) := writeByte_any 47 HB.out (by omega) hsw
          have hwS : ∀ W v', Bd W (w1.heap.size + 1) w1.heap.size v' (acc ++ [47]) → w1.heap.size + 1 ≤ W.heap.size → Calls Tryz.prog 136 #[.pointer (some ⟨w1.heap.size, 0, none⟩), .string s] W fun e w' => e = .returned (.tuple #[.int .i64 s.size, .nilIface]) ∧ Wrote W w' (w1.heap.size + 1) w1.heap.size v' (acc ++ [47] ++ s.data.toList) := fun W v' hb hW => writeString_any s hb (by simp only [List.length_append, List.length_cons, List.length_nil]; omega) hW
          clear hft hac hs
          go_wp2_with (first
            | (go_at_call 135; refine hw47.mono ?_; rintro e W2 ⟨rfl, v2, hB2, o2⟩; have hS2 := hwS W2 v2 hB2 (Nat.le_trans hsw o2.size))
            | (go_at_call 136; refine hS2.mono ?_; rintro e W3 ⟨rfl, v3, hB3, o3⟩))
          go_roundw
          case rel =>
            have hD2 : ∀ k, (k = w1.heap.size ∨ v.ownBlock = some k) → w.heap.size ≤ k := fun k e => by
              rcases e with e | e
              · omega
              · have := (HB.out.blk k e).1; omega
            have hD3 : ∀ k, (k = w1.heap.size ∨ v2.ownBlock = some k) → w.heap.size ≤ k := fun k e => by
              rcases e with e | e
              · omega
              · have := (hB2.blk k e).1; omega
            have t2 := Below.only HW.out o2 HW.out.size hD2
            exact ⟨i + 1, v3, by omega, by go_num, hide (by rw [HF.out]; exact hB3), hide (Below.only t2 o3 t2.size hD3), Nat.le_trans hsw (Nat.le_trans o2.size o3.size)⟩
          case measure => simp [intOf]; omega
        · obtain rfl : i = N := by omega
          have hdl : decide (i < i) = false := by simp
          have hst := string_any HB.out (B' := w.heap.size) (by omega) (by omega) HW.out.size
          rw [List.take_of_length_le (by rw [← H.out.1]; omega)] at hst
          have HW' := hide HW.out
          clear HB HI H HW
          go_wp2_with (go_at_call 137; refine hst.mono ?_; rintro e w' ⟨rfl, b9⟩)
          go_ret2
          exact ⟨rfl, HW'.out.trans b9⟩
end Go.Proofs.YtpepgoelnagoaaaGreatDoor
namespace Go.Proofs.YtpepgoelnagoaaaGreatDoor
open Go.RowKit Go.Shelf
set_option linter.unusedSimpArgs false

def cmpI (a b : Int) : Int := if a < b then -1 else if b < a then 1 else 0
theorem refNum_any (a b : Int) (w : World) : Calls Tryz.prog 87 #[.int .i64 a, .int .i64 b] w fun e w' => e = .returned (.int .i64 (cmpI a b)) ∧ w' = w := by
  unfold cmpI
  by_cases h1 : a < b
  · rw [if_pos h1]
    go_enter Tryz.func87, Tryz.ntmps87
    go_wp2
    go_ret
    exact ⟨rfl, rfl⟩
  · rw [if_neg h1]
    by_cases h2 : b < a
    · rw [if_pos h2]
      go_enter Tryz.func87, Tryz.ntmps87
      go_wp2
      go_ret
      exact ⟨rfl, rfl⟩
    · rw [if_neg h2]
      go_enter Tryz.func87, Tryz.ntmps87
      go_wp2
      go_ret
      exact ⟨rfl, rfl⟩

theorem cb_step {l m : List UInt8} {i : Nat} (h1 : i < l.length) (h2 : i < m.length) : Lib.compareBytes (l.drop i) (m.drop i) = if l[i] < m[i] then -1 else if m[i] < l[i] then 1 else Lib.compareBytes (l.drop (i + 1)) (m.drop (i + 1)) := by
  rw [List.drop_eq_getElem_cons h1, List.drop_eq_getElem_cons h2, Lib.compareBytes]
theorem cb_end {l m : List UInt8} {i : Nat} (h1 : i ≤ l.length) (h2 : i ≤ m.length) (h : ¬ (i < l.length ∧ i < m.length)) : Lib.compareBytes (l.drop i) (m.drop i) = cmpI l.length m.length := by
  unfold cmpI
  by_cases e1 : i = l.length
  · have d1 : l.drop i = [] := List.drop_eq_nil_of_le (by omega)
    rw [d1]
    by_cases e2 : i = m.length
    · have d2 : m.drop i = [] := List.drop_eq_nil_of_le (by omega)
      rw [d2, if_neg (by omega), if_neg (by omega)]; rfl
    · rw [List.drop_eq_getElem_cons (show i < m.length by omega), if_pos (by omega)]; rfl
  · have e2 : i = m.length := by omega
    have d2 : m.drop i = [] := List.drop_eq_nil_of_le (by omega)
    rw [d2, List.drop_eq_getElem_cons (show i < l.length by omega), if_neg (by omega), if_pos (by omega)]; rfl

set_option maxHeartbeats 1000000 in
set_option maxRecDepth 100000 in
theorem refCmp_any (a b : ByteArray) (w : World) (ha : a.size ≤ 9223372036854775807) : Calls Tryz.prog 88 #[.string a, .string b] w fun e w' => e = .returned (.int .i64 (cmpB a b)) ∧ ∃ n, w' = w.drewN n := by
  have hla : a.data.toList.length = a.size := (Lib.size_eq a).symm
  have hlb : b.data.toList.length = b.size := (Lib.size_eq b).symm
  obtain ⟨R, hR⟩ : ∃ R, R = cmpB a b := ⟨_, rfl⟩
  rw [← hR]
  have H := hide hR
  clear hR
  go_enter Tryz.func88, Tryz.ntmps88
  go_wp2
  go_loopw [5] (fun iv wr => ∃ i : Nat, i ≤ a.size ∧ i ≤ b.size ∧ iv = .int .i64 i ∧ Hid (Lib.compareBytes (a.data.toList.drop i) (b.data.toList.drop i) = R) ∧ ∃ n, wr = w.drewN n) (fun iv _ => a.size - (intOf iv).toNat)
  case atStart => exact ⟨0, by omega, by omega, rfl, hide (by rw [H.out]; rfl), 0, rfl⟩
  case round =>
    obtain ⟨i, hi, hib, rfl, hrest, n, rfl⟩ := hrel
    by_cases hc : i < a.size ∧ i < b.size
    · obtain ⟨h1, h2⟩ := hc
      have z1 : (i : Int) < (a.size : Int) := by omega
      have z2 : (i : Int) < (b.size : Int) := by omega
      have d1 : decide (i < a.size) = true := by simpa using h1
      have d2 : decide (i < b.size) = true := by simpa using h2
      have hst := cb_step (l := a.data.toList) (m := b.data.toList) (i := i) (by omega) (by omega)
      have g1 : a.data.toList[i]'(by omega) = a[i]'h1 := by rw [← getD_byte a i h1]; simp [List.getD, List.getElem?_eq_getElem (show i < a.data.toList.length by omega)]
      have g2 : b.data.toList[i]'(by omega) = b[i]'h2 := by rw [← getD_byte b i h2]; simp [List.getD, List.getElem?_eq_getElem (show i < b.data.toList.length by omega)]
      rw [g1, g2] at hst
      obtain ⟨x, hx⟩ : ∃ x, a[i]'h1 = x := ⟨_, rfl⟩
      obtain ⟨y, hy⟩ : ∃ y, b[i]'h2 = y := ⟨_, rfl⟩
      have ix : ∀ W, (Instr.index 9 (.string a) (.int .i64 (i : Int))).run Tryz.prog W = .ok (.int .u8 (x.toNat : Int)) W := fun W => by
        rw [run_index_string W 9 a .i64 (i : Int) Tryz.underlying9, dif_pos ⟨by omega, z1⟩, ← hx]; rfl
      have iy : ∀ W, (Instr.index 9 (.string b) (.int .i64 (i : Int))).run Tryz.prog W = .ok (.int .u8 (y.toNat : Int)) W := fun W => by
        rw [run_index_string W 9 b .i64 (i : Int) Tryz.underlying9, dif_pos ⟨by omega, z2⟩, ← hy]; rfl
      rw [hx, hy] at hst
      have HS := hide hst
      clear hst g1 g2 hx hy
      by_cases c1 : x.toNat < y.toNat
      · have k1 : (x.toNat : Int) < (y.toNat : Int) := by omega
        have HE := hide (show R = -1 by rw [← hrest.out, HS.out, if_pos (UInt8.lt_iff_toNat_lt.2 c1)])
        go_wp2
        go_quiet (fail)
        go_wp2
        go_ret
        exact ⟨by rw [HE.out]; rfl, _, World.drewN_drewN _ _ _⟩
      · have k1 : ¬ ((x.toNat : Int) < (y.toNat : Int)) := by omega
        have n1 : ¬ x < y := fun e => c1 (UInt8.lt_iff_toNat_lt.1 e)
        by_cases c2 : y.toNat < x.toNat
        · have k2 : (y.toNat : Int) < (x.toNat : Int) := by omega
          have HE := hide (show R = 1 by rw [← hrest.out, HS.out, if_neg n1, if_pos (UInt8.lt_iff_toNat_lt.2 c2)])
          clear n1
          go_wp2
          go_quiet (fail)
          go_wp2
          go_quiet (fail)
          go_wp2
          go_ret
          exact ⟨by rw [HE.out]; rfl, _, by rw [World.drewN_drewN, World.drewN_drewN]⟩
        · have k2 : ¬ ((y.toNat : Int) < (x.toNat : Int)) := by omega
          have n2 : ¬ y < x := fun e => c2 (UInt8.lt_iff_toNat_lt.1 e)
          have HE := hide (show Lib.compareBytes (a.data.toList.drop (i + 1)) (b.data.toList.drop (i + 1)) = R by rw [← hrest.out, HS.out, if_neg n1, if_neg n2])
          clear n1 n2
          go_wp2
          go_quiet (fail)
          go_wp2
          go_quiet (fail)
          go_wp2
          go_roundw
          case rel => exact ⟨i + 1, by omega, by omega, by go_num, hide HE.out, _, rfl⟩
          case measure => simp [intOf]; omega
    · have HE := hide (show R = cmpI (a.size : Int) (b.size : Int) by rw [← hrest.out, cb_end (by omega) (by omega) (by omega), hla, hlb])
      have hnum := fun W => refNum_any (a.size : Int) (b.size : Int) W
      generalize cmpI (a.size : Int) (b.size : Int) = X at HE hnum
      by_cases h1 : i < a.size
      · have d1 : decide (i < a.size) = true := by simpa using h1
        have z1 : (i : Int) < (a.size : Int) := by omega
        have d2 : decide (i < b.size) = false := by simp; omega
        have z2 : ¬ ((i : Int) < (b.size : Int)) := by omega
        go_wp2_with (go_at_call 87; refine (hnum _).mono ?_; rintro e w' ⟨rfl, rfl⟩)
        go_ret
        exact ⟨by rw [HE.out]; rfl, n, rfl⟩
      · have d1 : decide (i < a.size) = false := by simp; omega
        have z1 : ¬ ((i : Int) < (a.size : Int)) := by omega
        go_wp2_with (go_at_call 87; refine (hnum _).mono ?_; rintro e w' ⟨rfl, rfl⟩)
        go_ret
        exact ⟨by rw [HE.out]; rfl, n, rfl⟩

theorem Rs.drewN {w : World} {ao : Option Addr} {l : List ByteArray} (h : Rs w ao l) (n : Nat) : Rs (w.drewN n) ao l := h.below ⟨rfl, rfl, rfl, Nat.le_refl _, fun _ _ => rfl⟩
theorem cmpP_num {l m : List ByteArray} {i : Nat} (h1 : i ≤ l.length) (h2 : i ≤ m.length) (h : ¬ (i < l.length ∧ i < m.length)) : cmpP (l.drop i) (m.drop i) = cmpI l.length m.length := by
  unfold cmpI
  by_cases e1 : i = l.length
  · have d1 : l.drop i = [] := List.drop_eq_nil_of_le (by omega)
    rw [d1]
    by_cases e2 : i = m.length
    · have d2 : m.drop i = [] := List.drop_eq_nil_of_le (by omega)
      rw [d2, if_neg (by omega), if_neg (by omega)]; rfl
    · rw [List.drop_eq_getElem_cons (show i < m.length by omega), if_pos (by omega)]; rfl
  · have e2 : i = m.length := by omega
    have d2 : m.drop i = [] := List.drop_eq_nil_of_le (by omega)
    rw [d2, List.drop_eq_getElem_cons (show i < l.length by omega), if_neg (by omega), if_pos (by omega)]; rfl
set_option maxHeartbeats 1000000 in
set_option maxRecDepth 100000 in
theorem refCmpPath_any {w : World} {a b : Option Addr} {c d : Nat} {l m : List ByteArray} (hl : Rs w a l) (hm : Rs w b m) (hn : l.length ≤ 9223372036854775807) (hz : ∀ s ∈ l, s.size ≤ 9223372036854775807) :
    Calls Tryz.prog 86 #[.slice a l.length c, .slice b m.length d] w fun e w' => e = .returned (.int .i64 (cmpP l m)) ∧ ∃ n, w' = w.drewN n := by
  obtain ⟨N, hN⟩ : ∃ N, N = l.length := ⟨_, rfl⟩
  obtain ⟨M, hM⟩ : ∃ M, M = m.length := ⟨_, rfl⟩
  obtain ⟨R, hR⟩ : ∃ R, R = cmpP l m := ⟨_, rfl⟩
  rw [← hN] at hn
  rw [← hN, ← hM, ← hR]
  have H := hide (And.intro hN (And.intro hM hR))
  clear hN hM hR
  go_enter Tryz.func86, Tryz.ntmps86
  go_wp2
  go_loopw [5] (fun iv wr => ∃ i : Nat, i ≤ N ∧ i ≤ M ∧ iv = .int .i64 i ∧ Hid (cmpP (l.drop i) (m.drop i) = R) ∧ ∃ n, wr = w.drewN n) (fun iv _ => N - (intOf iv).toNat)
  case atStart => exact ⟨0, by omega, by omega, rfl, hide (by simpa using H.out.2.2.symm), 0, rfl⟩
  case round =>
    obtain ⟨i, hi, him, rfl, hrest, n, hwr⟩ := hrel
    have hlr : Rs wr a l := by rw [hwr]; exact hl.drewN n
    have hmr : Rs wr b m := by rw [hwr]; exact hm.drewN n
    have HWR := hide hwr
    clear hwr
    by_cases hc : i < N ∧ i < M
    · obtain ⟨h1, h2⟩ := hc
      have z1 : (i : Int) < (N : Int) := by omega
      have z2 : (i : Int) < (M : Int) := by omega
      have d1 : decide (i < N) = true := by simpa using h1
      have d2 : decide (i < M) = true := by simpa using h2
      obtain ⟨x, hx⟩ : ∃ x, l[i]? = some x := ⟨_, List.getElem?_eq_getElem (by rw [← H.out.1]; exact h1)⟩
      obtain ⟨y, hy⟩ : ∃ y, m[i]? = some y := ⟨_, List.getElem?_eq_getElem (by rw [← H.out.2.1]; exact h2)⟩
      obtain ⟨ab, off, rfl, hcx⟩ := hlr.at hx
      obtain ⟨bb, ob, rfl, hcy⟩ := hmr.at hy
      have hst := cmpP_step hx hy
      have hcv := fun W => refCmp_any x y W (hz x (List.mem_of_getElem? hx))
      obtain ⟨cv, hcv'⟩ : ∃ cv, cv = cmpB x y := ⟨_, rfl⟩
      rw [← hcv'] at hst
      simp only [← hcv'] at hcv
      have HS := hide hst
      clear hst hcv' hx hy
      by_cases hz0 : cv = 0
      · have hzb : (cv == 0) = true := by simp [hz0]
        have HZ := hide hz0
        clear hz0
        go_wp2
        go_quiet (first | (go_at_call 88; refine Calls.quiet_of (hcv _)))
        go_wp2
        go_roundw
        case rel => exact ⟨i + 1, by omega, by omega, by go_num, hide (by have := HS.out; rw [if_pos HZ.out] at this; rw [← this]; exact hrest.out), _, by rw [HWR.out, World.drewN_drewN]⟩
        case measure => simp [intOf]; omega
      · have hzb : (cv == 0) = false := by simpa using hz0
        go_wp2
        go_quiet (first | (go_at_call 88; refine Calls.quiet_of (hcv _)))
        go_wp2
        go_ret
        refine ⟨?_, _, by rw [HWR.out, World.drewN_drewN]⟩
        have := HS.out
        rw [if_neg hz0, hrest.out] at this
        rw [this]; rfl
    · have HE := hide (show R = cmpI (N : Int) (M : Int) by rw [← hrest.out, H.out.1, H.out.2.1]; exact cmpP_num (by rw [← H.out.1]; exact hi) (by rw [← H.out.2.1]; exact him) (by rw [← H.out.1, ← H.out.2.1]; exact hc))
      have hnum := fun W => refNum_any (N : Int) (M : Int) W
      generalize cmpI (N : Int) (M : Int) = X at HE hnum
      by_cases h1 : i < N
      · have d1 : decide (i < N) = true := by simpa using h1
        have z1 : (i : Int) < (N : Int) := by omega
        have d2 : decide (i < M) = false := by simp; omega
        have z2 : ¬ ((i : Int) < (M : Int)) := by omega
        go_wp2_with (go_at_call 87; refine (hnum _).mono ?_; rintro e w' ⟨rfl, rfl⟩)
        go_ret
        exact ⟨by rw [HE.out]; rfl, n, HWR.out⟩
      · have d1 : decide (i < N) = false := by simp; omega
        have z1 : ¬ ((i : Int) < (N : Int)) := by omega
        go_wp2_with (go_at_call 87; refine (hnum _).mono ?_; rintro e w' ⟨rfl, rfl⟩)
        go_ret
        exact ⟨by rw [HE.out]; rfl, n, HWR.out⟩
end Go.Proofs.YtpepgoelnagoaaaGreatDoor
namespace Go.Proofs.YtpepgoelnagoaaaGreatDoor
open Go.RowKit Go.Shelf
set_option linter.unusedSimpArgs false

theorem compare_any (x y : Int) (w : World) : Calls Tryz.prog 126 #[.int .i64 x, .int .i64 y] w fun e w' => e = .returned (.int .i64 (cmpI x y)) ∧ w' = w := by
  have hn : ∀ (z : Int) (W : World), Calls Tryz.prog 165 #[.int .i64 z] W fun e w' => e = .returned (.bool false) ∧ w' = W := fun z W => by
    go_enter Tryz.func165, Tryz.ntmps165
    go_wp2
    go_ret
    exact ⟨by simp, rfl⟩
  unfold cmpI
  by_cases h1 : x < y
  · rw [if_pos h1]
    go_enter Tryz.func126, Tryz.ntmps126
    go_wp2_with (go_at_call 165; refine (hn _ _).mono ?_; rintro e w' ⟨rfl, rfl⟩)
    go_ret
    exact ⟨rfl, rfl⟩
  · rw [if_neg h1]
    by_cases h2 : y < x
    · rw [if_pos h2]
      go_enter Tryz.func126, Tryz.ntmps126
      go_wp2_with (go_at_call 165; refine (hn _ _).mono ?_; rintro e w' ⟨rfl, rfl⟩)
      go_ret
      exact ⟨rfl, rfl⟩
    · rw [if_neg h2]
      go_enter Tryz.func126, Tryz.ntmps126
      go_wp2_with (go_at_call 165; refine (hn _ _).mono ?_; rintro e w' ⟨rfl, rfl⟩)
      go_ret
      exact ⟨rfl, rfl⟩

def orL : List Int → Int
  | [] => 0
  | x :: t => if x = 0 then orL t else x
theorem orL_step {l : List Int} {i : Nat} (h : i < l.length) : orL (l.drop i) = if l.getD i 0 = 0 then orL (l.drop (i + 1)) else l.getD i 0 := by
  rw [List.drop_eq_getElem_cons h, orL]
  simp [List.getD, List.getElem?_eq_getElem h]
set_option maxHeartbeats 1000000 in
set_option maxRecDepth 100000 in
theorem or_any (g off n : Nat) (l : List Int) (w : World) (hl : l.length = n) (hn : n ≤ 1000) (hc : ∀ i, i < n → w.cell? ⟨g, off + i, none⟩ = some (.int .i64 (l.getD i 0))) :
    Calls Tryz.prog 124 #[.slice (some ⟨g, off, none⟩) n n] w fun e w' => e = .returned (.int .i64 (orL l)) ∧ w' = w := by
  obtain ⟨R, hR⟩ : ∃ R, R = orL l := ⟨_, rfl⟩
  rw [← hR]
  have H := hide (And.intro hR (And.intro hl hc))
  clear hR hl hc
  go_enter Tryz.func124, Tryz.ntmps124
  go_wp2
  go_loopw [8] (fun iv wr => ∃ i : Nat, i ≤ n ∧ iv = .int .i64 i ∧ wr = w ∧ Hid (orL (l.drop i) = R)) (fun iv _ => n - (intOf iv).toNat)
  case atStart => exact ⟨0, by omega, rfl, rfl, hide (by simpa using H.out.1.symm)⟩
  case round =>
    obtain ⟨i, hi, rfl, rfl, hrest⟩ := hrel
    by_cases h1 : i < n
    · have d1 : decide (i < n) = true := by simpa using h1
      have d1' : (i : Int) < (n : Int) := by omega
      have hci := H.out.2.2 i h1
      have hst := orL_step (l := l) (i := i) (by rw [H.out.2.1]; exact h1)
      generalize l.getD i 0 = x at hci hst
      have HS := hide hst
      clear hst
      by_cases hz : x = 0
      · have hzb : (x == 0) = true := by simp [hz]
        have HZ := hide hz
        clear hz
        go_wp2
        go_roundw
        case rel => exact ⟨i + 1, by omega, by go_num, by first | rfl | trivial, hide (by have := HS.out; rw [if_pos HZ.out] at this; rw [← this]; exact hrest.out)⟩
        case measure => simp [intOf]; omega
      · have hzb : (x == 0) = false := by simpa using hz
        go_wp2
        go_ret
        refine ⟨?_, rfl⟩
        have := HS.out
        rw [if_neg hz, hrest.out] at this
        rw [this]; rfl
    · obtain rfl : i = n := by omega
      have d1 : decide (i < i) = false := by simp
      have e1 : R = 0 := by rw [← hrest.out, List.drop_eq_nil_of_le (by rw [H.out.2.1]; omega)]; rfl
      have E := hide e1
      clear e1
      go_wp2
      go_ret
      exact ⟨by rw [E.out]; rfl, rfl⟩

/-- A place as a call takes it. -/
abbrev plv (a : Option Addr) (n c : Nat) (x : Int) (s : ByteArray) : Value := .agg #[.slice a n c, .int .i64 x, .string s]
def cmpL (l m : List ByteArray) (x y : Int) (s t : ByteArray) : Int := orL [cmpP l m, cmpI x y, cmpB s t]
set_option maxHeartbeats 1000000 in
set_option maxRecDepth 100000 in
theorem cmpPlace_any {w : World} {a b : Option Addr} {c d : Nat} {l m : List ByteArray} (x y : Int) (s t : ByteArray) (hl : Rs w a l) (hm : Rs w b m) (hn : l.length ≤ 9223372036854775807) :
    Calls Tryz.prog 83 #[plv a l.length c x s, plv b m.length d y t] w fun e w' => e = .returned (.int .i64 (cmpL l m x y s t)) ∧ Below w.heap.size w w' := by
  obtain ⟨m0, m1⟩ := new2 w (.cells #[.slice a l.length c, .int .i64 x, .string s] 75) (.cells #[.slice b m.length d, .int .i64 y, .string t] 75)
  have hb : Below w.heap.size w ((w.alloc (.cells #[.slice a l.length c, .int .i64 x, .string s] 75)).alloc (.cells #[.slice b m.length d, .int .i64 y, .string t] 75)) := ((Below.refl _ w).alloc (Nat.le_refl _) _).alloc (by simp) _
  have hs : ((w.alloc (.cells #[.slice a l.length c, .int .i64 x, .string s] 75)).alloc (.cells #[.slice b m.length d, .int .i64 y, .string t] 75)).heap.size = w.heap.size + 2 := by simp
  obtain ⟨p0, p1, p2, -, -, -⟩ := blk3 m0
  obtain ⟨q0, q1, q2, -, -, -⟩ := blk3 m1
  go_enter Tryz.func83, Tryz.ntmps83
  go_wp2
  generalize ((w.alloc (.cells #[.slice a l.length c, .int .i64 x, .string s] 75)).alloc (.cells #[.slice b m.length d, .int .i64 y, .string t] 75)) = W at hb hs p0 p1 p2 q0 q1 q2 ⊢
  have hcp := cmpPath_any (c := c) (d := d) ((hl.below hb).drew) ((hm.below hb).drew) hn
  have hS1 : W.drew.cell? ⟨w.heap.size, 0, none⟩ = some (.slice a l.length c) ∧ W.drew.cell? ⟨w.heap.size, 1, none⟩ = some (.int .i64 x) ∧ W.drew.cell? ⟨w.heap.size, 2, none⟩ = some (.string s) ∧ W.drew.cell? ⟨w.heap.size + 1, 0, none⟩ = some (.slice b m.length d) ∧ W.drew.cell? ⟨w.heap.size + 1, 1, none⟩ = some (.int .i64 y) ∧ W.drew.cell? ⟨w.heap.size + 1, 2, none⟩ = some (.string t) := ⟨p0, p1, p2, q0, q1, q2⟩
  refine wp_region_held_drew (S := (fun w' => w'.cell? ⟨w.heap.size, 0, none⟩ = some (.slice a l.length c) ∧ w'.cell? ⟨w.heap.size, 1, none⟩ = some (.int .i64 x) ∧ w'.cell? ⟨w.heap.size, 2, none⟩ = some (.string s) ∧ w'.cell? ⟨w.heap.size + 1, 0, none⟩ = some (.slice b m.length d) ∧ w'.cell? ⟨w.heap.size + 1, 1, none⟩ = some (.int .i64 y) ∧ w'.cell? ⟨w.heap.size + 1, 2, none⟩ = some (.string t))) (by kernel_rfl) (by exact hS1) (fun hHeld => ?_)
  try dsimp only at hHeld
  refine take_op (i := 0) (d := 5) (OP := Op.fieldAddr 75 (Operand.tmp 2) 0) (T := 0) (v := ?vq1x) rfl rfl rfl rfl (by kernel_rfl) (by kernel_rfl) (by kernel_rfl) (fun _ _ _ h => h) (by rfl) ?hq1x hHeld ?rq1x
  case hq1x => (intro w' hSw; (try dsimp only at hSw); go_simp <;> with_reducible rfl)
  try simp only [Act.put, List.setIfInBounds_toArray, List.set_cons_zero, List.set_cons_succ]
  refine take_op (i := 1) (d := 6) (OP := Op.load 30 (Operand.tmp 5)) (T := 30) (v := ?vq2x) rfl rfl rfl rfl (by kernel_rfl) (by kernel_rfl) (by kernel_rfl) (fun _ _ _ h => h) (by rfl) ?hq2x hHeld ?rq2x
  case hq2x => (intro w' hSw; (try dsimp only at hSw); go_simp <;> with_reducible rfl)
  try simp only [Act.put, List.setIfInBounds_toArray, List.set_cons_zero, List.set_cons_succ]
  refine take_op (i := 2) (d := 7) (OP := Op.fieldAddr 75 (Operand.tmp 3) 0) (T := 0) (v := ?vq3x) rfl rfl rfl rfl (by kernel_rfl) (by kernel_rfl) (by kernel_rfl) (fun _ _ _ h => h) (by rfl) ?hq3x hHeld ?rq3x
  case hq3x => (intro w' hSw; (try dsimp only at hSw); go_simp <;> with_reducible rfl)
  try simp only [Act.put, List.setIfInBounds_toArray, List.set_cons_zero, List.set_cons_succ]
  refine take_op (i := 3) (d := 8) (OP := Op.load 30 (Operand.tmp 7)) (T := 30) (v := ?vq4x) rfl rfl rfl rfl (by kernel_rfl) (by kernel_rfl) (by kernel_rfl) (fun _ _ _ h => h) (by rfl) ?hq4x hHeld ?rq4x
  case hq4x => (intro w' hSw; (try dsimp only at hSw); go_simp <;> with_reducible rfl)
  try simp only [Act.put, List.setIfInBounds_toArray, List.set_cons_zero, List.set_cons_succ]
  refine take_op (i := 5) (d := 10) (OP := Op.fieldAddr 75 (Operand.tmp 2) 1) (T := 0) (v := ?vq5x) rfl rfl rfl rfl (by kernel_rfl) (by kernel_rfl) (by kernel_rfl) (fun _ _ _ h => h) (by rfl) ?hq5x hHeld ?rq5x
  case hq5x => (intro w' hSw; (try dsimp only at hSw); go_simp <;> with_reducible rfl)
  try simp only [Act.put, List.setIfInBounds_toArray, List.set_cons_zero, List.set_cons_succ]
  refine take_op (i := 6) (d := 11) (OP := Op.load 31 (Operand.tmp 10)) (T := 31) (v := ?vq6x) rfl rfl rfl rfl (by kernel_rfl) (by kernel_rfl) (by kernel_rfl) (fun _ _ _ h => h) (by rfl) ?hq6x hHeld ?rq6x
  case hq6x => (intro w' hSw; (try dsimp only at hSw); go_simp <;> with_reducible rfl)
  try simp only [Act.put, List.setIfInBounds_toArray, List.set_cons_zero, List.set_cons_succ]
  refine take_op (i := 7) (d := 12) (OP := Op.fieldAddr 75 (Operand.tmp 3) 1) (T := 0) (v := ?vq7x) rfl rfl rfl rfl (by kernel_rfl) (by kernel_rfl) (by kernel_rfl) (fun _ _ _ h => h) (by rfl) ?hq7x hHeld ?rq7x
  case hq7x => (intro w' hSw; (try dsimp only at hSw); go_simp <;> with_reducible rfl)
  try simp only [Act.put, List.setIfInBounds_toArray, List.set_cons_zero, List.set_cons_succ]
  refine take_op (i := 8) (d := 13) (OP := Op.load 31 (Operand.tmp 12)) (T := 31) (v := ?vq8x) rfl rfl rfl rfl (by kernel_rfl) (by kernel_rfl) (by kernel_rfl) (fun _ _ _ h => h) (by rfl) ?hq8x hHeld ?rq8x
  case hq8x => (intro w' hSw; (try dsimp only at hSw); go_simp <;> with_reducible rfl)
  try simp only [Act.put, List.setIfInBounds_toArray, List.set_cons_zero, List.set_cons_succ]
  refine take_op (i := 10) (d := 15) (OP := Op.fieldAddr 75 (Operand.tmp 2) 2) (T := 0) (v := ?vq9x) rfl rfl rfl rfl (by kernel_rfl) (by kernel_rfl) (by kernel_rfl) (fun _ _ _ h => h) (by rfl) ?hq9x hHeld ?rq9x
  case hq9x => (intro w' hSw; (try dsimp only at hSw); go_simp <;> with_reducible rfl)
  try simp only [Act.put, List.setIfInBounds_toArray, List.set_cons_zero, List.set_cons_succ]
  refine take_op (i := 11) (d := 16) (OP := Op.load 9 (Operand.tmp 15)) (T := 9) (v := ?vq10x) rfl rfl rfl rfl (by kernel_rfl) (by kernel_rfl) (by kernel_rfl) (fun _ _ _ h => h) (by rfl) ?hq10x hHeld ?rq10x
  case hq10x => (intro w' hSw; (try dsimp only at hSw); go_simp <;> with_reducible rfl)
  try simp only [Act.put, List.setIfInBounds_toArray, List.set_cons_zero, List.set_cons_succ]
  refine take_op (i := 12) (d := 17) (OP := Op.fieldAddr 75 (Operand.tmp 3) 2) (T := 0) (v := ?vq11x) rfl rfl rfl rfl (by kernel_rfl) (by kernel_rfl) (by kernel_rfl) (fun _ _ _ h => h) (by rfl) ?hq11x hHeld ?rq11x
  case hq11x => (intro w' hSw; (try dsimp only at hSw); go_simp <;> with_reducible rfl)
  try simp only [Act.put, List.setIfInBounds_toArray, List.set_cons_zero, List.set_cons_succ]
  refine take_op (i := 13) (d := 18) (OP := Op.load 9 (Operand.tmp 17)) (T := 9) (v := ?vq12x) rfl rfl rfl rfl (by kernel_rfl) (by kernel_rfl) (by kernel_rfl) (fun _ _ _ h => h) (by rfl) ?hq12x hHeld ?rq12x
  case hq12x => (intro w' hSw; (try dsimp only at hSw); go_simp <;> with_reducible rfl)
  try simp only [Act.put, List.setIfInBounds_toArray, List.set_cons_zero, List.set_cons_succ]
  refine call_op (i := 4) (d := 9) (OP := Op.call { callee := Callee.value (Operand.func 125), args := #[Operand.tmp 6, Operand.tmp 8], argTypes := #[30, 30] }) (T := 3) (f := 125) (args := #[.slice a l.length c, .slice b m.length d]) rfl rfl rfl rfl (by kernel_rfl) (by rfl) (by go_simp) ?_
  refine (hcp).mono ?_
  rintro e w' ⟨rfl, hw1⟩
  subst hw1
  refine ⟨_, rfl, hHeld, ?_⟩
  replace hHeld := hHeld
  try simp only [Act.put, List.setIfInBounds_toArray, List.set_cons_zero, List.set_cons_succ]
  refine call_op (i := 9) (d := 14) (OP := Op.call { callee := Callee.value (Operand.func 126), args := #[Operand.tmp 11, Operand.tmp 13], argTypes := #[31, 31] }) (T := 3) (f := 126) (args := #[.int .i64 x, .int .i64 y]) rfl rfl rfl rfl (by kernel_rfl) (by rfl) (by go_simp) ?_
  refine (compare_any x y _).mono ?_
  rintro e w' ⟨rfl, hw2⟩
  subst hw2
  refine ⟨_, rfl, hHeld, ?_⟩
  replace hHeld := hHeld
  try simp only [Act.put, List.setIfInBounds_toArray, List.set_cons_zero, List.set_cons_succ]
  refine call_op (i := 14) (d := 19) (OP := Op.call { callee := Callee.value (Operand.func 127), args := #[Operand.tmp 16, Operand.tmp 18], argTypes := #[9, 9] }) (T := 3) (f := 127) (args := #[.string s, .string t]) rfl rfl rfl rfl (by kernel_rfl) (by rfl) (by go_simp) ?_
  refine (cmp_any s t _).mono ?_
  rintro e w' ⟨rfl, hw3⟩
  subst hw3
  refine ⟨_, rfl, hHeld, ?_⟩
  replace hHeld := hHeld
  try simp only [Act.put, List.setIfInBounds_toArray, List.set_cons_zero, List.set_cons_succ]
  have hb2 : Below W.heap.size W (W.drew.alloc (.cells #[.int .i64 (cmpP l m), .int .i64 (cmpI x y), .int .i64 (cmpB s t)] 3)) := (Below.refl _ W).drew.alloc (Nat.le_refl _) _
  have hnw : (W.drew.alloc (.cells #[.int .i64 (cmpP l m), .int .i64 (cmpI x y), .int .i64 (cmpB s t)] 3)).heap[W.heap.size]? = some (.cells #[.int .i64 (cmpP l m), .int .i64 (cmpI x y), .int .i64 (cmpB s t)] 3) := heap_alloc_new W.drew (.cells #[.int .i64 (cmpP l m), .int .i64 (cmpI x y), .int .i64 (cmpB s t)] 3)
  have hS2 : (W.drew.alloc (.cells #[.int .i64 (cmpP l m), .int .i64 (cmpI x y), .int .i64 (cmpB s t)] 3)).cell? ⟨w.heap.size, 0, none⟩ = some (.slice a l.length c) ∧ (W.drew.alloc (.cells #[.int .i64 (cmpP l m), .int .i64 (cmpI x y), .int .i64 (cmpB s t)] 3)).cell? ⟨w.heap.size, 1, none⟩ = some (.int .i64 x) ∧ (W.drew.alloc (.cells #[.int .i64 (cmpP l m), .int .i64 (cmpI x y), .int .i64 (cmpB s t)] 3)).cell? ⟨w.heap.size, 2, none⟩ = some (.string s) ∧ (W.drew.alloc (.cells #[.int .i64 (cmpP l m), .int .i64 (cmpI x y), .int .i64 (cmpB s t)] 3)).cell? ⟨w.heap.size + 1, 0, none⟩ = some (.slice b m.length d) ∧ (W.drew.alloc (.cells #[.int .i64 (cmpP l m), .int .i64 (cmpI x y), .int .i64 (cmpB s t)] 3)).cell? ⟨w.heap.size + 1, 1, none⟩ = some (.int .i64 y) ∧ (W.drew.alloc (.cells #[.int .i64 (cmpP l m), .int .i64 (cmpI x y), .int .i64 (cmpB s t)] 3)).cell? ⟨w.heap.size + 1, 2, none⟩ = some (.string t) := ⟨(hb2.cell (World.block_lt_of_cell? _ _ p0)).trans p0, (hb2.cell (World.block_lt_of_cell? _ _ p1)).trans p1, (hb2.cell (World.block_lt_of_cell? _ _ p2)).trans p2, (hb2.cell (World.block_lt_of_cell? _ _ q0)).trans q0, (hb2.cell (World.block_lt_of_cell? _ _ q1)).trans q1, (hb2.cell (World.block_lt_of_cell? _ _ q2)).trans q2⟩
  have hor := or_any W.heap.size 0 3 [cmpP l m, cmpI x y, cmpB s t] (W.drew.alloc (.cells #[.int .i64 (cmpP l m), .int .i64 (cmpI x y), .int .i64 (cmpB s t)] 3)) rfl (by omega) (fun i hi => by
    rw [cell_of_row _ _ (0 + i) _ 3 (0, 0) hnw]
    match i, hi with
    | 0, _ => rfl
    | 1, _ => rfl
    | 2, _ => rfl)
  refine turn_op (i := 15) (d := 20) (OP := Op.buildSlice 141 3 #[(0, Operand.tmp 9), (1, Operand.tmp 14), (2, Operand.tmp 19)]) (T := 141) (v := .slice (some ⟨W.heap.size, 0, none⟩) 3 3) (w' := (W.drew.alloc (.cells #[.int .i64 (cmpP l m), .int .i64 (cmpI x y), .int .i64 (cmpB s t)] 3))) rfl rfl rfl rfl (by kernel_rfl) (by rfl) (by go_simp) hS2 ?_
  replace hHeld := hS2
  try simp only [Act.put, List.setIfInBounds_toArray, List.set_cons_zero, List.set_cons_succ]
  refine call_op (i := 16) (d := 21) (OP := Op.call { callee := Callee.value (Operand.func 124), args := #[Operand.tmp 20], argTypes := #[141] }) (T := 3) (f := 124) (args := #[.slice (some ⟨W.heap.size, 0, none⟩) 3 3]) rfl rfl rfl rfl (by kernel_rfl) (by rfl) (by go_simp) ?_
  refine (hor).mono ?_
  rintro e w' ⟨rfl, hw4⟩
  subst hw4
  refine ⟨_, rfl, hHeld, ?_⟩
  replace hHeld := hHeld
  try simp only [Act.put, List.setIfInBounds_toArray, List.set_cons_zero, List.set_cons_succ]
  refine take_op (i := 17) (d := 4) (OP := Op.assign (Operand.tmp 21)) (T := 3) (v := ?vq18x) rfl rfl rfl rfl (by kernel_rfl) (by kernel_rfl) (by kernel_rfl) (fun _ _ _ h => h) (by rfl) ?hq18x hHeld ?rq18x
  case hq18x => (intro w' hSw; (try dsimp only at hSw); go_simp <;> with_reducible rfl)
  try simp only [Act.put, List.setIfInBounds_toArray, List.set_cons_zero, List.set_cons_succ]
  refine wpAnyH_done (by kernel_rfl) ?_ _
  go_wp2
  go_ret
  exact ⟨rfl, hb.trans (hb2.mono (by omega))⟩
end Go.Proofs.YtpepgoelnagoaaaGreatDoor
namespace Go.Proofs.YtpepgoelnagoaaaGreatDoor

/-- An order by -1, 0, 1. -/
structure Ord {α : Type} (f : α → α → Int) : Prop where
  range : ∀ a b, f a b = -1 ∨ f a b = 0 ∨ f a b = 1
  anti : ∀ a b, f a b = - f b a
  eq : ∀ a b, f a b = 0 → a = b
  trans : ∀ a b c, f a b = -1 → f b c = -1 → f a c = -1
theorem Ord.refl {α : Type} {f : α → α → Int} (h : Ord f) (a : α) : f a a = 0 := by have := h.anti a a; omega

theorem cb_range : ∀ l m : List UInt8, Lib.compareBytes l m = -1 ∨ Lib.compareBytes l m = 0 ∨ Lib.compareBytes l m = 1
  | [], [] => by simp [Lib.compareBytes]
  | [], _ :: _ => by simp [Lib.compareBytes]
  | _ :: _, [] => by simp [Lib.compareBytes]
  | a :: l, b :: m => by
    rw [Lib.compareBytes]
    split
    · simp
    · split
      · simp
      · exact cb_range l m
theorem cb_anti : ∀ l m : List UInt8, Lib.compareBytes l m = - Lib.compareBytes m l
  | [], [] => rfl
  | [], _ :: _ => rfl
  | _ :: _, [] => rfl
  | a :: l, b :: m => by
    rw [Lib.compareBytes, Lib.compareBytes]
    by_cases h1 : a < b
    · have h2 : ¬ b < a := fun h => absurd (UInt8.lt_iff_toNat_lt.1 h) (by have := UInt8.lt_iff_toNat_lt.1 h1; omega)
      rw [if_pos h1, if_neg h2, if_pos h1]
    · rw [if_neg h1]
      by_cases h2 : b < a
      · rw [if_pos h2, if_pos h2]; rfl
      · rw [if_neg h2, if_neg h2, if_neg h1]
        exact cb_anti l m
theorem u8_eq {a b : UInt8} (h1 : ¬ a < b) (h2 : ¬ b < a) : a = b := by
  apply UInt8.toNat_inj.1
  rw [UInt8.lt_iff_toNat_lt] at h1 h2
  omega
theorem cb_eq : ∀ l m : List UInt8, Lib.compareBytes l m = 0 → l = m
  | [], [], _ => rfl
  | [], _ :: _, h => by simp [Lib.compareBytes] at h
  | _ :: _, [], h => by simp [Lib.compareBytes] at h
  | a :: l, b :: m, h => by
    rw [Lib.compareBytes] at h
    by_cases h1 : a < b
    · rw [if_pos h1] at h; cases h
    · rw [if_neg h1] at h
      by_cases h2 : b < a
      · rw [if_pos h2] at h; cases h
      · rw [if_neg h2] at h
        rw [u8_eq h1 h2, cb_eq l m h]
theorem cb_trans : ∀ l m k : List UInt8, Lib.compareBytes l m = -1 → Lib.compareBytes m k = -1 → Lib.compareBytes l k = -1
  | [], [], _, h, _ => by simp [Lib.compareBytes] at h
  | _ :: _, [], _, h, _ => by simp [Lib.compareBytes] at h
  | _, _ :: _, [], _, h => by simp [Lib.compareBytes] at h
  | [], _ :: _, _ :: _, _, _ => rfl
  | a :: l, b :: m, c :: k, h1, h2 => by
    rw [Lib.compareBytes] at h1 h2 ⊢
    simp only [UInt8.lt_iff_toNat_lt] at h1 h2 ⊢
    by_cases ab : a.toNat < b.toNat
    · by_cases bc : b.toNat < c.toNat
      · rw [if_pos (by omega)]
      · rw [if_neg bc] at h2
        by_cases cb : c.toNat < b.toNat
        · rw [if_pos cb] at h2; cases h2
        · rw [if_pos (by omega)]
    · rw [if_neg ab] at h1
      by_cases ba : b.toNat < a.toNat
      · rw [if_pos ba] at h1; cases h1
      · rw [if_neg ba] at h1
        by_cases bc : b.toNat < c.toNat
        · rw [if_pos (by omega)]
        · rw [if_neg bc] at h2
          by_cases cb : c.toNat < b.toNat
          · rw [if_pos cb] at h2; cases h2
          · rw [if_neg cb] at h2
            rw [if_neg (by omega), if_neg (by omega)]
            exact cb_trans l m k h1 h2
theorem ba_eq {a b : ByteArray} (h : a.data.toList = b.data.toList) : a = b := ByteArray.ext (Array.toList_inj.1 h)
theorem ord_B : Ord cmpB := ⟨fun _ _ => cb_range _ _, fun _ _ => cb_anti _ _, fun _ _ h => ba_eq (cb_eq _ _ h), fun _ _ _ => cb_trans _ _ _⟩
theorem ord_I : Ord cmpI := by
  refine ⟨fun a b => ?_, fun a b => ?_, fun a b h => ?_, fun a b c h1 h2 => ?_⟩
  · unfold cmpI; split <;> (try split) <;> simp
  · unfold cmpI; split <;> split <;> (try split) <;> omega
  · unfold cmpI at h; split at h <;> (try split at h) <;> omega
  · unfold cmpI at *; split at h1 <;> (try split at h1) <;> split at h2 <;> (try split at h2) <;> (try omega) <;> (rw [if_pos (by omega)])
theorem cp_range : ∀ l m : List ByteArray, cmpP l m = -1 ∨ cmpP l m = 0 ∨ cmpP l m = 1
  | [], [] => by simp [cmpP]
  | [], _ :: _ => by simp [cmpP]
  | _ :: _, [] => by simp [cmpP]
  | a :: l, b :: m => by
    rw [cmpP]
    split
    · exact cp_range l m
    · exact ord_B.range a b
theorem cp_anti : ∀ l m : List ByteArray, cmpP l m = - cmpP m l
  | [], [] => rfl
  | [], _ :: _ => rfl
  | _ :: _, [] => rfl
  | a :: l, b :: m => by
    rw [cmpP, cmpP]
    have h := ord_B.anti a b
    by_cases h0 : cmpB a b = 0
    · rw [if_pos h0, if_pos (by omega)]
      exact cp_anti l m
    · rw [if_neg h0, if_neg (by omega)]
      exact h
theorem cp_eq : ∀ l m : List ByteArray, cmpP l m = 0 → l = m
  | [], [], _ => rfl
  | [], _ :: _, h => by simp [cmpP] at h
  | _ :: _, [], h => by simp [cmpP] at h
  | a :: l, b :: m, h => by
    rw [cmpP] at h
    by_cases h0 : cmpB a b = 0
    · rw [if_pos h0] at h
      rw [ord_B.eq a b h0, cp_eq l m h]
    · rw [if_neg h0] at h
      exact (h0 h).elim
theorem cp_trans : ∀ l m k : List ByteArray, cmpP l m = -1 → cmpP m k = -1 → cmpP l k = -1
  | [], [], _, h, _ => by simp [cmpP] at h
  | _ :: _, [], _, h, _ => by simp [cmpP] at h
  | _, _ :: _, [], _, h => by simp [cmpP] at h
  | [], _ :: _, _ :: _, _, _ => rfl
  | a :: l, b :: m, c :: k, h1, h2 => by
    rw [cmpP] at h1 h2 ⊢
    by_cases ab : cmpB a b = 0
    · have e1 := ord_B.eq a b ab
      subst e1
      rw [if_pos ab] at h1
      by_cases bc : cmpB a c = 0
      · rw [if_pos bc] at h2 ⊢
        exact cp_trans l m k h1 h2
      · rw [if_neg bc] at h2 ⊢
        exact h2
    · rw [if_neg ab] at h1
      by_cases bc : cmpB b c = 0
      · have e1 := ord_B.eq b c bc
        subst e1
        rw [if_neg ab]
        exact h1
      · rw [if_neg bc] at h2
        have h3 := ord_B.trans a b c h1 h2
        rw [if_neg (by omega)]
        exact h3
theorem ord_P : Ord cmpP := ⟨cp_range, cp_anti, cp_eq, cp_trans⟩

theorem cmpL_eq (l m : List ByteArray) (x y : Int) (s t : ByteArray) : cmpL l m x y s t = if cmpP l m = 0 then (if cmpI x y = 0 then cmpB s t else cmpI x y) else cmpP l m := by
  unfold cmpL
  rw [orL, orL, orL, orL]
  split
  · split
    · split
      · rename_i h; exact h.symm
      · rfl
    · rfl
  · rfl
theorem cl_range (l m : List ByteArray) (x y : Int) (s t : ByteArray) : cmpL l m x y s t = -1 ∨ cmpL l m x y s t = 0 ∨ cmpL l m x y s t = 1 := by
  rw [cmpL_eq]
  split
  · split
    · exact ord_B.range s t
    · exact ord_I.range x y
  · exact ord_P.range l m
theorem cl_anti (l m : List ByteArray) (x y : Int) (s t : ByteArray) : cmpL l m x y s t = - cmpL m l y x t s := by
  rw [cmpL_eq, cmpL_eq]
  have h1 := ord_P.anti l m
  have h2 := ord_I.anti x y
  have h3 := ord_B.anti s t
  by_cases p : cmpP l m = 0
  · have p' : cmpP m l = 0 := by omega
    rw [if_pos p, if_pos p']
    by_cases q : cmpI x y = 0
    · have q' : cmpI y x = 0 := by omega
      rw [if_pos q, if_pos q']; exact h3
    · have q' : ¬ cmpI y x = 0 := by omega
      rw [if_neg q, if_neg q']; exact h2
  · have p' : ¬ cmpP m l = 0 := by omega
    rw [if_neg p, if_neg p']; exact h1
theorem ord_le {α : Type} {f : α → α → Int} (h : Ord f) {a b : α} (hab : f a b ≤ 0) : f a b = -1 ∨ a = b := by
  rcases h.range a b with e | e | e
  · exact .inl e
  · exact .inr (h.eq a b e)
  · omega
theorem cl_trans (l m k : List ByteArray) (x y z : Int) (s t u : ByteArray) (h1 : cmpL l m x y s t ≤ 0) (h2 : cmpL m k y z t u ≤ 0) : cmpL l k x z s u ≤ 0 := by
  rw [cmpL_eq] at h1 h2 ⊢
  by_cases p1 : cmpP l m = 0
  · have := ord_P.eq l m p1
    subst this
    rw [if_pos p1] at h1
    by_cases p2 : cmpP l k = 0
    · rw [if_pos p2] at h2 ⊢
      by_cases q1 : cmpI x y = 0
      · have := ord_I.eq x y q1
        subst this
        rw [if_pos q1] at h1
        by_cases q2 : cmpI x z = 0
        · rw [if_pos q2] at h2 ⊢
          rcases ord_le ord_B h1 with e1 | e1
          · rcases ord_le ord_B h2 with e2 | e2
            · have := ord_B.trans s t u e1 e2; omega
            · subst e2; exact h1
          · subst e1; exact h2
        · rw [if_neg q2] at h2 ⊢; exact h2
      · rw [if_neg q1] at h1
        by_cases q2 : cmpI y z = 0
        · have := ord_I.eq y z q2
          subst this
          rw [if_neg q1]; exact h1
        · rw [if_neg q2] at h2
          have e1 : cmpI x y = -1 := by rcases ord_I.range x y with e | e | e <;> omega
          have e2 : cmpI y z = -1 := by rcases ord_I.range y z with e | e | e <;> omega
          have := ord_I.trans x y z e1 e2
          rw [if_neg (by omega)]; omega
    · rw [if_neg p2] at h2 ⊢; exact h2
  · rw [if_neg p1] at h1
    by_cases p2 : cmpP m k = 0
    · have := ord_P.eq m k p2
      subst this
      rw [if_neg p1]; exact h1
    · rw [if_neg p2] at h2
      have e1 : cmpP l m = -1 := by rcases ord_P.range l m with e | e | e <;> omega
      have e2 : cmpP m k = -1 := by rcases ord_P.range m k with e | e | e <;> omega
      have := ord_P.trans l m k e1 e2
      rw [if_neg (by omega)]; omega

/-! ### Joined and split -/
theorem join_length {l : List ByteArray} (h : pathB l = true) : (joinB l).length ≤ 400 := by
  obtain ⟨h6, hs⟩ := path_sizes h
  unfold joinB
  split
  · simp
  · have := flatJ_length l hs; omega
end Go.Proofs.YtpepgoelnagoaaaGreatDoor
