/-
  LABELS AND TEXTS: what keys' Label and Cmp, and the document's, answer.
-/
import Derived.Test.YtkeldhohilmdcaaGreatMoves
import Derived.Test.YtkeldhohilmdcaaGreatShelf
import Derived.Lib.OthersKept
import Derived.Lib.TrimUEq
import Derived.Lib.MapLaws
import Derived.Laws.RangeAny
import Derived.Laws.RangeString
import Derived.Lib.ValidLaws
import Derived.Deep.QuietTactic
import Derived.BigQuiet
namespace Go.Proofs.YtkeldhohilmdcaaGreat
open Go.RowKit Go.Shelf
set_option linter.unusedSimpArgs false

def labelByte (b : UInt8) : Bool := decide (97 ≤ b.toNat) && decide (b.toNat ≤ 122)

def labelB (l : List UInt8) : Bool := decide (1 ≤ l.length) && decide (l.length ≤ 12) && l.all labelByte

theorem getD_byte (s : ByteArray) (pos : Nat) (h : pos < s.size) : s.data.toList.getD pos 0 = s[pos]'h := by
  have hl : pos < s.data.toList.length := by rw [← Lib.size_eq]; exact h
  simp [List.getD, List.getElem?_eq_getElem hl]
  rfl

theorem all_one (p : UInt8 → Bool) (s : ByteArray) (pos : Nat) (h : pos < s.size) : (s.data.toList.drop pos).all p = (p (s[pos]'h) && (s.data.toList.drop (pos + 1)).all p) := by
  have hl : s.data.toList.length = s.size := (Lib.size_eq s).symm
  rw [List.drop_eq_getElem_cons (by omega), List.all_cons]
  rw [← getD_byte s pos h]
  simp [List.getD, List.getElem?_eq_getElem (show pos < s.data.toList.length by omega)]

theorem at_string (s : ByteArray) (pos : Nat) (h : pos < s.size) : ∃ X : Int, X = ((s[pos]'h).toNat : Int) ∧ 0 ≤ X ∧ X < 256 ∧ ∀ W, (Instr.index 9 (.string s) (.int .i64 (pos : Int))).run Tryz.prog W = .ok (.int .u8 X) W := by
  refine ⟨_, rfl, by omega, ?_, fun W => ?_⟩
  · have := (s[pos]'h).toNat_lt
    omega
  · rw [run_index_string W 9 s .i64 (pos : Int) Tryz.underlying9, dif_pos ⟨by omega, by omega⟩]; rfl

set_option maxHeartbeats 1000000 in
set_option maxRecDepth 100000 in
theorem label_any (s : ByteArray) (w : World) : Calls Tryz.prog 225 #[.string s] w fun e w' => e = .returned (.bool (labelB s.data.toList)) ∧ Below w.heap.size w w' := by
  unfold labelB
  rw [← Lib.size_eq]
  by_cases h1 : 1 ≤ s.size
  · by_cases h2 : s.size ≤ 12
    · have d1 : decide (1 ≤ s.size) = true := by simpa using h1
      have d2 : decide (s.size ≤ 12) = true := by simpa using h2
      have e1 : ¬ ((s.size : Int) < 1) := by omega
      have e2 : ¬ ((12 : Int) < (s.size : Int)) := by omega
      rw [d1, d2]
      obtain ⟨ANS, hANS⟩ : ∃ ANS, ANS = s.data.toList.all labelByte := ⟨_, rfl⟩
      rw [← hANS]
      simp only [Bool.true_and]
      have HA := hide hANS
      clear hANS
      go_enter Tryz.func225, Tryz.ntmps225
      go_wp2
      go_loopw [4] (fun _ wr => ∃ pos : Nat, pos ≤ s.size ∧ wr.heap[w.heap.size]? = some (.stringIter s pos) ∧ Below w.heap.size w wr ∧ Hid ((s.data.toList.drop pos).all labelByte = ANS)) (fun _ wr => s.size - wr.iterPos w.heap.size)
      case atStart =>
        refine ⟨0, Nat.zero_le _, ?_, (Below.refl _ w).alloc (Nat.le_refl _) _, hide (by simpa using HA.out.symm)⟩
        have := World.iter_heap w s 0
        simpa using this
      case round =>
        obtain ⟨pos, hps, hit, hbw, hrest⟩ := hrel
        have hsz : w.heap.size < wr.heap.size := (Array.getElem?_eq_some_iff.1 hit).1
        by_cases hp : pos < s.size
        · have hnx : ∀ ty, (Instr.next (.pointer (some ⟨w.heap.size, 0, none⟩)) true ty).run Tryz.prog wr = _ := fun ty => Lib.run_next_any_at wr w.heap.size s pos ty hit hp
          have hit2 := Lib.iterAt_heap wr w.heap.size s pos (pos + (Utf8.decode s pos).2) hit
          have hbw2 := Lib.below_iterAt hbw (k := w.heap.size) (by omega) s (pos + (Utf8.decode s pos).2)
          have hmu : wr.iterPos w.heap.size = pos := by simp [World.iterPos, hit]
          have hone := all_one labelByte s pos hp
          by_cases ha : (s[pos]'hp).toNat < 128
          · have hdec := decode_ascii s pos hp ha
            rw [hdec] at hnx hit2 hbw2
            simp only at hnx hit2 hbw2
            generalize wr.iterAt w.heap.size s (pos + 1) = W1 at hnx hit2 hbw2
            by_cases hlo : (s[pos]'hp).toNat < 97
            · have hE : ANS = false := by
                rw [← hrest.out, hone]
                have : labelByte (s[pos]'hp) = false := by unfold labelByte; simp; omega
                rw [this, Bool.false_and]
              have c1 : ((s[pos]'hp).toNat : Int) < 97 := by omega
              have HE := hide hE
              generalize ((s[pos]'hp).toNat : Int) = rr at c1 hnx
              clear hE hone hdec ha hlo
              go_wp2
              go_ret
              exact ⟨by rw [HE.out]; rfl, hbw2⟩
            · have c1 : ¬ (((s[pos]'hp).toNat : Int) < 97) := by omega
              by_cases hhi : 122 < (s[pos]'hp).toNat
              · have hE : ANS = false := by
                  rw [← hrest.out, hone]
                  have : labelByte (s[pos]'hp) = false := by unfold labelByte; simp; omega
                  rw [this, Bool.false_and]
                have c2 : (122 : Int) < ((s[pos]'hp).toNat : Int) := by omega
                have HE := hide hE
                generalize ((s[pos]'hp).toNat : Int) = rr at c1 c2 hnx
                clear hE hone hdec ha hlo hhi
                go_wp2
                go_ret
                exact ⟨by rw [HE.out]; rfl, hbw2⟩
              · have c2 : ¬ ((122 : Int) < ((s[pos]'hp).toNat : Int)) := by omega
                have hlb : labelByte (s[pos]'hp) = true := by unfold labelByte; simp; omega
                rw [hlb, Bool.true_and] at hone
                have HO := hide hone
                generalize ((s[pos]'hp).toNat : Int) = rr at c1 c2 hnx
                clear hlb hone hdec ha hlo hhi
                go_wp2
                go_roundw
                case rel => exact ⟨pos + 1, by omega, hit2, hbw2, hide (by rw [← HO.out]; exact hrest.out)⟩
                case measure =>
                  have hmu2 : W1.iterPos w.heap.size = pos + 1 := by simp [World.iterPos, hit2]
                  rw [hmu, hmu2]; omega
          · have hd := decode_high s pos hp (by omega)
            have hE : ANS = false := by
              rw [← hrest.out, hone]
              have : labelByte (s[pos]'hp) = false := by unfold labelByte; simp; omega
              rw [this, Bool.false_and]
            have c1 : ¬ (((Utf8.decode s pos).1 : Int) < 97) := by omega
            have c2 : (122 : Int) < ((Utf8.decode s pos).1 : Int) := by omega
            have HE := hide hE
            generalize (Utf8.decode s pos).2 = ww at hnx hit2 hbw2
            generalize wr.iterAt w.heap.size s (pos + ww) = W1 at hnx hit2 hbw2
            generalize ((Utf8.decode s pos).1 : Int) = rr at c1 c2 hnx
            clear hE hone ha hd
            go_wp2
            go_ret
            exact ⟨by rw [HE.out]; rfl, hbw2⟩
        · have hnx : ∀ ty, (Instr.next (.pointer (some ⟨w.heap.size, 0, none⟩)) true ty).run Tryz.prog wr = _ := fun ty => Lib.run_next_end_at wr w.heap.size s pos ty hit hp
          have hE : ANS = true := by
            rw [← hrest.out, List.drop_eq_nil_of_le (by rw [← Lib.size_eq]; omega)]; rfl
          have HE := hide hE
          clear hE
          go_wp2
          go_ret
          exact ⟨by rw [HE.out]; rfl, hbw⟩
    · have d2 : decide (s.size ≤ 12) = false := by simpa using h2
      have e1 : ¬ ((s.size : Int) < 1) := by omega
      have e2 : (12 : Int) < (s.size : Int) := by omega
      rw [d2, Bool.and_false, Bool.false_and]
      go_enter Tryz.func225, Tryz.ntmps225
      go_wp2
      go_ret
      exact ⟨rfl, Below.refl _ _⟩
  · have d1 : decide (1 ≤ s.size) = false := by simpa using h1
    have e1 : (s.size : Int) < 1 := by omega
    rw [d1, Bool.false_and, Bool.false_and]
    go_enter Tryz.func225, Tryz.ntmps225
    go_wp2
    go_ret
    exact ⟨rfl, Below.refl _ _⟩

set_option maxHeartbeats 1000000 in
set_option maxRecDepth 100000 in
theorem refLabel_any (s : ByteArray) (w : World) (hs : s.size ≤ 9223372036854775807) : Calls Tryz.prog 194 #[.string s] w fun e w' => e = .returned (.bool (labelB s.data.toList)) ∧ w' = w := by
  have hl : s.data.toList.length = s.size := (Lib.size_eq s).symm
  obtain ⟨R, hR⟩ : ∃ R, R = labelB s.data.toList := ⟨_, rfl⟩
  have H := hide hR
  rw [← hR]
  clear hR
  go_enter Tryz.func194, Tryz.ntmps194
  go_wp2
  go_loopw [3] (fun v3 wr => ∃ i : Nat, i ≤ s.size ∧ v3 = .int .i64 i ∧ Hid (R = (decide (1 ≤ s.size) && decide (s.size ≤ 12) && (s.data.toList.drop i).all labelByte)) ∧ wr = w) (fun v3 _ => s.size - (intOf v3).toNat)
  case atStart => exact ⟨0, by omega, rfl, hide (by rw [H.out, labelB, hl]; rfl), rfl⟩
  case round =>
    obtain ⟨i, hi, rfl, HD, rfl⟩ := hrel
    by_cases hc : i < s.size
    · have z1 : (i : Int) < (s.size : Int) := by omega
      obtain ⟨X, hX, x0, x1, ix⟩ := at_string s i hc
      have hone := all_one labelByte s i hc
      have HO := hide (And.intro hX hone)
      clear hX hone
      by_cases g1 : X < 97
      · have hE := hide (show R = false by rw [HD.out, HO.out.2]; have := HO.out.1; have : labelByte (s[i]'hc) = false := (by unfold labelByte; simp; omega); rw [this, Bool.false_and, Bool.and_false])
        go_wp2
        go_ret
        exact ⟨by rw [hE.out]; rfl, rfl⟩
      · by_cases g2 : 122 < X
        · have hE := hide (show R = false by rw [HD.out, HO.out.2]; have := HO.out.1; have : labelByte (s[i]'hc) = false := (by unfold labelByte; simp; omega); rw [this, Bool.false_and, Bool.and_false])
          go_wp2
          go_ret
          exact ⟨by rw [hE.out]; rfl, rfl⟩
        · have hE := hide (show R = (decide (1 ≤ s.size) && decide (s.size ≤ 12) && (s.data.toList.drop (i + 1)).all labelByte) by rw [HD.out, HO.out.2]; have := HO.out.1; have : labelByte (s[i]'hc) = true := (by unfold labelByte; simp; omega); rw [this, Bool.true_and])
          go_wp2
          go_roundw
          case rel => exact ⟨i + 1, by omega, by go_num, hide hE.out, trivial⟩
          case measure => simp [intOf]; omega
    · have z1 : ¬ (i : Int) < (s.size : Int) := by omega
      have hE := hide (show R = (decide (1 ≤ s.size) && decide (s.size ≤ 12)) by rw [HD.out, List.drop_eq_nil_of_le (by omega)]; simp)
      by_cases g1 : 1 ≤ s.size
      · have y1 : (1 : Int) ≤ (s.size : Int) := by omega
        have d1 : decide (1 ≤ s.size) = true := by simpa using g1
        by_cases g2 : s.size ≤ 12
        · have y2 : (s.size : Int) ≤ 12 := by omega
          have d2 : decide (s.size ≤ 12) = true := by simpa using g2
          have hE2 := hide (hE.out.trans (by rw [d1, d2]))
          go_wp2
          go_ret
          exact ⟨by rw [hE2.out]; rfl, rfl⟩
        · have y2 : ¬ (s.size : Int) ≤ 12 := by omega
          have d2 : decide (s.size ≤ 12) = false := by simpa using g2
          have hE2 := hide (hE.out.trans (by rw [d1, d2]))
          go_wp2
          go_ret
          exact ⟨by rw [hE2.out]; rfl, rfl⟩
      · have y1 : ¬ (1 : Int) ≤ (s.size : Int) := by omega
        have d1 : decide (1 ≤ s.size) = false := by simpa using g1
        have hE2 := hide (hE.out.trans (by rw [d1, Bool.false_and]))
        go_wp2
        go_ret
        exact ⟨by rw [hE2.out]; rfl, rfl⟩

def cmpB (a b : ByteArray) : Int := Lib.compareBytes a.data.toList b.data.toList

def cmpI (a b : Int) : Int := if a < b then -1 else if b < a then 1 else 0

theorem cmpNum_any (a b : Int) (w : World) : Calls Tryz.prog 217 #[.int .i64 a, .int .i64 b] w fun e w' => e = .returned (.int .i64 (cmpI a b)) ∧ w' = w := by
  unfold cmpI
  by_cases h1 : a < b
  · rw [if_pos h1]
    go_enter Tryz.func217, Tryz.ntmps217
    go_wp2
    go_ret
    exact ⟨rfl, rfl⟩
  · rw [if_neg h1]
    by_cases h2 : b < a
    · rw [if_pos h2]
      go_enter Tryz.func217, Tryz.ntmps217
      go_wp2
      go_ret
      exact ⟨rfl, rfl⟩
    · rw [if_neg h2]
      go_enter Tryz.func217, Tryz.ntmps217
      go_wp2
      go_ret
      exact ⟨rfl, rfl⟩

theorem cb_step {l m : List UInt8} {i : Nat} (h1 : i < l.length) (h2 : i < m.length) : Lib.compareBytes (l.drop i) (m.drop i) = if l[i] < m[i] then -1 else if m[i] < l[i] then 1 else Lib.compareBytes (l.drop (i + 1)) (m.drop (i + 1)) := by
  rw [List.drop_eq_getElem_cons h1, List.drop_eq_getElem_cons h2, Lib.compareBytes]

theorem cb_end {l m : List UInt8} {i : Nat} (h1 : i ≤ l.length) (h2 : i ≤ m.length) (h : ¬ (i < l.length ∧ i < m.length)) : Lib.compareBytes (l.drop i) (m.drop i) = cmpI l.length m.length := by
  unfold cmpI
  by_cases e1 : i = l.length
  · have d1 : l.drop i = [] := List.drop_eq_nil_of_le (by omega)
    rw [d1]
    by_cases e2 : i = m.length
    · have d2 : m.drop i = [] := List.drop_eq_nil_of_le (by omega)
      rw [d2, if_neg (by omega), if_neg (by omega)]; rfl
    · rw [List.drop_eq_getElem_cons (show i < m.length by omega), if_pos (by omega)]; rfl
  · have e2 : i = m.length := by omega
    have d2 : m.drop i = [] := List.drop_eq_nil_of_le (by omega)
    rw [d2, List.drop_eq_getElem_cons (show i < l.length by omega), if_neg (by omega), if_pos (by omega)]; rfl

set_option maxHeartbeats 1000000 in
set_option maxRecDepth 100000 in
theorem refCmp_any (a b : ByteArray) (w : World) (ha : a.size ≤ 9223372036854775807) : Calls Tryz.prog 195 #[.string a, .string b] w fun e w' => e = .returned (.int .i64 (cmpB a b)) ∧ ∃ n, w' = w.drewN n := by
  have hla : a.data.toList.length = a.size := (Lib.size_eq a).symm
  have hlb : b.data.toList.length = b.size := (Lib.size_eq b).symm
  obtain ⟨R, hR⟩ : ∃ R, R = cmpB a b := ⟨_, rfl⟩
  rw [← hR]
  have H := hide hR
  clear hR
  go_enter Tryz.func195, Tryz.ntmps195
  go_wp2
  go_loopw [5] (fun iv wr => ∃ i : Nat, i ≤ a.size ∧ i ≤ b.size ∧ iv = .int .i64 i ∧ Hid (Lib.compareBytes (a.data.toList.drop i) (b.data.toList.drop i) = R) ∧ ∃ n, wr = w.drewN n) (fun iv _ => a.size - (intOf iv).toNat)
  case atStart => exact ⟨0, by omega, by omega, rfl, hide (by rw [H.out]; rfl), 0, rfl⟩
  case round =>
    obtain ⟨i, hi, hib, rfl, hrest, n, rfl⟩ := hrel
    by_cases hc : i < a.size ∧ i < b.size
    · obtain ⟨h1, h2⟩ := hc
      have z1 : (i : Int) < (a.size : Int) := by omega
      have z2 : (i : Int) < (b.size : Int) := by omega
      have d1 : decide (i < a.size) = true := by simpa using h1
      have d2 : decide (i < b.size) = true := by simpa using h2
      have hst := cb_step (l := a.data.toList) (m := b.data.toList) (i := i) (by omega) (by omega)
      have g1 : a.data.toList[i]'(by omega) = a[i]'h1 := by rw [← getD_byte a i h1]; simp [List.getD, List.getElem?_eq_getElem (show i < a.data.toList.length by omega)]
      have g2 : b.data.toList[i]'(by omega) = b[i]'h2 := by rw [← getD_byte b i h2]; simp [List.getD, List.getElem?_eq_getElem (show i < b.data.toList.length by omega)]
      rw [g1, g2] at hst
      obtain ⟨x, hx⟩ : ∃ x, a[i]'h1 = x := ⟨_, rfl⟩
      obtain ⟨y, hy⟩ : ∃ y, b[i]'h2 = y := ⟨_, rfl⟩
      have ix : ∀ W, (Instr.index 9 (.string a) (.int .i64 (i : Int))).run Tryz.prog W = .ok (.int .u8 (x.toNat : Int)) W := fun W => by
        rw [run_index_string W 9 a .i64 (i : Int) Tryz.underlying9, dif_pos ⟨by omega, z1⟩, ← hx]; rfl
      have iy : ∀ W, (Instr.index 9 (.string b) (.int .i64 (i : Int))).run Tryz.prog W = .ok (.int .u8 (y.toNat : Int)) W := fun W => by
        rw [run_index_string W 9 b .i64 (i : Int) Tryz.underlying9, dif_pos ⟨by omega, z2⟩, ← hy]; rfl
      rw [hx, hy] at hst
      have HS := hide hst
      clear hst g1 g2 hx hy
      by_cases c1 : x.toNat < y.toNat
      · have k1 : (x.toNat : Int) < (y.toNat : Int) := by omega
        have HE := hide (show R = -1 by rw [← hrest.out, HS.out, if_pos (UInt8.lt_iff_toNat_lt.2 c1)])
        go_wp2
        go_quiet (fail)
        go_wp2
        go_ret
        exact ⟨by rw [HE.out]; rfl, _, World.drewN_drewN _ _ _⟩
      · have k1 : ¬ ((x.toNat : Int) < (y.toNat : Int)) := by omega
        have n1 : ¬ x < y := fun e => c1 (UInt8.lt_iff_toNat_lt.1 e)
        by_cases c2 : y.toNat < x.toNat
        · have k2 : (y.toNat : Int) < (x.toNat : Int) := by omega
          have HE := hide (show R = 1 by rw [← hrest.out, HS.out, if_neg n1, if_pos (UInt8.lt_iff_toNat_lt.2 c2)])
          clear n1
          go_wp2
          go_quiet (fail)
          go_wp2
          go_quiet (fail)
          go_wp2
          go_ret
          exact ⟨by rw [HE.out]; rfl, _, by rw [World.drewN_drewN, World.drewN_drewN]⟩
        · have k2 : ¬ ((y.toNat : Int) < (x.toNat : Int)) := by omega
          have n2 : ¬ y < x := fun e => c2 (UInt8.lt_iff_toNat_lt.1 e)
          have HE := hide (show Lib.compareBytes (a.data.toList.drop (i + 1)) (b.data.toList.drop (i + 1)) = R by rw [← hrest.out, HS.out, if_neg n1, if_neg n2])
          clear n1 n2
          go_wp2
          go_quiet (fail)
          go_wp2
          go_quiet (fail)
          go_wp2
          go_roundw
          case rel => exact ⟨i + 1, by omega, by omega, by go_num, hide HE.out, _, rfl⟩
          case measure => simp [intOf]; omega
    · have HE := hide (show R = cmpI (a.size : Int) (b.size : Int) by rw [← hrest.out, cb_end (by omega) (by omega) (by omega), hla, hlb])
      have hnum := fun W => cmpNum_any (a.size : Int) (b.size : Int) W
      generalize cmpI (a.size : Int) (b.size : Int) = X at HE hnum
      by_cases h1 : i < a.size
      · have d1 : decide (i < a.size) = true := by simpa using h1
        have z1 : (i : Int) < (a.size : Int) := by omega
        have d2 : decide (i < b.size) = false := by simp; omega
        have z2 : ¬ ((i : Int) < (b.size : Int)) := by omega
        go_wp2_with (go_at_call 217; refine (hnum _).mono ?_; rintro e w' ⟨rfl, rfl⟩)
        go_ret
        exact ⟨by rw [HE.out]; rfl, n, rfl⟩
      · have d1 : decide (i < a.size) = false := by simp; omega
        have z1 : ¬ ((i : Int) < (a.size : Int)) := by omega
        go_wp2_with (go_at_call 217; refine (hnum _).mono ?_; rintro e w' ⟨rfl, rfl⟩)
        go_ret
        exact ⟨by rw [HE.out]; rfl, n, rfl⟩

end Go.Proofs.YtkeldhohilmdcaaGreat
