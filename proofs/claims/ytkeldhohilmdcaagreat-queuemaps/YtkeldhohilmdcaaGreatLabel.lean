/-
  LABELS AND TEXTS: what keys' Label and Cmp, and the document's, answer.
-/
import Derived.Test.YtkeldhohilmdcaaGreatMoves
import Derived.Test.YtkeldhohilmdcaaGreatShelf
import Derived.Lib.OthersKept
import Derived.Lib.TrimUEq
import Derived.Lib.MapLaws
import Derived.Laws.RangeAny
import Derived.Laws.RangeString
import Derived.Lib.ValidLaws
import Derived.Deep.QuietTactic
import Derived.BigQuiet
namespace Go.Proofs.YtkeldhohilmdcaaGreat
open Go.RowKit Go.Shelf
set_option linter.unusedSimpArgs false

def labelByte (b : UInt8) : Bool := decide (97 ≤ b.toNat) && decide (b.toNat ≤ 122)

def labelB (l : List UInt8) : Bool := decide (1 ≤ l.length) && decide (l.length ≤ 12) && l.all labelByte

theorem getD_byte (s : ByteArray) (pos : Nat) (h : pos < s.size) : s.data.toList.getD pos 0 = s[pos]'h := by
  have hl : pos < s.data.toList.length := by rw [← Lib.size_eq]; exact h
  simp [List.getD, List.getElem?_eq_getElem hl]
  rfl

theorem all_one (p : UInt8 → Bool) (s : ByteArray) (pos : Nat) (h : pos < s.size) : (s.data.toList.drop pos).all p = (p (s[pos]'h) && (s.data.toList.drop (pos + 1)).all p) := by
  have hl : s.data.toList.length = s.size := (Lib.size_eq s).symm
  rw [List.drop_eq_getElem_cons (by omega), List.all_cons]
  rw [← getD_byte s pos h]
  simp [List.getD, List.getElem?_eq_getElem (show pos < s.data.toList.length by omega)]

theorem at_string (s : ByteArray) (pos : Nat) (h : pos < s.size) : ∃ X : Int, X = ((s[pos]'h).toNat : Int) ∧ 0 ≤ X ∧ X < 256 ∧ ∀ W, (Instr.index 9 (.string s) (.int .i64 (pos : Int))).run Tryz.prog W = .ok (.int .u8 X) W := by
  refine ⟨_, rfl, by omega, ?_, fun W => ?_⟩
  · have := (s[pos]'h).toNat_lt
    omega
  · rw [run_index_string W 9 s .i64 (pos : Int) Tryz.underlying9, dif_pos ⟨by omega, by omega⟩]; rfl

set_option maxHeartbeats 1000000 in
set_option maxRecDepth 100000 in
theorem label_any (s : ByteArray) (w : World) : Calls Tryz.prog 225 #[.string s] w fun e w' => e = .returned (.bool (labelB s.data.toList)) ∧ Below w.heap.size w w' := by
  unfold labelB
  rw [← Lib.size_eq]
  by_cases h1 : 1 ≤ s.size
  · by_cases h2 : s.size ≤ 12
    · have d1 : decide (1 ≤ s.size) = true := by simpa using h1
      have d2 : decide (s.size ≤ 12) = true := by simpa using h2
      have e1 : ¬ ((s.size : Int) < 1) := by omega
      have e2 : ¬ ((12 : Int) < (s.size : Int)) := by omega
      rw [d1, d2]
      obtain ⟨ANS, hANS⟩ : ∃ ANS, ANS = s.data.toList.all labelByte := ⟨_, rfl⟩
      rw [← hANS]
      simp only [Bool.true_and]
      have HA := hide hANS
      clear hANS
      go_enter Tryz.func225, Tryz.ntmps225
      go_wp2
      go_loopw [4] (fun _ wr => ∃ pos : Nat, pos ≤ s.size ∧ wr.heap[w.heap.size]? = some (.stringIter s pos) ∧ Below w.heap.size w wr ∧ Hid ((s.data.toList.drop pos).all labelByte = ANS)) (fun _ wr => s.size - wr.iterPos w.heap.size)
      case atStart =>
        refine ⟨0, Nat.zero_le _, ?_, (Below.refl _ w).alloc (Nat.le_refl _) _, hide (by simpa using HA.out.symm)⟩
        have := World.iter_heap w s 0
        simpa using this
      case round =>
        obtain ⟨pos, hps, hit, hbw, hrest⟩ := hrel
        have hsz : w.heap.size < wr.heap.size := (Array.getElem?_eq_some_iff.1 hit).1
        by_cases hp : pos < s.size
        · have hnx : ∀ ty, (Instr.next (.pointer (some ⟨w.heap.size, 0, none⟩)) true ty).run Tryz.prog wr = _ := fun ty => Lib.run_next_any_at wr w.heap.size s pos ty hit hp
          have hit2 := Lib.iterAt_heap wr w.heap.size s pos (pos + (Utf8.decode s pos).2) hit
          have hbw2 := Lib.below_iterAt hbw (k := w.heap.size) (by omega) s (pos + (Utf8.decode s pos).2)
          have hmu : wr.iterPos w.heap.size = pos := by simp [World.iterPos, hit]
          have hone := all_one labelByte s pos hp
          by_cases ha : (s[pos]'hp).toNat < 128
          · have hdec := decode_ascii s pos hp ha
            rw [hdec] at hnx hit2 hbw2
            simp only at hnx hit2 hbw2
            generalize wr.iterAt w.heap.size s (pos + 1) = W1 at hnx hit2 hbw2
            by_cases hlo : (s[pos]'hp).toNat < 97
            · have hE : ANS = false := by
                rw [← hrest.out, hone]
                have : labelByte (s[pos]'hp) = false := by unfold labelByte; simp; omega
                rw [this, Bool.false_and]
              have c1 : ((s[pos]'hp).toNat : Int) < 97 := by omega
              have HE := hide hE
              generalize ((s[pos]'hp).toNat : Int) = rr at c1 hnx
              clear hE hone hdec ha hlo
              go_wp2
              go_ret
              exact ⟨by rw [HE.out]; rfl, hbw2⟩
            · have c1 : ¬ (((s[pos]'hp).toNat : Int) < 97) := by omega
              by_cases hhi : 122 < (s[pos]'hp).toNat
              · have hE : ANS = false := by
                  rw [← hrest.out, hone]
                  have : labelByte (s[pos]'hp) = false := by unfold labelByte; simp; omega
                  rw [this, Bool.false_and]
                have c2 : (122 : Int) < ((s[pos]'hp).toNat : Int) := by omega
                have HE := hide hE
                generalize ((s[pos]'hp).toNat : Int) = rr at c1 c2 hnx
                clear hE hone hdec ha hlo hhi
                go_wp2
                go_ret
                exact ⟨by rw [HE.out]; rfl, hbw2⟩
              · have c2 : ¬ ((122 : Int) < ((s[pos]'hp).toNat : Int)) := by omega
                have hlb : labelByte (s[pos]'hp) = true := by unfold labelByte; simp; omega
                rw [hlb, Bool.true_and] at hone
                have HO := hide hone
                generalize ((s[pos]'hp).toNat : Int) = rr at c1 c2 hnx
                clear hlb hone hdec ha hlo hhi
                go_wp2
                go_roundw
                case rel => exact ⟨pos + 1, by omega, hit2, hbw2, hide (by rw [← HO.out]; exact hrest.out)⟩
                case measure =>
                  have hmu2 : W1.iterPos w.heap.size = pos + 1 := by simp [World.iterPos, hit2]
                  rw [hmu, hmu2]; omega
          · have hd := decode_high s pos hp (by omega)
            have hE : ANS = false := by
              rw [← hrest.out, hone]
              have : labelByte (s[pos]'hp) = false := by unfold labelByte; simp; omega
              rw [this, Bool.false_and]
            have c1 : ¬ (((Utf8.decode s pos).1 : Int) < 97) := by omega
            have c2 : (122 : Int) < ((Utf8.decode s pos).1 : Int) := by omega
            have HE := hide hE
            generalize (Utf8.decode s pos).2 = ww at hnx hit2 hbw2
            generalize wr.iterAt w.heap.size s (pos + ww) = W1 at hnx hit2 hbw2
            generalize ((Utf8.decode s pos).1 : Int) = rr at c1 c2 hnx
            clear hE hone ha hd
            go_wp2
            go_ret
            exact ⟨by rw [HE.out]; rfl, hbw2⟩
        · have hnx : ∀ ty, (Instr.next (.pointer (some ⟨w.heap.size, 0, none⟩)) true ty).run Tryz.prog wr = _ := fun ty => Lib.run_next_end_at wr w.heap.size s pos ty hit hp
          have hE : ANS = true := by
            rw [← hrest.out, List.drop_eq_nil_of_le (by rw [← Lib.size_eq]; omega)]; rfl
          have HE := hide hE
          clear hE
          go_wp2
          go_ret
          exact ⟨by rw [HE.out]; rfl, hbw⟩
    · have d2 : decide (s.size ≤ 12) = false := by simpa using h2
      have e1 : ¬ ((s.size : Int) < 1) := by omega
      have e2 : (12 : Int) < (s.size : Int) := by omega
      rw [d2, Bool.and_false, Bool.false_and]
      go_enter Tryz.func225, Tryz.ntmps225
      go_wp2
      go_ret
      exact ⟨rfl, Below.refl _ _⟩
  · have d1 : decide (1 ≤ s.size) = false := by simpa using h1
    have e1 : (s.size : Int) < 1 := by omega
    rw [d1, Bool.false_and, Bool.false_and]
    go_enter Tryz.func225, Tryz.ntmps225
    go_wp2
    go_ret
    exact ⟨rfl, Below.refl _ _⟩

set_option maxHeartbeats 1000000 in
set_option maxRecDepth 100000 in
theorem refLabel_any (s : ByteArray) (w : World) (hs : s.size ≤ 9223372036854775807) : Calls Tryz.prog 194 #[.string s] w fun e w' => e = .returned (.bool (labelB s.data.toList)) ∧ w' = w := by
  have hl : s.data.toList.length = s.size := (Lib.size_eq s).symm
  obtain ⟨R, hR⟩ : ∃ R, R = labelB s.data.toList := ⟨_, rfl⟩
  have H := hide hR
  rw [← hR]
  clear hR
  go_enter Tryz.func194, Tryz.ntmps194
  go_wp2
  go_loopw [3] (fun v3 wr => ∃ i : Nat, i ≤ s.size ∧ v3 = .int .i64 i ∧ Hid (R = (decide (1 ≤ s.size) && decide (s.size ≤ 12) && (s.data.toList.drop i).all labelByte)) ∧ wr = w) (fun v3 _ => s.size - (intOf v3).toNat)
  case atStart => exact ⟨0, by omega, rfl, hide (by rw [H.out, labelB, hl]; rfl), rfl⟩
  case round =>
    obtain ⟨i, hi, rfl, HD, rfl⟩ := hrel
    by_cases hc : i < s.size
    · have z1 : (i : Int) < (s.size : Int) := by omega
      obtain ⟨X, hX, x0, x1, ix⟩ := at_string s i hc
      have hone := all_one labelByte s i hc
      have HO := hide (And.intro hX hone)
      clear hX hone
      by_cases g1 : X < 97
      · have hE := hide (show R = false by rw [HD.out, HO.out.2]; have := HO.out.1; have : labelByte (s[i]'hc) = false := (by unfold labelByte; simp; omega); rw [this, Bool.false_and, Bool.and_false])
        go_wp2
        go_ret
        exact ⟨by rw [hE.out]; rfl, rfl⟩
      · by_cases g2 : 122 < X
        · have hE := hide (show R = false by rw [HD.out, HO.out.2]; have := HO.out.1; have : labelByte (s[i]'hc) = false := (by unfold labelByte; simp; omega); rw [this, Bool.false_and, Bool.and_false])
          go_wp2
          go_ret
          exact ⟨by rw [hE.out]; rfl, rfl⟩
        · have hE := hide (show R = (decide (1 ≤ s.size) && decide (s.size ≤ 12) && (s.data.toList.drop (i + 1)).all labelByte) by rw [HD.out, HO.out.2]; have := HO.out.1; have : labelByte (s[i]'hc) = true := (by unfold labelByte; simp; omega); rw [this, Bool.true_and])
          go_wp2
          go_roundw
          case rel => exact ⟨i + 1, by omega, by go_num, hide hE.out, trivial⟩
          case measure => simp [intOf]; omega
    · have z1 : ¬ (i : Int) < (s.size : Int) := by omega
      have hE := hide (show R = (decide (1 ≤ s.size) && decide (s.size ≤ 12)) by rw [HD.out, List.drop_eq_nil_of_le (by omega)]; simp)
      by_cases g1 : 1 ≤ s.size
      · have y1 : (1 : Int) ≤ (s.size : Int) := by omega
        have d1 : decide (1 ≤ s.size) = true := by simpa using g1
        by_cases g2 : s.size ≤ 12
        · have y2 : (s.size : Int) ≤ 12 := by omega
          have d2 : decide (s.size ≤ 12) = true := by simpa using g2
          have hE2 := hide (hE.out.trans (by rw [d1, d2]))
          go_wp2
          go_ret
          exact ⟨by rw [hE2.out]; rfl, rfl⟩
        · have y2 : ¬ (s.size : Int) ≤ 12 := by omega
          have d2 : decide (s.size ≤ 12) = false := by simpa using g2
          have hE2 := hide (hE.out.trans (by rw [d1, d2]))
          go_wp2
          go_ret
          exact ⟨by rw [hE2.out]; rfl, rfl⟩
      · have y1 : ¬ (1 : Int) ≤ (s.size : Int) := by omega
        have d1 : decide (1 ≤ s.size) = false := by simpa using g1
        have hE2 := hide (hE.out.trans (by rw [d1, Bool.false_and]))
        go_wp2
        go_ret
        exact ⟨by rw [hE2.out]; rfl, rfl⟩

def cmpB (a b : ByteArray) : Int := Lib.compareBytes a.data.toList b.data.toList

end Go.Proofs.YtkeldhohilmdcaaGreat
