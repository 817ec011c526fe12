/-
  LABELS AND TEXTS: what keys' Label and Cmp, and the document's, answer.
-/
import Derived.Test.YtkdgageljgfgoaaDoorMoves
import Derived.Test.YtkdgageljgfgoaaDoorShelf
import Derived.Lib.OthersKept
import Derived.Lib.TrimUEq
import Derived.Lib.MapLaws
import Derived.Laws.RangeAny
import Derived.Laws.RangeString
import Derived.Lib.ValidLaws
import Derived.Deep.QuietTactic
import Derived.BigQuiet
namespace Go.Proofs.YtkdgageljgfgoaaDoor
open Go.RowKit Go.Shelf
set_option linter.unusedSimpArgs false

def labelByte (b : UInt8) : Bool := decide (97 ≤ b.toNat) && decide (b.toNat ≤ 122)

def labelB (l : List UInt8) : Bool := decide (1 ≤ l.length) && decide (l.length ≤ 12) && l.all labelByte

/-- Where a rune begins with a byte from 91 on, all its bytes are such. -/
theorem decodeN_high {n b0 b1 b2 b3 : Nat} (h0 : 128 ≤ b0) (hn : 1 ≤ n) : 128 ≤ (Lib.decodeN n b0 b1 b2 b3).1 ∧ 1 ≤ (Lib.decodeN n b0 b1 b2 b3).2 ∧ (Lib.decodeN n b0 b1 b2 b3).2 ≤ n ∧ (2 ≤ (Lib.decodeN n b0 b1 b2 b3).2 → 128 ≤ b1) ∧ (3 ≤ (Lib.decodeN n b0 b1 b2 b3).2 → 128 ≤ b2) ∧ (4 ≤ (Lib.decodeN n b0 b1 b2 b3).2 → 128 ≤ b3) ∧ (Lib.decodeN n b0 b1 b2 b3).2 ≤ 4 := by
  unfold Lib.decodeN
  rw [if_neg (by omega)]
  split
  · split <;> simp only <;> omega
  · split
    · split <;> simp only <;> omega
    · split
      · split <;> simp only <;> omega
      · simp only; omega

theorem all_skip (p : UInt8 → Bool) (hp : ∀ b : UInt8, 128 ≤ b.toNat → p b = true) (s : ByteArray) (pos : Nat) (h : pos < s.size) (h0 : 128 ≤ (s.data.toList.getD pos 0).toNat) :
    (s.data.toList.drop pos).all p = (s.data.toList.drop (pos + (Utf8.decode s pos).2)).all p ∧ pos + (Utf8.decode s pos).2 ≤ s.size ∧ 1 ≤ (Utf8.decode s pos).2 ∧ 128 ≤ (Utf8.decode s pos).1 := by
  have hl : s.data.toList.length = s.size := (Lib.size_eq s).symm
  rw [Lib.decode_N]
  obtain ⟨d0, d1, d2, d3, d4, d5, d6⟩ := decodeN_high (n := s.data.toList.length - pos) (b1 := (s.data.toList.getD (pos + 1) 0).toNat) (b2 := (s.data.toList.getD (pos + 2) 0).toNat) (b3 := (s.data.toList.getD (pos + 3) 0).toNat) h0 (by omega)
  generalize Lib.decodeN (s.data.toList.length - pos) (s.data.toList.getD pos 0).toNat (s.data.toList.getD (pos + 1) 0).toNat (s.data.toList.getD (pos + 2) 0).toNat (s.data.toList.getD (pos + 3) 0).toNat = D at d0 d1 d2 d3 d4 d5 d6
  refine ⟨?_, by omega, d1, d0⟩
  have step : ∀ k, pos + k < s.data.toList.length → 128 ≤ (s.data.toList.getD (pos + k) 0).toNat → (s.data.toList.drop (pos + k)).all p = (s.data.toList.drop (pos + k + 1)).all p := fun k hk hb => by
    rw [List.drop_eq_getElem_cons hk, List.all_cons]
    have : s.data.toList.getD (pos + k) 0 = s.data.toList[pos + k] := by simp [List.getD, List.getElem?_eq_getElem hk]
    rw [this] at hb
    rw [hp _ hb, Bool.true_and]
  have s0 := step 0 (by omega) h0
  simp only [Nat.add_zero] at s0
  rcases (show D.2 = 1 ∨ D.2 = 2 ∨ D.2 = 3 ∨ D.2 = 4 by omega) with e | e | e | e
  · rw [e, s0]
  · rw [e, s0, step 1 (by omega) (d3 (by omega))]
  · rw [e, s0, step 1 (by omega) (d3 (by omega)), step 2 (by omega) (d4 (by omega))]
  · rw [e, s0, step 1 (by omega) (d3 (by omega)), step 2 (by omega) (d4 (by omega)), step 3 (by omega) (d5 (by omega))]

theorem getD_byte (s : ByteArray) (pos : Nat) (h : pos < s.size) : s.data.toList.getD pos 0 = s[pos]'h := by
  have hl : pos < s.data.toList.length := by rw [← Lib.size_eq]; exact h
  simp [List.getD, List.getElem?_eq_getElem hl]
  rfl

theorem all_one (p : UInt8 → Bool) (s : ByteArray) (pos : Nat) (h : pos < s.size) : (s.data.toList.drop pos).all p = (p (s[pos]'h) && (s.data.toList.drop (pos + 1)).all p) := by
  have hl : s.data.toList.length = s.size := (Lib.size_eq s).symm
  rw [List.drop_eq_getElem_cons (by omega), List.all_cons]
  rw [← getD_byte s pos h]
  simp [List.getD, List.getElem?_eq_getElem (show pos < s.data.toList.length by omega)]

set_option maxHeartbeats 1000000 in
set_option maxRecDepth 100000 in
theorem label_any (s : ByteArray) (w : World) : Calls Tryd.prog 80 #[.string s] w fun e w' => e = .returned (.bool (labelB s.data.toList)) ∧ Below w.heap.size w w' := by
  unfold labelB
  rw [← Lib.size_eq]
  by_cases h1 : 1 ≤ s.size
  · by_cases h2 : s.size ≤ 12
    · have d1 : decide (1 ≤ s.size) = true := by simpa using h1
      have d2 : decide (s.size ≤ 12) = true := by simpa using h2
      have e1 : ¬ ((s.size : Int) < 1) := by omega
      have e2 : ¬ ((12 : Int) < (s.size : Int)) := by omega
      rw [d1, d2]
      obtain ⟨ANS, hANS⟩ : ∃ ANS, ANS = s.data.toList.all labelByte := ⟨_, rfl⟩
      rw [← hANS]
      simp only [Bool.true_and]
      have HA := hide hANS
      clear hANS
      go_enter Tryd.func80, Tryd.ntmps80
      go_wp2
      go_loopw [4] (fun _ wr => ∃ pos : Nat, pos ≤ s.size ∧ wr.heap[w.heap.size]? = some (.stringIter s pos) ∧ Below w.heap.size w wr ∧ Hid ((s.data.toList.drop pos).all labelByte = ANS)) (fun _ wr => s.size - wr.iterPos w.heap.size)
      case atStart =>
        refine ⟨0, Nat.zero_le _, ?_, (Below.refl _ w).alloc (Nat.le_refl _) _, hide (by simpa using HA.out.symm)⟩
        have := World.iter_heap w s 0
        simpa using this
      case round =>
        obtain ⟨pos, hps, hit, hbw, hrest⟩ := hrel
        have hsz : w.heap.size < wr.heap.size := (Array.getElem?_eq_some_iff.1 hit).1
        by_cases hp : pos < s.size
        · have hnx : ∀ ty, (Instr.next (.pointer (some ⟨w.heap.size, 0, none⟩)) true ty).run Tryd.prog wr = _ := fun ty => Lib.run_next_any_at wr w.heap.size s pos ty hit hp
          have hit2 := Lib.iterAt_heap wr w.heap.size s pos (pos + (Utf8.decode s pos).2) hit
          have hbw2 := Lib.below_iterAt hbw (k := w.heap.size) (by omega) s (pos + (Utf8.decode s pos).2)
          have hmu : wr.iterPos w.heap.size = pos := by simp [World.iterPos, hit]
          have hone := all_one labelByte s pos hp
          by_cases ha : (s[pos]'hp).toNat < 128
          · have hdec := decode_ascii s pos hp ha
            rw [hdec] at hnx hit2 hbw2
            simp only at hnx hit2 hbw2
            generalize wr.iterAt w.heap.size s (pos + 1) = W1 at hnx hit2 hbw2
            by_cases hlo : (s[pos]'hp).toNat < 97
            · have hE : ANS = false := by
                rw [← hrest.out, hone]
                have : labelByte (s[pos]'hp) = false := by unfold labelByte; simp; omega
                rw [this, Bool.false_and]
              have c1 : ((s[pos]'hp).toNat : Int) < 97 := by omega
              have HE := hide hE
              generalize ((s[pos]'hp).toNat : Int) = rr at c1 hnx
              clear hE hone hdec ha hlo
              go_wp2
              go_ret
              exact ⟨by rw [HE.out]; rfl, hbw2⟩
            · have c1 : ¬ (((s[pos]'hp).toNat : Int) < 97) := by omega
              by_cases hhi : 122 < (s[pos]'hp).toNat
              · have hE : ANS = false := by
                  rw [← hrest.out, hone]
                  have : labelByte (s[pos]'hp) = false := by unfold labelByte; simp; omega
                  rw [this, Bool.false_and]
                have c2 : (122 : Int) < ((s[pos]'hp).toNat : Int) := by omega
                have HE := hide hE
                generalize ((s[pos]'hp).toNat : Int) = rr at c1 c2 hnx
                clear hE hone hdec ha hlo hhi
                go_wp2
                go_ret
                exact ⟨by rw [HE.out]; rfl, hbw2⟩
              · have c2 : ¬ ((122 : Int) < ((s[pos]'hp).toNat : Int)) := by omega
                have hlb : labelByte (s[pos]'hp) = true := by unfold labelByte; simp; omega
                rw [hlb, Bool.true_and] at hone
                have HO := hide hone
                generalize ((s[pos]'hp).toNat : Int) = rr at c1 c2 hnx
                clear hlb hone hdec ha hlo hhi
                go_wp2
                go_roundw
                case rel => exact ⟨pos + 1, by omega, hit2, hbw2, hide (by rw [← HO.out]; exact hrest.out)⟩
                case measure =>
                  have hmu2 : W1.iterPos w.heap.size = pos + 1 := by simp [World.iterPos, hit2]
                  rw [hmu, hmu2]; omega
          · have hd := decode_high s pos hp (by omega)
            have hE : ANS = false := by
              rw [← hrest.out, hone]
              have : labelByte (s[pos]'hp) = false := by unfold labelByte; simp; omega
              rw [this, Bool.false_and]
            have c1 : ¬ (((Utf8.decode s pos).1 : Int) < 97) := by omega
            have c2 : (122 : Int) < ((Utf8.decode s pos).1 : Int) := by omega
            have HE := hide hE
            generalize (Utf8.decode s pos).2 = ww at hnx hit2 hbw2
            generalize wr.iterAt w.heap.size s (pos + ww) = W1 at hnx hit2 hbw2
            generalize ((Utf8.decode s pos).1 : Int) = rr at c1 c2 hnx
            clear hE hone ha hd
            go_wp2
            go_ret
            exact ⟨by rw [HE.out]; rfl, hbw2⟩
        · have hnx : ∀ ty, (Instr.next (.pointer (some ⟨w.heap.size, 0, none⟩)) true ty).run Tryd.prog wr = _ := fun ty => Lib.run_next_end_at wr w.heap.size s pos ty hit hp
          have hE : ANS = true := by
            rw [← hrest.out, List.drop_eq_nil_of_le (by rw [← Lib.size_eq]; omega)]; rfl
          have HE := hide hE
          clear hE
          go_wp2
          go_ret
          exact ⟨by rw [HE.out]; rfl, hbw⟩
    · have d2 : decide (s.size ≤ 12) = false := by simpa using h2
      have e1 : ¬ ((s.size : Int) < 1) := by omega
      have e2 : (12 : Int) < (s.size : Int) := by omega
      rw [d2, Bool.and_false, Bool.false_and]
      go_enter Tryd.func80, Tryd.ntmps80
      go_wp2
      go_ret
      exact ⟨rfl, Below.refl _ _⟩
  · have d1 : decide (1 ≤ s.size) = false := by simpa using h1
    have e1 : (s.size : Int) < 1 := by omega
    rw [d1, Bool.false_and, Bool.false_and]
    go_enter Tryd.func80, Tryd.ntmps80
    go_wp2
    go_ret
    exact ⟨rfl, Below.refl _ _⟩

def cmpB (a b : ByteArray) : Int := Lib.compareBytes a.data.toList b.data.toList

theorem cmp_any (a b : ByteArray) (w : World) : Calls Tryd.prog 29 #[.string a, .string b] w fun e w' => e = .returned (.int .i64 (cmpB a b)) ∧ w' = w := by
  go_enter Tryd.func29, Tryd.ntmps29
  go_wp2_with (go_at_call 53; refine (Tryd.strings_Compare a b _).mono ?_; rintro e w' ⟨rfl, rfl⟩)
  go_ret
  exact ⟨rfl, rfl⟩

def cmpI (a b : Int) : Int := if a < b then -1 else if b < a then 1 else 0

end Go.Proofs.YtkdgageljgfgoaaDoor
