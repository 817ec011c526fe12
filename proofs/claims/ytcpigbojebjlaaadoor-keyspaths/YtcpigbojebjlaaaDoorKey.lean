/-
  KEYS AND LABELS: plainly (keyB, labelB), and what the program's Key and Label answer.
-/
import Derived.Test.YtcpigbojebjlaaaDoorCmps
import Derived.Lib.OthersKept
import Derived.Lib.TrimUEq
import Derived.Lib.MapLaws
import Derived.Laws.RangeAny
import Derived.Laws.RangeString
import Derived.Lib.ValidLaws
namespace Go.Proofs.YtcpigbojebjlaaaDoor
open Go.RowKit Go.Shelf
set_option linter.unusedSimpArgs false

def keyByte (b : UInt8) : Bool := decide (32 ≤ b.toNat) && decide (b.toNat ≠ 47)
def keyB (l : List UInt8) : Bool := decide (1 ≤ l.length) && decide (l.length ≤ 64) && Lib.validD l && l.all keyByte
def labelByte (b : UInt8) : Bool := decide (97 ≤ b.toNat) && decide (b.toNat ≤ 122)
def labelB (l : List UInt8) : Bool := decide (1 ≤ l.length) && decide (l.length ≤ 12) && l.all labelByte

/-- Where a rune begins with a byte from 128 on, all its bytes are such. -/
theorem decodeN_high {n b0 b1 b2 b3 : Nat} (h0 : 128 ≤ b0) (hn : 1 ≤ n) : 128 ≤ (Lib.decodeN n b0 b1 b2 b3).1 ∧ 1 ≤ (Lib.decodeN n b0 b1 b2 b3).2 ∧ (Lib.decodeN n b0 b1 b2 b3).2 ≤ n ∧ (2 ≤ (Lib.decodeN n b0 b1 b2 b3).2 → 128 ≤ b1) ∧ (3 ≤ (Lib.decodeN n b0 b1 b2 b3).2 → 128 ≤ b2) ∧ (4 ≤ (Lib.decodeN n b0 b1 b2 b3).2 → 128 ≤ b3) ∧ (Lib.decodeN n b0 b1 b2 b3).2 ≤ 4 := by
  unfold Lib.decodeN
  rw [if_neg (by omega)]
  split
  · split <;> simp only <;> omega
  · split
    · split <;> simp only <;> omega
    · split
      · split <;> simp only <;> omega
      · simp only; omega

theorem all_skip (p : UInt8 → Bool) (hp : ∀ b : UInt8, 128 ≤ b.toNat → p b = true) (s : ByteArray) (pos : Nat) (h : pos < s.size) (h0 : 128 ≤ (s.data.toList.getD pos 0).toNat) :
    (s.data.toList.drop pos).all p = (s.data.toList.drop (pos + (Utf8.decode s pos).2)).all p ∧ pos + (Utf8.decode s pos).2 ≤ s.size ∧ 1 ≤ (Utf8.decode s pos).2 ∧ 128 ≤ (Utf8.decode s pos).1 := by
  have hl : s.data.toList.length = s.size := (Lib.size_eq s).symm
  rw [Lib.decode_N]
  obtain ⟨d0, d1, d2, d3, d4, d5, d6⟩ := decodeN_high (n := s.data.toList.length - pos) (b1 := (s.data.toList.getD (pos + 1) 0).toNat) (b2 := (s.data.toList.getD (pos + 2) 0).toNat) (b3 := (s.data.toList.getD (pos + 3) 0).toNat) h0 (by omega)
  generalize Lib.decodeN (s.data.toList.length - pos) (s.data.toList.getD pos 0).toNat (s.data.toList.getD (pos + 1) 0).toNat (s.data.toList.getD (pos + 2) 0).toNat (s.data.toList.getD (pos + 3) 0).toNat = D at d0 d1 d2 d3 d4 d5 d6
  refine ⟨?_, by omega, d1, d0⟩
  have step : ∀ k, pos + k < s.data.toList.length → 128 ≤ (s.data.toList.getD (pos + k) 0).toNat → (s.data.toList.drop (pos + k)).all p = (s.data.toList.drop (pos + k + 1)).all p := fun k hk hb => by
    rw [List.drop_eq_getElem_cons hk, List.all_cons]
    have : s.data.toList.getD (pos + k) 0 = s.data.toList[pos + k] := by simp [List.getD, List.getElem?_eq_getElem hk]
    rw [this] at hb
    rw [hp _ hb, Bool.true_and]
  have s0 := step 0 (by omega) h0
  simp only [Nat.add_zero] at s0
  rcases (show D.2 = 1 ∨ D.2 = 2 ∨ D.2 = 3 ∨ D.2 = 4 by omega) with e | e | e | e
  · rw [e, s0]
  · rw [e, s0, step 1 (by omega) (d3 (by omega))]
  · rw [e, s0, step 1 (by omega) (d3 (by omega)), step 2 (by omega) (d4 (by omega))]
  · rw [e, s0, step 1 (by omega) (d3 (by omega)), step 2 (by omega) (d4 (by omega)), step 3 (by omega) (d5 (by omega))]
theorem getD_byte (s : ByteArray) (pos : Nat) (h : pos < s.size) : s.data.toList.getD pos 0 = s[pos]'h := by
  have hl : pos < s.data.toList.length := by rw [← Lib.size_eq]; exact h
  simp [List.getD, List.getElem?_eq_getElem hl]
  rfl
theorem all_one (p : UInt8 → Bool) (s : ByteArray) (pos : Nat) (h : pos < s.size) : (s.data.toList.drop pos).all p = (p (s[pos]'h) && (s.data.toList.drop (pos + 1)).all p) := by
  have hl : s.data.toList.length = s.size := (Lib.size_eq s).symm
  rw [List.drop_eq_getElem_cons (by omega), List.all_cons]
  rw [← getD_byte s pos h]
  simp [List.getD, List.getElem?_eq_getElem (show pos < s.data.toList.length by omega)]

theorem ofKey_any (r : Int) (w : World) : Calls Tryd.prog 44 #[.int .i32 r] w fun e w' => e = .returned (.bool (decide (32 ≤ r) && decide (r ≠ 47))) ∧ w' = w := by
  by_cases h1 : 32 ≤ r
  · by_cases h2 : r = 47
    · subst h2
      go_enter Tryd.func44, Tryd.ntmps44
      go_wp2
      go_ret
      exact ⟨rfl, rfl⟩
    · have h3 : (r == 47) = false := by simpa using h2
      have h1d : decide (32 ≤ r) = true := by simpa using h1
      have h2d : decide (r ≠ 47) = true := by simpa using h2
      have h4 : (r != 47) = true := by simpa using h2
      rw [h1d, h2d]
      go_enter Tryd.func44, Tryd.ntmps44
      go_wp2
      go_ret
      exact ⟨rfl, rfl⟩
  · have h1d : decide (32 ≤ r) = false := by simpa using h1
    rw [h1d, Bool.false_and]
    go_enter Tryd.func44, Tryd.ntmps44
    go_wp2
    go_ret
    exact ⟨rfl, rfl⟩

/-- The tables of unicode/utf8, as they are laid. -/
def Tabs (w : World) : Prop := Lib.Utf8Tabs 0 1 w
theorem valid_any (s : ByteArray) (w : World) (hs : s.size ≤ 9223372036854775807) (hT : Tabs w) : Calls Tryd.prog 43 #[.string s] w fun e w' => e = .returned (.bool (Lib.validD s.data.toList)) ∧ Below w.heap.size w w' :=
  Any.utf8_ValidString Tryd.laysValid s w hs hT
theorem Tabs.below {w w' : World} (h : Tabs w) (hb : Below w.heap.size w w') : Tabs w' := Utf8Tabs_below h hb

set_option maxHeartbeats 1000000 in
set_option maxRecDepth 100000 in
theorem key_any (s : ByteArray) (w : World) (hT : Tabs w) : Calls Tryd.prog 12 #[.string s] w fun e w' => e = .returned (.bool (keyB s.data.toList)) ∧ Below w.heap.size w w' := by
  unfold keyB
  rw [← Lib.size_eq]
  by_cases h1 : 1 ≤ s.size
  · by_cases h2 : s.size ≤ 64
    · have hv := valid_any s w (by omega) hT
      generalize hV : Lib.validD s.data.toList = V at hv ⊢
      have d1 : decide (1 ≤ s.size) = true := by simpa using h1
      have d2 : decide (s.size ≤ 64) = true := by simpa using h2
      have e1 : ¬ ((s.size : Int) < 1) := by omega
      have e2 : ¬ ((64 : Int) < (s.size : Int)) := by omega
      rw [d1, d2]
      clear hV
      cases V with
      | false =>
        go_enter Tryd.func12, Tryd.ntmps12
        go_wp2_with (go_at_call 43; refine hv.mono ?_; rintro e w1 ⟨rfl, b1⟩)
        go_ret
        exact ⟨rfl, b1⟩
      | true =>
        obtain ⟨ANS, hANS⟩ : ∃ ANS, ANS = s.data.toList.all keyByte := ⟨_, rfl⟩
        rw [← hANS]
        simp only [Bool.true_and]
        have HA := hide hANS
        clear hANS
        go_enter Tryd.func12, Tryd.ntmps12
        go_wp2_with (go_at_call 43; refine hv.mono ?_; rintro e w1 ⟨rfl, b1⟩)
        have hs1 := b1.size
        go_loopw [4] (fun _ wr => ∃ pos : Nat, pos ≤ s.size ∧ wr.heap[w1.heap.size]? = some (.stringIter s pos) ∧ Below w.heap.size w wr ∧ Hid ((s.data.toList.drop pos).all keyByte = ANS)) (fun _ wr => s.size - wr.iterPos w1.heap.size)
        case atStart =>
          refine ⟨0, Nat.zero_le _, ?_, b1.alloc hs1 _, hide (by simpa using HA.out.symm)⟩
          have := World.iter_heap w1 s 0
          simpa using this
        case round =>
          obtain ⟨pos, hps, hit, hbw, hrest⟩ := hrel
          have hsz : w1.heap.size < wr.heap.size := (Array.getElem?_eq_some_iff.1 hit).1
          by_cases hp : pos < s.size
          · have hnx : ∀ ty, (Instr.next (.pointer (some ⟨w1.heap.size, 0, none⟩)) true ty).run Tryd.prog wr = _ := fun ty => Lib.run_next_any_at wr w1.heap.size s pos ty hit hp
            have hit2 := Lib.iterAt_heap wr w1.heap.size s pos (pos + (Utf8.decode s pos).2) hit
            have hbw2 := Lib.below_iterAt hbw (k := w1.heap.size) (by omega) s (pos + (Utf8.decode s pos).2)
            have hmu : wr.iterPos w1.heap.size = pos := by simp [World.iterPos, hit]
            by_cases ha : (s[pos]'hp).toNat < 128
            · have hdec := decode_ascii s pos hp ha
              have hone := all_one keyByte s pos hp
              have hof := ofKey_any ((s[pos]'hp).toNat : Int) (wr.iterAt w1.heap.size s (pos + 1))
              rw [hdec] at hnx hit2 hbw2
              simp only at hnx hit2 hbw2
              have hkb : (decide ((32 : Int) ≤ ((s[pos]'hp).toNat : Int)) && decide (((s[pos]'hp).toNat : Int) ≠ 47)) = keyByte (s[pos]'hp) := by
                unfold keyByte
                congr 1
                · exact decide_eq_decide.2 (by omega)
                · exact decide_eq_decide.2 (by omega)
              rw [hkb] at hof
              generalize wr.iterAt w1.heap.size s (pos + 1) = W1 at hnx hit2 hbw2 hof
              have HO := hide hone
              generalize ((s[pos]'hp).toNat : Int) = rr at hof hnx
              clear hone hdec hkb ha
              generalize keyByte (s[pos]'hp) = kb at HO hof
              cases kb with
              | true =>
                go_wp2_with (go_at_call 44; refine hof.mono ?_; rintro e w' ⟨rfl, rfl⟩)
                go_roundw
                case rel => exact ⟨pos + 1, by omega, hit2, hbw2, hide (by have := HO.out; rw [Bool.true_and] at this; rw [← this]; exact hrest.out)⟩
                case measure =>
                  have hmu2 : w'.iterPos w1.heap.size = pos + 1 := by simp [World.iterPos, hit2]
                  rw [hmu, hmu2]; omega
              | false =>
                have hE : ANS = false := by rw [← hrest.out, HO.out, Bool.false_and]
                have HE := hide hE
                clear hE
                go_wp2_with (go_at_call 44; refine hof.mono ?_; rintro e w' ⟨rfl, rfl⟩)
                go_ret
                exact ⟨by rw [HE.out]; rfl, hbw2⟩
            · obtain ⟨a1, a2, a3, a4⟩ := all_skip keyByte (fun b hb => by unfold keyByte; simp; omega) s pos hp (by rw [getD_byte s pos hp]; omega)
              have hof := ofKey_any ((Utf8.decode s pos).1 : Int) (wr.iterAt w1.heap.size s (pos + (Utf8.decode s pos).2))
              have hkb : (decide ((32 : Int) ≤ ((Utf8.decode s pos).1 : Int)) && decide (((Utf8.decode s pos).1 : Int) ≠ 47)) = true := by
                simp; omega
              rw [hkb] at hof
              have HS := hide a1
              clear a1 hkb ha
              generalize (Utf8.decode s pos).2 = ww at hnx hit2 hbw2 hof HS a2 a3
              generalize wr.iterAt w1.heap.size s (pos + ww) = W1 at hnx hit2 hbw2 hof
              generalize ((Utf8.decode s pos).1 : Int) = rr at hof hnx
              clear a4
              go_wp2_with (go_at_call 44; refine hof.mono ?_; rintro e w' ⟨rfl, rfl⟩)
              go_roundw
              case rel => exact ⟨pos + ww, a2, hit2, hbw2, hide (by rw [← HS.out]; exact hrest.out)⟩
              case measure =>
                have hmu2 : w'.iterPos w1.heap.size = pos + ww := by simp [World.iterPos, hit2]
                rw [hmu, hmu2]; omega
          · have hnx : ∀ ty, (Instr.next (.pointer (some ⟨w1.heap.size, 0, none⟩)) true ty).run Tryd.prog wr = _ := fun ty => Lib.run_next_end_at wr w1.heap.size s pos ty hit hp
            have hE : ANS = true := by
              rw [← hrest.out, List.drop_eq_nil_of_le (by rw [← Lib.size_eq]; omega)]; rfl
            have HE := hide hE
            clear hE
            go_wp2
            go_ret
            exact ⟨by rw [HE.out]; rfl, hbw⟩
    · have d2 : decide (s.size ≤ 64) = false := by simpa using h2
      have e1 : ¬ ((s.size : Int) < 1) := by omega
      have e2 : (64 : Int) < (s.size : Int) := by omega
      rw [d2, Bool.and_false, Bool.false_and, Bool.false_and]
      go_enter Tryd.func12, Tryd.ntmps12
      go_wp2
      go_ret
      exact ⟨rfl, Below.refl _ _⟩
  · have d1 : decide (1 ≤ s.size) = false := by simpa using h1
    have e1 : (s.size : Int) < 1 := by omega
    rw [d1, Bool.false_and, Bool.false_and, Bool.false_and]
    go_enter Tryd.func12, Tryd.ntmps12
    go_wp2
    go_ret
    exact ⟨rfl, Below.refl _ _⟩
end Go.Proofs.YtcpigbojebjlaaaDoor
