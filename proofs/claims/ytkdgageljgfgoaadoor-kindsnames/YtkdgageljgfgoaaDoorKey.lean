/-
  KEYS AND LABELS: plainly (keyB, labelB), and what the program's Key and Label answer.
-/
import Derived.Test.YtkdgageljgfgoaaDoorCmps
import Derived.Lib.OthersKept
import Derived.Lib.TrimUEq
import Derived.Lib.MapLaws
import Derived.Laws.RangeAny
import Derived.Laws.RangeString
import Derived.Lib.ValidLaws
namespace Go.Proofs.YtkdgageljgfgoaaDoor
open Go.RowKit Go.Shelf
set_option linter.unusedSimpArgs false

def keyByte (b : UInt8) : Bool := decide (32 ≤ b.toNat) && decide (b.toNat ≠ 47)
def keyB (l : List UInt8) : Bool := decide (1 ≤ l.length) && decide (l.length ≤ 64) && Lib.validD l && l.all keyByte
theorem ofKey_any (r : Int) (w : World) : Calls Tryd.prog 58 #[.int .i32 r] w fun e w' => e = .returned (.bool (decide (32 ≤ r) && decide (r ≠ 47))) ∧ w' = w := by
  by_cases h1 : 32 ≤ r
  · by_cases h2 : r = 47
    · subst h2
      go_enter Tryd.func58, Tryd.ntmps58
      go_wp2
      go_ret
      exact ⟨rfl, rfl⟩
    · have h3 : (r == 47) = false := by simpa using h2
      have h1d : decide (32 ≤ r) = true := by simpa using h1
      have h2d : decide (r ≠ 47) = true := by simpa using h2
      have h4 : (r != 47) = true := by simpa using h2
      rw [h1d, h2d]
      go_enter Tryd.func58, Tryd.ntmps58
      go_wp2
      go_ret
      exact ⟨rfl, rfl⟩
  · have h1d : decide (32 ≤ r) = false := by simpa using h1
    rw [h1d, Bool.false_and]
    go_enter Tryd.func58, Tryd.ntmps58
    go_wp2
    go_ret
    exact ⟨rfl, rfl⟩

/-- The tables of unicode/utf8, as they are laid. -/
def Tabs (w : World) : Prop := Lib.Utf8Tabs 0 1 w
theorem valid_any (s : ByteArray) (w : World) (hs : s.size ≤ 9223372036854775807) (hT : Tabs w) : Calls Tryd.prog 57 #[.string s] w fun e w' => e = .returned (.bool (Lib.validD s.data.toList)) ∧ Below w.heap.size w w' :=
  Any.utf8_ValidString Tryd.laysValid s w hs hT
theorem Tabs.below {w w' : World} (h : Tabs w) (hb : Below w.heap.size w w') : Tabs w' := Utf8Tabs_below h hb

set_option maxHeartbeats 1000000 in
set_option maxRecDepth 100000 in
theorem key_any (s : ByteArray) (w : World) (hT : Tabs w) : Calls Tryd.prog 37 #[.string s] w fun e w' => e = .returned (.bool (keyB s.data.toList)) ∧ Below w.heap.size w w' := by
  unfold keyB
  rw [← Lib.size_eq]
  by_cases h1 : 1 ≤ s.size
  · by_cases h2 : s.size ≤ 64
    · have hv := valid_any s w (by omega) hT
      generalize hV : Lib.validD s.data.toList = V at hv ⊢
      have d1 : decide (1 ≤ s.size) = true := by simpa using h1
      have d2 : decide (s.size ≤ 64) = true := by simpa using h2
      have e1 : ¬ ((s.size : Int) < 1) := by omega
      have e2 : ¬ ((64 : Int) < (s.size : Int)) := by omega
      rw [d1, d2]
      clear hV
      cases V with
      | false =>
        go_enter Tryd.func37, Tryd.ntmps37
        go_wp2_with (go_at_call 57; refine hv.mono ?_; rintro e w1 ⟨rfl, b1⟩)
        go_ret
        exact ⟨rfl, b1⟩
      | true =>
        obtain ⟨ANS, hANS⟩ : ∃ ANS, ANS = s.data.toList.all keyByte := ⟨_, rfl⟩
        rw [← hANS]
        simp only [Bool.true_and]
        have HA := hide hANS
        clear hANS
        go_enter Tryd.func37, Tryd.ntmps37
        go_wp2_with (go_at_call 57; refine hv.mono ?_; rintro e w1 ⟨rfl, b1⟩)
        have hs1 := b1.size
        go_loopw [4] (fun _ wr => ∃ pos : Nat, pos ≤ s.size ∧ wr.heap[w1.heap.size]? = some (.stringIter s pos) ∧ Below w.heap.size w wr ∧ Hid ((s.data.toList.drop pos).all keyByte = ANS)) (fun _ wr => s.size - wr.iterPos w1.heap.size)
        case atStart =>
          refine ⟨0, Nat.zero_le _, ?_, b1.alloc hs1 _, hide (by simpa using HA.out.symm)⟩
          have := World.iter_heap w1 s 0
          simpa using this
        case round =>
          obtain ⟨pos, hps, hit, hbw, hrest⟩ := hrel
          have hsz : w1.heap.size < wr.heap.size := (Array.getElem?_eq_some_iff.1 hit).1
          by_cases hp : pos < s.size
          · have hnx : ∀ ty, (Instr.next (.pointer (some ⟨w1.heap.size, 0, none⟩)) true ty).run Tryd.prog wr = _ := fun ty => Lib.run_next_any_at wr w1.heap.size s pos ty hit hp
            have hit2 := Lib.iterAt_heap wr w1.heap.size s pos (pos + (Utf8.decode s pos).2) hit
            have hbw2 := Lib.below_iterAt hbw (k := w1.heap.size) (by omega) s (pos + (Utf8.decode s pos).2)
            have hmu : wr.iterPos w1.heap.size = pos := by simp [World.iterPos, hit]
            by_cases ha : (s[pos]'hp).toNat < 128
            · have hdec := decode_ascii s pos hp ha
              have hone := all_one keyByte s pos hp
              have hof := ofKey_any ((s[pos]'hp).toNat : Int) (wr.iterAt w1.heap.size s (pos + 1))
              rw [hdec] at hnx hit2 hbw2
              simp only at hnx hit2 hbw2
              have hkb : (decide ((32 : Int) ≤ ((s[pos]'hp).toNat : Int)) && decide (((s[pos]'hp).toNat : Int) ≠ 47)) = keyByte (s[pos]'hp) := by
                unfold keyByte
                congr 1
                · exact decide_eq_decide.2 (by omega)
                · exact decide_eq_decide.2 (by omega)
              rw [hkb] at hof
              generalize wr.iterAt w1.heap.size s (pos + 1) = W1 at hnx hit2 hbw2 hof
              have HO := hide hone
              generalize ((s[pos]'hp).toNat : Int) = rr at hof hnx
              clear hone hdec hkb ha
              generalize keyByte (s[pos]'hp) = kb at HO hof
              cases kb with
              | true =>
                go_wp2_with (go_at_call 58; refine hof.mono ?_; rintro e w' ⟨rfl, rfl⟩)
                go_roundw
                case rel => exact ⟨pos + 1, by omega, hit2, hbw2, hide (by have := HO.out; rw [Bool.true_and] at this; rw [← this]; exact hrest.out)⟩
                case measure =>
                  have hmu2 : w'.iterPos w1.heap.size = pos + 1 := by simp [World.iterPos, hit2]
                  rw [hmu, hmu2]; omega
              | false =>
                have hE : ANS = false := by rw [← hrest.out, HO.out, Bool.false_and]
                have HE := hide hE
                clear hE
                go_wp2_with (go_at_call 58; refine hof.mono ?_; rintro e w' ⟨rfl, rfl⟩)
                go_ret
                exact ⟨by rw [HE.out]; rfl, hbw2⟩
            · obtain ⟨a1, a2, a3, a4⟩ := all_skip keyByte (fun b hb => by unfold keyByte; simp; omega) s pos hp (by rw [getD_byte s pos hp]; omega)
              have hof := ofKey_any ((Utf8.decode s pos).1 : Int) (wr.iterAt w1.heap.size s (pos + (Utf8.decode s pos).2))
              have hkb : (decide ((32 : Int) ≤ ((Utf8.decode s pos).1 : Int)) && decide (((Utf8.decode s pos).1 : Int) ≠ 47)) = true := by
                simp; omega
              rw [hkb] at hof
              have HS := hide a1
              clear a1 hkb ha
              generalize (Utf8.decode s pos).2 = ww at hnx hit2 hbw2 hof HS a2 a3
              generalize wr.iterAt w1.heap.size s (pos + ww) = W1 at hnx hit2 hbw2 hof
              generalize ((Utf8.decode s pos).1 : Int) = rr at hof hnx
              clear a4
              go_wp2_with (go_at_call 58; refine hof.mono ?_; rintro e w' ⟨rfl, rfl⟩)
              go_roundw
              case rel => exact ⟨pos + ww, a2, hit2, hbw2, hide (by rw [← HS.out]; exact hrest.out)⟩
              case measure =>
                have hmu2 : w'.iterPos w1.heap.size = pos + ww := by simp [World.iterPos, hit2]
                rw [hmu, hmu2]; omega
          · have hnx : ∀ ty, (Instr.next (.pointer (some ⟨w1.heap.size, 0, none⟩)) true ty).run Tryd.prog wr = _ := fun ty => Lib.run_next_end_at wr w1.heap.size s pos ty hit hp
            have hE : ANS = true := by
              rw [← hrest.out, List.drop_eq_nil_of_le (by rw [← Lib.size_eq]; omega)]; rfl
            have HE := hide hE
            clear hE
            go_wp2
            go_ret
            exact ⟨by rw [HE.out]; rfl, hbw⟩
    · have d2 : decide (s.size ≤ 64) = false := by simpa using h2
      have e1 : ¬ ((s.size : Int) < 1) := by omega
      have e2 : (64 : Int) < (s.size : Int) := by omega
      rw [d2, Bool.and_false, Bool.false_and, Bool.false_and]
      go_enter Tryd.func37, Tryd.ntmps37
      go_wp2
      go_ret
      exact ⟨rfl, Below.refl _ _⟩
  · have d1 : decide (1 ≤ s.size) = false := by simpa using h1
    have e1 : (s.size : Int) < 1 := by omega
    rw [d1, Bool.false_and, Bool.false_and, Bool.false_and]
    go_enter Tryd.func37, Tryd.ntmps37
    go_wp2
    go_ret
    exact ⟨rfl, Below.refl _ _⟩
end Go.Proofs.YtkdgageljgfgoaaDoor
