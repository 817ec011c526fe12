/-
  LABELS: what the program's Label answers.
-/
import Derived.Test.YtcpigbojebjlaaaDoorKey
namespace Go.Proofs.YtcpigbojebjlaaaDoor
open Go.RowKit Go.Shelf
set_option linter.unusedSimpArgs false

set_option maxHeartbeats 1000000 in
set_option maxRecDepth 100000 in
theorem label_any (s : ByteArray) (w : World) : Calls Tryd.prog 16 #[.string s] w fun e w' => e = .returned (.bool (labelB s.data.toList)) ∧ Below w.heap.size w w' := by
  unfold labelB
  rw [← Lib.size_eq]
  by_cases h1 : 1 ≤ s.size
  · by_cases h2 : s.size ≤ 12
    · have d1 : decide (1 ≤ s.size) = true := by simpa using h1
      have d2 : decide (s.size ≤ 12) = true := by simpa using h2
      have e1 : ¬ ((s.size : Int) < 1) := by omega
      have e2 : ¬ ((12 : Int) < (s.size : Int)) := by omega
      rw [d1, d2]
      obtain ⟨ANS, hANS⟩ : ∃ ANS, ANS = s.data.toList.all labelByte := ⟨_, rfl⟩
      rw [← hANS]
      simp only [Bool.true_and]
      have HA := hide hANS
      clear hANS
      go_enter Tryd.func16, Tryd.ntmps16
      go_wp2
      go_loopw [4] (fun _ wr => ∃ pos : Nat, pos ≤ s.size ∧ wr.heap[w.heap.size]? = some (.stringIter s pos) ∧ Below w.heap.size w wr ∧ Hid ((s.data.toList.drop pos).all labelByte = ANS)) (fun _ wr => s.size - wr.iterPos w.heap.size)
      case atStart =>
        refine ⟨0, Nat.zero_le _, ?_, (Below.refl _ w).alloc (Nat.le_refl _) _, hide (by simpa using HA.out.symm)⟩
        have := World.iter_heap w s 0
        simpa using this
      case round =>
        obtain ⟨pos, hps, hit, hbw, hrest⟩ := hrel
        have hsz : w.heap.size < wr.heap.size := (Array.getElem?_eq_some_iff.1 hit).1
        by_cases hp : pos < s.size
        · have hnx : ∀ ty, (Instr.next (.pointer (some ⟨w.heap.size, 0, none⟩)) true ty).run Tryd.prog wr = _ := fun ty => Lib.run_next_any_at wr w.heap.size s pos ty hit hp
          have hit2 := Lib.iterAt_heap wr w.heap.size s pos (pos + (Utf8.decode s pos).2) hit
          have hbw2 := Lib.below_iterAt hbw (k := w.heap.size) (by omega) s (pos + (Utf8.decode s pos).2)
          have hmu : wr.iterPos w.heap.size = pos := by simp [World.iterPos, hit]
          have hone := all_one labelByte s pos hp
          by_cases ha : (s[pos]'hp).toNat < 128
          · have hdec := decode_ascii s pos hp ha
            rw [hdec] at hnx hit2 hbw2
            simp only at hnx hit2 hbw2
            generalize wr.iterAt w.heap.size s (pos + 1) = W1 at hnx hit2 hbw2
            by_cases hlo : (s[pos]'hp).toNat < 97
            · have hE : ANS = false := by
                rw [← hrest.out, hone]
                have : labelByte (s[pos]'hp) = false := by unfold labelByte; simp; omega
                rw [this, Bool.false_and]
              have c1 : ((s[pos]'hp).toNat : Int) < 97 := by omega
              have HE := hide hE
              generalize ((s[pos]'hp).toNat : Int) = rr at c1 hnx
              clear hE hone hdec ha hlo
              go_wp2
              go_ret
              exact ⟨by rw [HE.out]; rfl, hbw2⟩
            · have c1 : ¬ (((s[pos]'hp).toNat : Int) < 97) := by omega
              by_cases hhi : 122 < (s[pos]'hp).toNat
              · have hE : ANS = false := by
                  rw [← hrest.out, hone]
                  have : labelByte (s[pos]'hp) = false := by unfold labelByte; simp; omega
                  rw [this, Bool.false_and]
                have c2 : (122 : Int) < ((s[pos]'hp).toNat : Int) := by omega
                have HE := hide hE
                generalize ((s[pos]'hp).toNat : Int) = rr at c1 c2 hnx
                clear hE hone hdec ha hlo hhi
                go_wp2
                go_ret
                exact ⟨by rw [HE.out]; rfl, hbw2⟩
              · have c2 : ¬ ((122 : Int) < ((s[pos]'hp).toNat : Int)) := by omega
                have hlb : labelByte (s[pos]'hp) = true := by unfold labelByte; simp; omega
                rw [hlb, Bool.true_and] at hone
                have HO := hide hone
                generalize ((s[pos]'hp).toNat : Int) = rr at c1 c2 hnx
                clear hlb hone hdec ha hlo hhi
                go_wp2
                go_roundw
                case rel => exact ⟨pos + 1, by omega, hit2, hbw2, hide (by rw [← HO.out]; exact hrest.out)⟩
                case measure =>
                  have hmu2 : W1.iterPos w.heap.size = pos + 1 := by simp [World.iterPos, hit2]
                  rw [hmu, hmu2]; omega
          · have hd := decode_high s pos hp (by omega)
            have hE : ANS = false := by
              rw [← hrest.out, hone]
              have : labelByte (s[pos]'hp) = false := by unfold labelByte; simp; omega
              rw [this, Bool.false_and]
            have c1 : ¬ (((Utf8.decode s pos).1 : Int) < 97) := by omega
            have c2 : (122 : Int) < ((Utf8.decode s pos).1 : Int) := by omega
            have HE := hide hE
            generalize (Utf8.decode s pos).2 = ww at hnx hit2 hbw2
            generalize wr.iterAt w.heap.size s (pos + ww) = W1 at hnx hit2 hbw2
            generalize ((Utf8.decode s pos).1 : Int) = rr at c1 c2 hnx
            clear hE hone ha hd
            go_wp2
            go_ret
            exact ⟨by rw [HE.out]; rfl, hbw2⟩
        · have hnx : ∀ ty, (Instr.next (.pointer (some ⟨w.heap.size, 0, none⟩)) true ty).run Tryd.prog wr = _ := fun ty => Lib.run_next_end_at wr w.heap.size s pos ty hit hp
          have hE : ANS = true := by
            rw [← hrest.out, List.drop_eq_nil_of_le (by rw [← Lib.size_eq]; omega)]; rfl
          have HE := hide hE
          clear hE
          go_wp2
          go_ret
          exact ⟨by rw [HE.out]; rfl, hbw⟩
    · have d2 : decide (s.size ≤ 12) = false := by simpa using h2
      have e1 : ¬ ((s.size : Int) < 1) := by omega
      have e2 : (12 : Int) < (s.size : Int) := by omega
      rw [d2, Bool.and_false, Bool.false_and]
      go_enter Tryd.func16, Tryd.ntmps16
      go_wp2
      go_ret
      exact ⟨rfl, Below.refl _ _⟩
  · have d1 : decide (1 ≤ s.size) = false := by simpa using h1
    have e1 : (s.size : Int) < 1 := by omega
    rw [d1, Bool.false_and, Bool.false_and]
    go_enter Tryd.func16, Tryd.ntmps16
    go_wp2
    go_ret
    exact ⟨rfl, Below.refl _ _⟩
end Go.Proofs.YtcpigbojebjlaaaDoor
