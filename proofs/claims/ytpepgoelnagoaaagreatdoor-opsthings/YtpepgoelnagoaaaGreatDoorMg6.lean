/-
  WORDS: plainly (wordB), and what the program's stands and Word answer.
  WORDS READ: plainly (firstB, unwordB), and what the program's first and Unword answer.
  WORDS READ: what the program's Unword answers.
  PLAINLY: a word is read as the text that it is the word of, and as no other; a path's text is split as the path whose text it is.
  RUNES, plainly: the document's reading of UTF-8, step by step, is the library's.
  THE DOCUMENT's runes, Key, Path: what they answer.
  THE DOCUMENT's Label, Text, Word, Unword: what they answer.
  THE DOCUMENT's Path, CmpPlace, Place, and the program's Place: what they answer.
-/
import Derived.Test.YtpepgoelnagoaaaGreatDoorMg4
import Derived.Test.YtpepgoelnagoaaaGreatDoorMg3
import Derived.Lib.ConvBytes
import Derived.Laws.BitsLemmas
import Derived.Deep.QuietTactic
import Derived.BigQuiet
import Derived.Test.YtpepgoelnagoaaaGreatDoorMg5
import Derived.Deep.DeepCutAuto
import Derived.Deep.CutBlock
namespace Go.Proofs.YtpepgoelnagoaaaGreatDoor
open Go.RowKit Go.Shelf
set_option linter.unusedSimpArgs false

def stand (b : UInt8) : Bool := decide (32 < b.toNat) && decide (b.toNat ≤ 126) && decide (b.toNat ≠ 37) && decide (b.toNat ≠ 59)
def hexd (n : Nat) : UInt8 := [48, 49, 50, 51, 52, 53, 54, 55, 56, 57, 65, 66, 67, 68, 69, 70].getD n 0
def wordByte (b : UInt8) : List UInt8 := if stand b then [b] else [37, hexd (b.toNat / 16), hexd (b.toNat % 16)]
def wordB (l : List UInt8) : List UInt8 := if l = [] then [37] else l.flatMap wordByte
theorem wordByte_length (b : UInt8) : (wordByte b).length ≤ 3 := by unfold wordByte; split <;> simp
theorem flat_length (l : List UInt8) : (l.flatMap wordByte).length ≤ 3 * l.length := by
  induction l with
  | nil => simp
  | cons b l ih => have := wordByte_length b; rw [List.flatMap_cons, List.length_append]; simp only [List.length_cons]; omega
theorem flat_take (l : List UInt8) (i : Nat) (h : i < l.length) : (l.take (i + 1)).flatMap wordByte = (l.take i).flatMap wordByte ++ wordByte (l.getD i 0) := by
  rw [List.take_succ_eq_append_getElem h, List.flatMap_append]
  simp [List.getD, List.getElem?_eq_getElem h]

/-- The byte of the digits at index i. -/
def digI (i : Int) : Int := ((hexd i.toNat).toNat : Int)
theorem run_index_digits {P : Program} (w : World) (t : TypeId) (k : IntKind) (i : Int) (h : P.underlying t = some .string) (h0 : 0 ≤ i) (h1 : i ≤ 15) :
    (Instr.index t (.string { data := #[48, 49, 50, 51, 52, 53, 54, 55, 56, 57, 65, 66, 67, 68, 69, 70] }) (.int k i)).run P w = .ok (.int .u8 (digI i)) w := by
  have hs : ({ data := #[48, 49, 50, 51, 52, 53, 54, 55, 56, 57, 65, 66, 67, 68, 69, 70] } : ByteArray).size = 16 := rfl
  have hi : 0 ≤ i ∧ i < (({ data := #[48, 49, 50, 51, 52, 53, 54, 55, 56, 57, 65, 66, 67, 68, 69, 70] } : ByteArray).size : Int) := by rw [hs]; omega
  rw [run_index_string w t _ k i h, dif_pos hi]
  obtain ⟨n, rfl⟩ := Int.eq_ofNat_of_zero_le h0
  have hn : n < 16 := by omega
  have : ∀ m : Fin 16, (({ data := #[48, 49, 50, 51, 52, 53, 54, 55, 56, 57, 65, 66, 67, 68, 69, 70] } : ByteArray)[m.val]'(by exact m.isLt)) = hexd m.val := by decide
  have e := this ⟨n, hn⟩
  simp only [digI, Int.toNat_natCast]
  simp only at e
  rw [← e]

theorem stands_any (c : UInt8) (w : World) : Calls Tryz.prog 140 #[.int .u8 (c.toNat : Int)] w fun e w' => e = .returned (.bool (stand c)) ∧ w' = w := by
  unfold stand
  generalize c.toNat = n
  by_cases h1 : 32 < n
  · by_cases h2 : n ≤ 126
    · by_cases h3 : n = 37
      · subst h3
        go_enter Tryz.func140, Tryz.ntmps140
        go_wp2
        go_ret
        exact ⟨rfl, rfl⟩
      · by_cases h4 : n = 59
        · subst h4
          go_enter Tryz.func140, Tryz.ntmps140
          go_wp2
          go_ret
          exact ⟨rfl, rfl⟩
        · have d : (decide (32 < n) && decide (n ≤ 126) && decide (n ≠ 37) && decide (n ≠ 59)) = true := by simp; omega
          rw [d]
          have e1 : (32 : Int) < (n : Int) := by omega
          have e2 : (n : Int) ≤ 126 := by omega
          have e3 : ((n : Int) != 37) = true := by simp; omega
          have e4 : ((n : Int) != 59) = true := by simp; omega
          have e5 : ((n : Int) == 37) = false := by simp; omega
          have e6 : ((n : Int) == 59) = false := by simp; omega
          go_enter Tryz.func140, Tryz.ntmps140
          go_wp2
          go_ret
          exact ⟨rfl, rfl⟩
    · have d : (decide (32 < n) && decide (n ≤ 126) && decide (n ≠ 37) && decide (n ≠ 59)) = false := by simp; omega
      rw [d]
      have e1 : (32 : Int) < (n : Int) := by omega
      have e2 : ¬ ((n : Int) ≤ 126) := by omega
      go_enter Tryz.func140, Tryz.ntmps140
      go_wp2
      go_ret
      exact ⟨rfl, rfl⟩
  · have d : (decide (32 < n) && decide (n ≤ 126) && decide (n ≠ 37) && decide (n ≠ 59)) = false := by simp; omega
    rw [d]
    have e1 : ¬ ((32 : Int) < (n : Int)) := by omega
    go_enter Tryz.func140, Tryz.ntmps140
    go_wp2
    go_ret
    exact ⟨rfl, rfl⟩

section
attribute [local go_sem high] run_index_digits
set_option maxHeartbeats 2000000 in
set_option maxRecDepth 100000 in
theorem word_any (s : ByteArray) (w : World) (hs : s.size ≤ 1000000) : Calls Tryz.prog 103 #[.string s] w fun e w' => e = .returned (.string ⟨(wordB s.data.toList).toArray⟩) ∧ Below w.heap.size w w' := by
  obtain ⟨l, hl⟩ : ∃ l, l = s.data.toList := ⟨_, rfl⟩
  have hln : l.length = s.size := by rw [hl, ← Lib.size_eq]
  by_cases h0 : s.size = 0
  · have hse : s = ⟨#[]⟩ := by
      apply ByteArray.ext
      apply Array.eq_empty_of_size_eq_zero
      exact h0
    subst hse
    go_enter Tryz.func103, Tryz.ntmps103
    go_wp2
    go_ret
    exact ⟨rfl, Below.refl _ _⟩
  · have hne : (s.toList == []) = false := by
      rw [beq_eq_false_iff_ne, ByteArray.toList_eq, ← hl]
      intro e; rw [e] at hln; simp at hln; omega
    have hlne : l ≠ [] := fun e => by rw [e] at hln; simp at hln; omega
    rw [wordB, ← hl, if_neg hlne]
    have hb0 : Below w.heap.size w (w.alloc (.cells #[.pointer none, .slice none 0 0] 179)) := (Below.refl _ w).alloc (Nat.le_refl _) _
    have hf0 := Bd.fresh w (w.heap.size + 2)
    have hs0 : (w.alloc (.cells #[.pointer none, .slice none 0 0] 179)).heap.size = w.heap.size + 1 := by simp
    have hcv := Lib.run_convert_string_bytes (P := Tryz.prog) (w.alloc (.cells #[.pointer none, .slice none 0 0] 179)) 9 26 5 s Tryz.underlying9 Tryz.underlying26 Tryz.underlying5
    have hcell := fun j hj => Lib.bytesWorld_cell (w.alloc (.cells #[.pointer none, .slice none 0 0] 179)) 5 s j hj
    have hold := fun j hj => Lib.bytesWorld_at_old (w.alloc (.cells #[.pointer none, .slice none 0 0] 179)) 5 s j hj
    have hsz := Lib.bytesWorld_size (w.alloc (.cells #[.pointer none, .slice none 0 0] 179)) 5 s
    have hos : (Lib.bytesWorld (w.alloc (.cells #[.pointer none, .slice none 0 0] 179)) 5 s).os = (w.alloc (.cells #[.pointer none, .slice none 0 0] 179)).os ∧ (Lib.bytesWorld (w.alloc (.cells #[.pointer none, .slice none 0 0] 179)) 5 s).tape = (w.alloc (.cells #[.pointer none, .slice none 0 0] 179)).tape ∧ (Lib.bytesWorld (w.alloc (.cells #[.pointer none, .slice none 0 0] 179)) 5 s).output = (w.alloc (.cells #[.pointer none, .slice none 0 0] 179)).output := ⟨rfl, rfl, rfl⟩
    rw [hs0] at hcv hcell hold hsz
    generalize Lib.bytesWorld (w.alloc (.cells #[.pointer none, .slice none 0 0] 179)) 5 s = W1 at hcv hcell hold hsz hos
    have hO1 : Only (fun _ => False) (w.alloc (.cells #[.pointer none, .slice none 0 0] 179)) W1 := ⟨hos.1, hos.2.1, hos.2.2, by omega, fun k hk _ => hold k (by omega)⟩
    have hf1 := hf0.only hO1 (fun d => d) (fun _ _ d => d)
    have hb1 : Below w.heap.size w W1 := Below.only hb0 hO1 (by omega) (fun _ d => d.elim)
    have hcell' : ∀ j, j < s.size → W1.cell? ⟨w.heap.size + 1, j, none⟩ = some (.int .u8 ((l.getD j 0).toNat : Int)) := fun j hj => by rw [hl]; exact hcell j hj
    have HI := hide (And.intro hf1 (And.intro hb1 hcell'))
    clear hf0 hf1 hb0 hb1 hO1 hos hold hcell hcell' hl
    go_enter Tryz.func103, Tryz.ntmps103
    go_wp2
    go_loopw [11] (fun iv wr => ∃ (i : Nat) (v : Value), i ≤ s.size ∧ iv = .int .i64 i ∧ Hid (Bd wr (w.heap.size + 2) w.heap.size v ((l.take i).flatMap wordByte)) ∧ Hid (∀ j, j < s.size → wr.cell? ⟨w.heap.size + 1, j, none⟩ = some (.int .u8 ((l.getD j 0).toNat : Int))) ∧ Hid (Below w.heap.size w wr ∧ w.heap.size + 2 ≤ wr.heap.size)) (fun iv _ => s.size - (intOf iv).toNat)
    case atStart => exact ⟨0, _, Nat.zero_le _, rfl, hide (by simpa using HI.out.1), hide HI.out.2.2, hide ⟨HI.out.2.1, by omega⟩⟩
    case round =>
      obtain ⟨i, v, hi, rfl, HB, HC, HW⟩ := hrel
      by_cases hlt : i < s.size
      · have hlt' : (i : Int) < (s.size : Int) := by omega
        have hdl : decide (i < s.size) = true := by simpa using hlt
        have hc := HC.out i hlt
        have hft := flat_take l i (by omega)
        obtain ⟨c, hcd⟩ : ∃ c, c = l.getD i 0 := ⟨_, rfl⟩
        rw [← hcd] at hc hft
        have hacc : ((l.take i).flatMap wordByte).length ≤ 3000000 := by
          have := flat_length (l.take i)
          have h2 : (l.take i).length ≤ 1000000 := by rw [List.length_take]; omega
          omega
        obtain ⟨acc, hac⟩ : ∃ acc, acc = (l.take i).flatMap wordByte := ⟨_, rfl⟩
        rw [← hac] at HB hft hacc
        have HF := hide hft
        have hst := stands_any c wr
        have hBlt := HB.out.lt
        clear hft hcd hac
        have hBD := HB.out
        have hks : ∀ (W : World), Only (fun k => k = w.heap.size ∨ w.heap.size + 2 ≤ k) wr W → (∀ j, j < s.size → W.cell? ⟨w.heap.size + 1, j, none⟩ = some (.int .u8 ((l.getD j 0).toNat : Int))) ∧ Below w.heap.size w W ∧ w.heap.size + 2 ≤ W.heap.size := fun W ho => by
          refine ⟨fun j hj => ho.cell (HC.out j hj) (fun e => ?_), Below.only HW.out.1 ho HW.out.1.size (fun k e => ?_), by have := ho.size; have := HW.out.2; omega⟩
          · simp at e
          · rcases e with e | e <;> omega
        have hmo : ∀ (W W' : World) (v' : Value) (m : List UInt8), Bd W (w.heap.size + 2) w.heap.size v' m → Only (fun k => k = w.heap.size ∨ v'.ownBlock = some k) W W' → Only (fun k => k = w.heap.size ∨ w.heap.size + 2 ≤ k) W W' := fun W W' v' m hb ho => ho.mono (fun k _ e => by
          rcases e with e | e
          · exact .inl e
          · exact .inr (hb.blk k e).1)
        have HM := hide hmo
        clear hmo
        have HK := hide hks
        clear hks
        by_cases hsd : stand c = true
        · rw [hsd] at hst
          have hwb := writeByte_any c hBD (by omega) HW.out.2
          have hwo : wordByte c = [c] := by rw [wordByte, if_pos hsd]
          rw [hwo] at HF
          generalize (c.toNat : Int) = cc at hst hwb hc
          have HBD := hide hBD
          clear hwo hsd hBD
          go_wp2_with (first
            | (go_at_call 140; refine hst.mono ?_; rintro e w' ⟨rfl, rfl⟩)
            | (go_at_call 135; refine hwb.mono ?_; rintro e W2 ⟨rfl, v2, hB2, o2⟩))
          go_roundw
          case rel =>
            obtain ⟨q1, q2, q3⟩ := HK.out W2 (HM.out _ _ _ _ HBD.out o2)
            exact ⟨i + 1, v2, by omega, by go_num, hide (by rw [HF.out]; exact hB2), hide q1, hide ⟨q2, q3⟩⟩
          case measure => simp [intOf]; omega
        · have hsf : stand c = false := by simpa using hsd
          rw [hsf] at hst
          have hwo : wordByte c = [37, hexd (c.toNat / 16), hexd (c.toNat % 16)] := by rw [wordByte, if_neg hsd]
          rw [hwo] at HF
          have hlt8 : c.toNat < 256 := c.toNat_lt
          have e1 : digI ((c.toNat : Int) / 16) = ((hexd (c.toNat / 16)).toNat : Int) := by rw [digI, show ((c.toNat : Int) / 16).toNat = c.toNat / 16 by omega]
          have e2 : digI ((c.toNat : Int) % 16) = ((hexd (c.toNat % 16)).toNat : Int) := by rw [digI, show ((c.toNat : Int) % 16).toNat = c.toNat % 16 by omega]
          have hand : bits .and .u8 (c.toNat : Int) 15 = (c.toNat : Int) % 16 := u8_and15 _ (by omega) (by omega)
          have hw37 : Calls Tryz.prog 135 #[.pointer (some ⟨w.heap.size, 0, none⟩), .int .u8 37] wr fun e w' => e = .returned .nilIface ∧ Wrote wr w' (w.heap.size + 2) w.heap.size v (acc ++ [37]) := writeByte_any 37 hBD (by omega) HW.out.2
          have hwA : ∀ W v', Bd W (w.heap.size + 2) w.heap.size v' (acc ++ [37]) → w.heap.size + 2 ≤ W.heap.size → Calls Tryz.prog 135 #[.pointer (some ⟨w.heap.size, 0, none⟩), .int .u8 (digI ((c.toNat : Int) / 16))] W fun e w' => e = .returned .nilIface ∧ Wrote W w' (w.heap.size + 2) w.heap.size v' (acc ++ [37] ++ [hexd (c.toNat / 16)]) := fun W v' h hW => by
            rw [e1]; exact writeByte_any _ h (by simp; omega) hW
          have hwB : ∀ W v', Bd W (w.heap.size + 2) w.heap.size v' (acc ++ [37] ++ [hexd (c.toNat / 16)]) → w.heap.size + 2 ≤ W.heap.size → Calls Tryz.prog 135 #[.pointer (some ⟨w.heap.size, 0, none⟩), .int .u8 (digI ((c.toNat : Int) % 16))] W fun e w' => e = .returned .nilIface ∧ Wrote W w' (w.heap.size + 2) w.heap.size v' (acc ++ [37] ++ [hexd (c.toNat / 16)] ++ [hexd (c.toNat % 16)]) := fun W v' h hW => by
            rw [e2]; exact writeByte_any _ h (by simp; omega) hW
          have k0 : 0 ≤ (c.toNat : Int) / 16 := by omega
          have k1 : (c.toNat : Int) / 16 ≤ 15 := by omega
          have k2 : 0 ≤ (c.toNat : Int) % 16 := by omega
          have k3 : (c.toNat : Int) % 16 ≤ 15 := by omega
          have HBD := hide hBD
          have hsW := HW.out.2
          generalize hexd (c.toNat / 16) = x1 at hwA hwB HF
          generalize hexd (c.toNat % 16) = x2 at hwB HF
          clear hwo hsd hsf hBD e1 e2 hlt8
          go_wp2_with (first
            | (go_at_call 140; refine hst.mono ?_; rintro e w' ⟨rfl, rfl⟩)
            | (go_at_call 135; refine hw37.mono ?_; rintro e W2 ⟨rfl, v2, hB2, o2⟩; have hA := hwA W2 v2 hB2 (Nat.le_trans hsW o2.size); clear hw37)
            | (go_at_call 135; refine hA.mono ?_; rintro e W3 ⟨rfl, v3, hB3, o3⟩; have hC := hwB W3 v3 hB3 (Nat.le_trans hsW (Nat.le_trans o2.size o3.size)); clear hA)
            | (go_at_call 135; refine hC.mono ?_; rintro e W4 ⟨rfl, v4, hB4, o4⟩))
          go_roundw
          case rel =>
            have t2 := HM.out _ _ _ _ HBD.out o2
            have t3 := t2.trans (HM.out _ _ _ _ hB2 o3) (fun _ _ e => e)
            obtain ⟨q1, q2, q3⟩ := HK.out W4 (t3.trans (HM.out _ _ _ _ hB3 o4) (fun _ _ e => e))
            exact ⟨i + 1, v4, by omega, by go_num, hide (by rw [HF.out]; simpa using hB4), hide q1, hide ⟨q2, q3⟩⟩
          case measure => simp [intOf]; omega
      · obtain rfl : i = s.size := by omega
        have hdl : decide (s.size < s.size) = false := by simp
        have hst := string_any HB.out (B' := w.heap.size) (Nat.le_refl _) (by omega) HW.out.1.size
        rw [List.take_of_length_le (by omega)] at hst
        have HW' := hide HW.out.1
        clear HB HC HI
        go_wp2_with (go_at_call 137; refine hst.mono ?_; rintro e w' ⟨rfl, b9⟩)
        go_ret
        exact ⟨rfl, HW'.out.trans b9⟩
end
end Go.Proofs.YtpepgoelnagoaaaGreatDoor
namespace Go.Proofs.YtpepgoelnagoaaaGreatDoor
open Go.RowKit Go.Shelf
set_option linter.unusedSimpArgs false

def hexv (c : UInt8) : Int := Lib.indexByte [48, 49, 50, 51, 52, 53, 54, 55, 56, 57, 65, 66, 67, 68, 69, 70] c
set_option maxRecDepth 100000 in
theorem hexv_range : ∀ n : Fin 256, -1 ≤ hexv n.val.toUInt8 ∧ hexv n.val.toUInt8 ≤ 15 := by decide +kernel
theorem hexv_le (c : UInt8) : -1 ≤ hexv c ∧ hexv c ≤ 15 := by
  have := hexv_range ⟨c.toNat, c.toNat_lt⟩
  simpa using this
def firstB (l : List UInt8) : UInt8 × Nat :=
  if stand (l.getD 0 0) then (l.getD 0 0, 1)
  else if (l.getD 0 0).toNat ≠ 37 ∨ l.length < 3 then (0, 0)
  else if hexv (l.getD 1 0) < 0 ∨ hexv (l.getD 2 0) < 0 then (0, 0)
  else if stand ((hexv (l.getD 1 0)).toNat * 16 + (hexv (l.getD 2 0)).toNat).toUInt8 then (0, 0)
  else (((hexv (l.getD 1 0)).toNat * 16 + (hexv (l.getD 2 0)).toNat).toUInt8, 3)
theorem firstB_le (l : List UInt8) (h : 0 < l.length) : (firstB l).2 ≤ l.length := by
  unfold firstB
  split
  · simp only; omega
  · split
    · simp
    · split
      · simp
      · split
        · simp
        · simp only; omega
def unwordGo : Nat → List UInt8 → Option (List UInt8)
  | 0, _ => some []
  | n + 1, l => if l = [] then some [] else if (firstB l).2 = 0 then none else (unwordGo n (l.drop (firstB l).2)).map ((firstB l).1 :: ·)
def unwordB (l : List UInt8) : Option (List UInt8) := if l = [] then none else if l = [37] then some [] else unwordGo l.length l

set_option maxRecDepth 100000 in
theorem or16 : ∀ (h l : Fin 16), bits .or .i64 ((h.val : Int) * 16) (l.val : Int) = ((h.val * 16 + l.val : Nat) : Int) := by decide +kernel

theorem index_any (c : UInt8) (w : World) : Calls Tryz.prog 243 #[.string { data := #[48, 49, 50, 51, 52, 53, 54, 55, 56, 57, 65, 66, 67, 68, 69, 70] }, .int .u8 (c.toNat : Int)] w fun e w' => e = .returned (.int .i64 (hexv c)) ∧ w' = w := by
  have := Tryz.strings_IndexByte { data := #[48, 49, 50, 51, 52, 53, 54, 55, 56, 57, 65, 66, 67, 68, 69, 70] } (c.toNat : Int) w
  simpa [hexv] using this

set_option maxHeartbeats 1000000 in
set_option maxRecDepth 100000 in
theorem first_any (s : ByteArray) (w : World) (h0 : 0 < s.size) : Calls Tryz.prog 241 #[.string s] w fun e w' => e = .returned (.tuple #[.int .u8 ((firstB s.data.toList).1.toNat : Int), .int .i64 ((firstB s.data.toList).2 : Int)]) ∧ ∃ n, w' = w.drewN n := by
  have hl : s.data.toList.length = s.size := (Lib.size_eq s).symm
  have z0 : (0 : Int) < (s.size : Int) := by omega
  have g0 := getD_byte s 0 h0
  unfold firstB
  rw [hl, g0]
  obtain ⟨c0, hc0⟩ : ∃ c0, s[0]'h0 = c0 := ⟨_, rfl⟩
  rw [hc0]
  have hs0 := fun W => stands_any c0 W
  have hx : ∀ W, (Instr.index 9 (.string s) (.int .i64 0)).run Tryz.prog W = .ok (.int .u8 (c0.toNat : Int)) W := fun W => by
    rw [run_index_string W 9 s .i64 0 Tryz.underlying9, dif_pos ⟨by omega, z0⟩]
    rw [← hc0]; rfl
  by_cases hst : stand c0 = true
  · rw [if_pos hst]
    rw [hst] at hs0
    go_enter Tryz.func241, Tryz.ntmps241
    go_wp2_with (go_at_call 140; refine (hs0 _).mono ?_; rintro e w' ⟨rfl, rfl⟩)
    go_ret2
    exact ⟨rfl, 0, rfl⟩
  · rw [if_neg hst]
    have hsf : stand c0 = false := by simpa using hst
    rw [hsf] at hs0
    by_cases h37 : c0.toNat = 37
    · by_cases h3 : s.size < 3
      · rw [if_pos (.inr h3)]
        have e1 : ((c0.toNat : Int) != 37) = false := by simp [h37]
        have e1' : ((c0.toNat : Int) == 37) = true := by simp [h37]
        have e2 : (s.size : Int) < 3 := by omega
        generalize (c0.toNat : Int) = k0 at e1 e1' hs0 hx
        clear hst hsf h37 hc0 g0
        go_enter Tryz.func241, Tryz.ntmps241
        go_wp2_with (go_at_call 140; refine (hs0 _).mono ?_; rintro e w' ⟨rfl, rfl⟩)
        go_ret2
        exact ⟨rfl, 0, rfl⟩
      · rw [if_neg (by omega), getD_byte s 1 (by omega), getD_byte s 2 (by omega)]
        have e1 : ((c0.toNat : Int) != 37) = false := by simp [h37]
        have e1' : ((c0.toNat : Int) == 37) = true := by simp [h37]
        have e2 : ¬ ((s.size : Int) < 3) := by omega
        obtain ⟨c1, hc1⟩ : ∃ c1, s[1]'(by omega) = c1 := ⟨_, rfl⟩
        obtain ⟨c2, hc2⟩ : ∃ c2, s[2]'(by omega) = c2 := ⟨_, rfl⟩
        rw [hc1, hc2]
        have hx1 : ∀ W, (Instr.index 9 (.string s) (.int .i64 1)).run Tryz.prog W = .ok (.int .u8 (c1.toNat : Int)) W := fun W => by
          rw [run_index_string W 9 s .i64 1 Tryz.underlying9, dif_pos ⟨by omega, by omega⟩]
          rw [← hc1]; rfl
        have hx2 : ∀ W, (Instr.index 9 (.string s) (.int .i64 2)).run Tryz.prog W = .ok (.int .u8 (c2.toNat : Int)) W := fun W => by
          rw [run_index_string W 9 s .i64 2 Tryz.underlying9, dif_pos ⟨by omega, by omega⟩]
          rw [← hc2]; rfl
        have hi1 := fun W => index_any c1 W
        have hi2 := fun W => index_any c2 W
        obtain ⟨r1, r1'⟩ := hexv_le c1
        obtain ⟨r2, r2'⟩ := hexv_le c2
        generalize hexv c1 = v1 at hi1 r1 r1' ⊢
        generalize hexv c2 = v2 at hi2 r2 r2' ⊢
        generalize (c1.toNat : Int) = k1 at hx1 hi1
        generalize (c2.toNat : Int) = k2 at hx2 hi2
        generalize (c0.toNat : Int) = k0 at e1 e1' hs0 hx
        clear hst hsf h37 hc0 g0 hc1 hc2 c1 c2
        by_cases hv1 : v1 < 0
        · rw [if_pos (.inl hv1)]
          go_enter Tryz.func241, Tryz.ntmps241
          go_wp2_with (go_at_call 140; refine (hs0 _).mono ?_; rintro e w' ⟨rfl, rfl⟩)
          go_quiet (first | (go_at_call 243; refine Calls.quiet_of_same (hi1 _)) | (go_at_call 243; refine Calls.quiet_of_same (hi2 _)))
          go_wp2
          go_ret2
          exact ⟨rfl, _, rfl⟩
        · by_cases hv2 : v2 < 0
          · rw [if_pos (.inr hv2)]
            go_enter Tryz.func241, Tryz.ntmps241
            go_wp2_with (go_at_call 140; refine (hs0 _).mono ?_; rintro e w' ⟨rfl, rfl⟩)
            go_quiet (first | (go_at_call 243; refine Calls.quiet_of_same (hi1 _)) | (go_at_call 243; refine Calls.quiet_of_same (hi2 _)))
            go_wp2
            go_ret2
            exact ⟨rfl, _, rfl⟩
          · rw [if_neg (by omega)]
            obtain ⟨x1, rfl⟩ := Int.eq_ofNat_of_zero_le (show 0 ≤ v1 by omega)
            obtain ⟨x2, rfl⟩ := Int.eq_ofNat_of_zero_le (show 0 ≤ v2 by omega)
            simp only [Int.toNat_natCast]
            have hor := or16 ⟨x1, by omega⟩ ⟨x2, by omega⟩
            simp only at hor
            have hlt : x1 * 16 + x2 < 256 := by omega
            have hcn : ((x1 * 16 + x2).toUInt8).toNat = x1 * 16 + x2 := by simp; omega
            have hs3 := fun W => stands_any (x1 * 16 + x2).toUInt8 W
            rw [hcn] at hs3
            have hwr : IntKind.u8.wrap ((x1 * 16 + x2 : Nat) : Int) = ((x1 * 16 + x2 : Nat) : Int) := by rw [IntKind.wrap_u8]; omega
            generalize hX : x1 * 16 + x2 = X at hor hlt hcn hs3 hwr ⊢
            by_cases hst3 : stand X.toUInt8 = true
            · rw [if_pos hst3]
              rw [hst3] at hs3
              go_enter Tryz.func241, Tryz.ntmps241
              go_wp2_with (go_at_call 140; refine (hs0 _).mono ?_; rintro e w' ⟨rfl, rfl⟩)
              go_quiet (first | (go_at_call 243; refine Calls.quiet_of_same (hi1 _)) | (go_at_call 243; refine Calls.quiet_of_same (hi2 _)))
              go_wp2_with (go_at_call 140; refine (hs3 _).mono ?_; rintro e w' ⟨rfl, rfl⟩)
              go_ret2
              exact ⟨rfl, _, rfl⟩
            · rw [if_neg hst3]
              have hst3' : stand X.toUInt8 = false := by simpa using hst3
              rw [hst3'] at hs3
              simp only [hcn]
              go_enter Tryz.func241, Tryz.ntmps241
              go_wp2_with (go_at_call 140; refine (hs0 _).mono ?_; rintro e w' ⟨rfl, rfl⟩)
              go_quiet (first | (go_at_call 243; refine Calls.quiet_of_same (hi1 _)) | (go_at_call 243; refine Calls.quiet_of_same (hi2 _)))
              go_wp2_with (go_at_call 140; refine (hs3 _).mono ?_; rintro e w' ⟨rfl, rfl⟩)
              go_ret2
              exact ⟨rfl, _, rfl⟩
    · rw [if_pos (.inl h37)]
      have e1 : ((c0.toNat : Int) != 37) = true := by simp; omega
      have e1' : ((c0.toNat : Int) == 37) = false := by simp; omega
      generalize (c0.toNat : Int) = k0 at e1 e1' hs0 hx
      clear hst hsf h37 hc0 g0
      go_enter Tryz.func241, Tryz.ntmps241
      go_wp2_with (go_at_call 140; refine (hs0 _).mono ?_; rintro e w' ⟨rfl, rfl⟩)
      go_ret2
      exact ⟨rfl, 0, rfl⟩
end Go.Proofs.YtpepgoelnagoaaaGreatDoor
namespace Go.Proofs.YtpepgoelnagoaaaGreatDoor
open Go.RowKit Go.Shelf
set_option linter.unusedSimpArgs false

/-- What Unword answers. -/
def unE (r : Option (List UInt8)) : Value := match r with | some l => .tuple #[.string ⟨l.toArray⟩, .int .i64 0] | none => .tuple #[.string ⟨#[]⟩, .int .i64 4]
theorem toList_of (s : ByteArray) : s.toList = s.data.toList := by rw [ByteArray.toList_eq]
theorem empty_of {s : ByteArray} (h : s.size = 0) : s = ⟨#[]⟩ := by
  apply ByteArray.ext
  exact Array.eq_empty_of_size_eq_zero h
theorem unwordGo_step {n : Nat} {l : List UInt8} (hne : l ≠ []) : unwordGo (n + 1) l = if (firstB l).2 = 0 then none else (unwordGo n (l.drop (firstB l).2)).map ((firstB l).1 :: ·) := by
  rw [unwordGo, if_neg hne]
set_option maxHeartbeats 2000000 in
set_option maxRecDepth 100000 in
theorem unword_any (s : ByteArray) (w : World) (hs : s.size ≤ 1000000) : Calls Tryz.prog 238 #[.string s] w fun e w' => e = .returned (unE (unwordB s.data.toList)) ∧ Below w.heap.size w w' := by
  have hl : s.data.toList.length = s.size := (Lib.size_eq s).symm
  by_cases h0 : s.size = 0
  · obtain rfl := empty_of h0
    go_enter Tryz.func238, Tryz.ntmps238
    go_wp2
    go_ret2
    exact ⟨rfl, Below.refl _ _⟩
  · by_cases h37 : s.data.toList = [37]
    · have : s = ⟨#[37]⟩ := by
        apply ByteArray.ext
        apply Array.toList_inj.1
        exact h37
      subst this
      go_enter Tryz.func238, Tryz.ntmps238
      go_wp2
      go_ret2
      exact ⟨rfl, Below.refl _ _⟩
    · have hne : s.data.toList ≠ [] := fun e => by rw [e] at hl; simp at hl; omega
      have b1 : (s.toList == []) = false := by rw [beq_eq_false_iff_ne, toList_of]; exact hne
      have b2 : (s.toList == [37]) = false := by rw [beq_eq_false_iff_ne, toList_of]; exact h37
      rw [unwordB, if_neg hne, if_neg h37]
      obtain ⟨R, hR⟩ : ∃ R, R = unwordGo s.data.toList.length s.data.toList := ⟨_, rfl⟩
      rw [← hR]
      have HR := hide hR
      clear hR h37 hne
      have hb0 : Below w.heap.size w (w.alloc (.cells #[.pointer none, .slice none 0 0] 179)) := (Below.refl _ w).alloc (Nat.le_refl _) _
      have hf0 := Bd.fresh w (w.heap.size + 1)
      have HI := hide (And.intro hb0 hf0)
      clear hb0 hf0
      go_enter Tryz.func238, Tryz.ntmps238
      go_wp2
      go_loopw [5] (fun rv wr => ∃ (t : ByteArray) (v : Value) (acc : List UInt8) (n : Nat), rv = .string t ∧ t.size ≤ n ∧ acc.length + t.size ≤ s.size ∧ Hid (Bd wr (w.heap.size + 1) w.heap.size v acc) ∧ Hid ((unwordGo n t.data.toList).map (acc ++ ·) = R) ∧ Hid (Below w.heap.size w wr ∧ w.heap.size + 1 ≤ wr.heap.size)) (fun rv _ => match rv with | .string t => t.size | _ => 0)
      case atStart => exact ⟨s, _, [], s.data.toList.length, rfl, by omega, by simp, hide HI.out.2, hide (by rw [HR.out]; simp), hide ⟨HI.out.1, by simp⟩⟩
      case round =>
        obtain ⟨t, v, acc, n, rfl, htn, hac, HB, HG, HW⟩ := hrel
        have htl : t.data.toList.length = t.size := (Lib.size_eq t).symm
        by_cases ht0 : t.size = 0
        · obtain rfl := empty_of ht0
          have hRR : R = some acc := by
            rw [← HG.out]
            cases n with
            | zero => simp [unwordGo]
            | succ n => simp [unwordGo]
          have hst := string_any HB.out (B' := w.heap.size) (Nat.le_refl _) (by omega) HW.out.1.size
          have HE := hide hRR
          have HW' := hide HW.out.1
          clear hRR HB HG HI
          go_wp2_with (go_at_call 137; refine hst.mono ?_; rintro e w' ⟨rfl, b9⟩)
          go_ret2
          exact ⟨by rw [HE.out]; rfl, HW'.out.trans b9⟩
        · have hne : t.data.toList ≠ [] := fun e => by rw [e] at htl; simp at htl; omega
          have b3 : (t.toList == []) = false := by rw [beq_eq_false_iff_ne, toList_of]; exact hne
          obtain ⟨m, rfl⟩ : ∃ m, n = m + 1 := ⟨n - 1, by omega⟩
          have hstp := unwordGo_step (n := m) hne
          have hfi := fun W => first_any t W (by omega)
          have hle := firstB_le t.data.toList (by omega)
          generalize firstB t.data.toList = F at hstp hfi hle
          obtain ⟨fc, fn⟩ := F
          simp only at hstp hfi hle
          have HS := hide hstp
          clear hstp hne
          by_cases hz : fn = 0
          · have hz1 : ((fn : Int) == 0) = true := by simp [hz]
            have hRR : R = none := by rw [← HG.out, HS.out, if_pos hz]; rfl
            have HE := hide hRR
            clear hRR hz
            go_wp2_with (go_at_call 241; refine (hfi _).mono ?_; rintro e w' ⟨rfl, nq, rfl⟩)
            go_ret2
            exact ⟨by rw [HE.out]; rfl, HW.out.1.trans ⟨rfl, rfl, rfl, Nat.le_refl _, fun _ _ => rfl⟩⟩
          · have hz1 : ((fn : Int) == 0) = false := by simp; omega
            have hwb : ∀ nq, Calls Tryz.prog 135 #[.pointer (some ⟨w.heap.size, 0, none⟩), .int .u8 (fc.toNat : Int)] (wr.drewN nq) fun e w' => e = .returned .nilIface ∧ Wrote (wr.drewN nq) w' (w.heap.size + 1) w.heap.size v (acc ++ [fc]) := fun nq => writeByte_any fc (HB.out.only (D := None) ⟨rfl, rfl, rfl, Nat.le_refl _, fun _ _ _ => rfl⟩ (fun d => d) (fun _ _ d => d)) (by omega) HW.out.2
            have hsl1 : (fn : Int) ≤ (t.size : Int) := by omega
            have hsl0 : (0 : Int) ≤ (fn : Int) := by omega
            have HZ := hide hz
            clear hz
            go_wp2_with (first
              | (go_at_call 241; refine (hfi _).mono ?_; rintro e w' ⟨rfl, nq, rfl⟩; have hwb' := hwb nq)
              | (go_at_call 135; refine hwb'.mono ?_; rintro e W2 ⟨rfl, v2, hB2, o2⟩))
            have e1 : (t.extract fn t.size).size = t.size - fn := Lib.ext_size t fn
            have e2 : (t.extract fn t.size).data.toList = t.data.toList.drop fn := Lib.ext_list t fn
            have hz := HZ.out
            refine ⟨⟨t.extract fn t.size, v2, acc ++ [fc], m, rfl, by omega, by simp only [List.length_append, List.length_cons, List.length_nil]; omega, hide hB2, hide ?_, hide ⟨?_, ?_⟩⟩, ?_⟩
            · rw [← HG.out, HS.out, if_neg hz, e2, Option.map_map]
              congr 1
              funext x
              simp
            · refine Below.only HW.out.1 (Only.trans (w1 := wr.drewN nq) ⟨rfl, rfl, rfl, Nat.le_refl _, fun _ _ _ => rfl⟩ o2 (fun _ _ e => e)) HW.out.1.size (fun k e => ?_)
              rcases e with e | e
              · omega
              · have := (HB.out.blk k e).1; omega
            · exact Nat.le_trans HW.out.2 o2.size
            · simp only; omega
end Go.Proofs.YtpepgoelnagoaaaGreatDoor
namespace Go.Proofs.YtpepgoelnagoaaaGreatDoor

set_option maxRecDepth 100000 in
theorem hex_back : ∀ n : Fin 256, 0 ≤ hexv n.val.toUInt8 → hexd (hexv n.val.toUInt8).toNat = n.val.toUInt8 := by decide +kernel
theorem hex_fact (b : UInt8) (h : 0 ≤ hexv b) : hexd (hexv b).toNat = b := by
  have := hex_back ⟨b.toNat, b.toNat_lt⟩
  simp at this
  exact this h

theorem wordByte_ne (b : UInt8) : wordByte b ≠ [] := by unfold wordByte; split <;> simp
theorem first_take {l : List UInt8} (hl : l ≠ []) (h : (firstB l).2 ≠ 0) : l = wordByte (firstB l).1 ++ l.drop (firstB l).2 := by
  cases l with
  | nil => exact absurd rfl hl
  | cons b t =>
    unfold firstB at h ⊢
    simp only [List.getD_cons_zero, List.getD_cons_succ] at h ⊢
    by_cases hs : stand b = true
    · rw [if_pos hs]
      have hw : wordByte b = [b] := by unfold wordByte; rw [if_pos hs]
      simp [hw]
    · rw [if_neg hs] at h ⊢
      by_cases h3 : b.toNat ≠ 37 ∨ (b :: t).length < 3
      · rw [if_pos h3] at h; exact absurd rfl h
      · rw [if_neg h3] at h ⊢
        match t, h3 with
        | x :: y :: r, h3 =>
          simp only [List.getD_cons_zero, List.getD_cons_succ] at h ⊢
          by_cases h4 : hexv x < 0 ∨ hexv y < 0
          · rw [if_pos h4] at h; exact absurd rfl h
          · rw [if_neg h4] at h ⊢
            by_cases h5 : stand ((hexv x).toNat * 16 + (hexv y).toNat).toUInt8 = true
            · rw [if_pos h5] at h; exact absurd rfl h
            · rw [if_neg h5]
              have b1 := hexv_le x
              have b2 := hexv_le y
              have ev : ((hexv x).toNat * 16 + (hexv y).toNat).toUInt8.toNat = (hexv x).toNat * 16 + (hexv y).toNat := by
                simp; omega
              have hb : b = 37 := by apply UInt8.toNat_inj.1; simp; omega
              simp only
              unfold wordByte
              rw [if_neg h5, ev]
              simp only [List.cons_append, List.nil_append, List.drop_succ_cons, List.drop_zero]
              rw [show ((hexv x).toNat * 16 + (hexv y).toNat) / 16 = (hexv x).toNat by omega, show ((hexv x).toNat * 16 + (hexv y).toNat) % 16 = (hexv y).toNat by omega, hex_fact x (by omega), hex_fact y (by omega), hb]
        | [], h3 => simp at h3
        | [x], h3 => simp at h3
theorem unwordGo_sound : ∀ (n : Nat) (l t : List UInt8), l.length ≤ n → unwordGo n l = some t → t.flatMap wordByte = l
  | 0, l, t, h, e => by
    have : l = [] := List.eq_nil_of_length_eq_zero (by omega)
    subst this
    simp only [unwordGo, Option.some.injEq] at e
    subst e
    rfl
  | n + 1, l, t, h, e => by
    by_cases hl : l = []
    · subst hl
      simp only [unwordGo, if_true, Option.some.injEq] at e
      subst e
      rfl
    · rw [unwordGo_step hl] at e
      by_cases h0 : (firstB l).2 = 0
      · rw [if_pos h0] at e; cases e
      · rw [if_neg h0] at e
        cases hr : unwordGo n (l.drop (firstB l).2) with
        | none => rw [hr] at e; cases e
        | some u =>
          rw [hr] at e
          simp only [Option.map_some, Option.some.injEq] at e
          subst e
          have := unwordGo_sound n (l.drop (firstB l).2) u (by rw [List.length_drop]; omega) hr
          rw [List.flatMap_cons, this]
          exact (first_take hl h0).symm
/-- What is read of a word has that word. -/
theorem unword_sound {l t : List UInt8} (h : unwordB l = some t) : wordB t = l := by
  unfold unwordB at h
  by_cases h0 : l = []
  · rw [if_pos h0] at h; cases h
  · rw [if_neg h0] at h
    by_cases h1 : l = [37]
    · rw [if_pos h1] at h
      cases h
      exact h1.symm
    · rw [if_neg h1] at h
      have e := unwordGo_sound _ _ _ (Nat.le_refl _) h
      unfold wordB
      by_cases ht : t = []
      · subst ht
        exact absurd e.symm h0
      · rw [if_neg ht]
        exact e
theorem cut47_back : ∀ l : List UInt8, l = if (cut47 l).2.2 then (cut47 l).1 ++ 47 :: (cut47 l).2.1 else (cut47 l).1
  | [] => rfl
  | b :: t => by
    rw [cut47]
    by_cases hb : b = 47
    · rw [if_pos hb]; simp [hb]
    · rw [if_neg hb]
      have h := cut47_back t
      simp only
      split
      · next h2 => rw [if_pos h2] at h; rw [List.cons_append, ← h]
      · next h2 => rw [if_neg h2] at h; rw [← h]
/-- What is split has that text. -/
theorem splitGo_sound : ∀ (n : Nat) (acc : List (List UInt8)) (rest : List UInt8) (L : List (List UInt8)), acc.length ≤ 6 → splitGo n acc rest = some L → ∃ M, L = acc ++ M ∧ L.length ≤ 6 ∧ (∀ k ∈ M, keyB k = true) ∧ M.flatMap (fun k => 47 :: k) = 47 :: rest
  | 0, _, _, _, _, h => by simp [splitGo] at h
  | n + 1, acc, rest, L, h6, h => by
    rw [splitGo] at h
    by_cases h1 : acc.length = 6 ∨ keyB (cut47 rest).1 = false
    · rw [if_pos h1] at h; cases h
    · rw [if_neg h1] at h
      have hk : keyB (cut47 rest).1 = true := by
        cases hh : keyB (cut47 rest).1
        · exact absurd (.inr hh) h1
        · rfl
      have hb := cut47_back rest
      by_cases hm : (cut47 rest).2.2 = true
      · rw [if_pos hm] at h hb
        obtain ⟨M, hL, hl, hks, hj⟩ := splitGo_sound n _ _ _ (by rw [List.length_append, List.length_singleton]; omega) h
        refine ⟨(cut47 rest).1 :: M, by rw [hL]; simp, hl, ?_, ?_⟩
        · intro q hq
          rcases List.mem_cons.1 hq with e | e
          · rw [e]; exact hk
          · exact hks q e
        · rw [List.flatMap_cons, hj]
          exact congrArg (47 :: ·) hb.symm
      · rw [if_neg hm] at h hb
        cases h
        refine ⟨[(cut47 rest).1], rfl, by rw [List.length_append, List.length_singleton]; omega, by simpa using hk, ?_⟩
        simp only [List.flatMap_cons, List.flatMap_nil, List.append_nil]
        exact congrArg (47 :: ·) hb.symm
theorem keysOf_all (L : List (List UInt8)) (h6 : L.length ≤ 6) (h : ∀ k ∈ L, keyB k = true) : pathB (keysOf L) = true := by
  unfold pathB keysOf
  simp only [List.length_map, List.all_map, Bool.and_eq_true, decide_eq_true_eq, List.all_eq_true]
  exact ⟨h6, fun k hk => h k hk⟩
theorem keysOf_flat (L : List (List UInt8)) : (keysOf L).flatMap (fun s => 47 :: s.data.toList) = L.flatMap (fun k => 47 :: k) := by
  unfold keysOf
  rw [List.flatMap_map]
theorem keysOf_nil {L : List (List UInt8)} : keysOf L = [] ↔ L = [] := by unfold keysOf; simp
theorem prefix47 {l : List UInt8} (h : Lib.hasPrefix l [47] = true) : l = 47 :: l.drop 1 := by
  cases l with
  | nil => simp [Lib.hasPrefix] at h
  | cons b t =>
    have : 47 = b := by simpa [Lib.hasPrefix] using h
    rw [← this]; rfl
theorem split_sound {s : List UInt8} {L : List (List UInt8)} (h : splitB s = some L) : pathB (keysOf L) = true ∧ joinB (keysOf L) = s := by
  unfold splitB at h
  by_cases hp : Lib.hasPrefix s [47] = true
  · rw [if_pos hp] at h
    have hs := prefix47 hp
    by_cases h0 : s.drop 1 = []
    · rw [if_pos h0] at h
      cases h
      refine ⟨rfl, ?_⟩
      rw [hs, h0]
      rfl
    · rw [if_neg h0] at h
      obtain ⟨M, hL, hl, hk, hj⟩ := splitGo_sound 8 [] _ L (by simp) h
      rw [List.nil_append] at hL
      subst hL
      refine ⟨keysOf_all L hl hk, ?_⟩
      unfold joinB
      have hne : keysOf L ≠ [] := fun e => by
        rw [keysOf_nil] at e
        subst e
        cases hj
      rw [if_neg hne, keysOf_flat, hj]
      exact hs.symm
  · rw [if_neg hp] at h; cases h
end Go.Proofs.YtpepgoelnagoaaaGreatDoor
namespace Go.Proofs.YtpepgoelnagoaaaGreatDoor

def badRune (r least : Nat) : Prop := r < least ∨ 1114111 < r ∨ (55296 ≤ r ∧ r ≤ 57343)
instance (r least : Nat) : Decidable (badRune r least) := by unfold badRune; infer_instance
end Go.Proofs.YtpepgoelnagoaaaGreatDoor
namespace Go.Proofs.YtpepgoelnagoaaaGreatDoor
open Go.RowKit Go.Shelf
set_option linter.unusedSimpArgs false

/-- The slice value v owns the numbers L, in a block from B on. -/
def Oi (w : World) (B : Nat) (v : Value) (L : List Nat) : Prop := w.ownsRow B 3 1 v L.length (L.map (fun (n : Nat) => Value.int .i64 (n : Int)))
theorem Oi.nil (w : World) (B : Nat) : Oi w B (.slice none 0 0) [] := World.ownsRow_nil _ _ _ _
theorem Oi.shape {w : World} {B : Nat} {v : Value} {L : List Nat} (h : Oi w B v L) : ∃ ao c, v = .slice ao L.length c ∧ ∀ (j n : Nat), L[j]? = some n → ∃ g off, ao = some ⟨g, off, none⟩ ∧ w.cell? ⟨g, off + j, none⟩ = some (.int .i64 (n : Int)) := by
  have hcells := fun g => World.ownsRow.cells h (g := g)
  rcases h.2 with ⟨rfl, hn⟩ | ⟨g, cap, cur, rfl, hb, hg, hnc, rest⟩
  · refine ⟨none, 0, by rw [hn], fun j n hj => ?_⟩
    rw [List.eq_nil_of_length_eq_zero hn] at hj
    cases hj
  · refine ⟨some ⟨g, 0, none⟩, cap, rfl, fun j n hj => ⟨g, 0, rfl, ?_⟩⟩
    have := hcells g rfl j (.int .i64 (n : Int)) (by rw [List.getElem?_map, hj]; rfl)
    rw [add_lit] at this
    exact this

end Go.Proofs.YtpepgoelnagoaaaGreatDoor
namespace Go.Proofs.YtpepgoelnagoaaaGreatDoor
open Go.RowKit Go.Shelf
set_option linter.unusedSimpArgs false

def ints (l : List UInt8) : List Int := l.map (fun b => (b.toNat : Int))
theorem ints_length (l : List UInt8) : (ints l).length = l.length := by simp [ints]
theorem text_any (s : ByteArray) (w : World) : Calls Tryz.prog 95 #[.string s] w fun e w' => e = .returned (.bool (decide (s.size ≤ 256))) ∧ w' = w := by
  by_cases h : s.size ≤ 256
  · have z : (s.size : Int) ≤ 256 := by omega
    have d : decide (s.size ≤ 256) = true := by simpa using h
    rw [d]
    go_enter Tryz.func95, Tryz.ntmps95
    go_wp2
    go_ret
    exact ⟨rfl, rfl⟩
  · have z : ¬ (s.size : Int) ≤ 256 := by omega
    have d : decide (s.size ≤ 256) = false := by simpa using h
    rw [d]
    go_enter Tryz.func95, Tryz.ntmps95
    go_wp2
    go_ret
    exact ⟨rfl, rfl⟩
end Go.Proofs.YtpepgoelnagoaaaGreatDoor
namespace Go.Proofs.YtpepgoelnagoaaaGreatDoor
open Go.RowKit Go.Shelf
set_option linter.unusedSimpArgs false

theorem below_dr {B : Nat} {w wr : World} (h : Below B w wr) (n : Nat) : Below B w (wr.drewN n) := h.trans ⟨rfl, rfl, rfl, Nat.le_refl _, fun _ _ => rfl⟩


set_option maxHeartbeats 1000000 in
set_option maxRecDepth 100000 in
theorem refCmpPlace_any {w : World} {a b : Option Addr} {c d : Nat} {l m : List ByteArray} (x y : Int) (s t : ByteArray) (hl : Rs w a l) (hm : Rs w b m) (hn : l.length ≤ 9223372036854775807) (hz : ∀ s ∈ l, s.size ≤ 9223372036854775807) (hs : s.size ≤ 9223372036854775807) :
    Calls Tryz.prog 40 #[plv a l.length c x s, plv b m.length d y t] w fun e w' => e = .returned (.int .i64 (cmpL l m x y s t)) ∧ Below w.heap.size w w' := by
  obtain ⟨N, hN⟩ : ∃ N, N = l.length := ⟨_, rfl⟩
  obtain ⟨M, hM⟩ : ∃ M, M = m.length := ⟨_, rfl⟩
  have hcp : ∀ W, Below w.heap.size w W → Calls Tryz.prog 86 #[.slice a N c, .slice b M d] W fun e w' => e = .returned (.int .i64 (cmpP l m)) ∧ ∃ n, w' = W.drewN n := fun W hW => by rw [hN, hM]; exact refCmpPath_any (hl.below hW) (hm.below hW) hn hz
  rw [← hN, ← hM]
  obtain ⟨m0, m1⟩ := new2 w (.cells #[.slice a N c, .int .i64 x, .string s] 75) (.cells #[.slice b M d, .int .i64 y, .string t] 75)
  have hb : Below w.heap.size w ((w.alloc (.cells #[.slice a N c, .int .i64 x, .string s] 75)).alloc (.cells #[.slice b M d, .int .i64 y, .string t] 75)) := ((Below.refl _ w).alloc (Nat.le_refl _) _).alloc (by simp) _
  obtain ⟨p0, p1, p2, -, -, -⟩ := blk3 m0
  obtain ⟨q0, q1, q2, -, -, -⟩ := blk3 m1
  have hcell : ∀ (W : World) (n : Nat) (p : Addr), (W.drewN n).cell? p = W.cell? p := fun _ _ _ => rfl
  have hnum := fun W => refNum_any x y W
  have hcb := fun W => refCmp_any s t W hs
  have hcp' := hcp _ hb
  have hE : cmpL l m x y s t = if cmpP l m = 0 then (if cmpI x y = 0 then cmpB s t else cmpI x y) else cmpP l m := by
    unfold cmpL
    simp only [orL]
    split
    · split
      · split
        · next h => exact h.symm
        · rfl
      · rfl
    · rfl
  rw [hE]
  clear hE hcp hl hm hz hN hM m0 m1
  generalize cmpP l m = C at hcp' ⊢
  generalize cmpI x y = K at hnum ⊢
  generalize cmpB s t = S at hcb ⊢
  by_cases h0 : C = 0
  · subst h0
    rw [if_pos rfl]
    by_cases h1 : K = 0
    · subst h1
      rw [if_pos rfl]
      go_enter Tryz.func40, Tryz.ntmps40
      go_wp2_with (first
        | (go_at_call 86; refine hcp'.mono ?_; rintro e w1 ⟨rfl, n1, rfl⟩)
        | (go_at_call 87; refine (hnum _).mono ?_; rintro e w2 ⟨rfl, rfl⟩)
        | (go_at_call 88; refine (hcb _).mono ?_; rintro e w3 ⟨rfl, n3, rfl⟩))
      go_ret
      exact ⟨rfl, below_dr hb _⟩
    · rw [if_neg h1]
      have hkb : (K == 0) = false := by simpa using h1
      go_enter Tryz.func40, Tryz.ntmps40
      go_wp2_with (first
        | (go_at_call 86; refine hcp'.mono ?_; rintro e w1 ⟨rfl, n1, rfl⟩)
        | (go_at_call 87; refine (hnum _).mono ?_; rintro e w2 ⟨rfl, rfl⟩))
      go_ret
      exact ⟨rfl, below_dr hb _⟩
  · rw [if_neg h0]
    have hkb : (C == 0) = false := by simpa using h0
    go_enter Tryz.func40, Tryz.ntmps40
    go_wp2_with (go_at_call 86; refine hcp'.mono ?_; rintro e w1 ⟨rfl, n1, rfl⟩)
    go_ret
    exact ⟨rfl, below_dr hb _⟩

end Go.Proofs.YtpepgoelnagoaaaGreatDoor
