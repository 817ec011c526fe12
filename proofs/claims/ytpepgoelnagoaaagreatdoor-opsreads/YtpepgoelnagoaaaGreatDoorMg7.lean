/-
  THE DOCUMENT's Label, Text, Word, Unword: what they answer.
  THE DOCUMENT's Path, CmpPlace, Place, and the program's Place: what they answer.
-/
import Derived.Test.YtpepgoelnagoaaaGreatDoorMg6
import Derived.Test.YtpepgoelnagoaaaGreatDoorRefKey
import Derived.Deep.DeepCutAuto
import Derived.Test.YtpepgoelnagoaaaGreatDoorMg4
namespace Go.Proofs.YtpepgoelnagoaaaGreatDoor
open Go.RowKit Go.Shelf
set_option linter.unusedSimpArgs false

def ints (l : List UInt8) : List Int := l.map (fun b => (b.toNat : Int))
theorem ints_length (l : List UInt8) : (ints l).length = l.length := by simp [ints]
theorem ints_append (l m : List UInt8) : ints (l ++ m) = ints l ++ ints m := by simp [ints]
theorem str_ints (l : List UInt8) : strOfNums (ints l) = ⟨l.toArray⟩ := by
  unfold strOfNums ints
  rw [List.map_map]
  congr 2
  conv => rhs; rw [← List.map_id l]
  apply List.map_congr_left
  intro b _
  simp
theorem text_any (s : ByteArray) (w : World) : Calls Tryz.prog 95 #[.string s] w fun e w' => e = .returned (.bool (decide (s.size ≤ 256))) ∧ w' = w := by
  by_cases h : s.size ≤ 256
  · have z : (s.size : Int) ≤ 256 := by omega
    have d : decide (s.size ≤ 256) = true := by simpa using h
    rw [d]
    go_enter Tryz.func95, Tryz.ntmps95
    go_wp2
    go_ret
    exact ⟨rfl, rfl⟩
  · have z : ¬ (s.size : Int) ≤ 256 := by omega
    have d : decide (s.size ≤ 256) = false := by simpa using h
    rw [d]
    go_enter Tryz.func95, Tryz.ntmps95
    go_wp2
    go_ret
    exact ⟨rfl, rfl⟩
theorem refText_any (s : ByteArray) (w : World) : Calls Tryz.prog 51 #[.string s] w fun e w' => e = .returned (.bool (decide (s.size ≤ 256))) ∧ w' = w := by
  by_cases h : s.size ≤ 256
  · have z : (s.size : Int) ≤ 256 := by omega
    have d : decide (s.size ≤ 256) = true := by simpa using h
    rw [d]
    go_enter Tryz.func51, Tryz.ntmps51
    go_wp2
    go_ret
    exact ⟨rfl, rfl⟩
  · have z : ¬ (s.size : Int) ≤ 256 := by omega
    have d : decide (s.size ≤ 256) = false := by simpa using h
    rw [d]
    go_enter Tryz.func51, Tryz.ntmps51
    go_wp2
    go_ret
    exact ⟨rfl, rfl⟩

theorem hexd_num : ∀ n : Fin 16, ((hexd n.val).toNat : Int) = if n.val < 10 then 48 + (n.val : Int) else 65 + (n.val : Int) - 10 := by decide +kernel
theorem digit_any (n : Nat) (hn : n < 16) (w : World) : Calls Tryz.prog 107 #[.int .u8 (n : Int)] w fun e w' => e = .returned (.int .u8 ((hexd n).toNat : Int)) ∧ w' = w := by
  have h := hexd_num ⟨n, hn⟩
  simp only at h
  rw [h]
  by_cases h1 : n < 10
  · have z1 : (n : Int) < 10 := by omega
    have w1 : IntKind.u8.wrap (48 + (n : Int)) = 48 + (n : Int) := by rw [IntKind.wrap_u8]; omega
    rw [if_pos h1]
    clear h
    go_enter Tryz.func107, Tryz.ntmps107
    go_wp2
    go_ret
    exact ⟨rfl, rfl⟩
  · have z1 : ¬ (n : Int) < 10 := by omega
    have w1 : IntKind.u8.wrap (65 + (n : Int)) = 65 + (n : Int) := by rw [IntKind.wrap_u8]; omega
    have w2 : IntKind.u8.wrap (65 + (n : Int) - 10) = 65 + (n : Int) - 10 := by rw [IntKind.wrap_u8]; omega
    rw [if_neg h1]
    clear h
    go_enter Tryz.func107, Tryz.ntmps107
    go_wp2
    go_ret
    exact ⟨rfl, rfl⟩
theorem valB_num : ∀ n : Fin 256, ((valB n.val.toUInt8).toNat : Int) = if 65 ≤ n.val ∧ n.val ≤ 70 then (n.val : Int) - 65 + 10 else ((n.val : Int) - 48) % 256 := by decide +kernel
theorem value_any (c : UInt8) (w : World) : Calls Tryz.prog 119 #[.int .u8 (c.toNat : Int)] w fun e w' => e = .returned (.int .u8 ((valB c).toNat : Int)) ∧ w' = w := by
  have h : ((valB c).toNat : Int) = if 65 ≤ c.toNat ∧ c.toNat ≤ 70 then (c.toNat : Int) - 65 + 10 else ((c.toNat : Int) - 48) % 256 := by
    have := valB_num ⟨c.toNat, c.toNat_lt⟩
    simpa using this
  rw [h]
  obtain ⟨X, hX⟩ : ∃ X : Int, X = (c.toNat : Int) := ⟨_, rfl⟩
  have hc := c.toNat_lt
  rw [← hX]
  clear h
  by_cases h1 : 65 ≤ X
  · by_cases h2 : X ≤ 70
    · have w1 : IntKind.u8.wrap (X - 65) = X - 65 := by rw [IntKind.wrap_u8]; omega
      have w2 : IntKind.u8.wrap (X - 65 + 10) = X - 65 + 10 := by rw [IntKind.wrap_u8]; omega
      rw [if_pos (by omega)]
      clear hX
      go_enter Tryz.func119, Tryz.ntmps119
      go_wp2
      go_ret
      exact ⟨rfl, rfl⟩
    · have w1 : IntKind.u8.wrap (X - 48) = (X - 48) % 256 := by rw [IntKind.wrap_u8]
      rw [if_neg (by omega)]
      clear hX
      go_enter Tryz.func119, Tryz.ntmps119
      go_wp2
      go_ret
      exact ⟨rfl, rfl⟩
  · have w1 : IntKind.u8.wrap (X - 48) = (X - 48) % 256 := by rw [IntKind.wrap_u8]
    rw [if_neg (by omega)]
    clear hX
    go_enter Tryz.func119, Tryz.ntmps119
    go_wp2
    go_ret
    exact ⟨rfl, rfl⟩

theorem exec_slice3 {ev : Operand → Value} {x y z : Operand} {T : TypeId} {a b c : Int} {w : World} (hx : ev x = .int .u8 a) (hy : ev y = .int .u8 b) (hz : ev z = .int .u8 c) :
    (execOp ev { dst := none, op := .buildSlice 26 3 #[(0, x), (1, y), (2, z)], type := T, pos := "", after := #[], guard := none }).run Tryz.prog w = .ok (.value (.slice (some ⟨w.heap.size, 0, none⟩) 3 3)) (w.alloc (.cells #[.int .u8 a, .int .u8 b, .int .u8 c] 5)) := by
  unfold execOp
  simp [hx, hy, hz, go_sem]
theorem exec_slice1b {ev : Operand → Value} {x : Operand} {T : TypeId} {a : Int} {w : World} (hx : ev x = .int .u8 a) :
    (execOp ev { dst := none, op := .buildSlice 26 1 #[(0, x)], type := T, pos := "", after := #[], guard := none }).run Tryz.prog w = .ok (.value (.slice (some ⟨w.heap.size, 0, none⟩) 1 1)) (w.alloc (.cells #[.int .u8 a] 5)) := by
  unfold execOp
  simp [hx, go_sem]
/-- Bytes that have just been laid, laid on bytes that are owned. -/
theorem app_new {w : World} {B : Nat} {v : Value} {p l : List Int} {n : Nat} (hown : Own 5 w B v p) (hn : l.length = n) (hbytes : p.length + n ≤ 140737488355328) (hB : B ≤ w.heap.size) :
    ∃ ao c w', (Builtin.append_ #[26, 26] 26 #[v, .slice (some ⟨w.heap.size, 0, none⟩) n n]).run Tryz.prog (w.alloc (.cells (u8s l).toArray 5)) = .ok (.slice ao (p.length + n) c) w' ∧ Own 5 w' B (.slice ao (p.length + n) c) (p ++ l) ∧ Below B w w' := by
  obtain ⟨i0, hi, hz0, hz1, hz2⟩ := info_parts Tryz.info5
  have hrd := rd_lit w l 5 (0, 0)
  obtain ⟨v', w', hr, h2, h3, _⟩ := run_append_own (P := Tryz.prog) (w.alloc (.cells (u8s l).toArray 5)) B 26 26 5 i0 (.int .u8 0) 1 1 Tryz.underlying26 hi hz0 hz1 hz2 rfl (by decide) v p.length (u8s p) (World.ownsRow.alloc hown _) ⟨w.heap.size, 0, none⟩ n n (u8s l) (by simp [u8s, hn]) (fun j u hj => hrd.2 _ rfl j u hj) u8s_one (by unfold maxLen; omega) (by omega) (by simp; omega)
  have hO : Own 5 w' B v' (p ++ l) := by unfold Own; rw [u8s_append, List.length_append, hn]; exact h2
  obtain ⟨ao, c, rfl, _, _⟩ := hO.shape
  rw [List.length_append, hn] at hr hO
  exact ⟨ao, c, w', hr, hO, ((Below.refl B w).alloc hB _).grown h3 (by simp; omega) (fun k hk => (World.ownsRow.lt hown k hk).1)⟩

set_option maxHeartbeats 2000000 in
set_option maxRecDepth 100000 in
theorem refWord_any (s : ByteArray) (w : World) (hs : s.size ≤ 1000000) : Calls Tryz.prog 57 #[.string s] w fun e w' => e = .returned (.string ⟨(wordB s.data.toList).toArray⟩) ∧ Below w.heap.size w w' := by
  obtain ⟨i0, hi, hz0, hz1, hz2⟩ := info_parts Tryz.info5
  have hl : s.data.toList.length = s.size := (Lib.size_eq s).symm
  by_cases h0 : s.size = 0
  · obtain rfl := empty_of h0
    go_enter Tryz.func57, Tryz.ntmps57
    go_wp2
    go_ret
    exact ⟨rfl, Below.refl _ _⟩
  · have hne : s.data.toList ≠ [] := fun e => by rw [e] at hl; simp at hl; omega
    have b1 : (s.toList == []) = false := by rw [beq_eq_false_iff_ne, toList_of]; exact hne
    rw [wordB, if_neg hne]
    obtain ⟨R, hR⟩ : ∃ R, R = s.data.toList.flatMap wordByte := ⟨_, rfl⟩
    rw [← hR]
    have HR := hide hR
    clear hR hne
    go_enter Tryz.func57, Tryz.ntmps57
    go_wp2
    go_loopw [3, 4] (fun v3 v4 wr => ∃ (i : Nat) (p : List Int), i ≤ s.size ∧ v4 = .int .i64 i ∧ p.length ≤ 3000000 ∧ Hid (p = ints ((s.data.toList.take i).flatMap wordByte)) ∧ Hid (Own 5 wr w.heap.size v3 p) ∧ Hid (Below w.heap.size w wr)) (fun _ v4 _ => s.size - (intOf v4).toNat)
    case atStart => exact ⟨0, [], by omega, rfl, by simp, hide (by simp [ints]), hide (Own.nil _ _ _), hide (Below.refl _ _)⟩
    case round =>
      obtain ⟨i, p, hi', rfl, hpl, HP, HO, HW⟩ := hrel
      obtain ⟨ao, cc, hv3, hnil⟩ := HO.out.form
      subst hv3
      have hsz := HW.out.size
      by_cases hc : i < s.size
      · have z1 : (i : Int) < (s.size : Int) := by omega
        obtain ⟨x, hX, x0, x1, ix⟩ := at_string s i hc
        have hft := flat_take s.data.toList i (by omega)
        rw [getD_byte s i hc] at hft
        have hb3 : ∀ q : List Int, q = ints ((s.data.toList.take (i + 1)).flatMap wordByte) → q.length ≤ 3000000 := fun q hq => by
          rw [hq, ints_length]
          have := flat_length (s.data.toList.take (i + 1))
          have h2 : (s.data.toList.take (i + 1)).length ≤ 1000000 := by rw [List.length_take]; omega
          omega
        have HF := hide (And.intro hX (And.intro hft hb3))
        clear hX hft hb3
        cases hst : stand (s[i]'hc) with
        | true =>
          have hnx : p ++ [x] = ints ((s.data.toList.take (i + 1)).flatMap wordByte) := by
            rw [HF.out.2.1, ints_append, ← HP.out, HF.out.1]
            have : wordByte (s[i]'hc) = [s[i]'hc] := by unfold wordByte; rw [if_pos hst]
            rw [this]; rfl
          have hs4 := hst
          unfold stand at hs4
          simp only [Bool.and_eq_true, decide_eq_true_eq] at hs4
          have hq := HF.out.1
          have g1 : 33 ≤ x := by omega
          have g2 : x ≤ 126 := by omega
          have g3 : (x == 37) = false := by simp; omega
          have g4 : (x == 59) = false := by simp; omega
          have g5 : (x != 37) = true := by simp; omega
          have g6 : (x != 59) = true := by simp; omega
          have HNX := hide hnx
          have hO := HO.out
          clear hnx hs4 hq hst
          have hcl : (wr.alloc (.cells #[.int .u8 x] 5)).cell? ⟨wr.heap.size, 0, none⟩ = some (.int .u8 x) := by simp
          go_wp2_with (at_builtin; refine wpList_push rfl _ _ 26 rfl w.heap.size 5 i0 Tryz.underlying26 hi hz0 hz1 hz2 _ p rfl (hO.alloc _) ⟨wr.heap.size, 0, none⟩ 1 x rfl hcl (by omega) (Nat.le_trans hsz (by simp)) ?_; intro a9 c9 w9 hO9 hg9 hn9; have hB9 : Below w.heap.size w w9 := (HW.out.alloc hsz _).grown hg9 (by simp; omega) (fun j hj => (World.ownsRow.lt hO j hj).1); have H9 := hide (And.intro hO9 hB9); clear hO9 hB9 hg9)
          go_roundw
          case rel => exact ⟨i + 1, p ++ [x], by omega, by go_num, HF.out.2.2 _ HNX.out, hide HNX.out, hide (by have := H9.out.1; simpa using this), hide H9.out.2⟩
          case measure => simp [intOf]; omega
        | false =>
          have hq := HF.out.1
          have hs4 := hst
          unfold stand at hs4
          simp only [Bool.and_eq_false_iff, decide_eq_false_iff_not] at hs4
          have h4 : ¬ 33 ≤ x ∨ (33 ≤ x ∧ ¬ x ≤ 126) ∨ (33 ≤ x ∧ x ≤ 126 ∧ x = 37) ∨ (33 ≤ x ∧ x ≤ 126 ∧ x ≠ 37 ∧ x = 59) := by omega
          have hxn : ∃ n : Nat, n < 256 ∧ x = (n : Int) ∧ n = (s[i]'hc).toNat := ⟨x.toNat, by omega, by omega, by omega⟩
          obtain ⟨n, hn, hxn, hns⟩ := hxn
          have dg1 : ∀ W, Calls Tryz.prog 107 #[.int .u8 (x / 16)] W fun e w' => e = .returned (.int .u8 ((hexd (n / 16)).toNat : Int)) ∧ w' = W := fun W => by have := digit_any (n / 16) (by omega) W; rw [show ((n / 16 : Nat) : Int) = x / 16 by omega] at this; exact this
          have dg2 : ∀ W, Calls Tryz.prog 107 #[.int .u8 (x % 16)] W fun e w' => e = .returned (.int .u8 ((hexd (n % 16)).toNat : Int)) ∧ w' = W := fun W => by have := digit_any (n % 16) (by omega) W; rw [show ((n % 16 : Nat) : Int) = x % 16 by omega] at this; exact this
          have hnx : p ++ [37, ((hexd (n / 16)).toNat : Int), ((hexd (n % 16)).toNat : Int)] = ints ((s.data.toList.take (i + 1)).flatMap wordByte) := by
            rw [HF.out.2.1, ints_append, ← HP.out]
            have : wordByte (s[i]'hc) = [37, hexd (n / 16), hexd (n % 16)] := by unfold wordByte; rw [if_neg (by rw [hst]; simp), hns]
            rw [this]; rfl
          generalize ((hexd (n / 16)).toNat : Int) = h1 at dg1 hnx
          generalize ((hexd (n % 16)).toNat : Int) = h2 at dg2 hnx
          obtain ⟨ao9, c9, w9, run9, hO9, hB9⟩ := app_new (l := [37, h1, h2]) (n := 3) (HO.out.drew) rfl (by omega) hsz
          have run9' : (Builtin.append_ #[26, 26] 26 #[.slice ao p.length cc, .slice (some ⟨wr.heap.size, 0, none⟩) 3 3]).run Tryz.prog (wr.drew.alloc (.cells #[.int .u8 37, .int .u8 h1, .int .u8 h2] 5)) = .ok (.slice ao9 (p.length + 3) c9) w9 := run9
          have HNX := hide (And.intro hnx (And.intro hO9 (HW.out.drew.trans hB9)))
          have wd : IntKind.u8.wrap (x.tdiv 16) = x / 16 := by rw [Int.tdiv_eq_ediv_of_nonneg x0, IntKind.wrap_u8]; omega
          have wm : x.tmod 16 = x % 16 := Int.tmod_eq_emod_of_nonneg x0
          clear hnx hs4 hq hst hxn hns hn run9 hO9 hB9
          go_upto_region 7 with fail
          go_cut [34] (fun v34 wq => v34 = .bool false ∧ wq = wr)
          case first =>
            rcases h4 with g1 | ⟨g1, g2⟩ | ⟨g1, g2, rfl⟩ | ⟨g1, g2, g3, rfl⟩
            · go_wp2
              go_meet
              exact ⟨rfl, rfl⟩
            · go_wp2
              go_meet
              exact ⟨rfl, rfl⟩
            · go_wp2
              go_meet
              exact ⟨rfl, rfl⟩
            · go_wp2
              go_meet
              exact ⟨rfl, rfl⟩
          case rest =>
            obtain ⟨rfl, hwf⟩ := hcut
            have hwx := hwf.symm
            clear hwf h4
            subst hwx
            go_upto_region 9 with fail
            refine wp_region_held_drew (S := (fun _ => True)) (by kernel_rfl) trivial (fun hHeld => ?_)
            try dsimp only at hHeld
            refine take_op (i := 0) (d := 41) (OP := Op.move (Operand.tmp 3)) (T := 26) (v := ?vq1x) rfl rfl rfl rfl (by kernel_rfl) (by kernel_rfl) (by kernel_rfl) (fun _ _ _ h => h) (by rfl) ?hq1x hHeld ?rq1x
            case hq1x => (intro w' hSw; (try dsimp only at hSw); go_simp <;> with_reducible rfl)
            try simp only [Act.put, List.setIfInBounds_toArray, List.set_cons_zero, List.set_cons_succ]
            refine take_op (i := 1) (d := 42) (OP := Op.move (Operand.tmp 0)) (T := 9) (v := ?vq2x) rfl rfl rfl rfl (by kernel_rfl) (by kernel_rfl) (by kernel_rfl) (fun _ _ _ h => h) (by rfl) ?hq2x hHeld ?rq2x
            case hq2x => (intro w' hSw; (try dsimp only at hSw); go_simp <;> with_reducible rfl)
            try simp only [Act.put, List.setIfInBounds_toArray, List.set_cons_zero, List.set_cons_succ]
            refine take_op (i := 2) (d := 43) (OP := Op.move (Operand.tmp 4)) (T := 3) (v := ?vq3x) rfl rfl rfl rfl (by kernel_rfl) (by kernel_rfl) (by kernel_rfl) (fun _ _ _ h => h) (by rfl) ?hq3x hHeld ?rq3x
            case hq3x => (intro w' hSw; (try dsimp only at hSw); go_simp <;> with_reducible rfl)
            try simp only [Act.put, List.setIfInBounds_toArray, List.set_cons_zero, List.set_cons_succ]
            refine take_op (i := 3) (d := 44) (OP := Op.index 9 (Operand.tmp 42) (Operand.tmp 43)) (T := 5) (v := ?vq4x) rfl rfl rfl rfl (by kernel_rfl) (by kernel_rfl) (by kernel_rfl) (fun _ _ _ h => h) (by rfl) ?hq4x hHeld ?rq4x
            case hq4x => (intro w' hSw; (try dsimp only at hSw); go_simp <;> with_reducible rfl)
            try simp only [Act.put, List.setIfInBounds_toArray, List.set_cons_zero, List.set_cons_succ]
            refine take_op (i := 4) (d := 45) (OP := Op.binOp BinOp.quo 5 (Operand.tmp 44) (Operand.const (Value.int IntKind.u8 16)) 5) (T := 5) (v := ?vq5x) rfl rfl rfl rfl (by kernel_rfl) (by kernel_rfl) (by kernel_rfl) (fun _ _ _ h => h) (by rfl) ?hq5x hHeld ?rq5x
            case hq5x => (intro w' hSw; (try dsimp only at hSw); go_simp <;> with_reducible rfl)
            try simp only [Act.put, List.setIfInBounds_toArray, List.set_cons_zero, List.set_cons_succ]
            refine take_op (i := 6) (d := 47) (OP := Op.move (Operand.tmp 0)) (T := 9) (v := ?vq6x) rfl rfl rfl rfl (by kernel_rfl) (by kernel_rfl) (by kernel_rfl) (fun _ _ _ h => h) (by rfl) ?hq6x hHeld ?rq6x
            case hq6x => (intro w' hSw; (try dsimp only at hSw); go_simp <;> with_reducible rfl)
            try simp only [Act.put, List.setIfInBounds_toArray, List.set_cons_zero, List.set_cons_succ]
            refine take_op (i := 7) (d := 48) (OP := Op.move (Operand.tmp 4)) (T := 3) (v := ?vq7x) rfl rfl rfl rfl (by kernel_rfl) (by kernel_rfl) (by kernel_rfl) (fun _ _ _ h => h) (by rfl) ?hq7x hHeld ?rq7x
            case hq7x => (intro w' hSw; (try dsimp only at hSw); go_simp <;> with_reducible rfl)
            try simp only [Act.put, List.setIfInBounds_toArray, List.set_cons_zero, List.set_cons_succ]
            refine take_op (i := 8) (d := 49) (OP := Op.index 9 (Operand.tmp 47) (Operand.tmp 48)) (T := 5) (v := ?vq8x) rfl rfl rfl rfl (by kernel_rfl) (by kernel_rfl) (by kernel_rfl) (fun _ _ _ h => h) (by rfl) ?hq8x hHeld ?rq8x
            case hq8x => (intro w' hSw; (try dsimp only at hSw); go_simp <;> with_reducible rfl)
            try simp only [Act.put, List.setIfInBounds_toArray, List.set_cons_zero, List.set_cons_succ]
            refine take_op (i := 9) (d := 50) (OP := Op.binOp BinOp.rem 5 (Operand.tmp 49) (Operand.const (Value.int IntKind.u8 16)) 5) (T := 5) (v := ?vq9x) rfl rfl rfl rfl (by kernel_rfl) (by kernel_rfl) (by kernel_rfl) (fun _ _ _ h => h) (by rfl) ?hq9x hHeld ?rq9x
            case hq9x => (intro w' hSw; (try dsimp only at hSw); go_simp <;> with_reducible rfl)
            try simp only [Act.put, List.setIfInBounds_toArray, List.set_cons_zero, List.set_cons_succ]
            refine call_op (i := 5) (d := 46) (OP := Op.call { callee := Callee.value (Operand.func 107), args := #[Operand.tmp 45], argTypes := #[5] }) (T := 5) (f := 107) (args := #[.int .u8 (x / 16)]) rfl rfl rfl rfl (by kernel_rfl) (by rfl) (by go_simp) ?_
            refine (dg1 _).mono ?_
            rintro e w1x ⟨rfl, hw1⟩
            subst hw1
            refine ⟨_, rfl, trivial, ?_⟩
            replace hHeld := trivial
            try simp only [Act.put, List.setIfInBounds_toArray, List.set_cons_zero, List.set_cons_succ]
            refine call_op (i := 10) (d := 51) (OP := Op.call { callee := Callee.value (Operand.func 107), args := #[Operand.tmp 50], argTypes := #[5] }) (T := 5) (f := 107) (args := #[.int .u8 (x % 16)]) rfl rfl rfl rfl (by kernel_rfl) (by rfl) (by go_simp) ?_
            refine (dg2 _).mono ?_
            rintro e w2x ⟨rfl, hw2⟩
            subst hw2
            refine ⟨_, rfl, trivial, ?_⟩
            replace hHeld := trivial
            try simp only [Act.put, List.setIfInBounds_toArray, List.set_cons_zero, List.set_cons_succ]
            refine turn_op (i := 11) (d := 52) (OP := Op.buildSlice 26 3 #[(0, Operand.const (Value.int IntKind.u8 37)), (1, Operand.tmp 46), (2, Operand.tmp 51)]) (T := 26) (v := .slice (some ⟨wr.heap.size, 0, none⟩) 3 3) (w' := wr.drew.alloc (.cells #[.int .u8 37, .int .u8 h1, .int .u8 h2] 5)) rfl rfl rfl rfl (by kernel_rfl) (by rfl) (exec_slice3 rfl rfl rfl) trivial ?_
            replace hHeld := trivial
            try simp only [Act.put, List.setIfInBounds_toArray, List.set_cons_zero, List.set_cons_succ]
            refine turn_op (i := 12) (d := 53) (OP := Op.call { callee := Callee.builtin Builtin.append, args := #[Operand.tmp 41, Operand.tmp 52], argTypes := #[26, 26] }) (T := 26) (v := .slice ao9 (p.length + 3) c9) (w' := w9) rfl rfl rfl rfl (by kernel_rfl) (by rfl) (exec_append rfl rfl run9') trivial ?_
            replace hHeld := trivial
            try simp only [Act.put, List.setIfInBounds_toArray, List.set_cons_zero, List.set_cons_succ]
            refine take_op (i := 13) (d := 3) (OP := Op.assign (Operand.tmp 53)) (T := 26) (v := ?vq14x) rfl rfl rfl rfl (by kernel_rfl) (by kernel_rfl) (by kernel_rfl) (fun _ _ _ h => h) (by rfl) ?hq14x hHeld ?rq14x
            case hq14x => (intro w' hSw; (try dsimp only at hSw); go_simp <;> with_reducible rfl)
            try simp only [Act.put, List.setIfInBounds_toArray, List.set_cons_zero, List.set_cons_succ]
            refine wpAnyH_done (by kernel_rfl) ?_ _
            go_wp2
            go_roundw
            case rel =>
              obtain ⟨q1, q2, q3⟩ := HNX.out
              exact ⟨i + 1, _, by omega, by go_num, HF.out.2.2 _ q1, hide q1, hide (by simpa using q2), hide q3⟩
            case measure => simp [intOf]; omega
      · have z1 : ¬ (i : Int) < (s.size : Int) := by omega
        obtain ⟨aw, cw, hv, hrd, -⟩ := HO.out.shape
        have hcv := conv_rd (cap := cc) HO.out.rd rfl
        have hE : strOfNums p = ⟨R.toArray⟩ := by
          rw [HP.out, List.take_of_length_le (by omega), ← HR.out, str_ints]
        rw [hE] at hcv
        clear hE hv hrd
        go_wp2
        go_ret
        exact ⟨rfl, HW.out⟩

theorem loose_at (s : ByteArray) (i : Nat) (h : i < s.size) (hc : ¬ ((s[i]'h).toNat = 37 ∧ i + 2 < s.size)) : looseB (s.data.toList.drop i) = (s[i]'h) :: looseB (s.data.toList.drop (i + 1)) := by
  obtain ⟨t, u, e, q⟩ := rune1_cons s i h
  rw [e, u]
  exact looseB_one _ _ (fun k => hc ⟨k.1, by omega⟩)
theorem loose_two (s : ByteArray) (i : Nat) (h : i < s.size) (hc : (s[i]'h).toNat = 37) (h2 : i + 2 < s.size) : looseB (s.data.toList.drop i) = pairB (s[i + 1]'(by omega)) (s[i + 2]'h2) :: looseB (s.data.toList.drop (i + 3)) := by
  obtain ⟨t, u, e, q⟩ := rune1_cons s i h
  obtain ⟨t1, u1, e1, q1⟩ := rune1_cons s (i + 1) (by omega)
  obtain ⟨t2, u2, e2, q2⟩ := rune1_cons s (i + 2) h2
  rw [e, looseB_pair _ _ ⟨hc, by omega⟩, ← u, e1, ← u1, e2]
  simp only [List.getD_cons_zero, List.getD_cons_succ, List.drop_succ_cons, List.drop_zero]
  rw [← u2]
theorem looseGo_le : ∀ (n : Nat) (l : List UInt8), (looseGo n l).length ≤ l.length
  | 0, l => by simp [looseGo]
  | n + 1, [] => by simp [looseGo]
  | n + 1, b :: t => by
    simp only [looseGo]
    split
    · have := looseGo_le n (t.drop 2)
      rw [List.length_drop] at this
      simp only [List.length_cons]
      omega
    · have := looseGo_le n t
      simp only [List.length_cons]
      omega
theorem pair_num (x y : UInt8) : IntKind.u8.wrap (IntKind.u8.wrap (16 * ((valB x).toNat : Int)) + ((valB y).toNat : Int)) = ((pairB x y).toNat : Int) := by
  unfold pairB
  rw [IntKind.wrap_u8, IntKind.wrap_u8, UInt8.toNat_add, UInt8.toNat_mul]
  have : (16 : UInt8).toNat = 16 := rfl
  rw [this]
  omega

set_option maxHeartbeats 2000000 in
set_option maxRecDepth 100000 in
theorem refUnword_any (s : ByteArray) (w : World) (hs : s.size ≤ 1000000) : Calls Tryz.prog 78 #[.string s] w fun e w' => e = .returned (unE (unwordB s.data.toList)) ∧ Below w.heap.size w w' := by
  obtain ⟨i0, hi, hz0, hz1, hz2⟩ := info_parts Tryz.info5
  have hl : s.data.toList.length = s.size := (Lib.size_eq s).symm
  by_cases h37 : s.data.toList = [37]
  · have : s = ⟨#[37]⟩ := by
      apply ByteArray.ext
      apply Array.toList_inj.1
      exact h37
    subst this
    go_enter Tryz.func78, Tryz.ntmps78
    go_wp2
    go_ret2
    exact ⟨rfl, Below.refl _ _⟩
  · have b2 : (s.toList == [37]) = false := by rw [beq_eq_false_iff_ne, toList_of]; exact h37
    obtain ⟨R, hR⟩ : ∃ R, R = looseB s.data.toList := ⟨_, rfl⟩
    have hRl : R.length ≤ s.size := by rw [hR, ← hl]; exact looseGo_le _ _
    obtain ⟨E, hE⟩ : ∃ E, E = unE (unwordB s.data.toList) := ⟨_, rfl⟩
    rw [← hE]
    have HR := hide (And.intro hR hE)
    clear hR hE
    go_enter Tryz.func78, Tryz.ntmps78
    go_wp2
    go_loopw [4, 5] (fun v4 v5 wr => ∃ (i : Nat) (p : List Int), i ≤ s.size ∧ v5 = .int .i64 i ∧ p.length ≤ i ∧ Hid (p ++ ints (looseB (s.data.toList.drop i)) = ints R) ∧ Hid (Own 5 wr w.heap.size v4 p) ∧ Hid (Below w.heap.size w wr)) (fun _ v5 _ => s.size - (intOf v5).toNat)
    case atStart => exact ⟨0, [], by omega, rfl, by simp, hide (by rw [HR.out.1]; rfl), hide (Own.nil _ _ _), hide (Below.refl _ _)⟩
    case round =>
      obtain ⟨i, p, hi', rfl, hpl, HP, HO, HW⟩ := hrel
      obtain ⟨ao, cc, hv4, hnil⟩ := HO.out.form
      subst hv4
      have hsz := HW.out.size
      by_cases hc : i < s.size
      · have z1 : (i : Int) < (s.size : Int) := by omega
        obtain ⟨x, hX, x0, x1, ix⟩ := at_string s i hc
        by_cases hpr : x = 37 ∧ i + 2 < s.size
        · obtain ⟨rfl, h2⟩ := hpr
          have z2 : (i : Int) + 2 < (s.size : Int) := by omega
          have wi1 : IntKind.i64.wrap ((i : Int) + 1) = (i : Int) + 1 := by rw [IntKind.wrap_i64]; omega
          have wi2 : IntKind.i64.wrap ((i : Int) + 2) = (i : Int) + 2 := by rw [IntKind.wrap_i64]; omega
          have hlt := loose_two s i hc (by omega) h2
          obtain ⟨X1, hX1, _, _, ix1⟩ := at_string s (i + 1) (by omega)
          obtain ⟨X2, hX2, _, _, ix2⟩ := at_string s (i + 2) h2
          rw [show ((i + 1 : Nat) : Int) = (i : Int) + 1 by omega] at ix1
          rw [show ((i + 2 : Nat) : Int) = (i : Int) + 2 by omega] at ix2
          rw [hX1] at ix1
          rw [hX2] at ix2
          obtain ⟨x1, hx1⟩ : ∃ x1, x1 = s[i + 1]'(by omega) := ⟨_, rfl⟩
          obtain ⟨x2, hx2⟩ : ∃ x2, x2 = s[i + 2]'h2 := ⟨_, rfl⟩
          rw [← hx1] at ix1 hlt
          rw [← hx2] at ix2 hlt
          have va1 := fun W => value_any x1 W
          have va2 := fun W => value_any x2 W
          have hpn := pair_num x1 x2
          obtain ⟨h3, hh3⟩ : ∃ h3 : Int, h3 = ((pairB x1 x2).toNat : Int) := ⟨_, rfl⟩
          rw [← hh3] at hpn
          have hnx : (p ++ [h3]) ++ ints (looseB (s.data.toList.drop (i + 3))) = ints R := by
            rw [← HP.out, hlt, hh3]; simp [ints]
          obtain ⟨ao9, c9, w9, run9, hO9, hB9⟩ := app_new (l := [h3]) (n := 1) (HO.out.drew) rfl (by omega) hsz
          have run9' : (Builtin.append_ #[26, 26] 26 #[.slice ao p.length cc, .slice (some ⟨wr.heap.size, 0, none⟩) 1 1]).run Tryz.prog (wr.drew.alloc (.cells #[.int .u8 h3] 5)) = .ok (.slice ao9 (p.length + 1) c9) w9 := run9
          have HNX := hide (And.intro hnx (And.intro hO9 (HW.out.drew.trans hB9)))
          clear hnx hlt hX hX1 hX2 hx1 hx2 hh3 run9 hO9 hB9
          generalize ((valB x1).toNat : Int) = v1 at va1 hpn
          generalize ((valB x2).toNat : Int) = v2 at va2 hpn
          go_upto_region 8 with fail
          refine wp_region_held_drew (S := (fun _ => True)) (by kernel_rfl) trivial (fun hHeld => ?_)
          try dsimp only at hHeld
          refine take_op (i := 0) (d := 25) (OP := Op.move (Operand.tmp 4)) (T := 26) (v := ?vq15x) rfl rfl rfl rfl (by kernel_rfl) (by kernel_rfl) (by kernel_rfl) (fun _ _ _ h => h) (by rfl) ?hq15x hHeld ?rq15x
          case hq15x => (intro w' hSw; (try dsimp only at hSw); go_simp <;> with_reducible rfl)
          try simp only [Act.put, List.setIfInBounds_toArray, List.set_cons_zero, List.set_cons_succ]
          refine take_op (i := 1) (d := 26) (OP := Op.move (Operand.tmp 0)) (T := 9) (v := ?vq16x) rfl rfl rfl rfl (by kernel_rfl) (by kernel_rfl) (by kernel_rfl) (fun _ _ _ h => h) (by rfl) ?hq16x hHeld ?rq16x
          case hq16x => (intro w' hSw; (try dsimp only at hSw); go_simp <;> with_reducible rfl)
          try simp only [Act.put, List.setIfInBounds_toArray, List.set_cons_zero, List.set_cons_succ]
          refine take_op (i := 2) (d := 27) (OP := Op.move (Operand.tmp 5)) (T := 3) (v := ?vq17x) rfl rfl rfl rfl (by kernel_rfl) (by kernel_rfl) (by kernel_rfl) (fun _ _ _ h => h) (by rfl) ?hq17x hHeld ?rq17x
          case hq17x => (intro w' hSw; (try dsimp only at hSw); go_simp <;> with_reducible rfl)
          try simp only [Act.put, List.setIfInBounds_toArray, List.set_cons_zero, List.set_cons_succ]
          refine take_op (i := 3) (d := 28) (OP := Op.binOp BinOp.add 3 (Operand.tmp 27) (Operand.const (Value.int IntKind.i64 1)) 3) (T := 3) (v := ?vq18x) rfl rfl rfl rfl (by kernel_rfl) (by kernel_rfl) (by kernel_rfl) (fun _ _ _ h => h) (by rfl) ?hq18x hHeld ?rq18x
          case hq18x => (intro w' hSw; (try dsimp only at hSw); go_simp <;> with_reducible rfl)
          try simp only [Act.put, List.setIfInBounds_toArray, List.set_cons_zero, List.set_cons_succ]
          refine take_op (i := 4) (d := 29) (OP := Op.index 9 (Operand.tmp 26) (Operand.tmp 28)) (T := 5) (v := ?vq19x) rfl rfl rfl rfl (by kernel_rfl) (by kernel_rfl) (by kernel_rfl) (fun _ _ _ h => h) (by rfl) ?hq19x hHeld ?rq19x
          case hq19x => (intro w' hSw; (try dsimp only at hSw); go_simp <;> with_reducible rfl)
          try simp only [Act.put, List.setIfInBounds_toArray, List.set_cons_zero, List.set_cons_succ]
          refine take_op (i := 7) (d := 32) (OP := Op.move (Operand.tmp 0)) (T := 9) (v := ?vq20x) rfl rfl rfl rfl (by kernel_rfl) (by kernel_rfl) (by kernel_rfl) (fun _ _ _ h => h) (by rfl) ?hq20x hHeld ?rq20x
          case hq20x => (intro w' hSw; (try dsimp only at hSw); go_simp <;> with_reducible rfl)
          try simp only [Act.put, List.setIfInBounds_toArray, List.set_cons_zero, List.set_cons_succ]
          refine take_op (i := 8) (d := 33) (OP := Op.move (Operand.tmp 5)) (T := 3) (v := ?vq21x) rfl rfl rfl rfl (by kernel_rfl) (by kernel_rfl) (by kernel_rfl) (fun _ _ _ h => h) (by rfl) ?hq21x hHeld ?rq21x
          case hq21x => (intro w' hSw; (try dsimp only at hSw); go_simp <;> with_reducible rfl)
          try simp only [Act.put, List.setIfInBounds_toArray, List.set_cons_zero, List.set_cons_succ]
          refine take_op (i := 9) (d := 34) (OP := Op.binOp BinOp.add 3 (Operand.tmp 33) (Operand.const (Value.int IntKind.i64 2)) 3) (T := 3) (v := ?vq22x) rfl rfl rfl rfl (by kernel_rfl) (by kernel_rfl) (by kernel_rfl) (fun _ _ _ h => h) (by rfl) ?hq22x hHeld ?rq22x
          case hq22x => (intro w' hSw; (try dsimp only at hSw); go_simp <;> with_reducible rfl)
          try simp only [Act.put, List.setIfInBounds_toArray, List.set_cons_zero, List.set_cons_succ]
          refine take_op (i := 10) (d := 35) (OP := Op.index 9 (Operand.tmp 32) (Operand.tmp 34)) (T := 5) (v := ?vq23x) rfl rfl rfl rfl (by kernel_rfl) (by kernel_rfl) (by kernel_rfl) (fun _ _ _ h => h) (by rfl) ?hq23x hHeld ?rq23x
          case hq23x => (intro w' hSw; (try dsimp only at hSw); go_simp <;> with_reducible rfl)
          try simp only [Act.put, List.setIfInBounds_toArray, List.set_cons_zero, List.set_cons_succ]
          refine call_op (i := 5) (d := 30) (OP := Op.call { callee := Callee.value (Operand.func 119), args := #[Operand.tmp 29], argTypes := #[5] }) (T := 5) (f := 119) (args := #[.int .u8 (x1.toNat : Int)]) rfl rfl rfl rfl (by kernel_rfl) (by rfl) (by go_simp) ?_
          refine (va1 _).mono ?_
          rintro e w1x ⟨rfl, hw1⟩
          subst hw1
          refine ⟨_, rfl, trivial, ?_⟩
          replace hHeld := trivial
          try simp only [Act.put, List.setIfInBounds_toArray, List.set_cons_zero, List.set_cons_succ]
          refine take_op (i := 6) (d := 31) (OP := Op.binOp BinOp.mul 5 (Operand.const (Value.int IntKind.u8 16)) (Operand.tmp 30) 5) (T := 5) (v := ?vq25x) rfl rfl rfl rfl (by kernel_rfl) (by kernel_rfl) (by kernel_rfl) (fun _ _ _ h => h) (by rfl) ?hq25x hHeld ?rq25x
          case hq25x => (intro w' hSw; (try dsimp only at hSw); go_simp <;> with_reducible rfl)
          try simp only [Act.put, List.setIfInBounds_toArray, List.set_cons_zero, List.set_cons_succ]
          refine call_op (i := 11) (d := 36) (OP := Op.call { callee := Callee.value (Operand.func 119), args := #[Operand.tmp 35], argTypes := #[5] }) (T := 5) (f := 119) (args := #[.int .u8 (x2.toNat : Int)]) rfl rfl rfl rfl (by kernel_rfl) (by rfl) (by go_simp) ?_
          refine (va2 _).mono ?_
          rintro e w2x ⟨rfl, hw2⟩
          subst hw2
          refine ⟨_, rfl, trivial, ?_⟩
          replace hHeld := trivial
          try simp only [Act.put, List.setIfInBounds_toArray, List.set_cons_zero, List.set_cons_succ]
          refine take_op (i := 12) (d := 37) (OP := Op.binOp BinOp.add 5 (Operand.tmp 31) (Operand.tmp 36) 5) (T := 5) (v := ?vq27x) rfl rfl rfl rfl (by kernel_rfl) (by kernel_rfl) (by kernel_rfl) (fun _ _ _ h => h) (by rfl) ?hq27x hHeld ?rq27x
          case hq27x => (intro w' hSw; (try dsimp only at hSw); go_simp <;> with_reducible rfl)
          try simp only [Act.put, List.setIfInBounds_toArray, List.set_cons_zero, List.set_cons_succ]
          refine turn_op (i := 13) (d := 38) (OP := Op.buildSlice 26 1 #[(0, Operand.tmp 37)]) (T := 26) (v := .slice (some ⟨wr.heap.size, 0, none⟩) 1 1) (w' := wr.drew.alloc (.cells #[.int .u8 h3] 5)) rfl rfl rfl rfl (by kernel_rfl) (by rfl) (exec_slice1b rfl) trivial ?_
          replace hHeld := trivial
          try simp only [Act.put, List.setIfInBounds_toArray, List.set_cons_zero, List.set_cons_succ]
          refine turn_op (i := 14) (d := 39) (OP := Op.call { callee := Callee.builtin Builtin.append, args := #[Operand.tmp 25, Operand.tmp 38], argTypes := #[26, 26] }) (T := 26) (v := .slice ao9 (p.length + 1) c9) (w' := w9) rfl rfl rfl rfl (by kernel_rfl) (by rfl) (exec_append rfl rfl run9') trivial ?_
          replace hHeld := trivial
          try simp only [Act.put, List.setIfInBounds_toArray, List.set_cons_zero, List.set_cons_succ]
          refine take_op (i := 15) (d := 4) (OP := Op.assign (Operand.tmp 39)) (T := 26) (v := ?vq30x) rfl rfl rfl rfl (by kernel_rfl) (by kernel_rfl) (by kernel_rfl) (fun _ _ _ h => h) (by rfl) ?hq30x hHeld ?rq30x
          case hq30x => (intro w' hSw; (try dsimp only at hSw); go_simp <;> with_reducible rfl)
          try simp only [Act.put, List.setIfInBounds_toArray, List.set_cons_zero, List.set_cons_succ]
          refine wpAnyH_done (by kernel_rfl) ?_ _
          go_wp2
          go_roundw
          case rel =>
            obtain ⟨q1, q2, q3⟩ := HNX.out
            exact ⟨i + 3, _, by omega, by go_num, by simp; omega, hide q1, hide (by simpa using q2), hide q3⟩
          case measure => simp [intOf]; omega
        · have hlo := loose_at s i hc (by omega)
          have hnx : (p ++ [x]) ++ ints (looseB (s.data.toList.drop (i + 1))) = ints R := by
            rw [← HP.out, hlo, hX]; simp [ints]
          have HNX := hide hnx
          have hO := HO.out
          have hcl : (wr.alloc (.cells #[.int .u8 x] 5)).cell? ⟨wr.heap.size, 0, none⟩ = some (.int .u8 x) := by simp
          clear hnx hlo hX
          by_cases g1 : x = 37
          · subst g1
            have z2 : ¬ (i : Int) + 2 < (s.size : Int) := by omega
            have wi2 : IntKind.i64.wrap ((i : Int) + 2) = (i : Int) + 2 := by rw [IntKind.wrap_i64]; omega
            clear hpr
            go_wp2_with (at_builtin; refine wpList_push rfl _ _ 26 rfl w.heap.size 5 i0 Tryz.underlying26 hi hz0 hz1 hz2 _ p rfl (hO.alloc _) ⟨wr.heap.size, 0, none⟩ 1 37 rfl hcl (by omega) (Nat.le_trans hsz (by simp)) ?_; intro a9 c9 w9 hO9 hg9 hn9; have hB9 : Below w.heap.size w w9 := (HW.out.alloc hsz _).grown hg9 (by simp; omega) (fun j hj => (World.ownsRow.lt hO j hj).1); have H9 := hide (And.intro hO9 hB9); clear hO9 hB9 hg9)
            go_roundw
            case rel => exact ⟨i + 1, p ++ [37], by omega, by go_num, by simp; omega, hide HNX.out, hide (by have := H9.out.1; simpa using this), hide H9.out.2⟩
            case measure => simp [intOf]; omega
          · have g2 : (x == 37) = false := by simpa using g1
            clear hpr
            go_wp2_with (at_builtin; refine wpList_push rfl _ _ 26 rfl w.heap.size 5 i0 Tryz.underlying26 hi hz0 hz1 hz2 _ p rfl (hO.alloc _) ⟨wr.heap.size, 0, none⟩ 1 x rfl hcl (by omega) (Nat.le_trans hsz (by simp)) ?_; intro a9 c9 w9 hO9 hg9 hn9; have hB9 : Below w.heap.size w w9 := (HW.out.alloc hsz _).grown hg9 (by simp; omega) (fun j hj => (World.ownsRow.lt hO j hj).1); have H9 := hide (And.intro hO9 hB9); clear hO9 hB9 hg9)
            go_roundw
            case rel => exact ⟨i + 1, p ++ [x], by omega, by go_num, by simp; omega, hide HNX.out, hide (by have := H9.out.1; simpa using this), hide H9.out.2⟩
            case measure => simp [intOf]; omega
      · have z1 : ¬ (i : Int) < (s.size : Int) := by omega
        have hcv := conv_rd (cap := cc) HO.out.rd rfl
        have hpR : strOfNums p = ⟨R.toArray⟩ := by
          have := HP.out
          rw [List.drop_eq_nil_of_le (by omega)] at this
          rw [← str_ints, ← this]
          simp [looseB, looseGo, ints]
        rw [hpR] at hcv
        have hE := HR.out.2
        rw [refUn_eq, if_neg h37, ← HR.out.1] at hE
        have HPR := hide hpR
        clear hpR h37
        by_cases h0 : s.size = 0
        · have hn : s.data.toList = [] := List.eq_nil_of_length_eq_zero (by omega)
          rw [if_pos (.inl hn)] at hE
          have HE := hide hE
          clear hE hn hcv
          have hz : (s.size : Int) = 0 := by omega
          go_wp2
          go_ret2
          exact ⟨by rw [HE.out]; rfl, HW.out⟩
        · have hz : ((s.size : Int) == 0) = false := by rw [beq_eq_false_iff_ne]; omega
          have hwd := refWord_any ⟨R.toArray⟩ wr (by simpa [ByteArray.size] using Nat.le_trans hRl hs)
          have hRR : (⟨R.toArray⟩ : ByteArray).data.toList = R := rfl
          rw [hRR] at hwd
          have hn : s.data.toList ≠ [] := fun e => by rw [e] at hl; simp at hl; omega
          by_cases hw : wordB R = s.data.toList
          · rw [if_neg (by rintro (e | e); exact hn e; exact e hw)] at hE
            have HE := hide hE
            have hsame : ((⟨(wordB R).toArray⟩ : ByteArray).toList == s.toList) = true := by rw [toList_of, toList_of, hw]; simp
            clear hE hw hn
            generalize (⟨(wordB R).toArray⟩ : ByteArray) = WR at hwd hsame
            go_wp2_with (go_at_call 57; refine hwd.mono ?_; rintro e w8 ⟨rfl, b8⟩; have hcv8 := conv_rd (cap := cc) (HO.out.rd.below b8) rfl; rw [HPR.out] at hcv8)
            go_ret2
            exact ⟨by rw [HE.out]; rfl, HW.out.trans (b8.mono hsz)⟩
          · rw [if_pos (.inr hw)] at hE
            have HE := hide hE
            have hsame : ((⟨(wordB R).toArray⟩ : ByteArray).toList == s.toList) = false := by rw [toList_of, toList_of, beq_eq_false_iff_ne]; exact hw
            clear hE hw hn
            generalize (⟨(wordB R).toArray⟩ : ByteArray) = WR at hwd hsame
            go_wp2_with (go_at_call 57; refine hwd.mono ?_; rintro e w8 ⟨rfl, b8⟩)
            go_ret2
            exact ⟨by rw [HE.out]; rfl, HW.out.trans (b8.mono hsz)⟩
end Go.Proofs.YtpepgoelnagoaaaGreatDoor
namespace Go.Proofs.YtpepgoelnagoaaaGreatDoor
open Go.RowKit Go.Shelf
set_option linter.unusedSimpArgs false

theorem below_dr {B : Nat} {w wr : World} (h : Below B w wr) (n : Nat) : Below B w (wr.drewN n) := h.trans ⟨rfl, rfl, rfl, Nat.le_refl _, fun _ _ => rfl⟩


set_option maxHeartbeats 1000000 in
set_option maxRecDepth 100000 in
theorem refPath_any {w : World} {ao : Option Addr} {c : Nat} {l : List ByteArray} (h : Rs w ao l) : Calls Tryz.prog 49 #[.slice ao l.length c] w fun e w' => e = .returned (.bool (pathB l)) ∧ Below w.heap.size w w' := by
  unfold pathB
  obtain ⟨N, hN⟩ : ∃ N, N = l.length := ⟨_, rfl⟩
  obtain ⟨A, hA⟩ : ∃ A, A = l.all (fun s => keyB s.data.toList) := ⟨_, rfl⟩
  rw [← hN, ← hA]
  have H := hide (And.intro hN hA)
  clear hN hA
  by_cases h6 : N ≤ 6
  · have e1 : ¬ ((6 : Int) < (N : Int)) := by omega
    have d1 : decide (N ≤ 6) = true := by simpa using h6
    rw [d1, Bool.true_and]
    go_enter Tryz.func49, Tryz.ntmps49
    go_wp2
    go_loopw [3] (fun v3 wz => ∃ i : Nat, i ≤ N ∧ v3 = .int .i64 i ∧ Hid ((l.drop i).all (fun s => keyB s.data.toList) = A) ∧ Hid (Below w.heap.size w wz)) (fun v3 _ => N - (intOf v3).toNat)
    case atStart => exact ⟨0, by omega, rfl, hide (by simpa using H.out.2.symm), hide (Below.refl _ _)⟩
    case round =>
      obtain ⟨i, hi, rfl, HD, HW⟩ := hrel
      by_cases hc : i < N
      · have z1 : (i : Int) < (N : Int) := by omega
        have hx : l[i]? = some (l[i]'(by rw [← H.out.1]; exact hc)) := List.getElem?_eq_getElem _
        generalize l[i]'(by rw [← H.out.1]; exact hc) = s at hx
        have hst : (l.drop i).all (fun s => keyB s.data.toList) = (keyB s.data.toList && (l.drop (i + 1)).all (fun s => keyB s.data.toList)) := by
          obtain ⟨hlt, he⟩ := List.getElem?_eq_some_iff.1 hx
          rw [List.drop_eq_getElem_cons hlt, List.all_cons, he]
        obtain ⟨g, off, rfl, hcx⟩ := (h.below HW.out).at hx
        have hk := refKey_any s wr
        have HS := hide hst
        clear hst hx
        generalize keyB s.data.toList = K at HS hk
        cases K with
        | true =>
          go_wp2_with (go_at_call 50; refine hk.mono ?_; rintro e w8 ⟨rfl, b8⟩)
          go_roundw
          case rel => exact ⟨i + 1, by omega, by go_num, hide (by have := HS.out; rw [Bool.true_and] at this; rw [← this]; exact HD.out), hide (HW.out.trans (b8.mono HW.out.size))⟩
          case measure => simp [intOf]; omega
        | false =>
          have hE := hide (show A = false by rw [← HD.out, HS.out, Bool.false_and])
          go_wp2_with (go_at_call 50; refine hk.mono ?_; rintro e w8 ⟨rfl, b8⟩)
          go_ret
          exact ⟨by rw [hE.out]; rfl, HW.out.trans (b8.mono HW.out.size)⟩
      · have z1 : ¬ (i : Int) < (N : Int) := by omega
        have hE := hide (show A = true by rw [← HD.out, List.drop_eq_nil_of_le (by rw [← H.out.1]; omega)]; rfl)
        go_wp2
        go_ret
        exact ⟨by rw [hE.out]; rfl, HW.out⟩
  · have e1 : (6 : Int) < (N : Int) := by omega
    have d1 : decide (N ≤ 6) = false := by simpa using h6
    rw [d1, Bool.false_and]
    go_enter Tryz.func49, Tryz.ntmps49
    go_wp2
    go_ret
    exact ⟨rfl, Below.refl _ _⟩

end Go.Proofs.YtpepgoelnagoaaaGreatDoor
