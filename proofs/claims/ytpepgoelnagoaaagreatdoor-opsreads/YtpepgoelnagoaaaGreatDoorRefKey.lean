/-
  THE DOCUMENT's runes, Key, Path: what they answer.
-/
import Derived.Test.YtpepgoelnagoaaaGreatDoorMg6
import Derived.Deep.DeepCutAuto
import Derived.Deep.CutBlock
namespace Go.Proofs.YtpepgoelnagoaaaGreatDoor
open Go.RowKit Go.Shelf
set_option linter.unusedSimpArgs false

theorem Tryz.info3 : (Tryz.prog.info? 3).map (fun i => (i.zero, i.size, i.bytes)) = some (some (.int .i64 0), 1, 8) := by kernel_rfl
/-- The slice value v owns the numbers L, in a block from B on. -/
def Oi (w : World) (B : Nat) (v : Value) (L : List Nat) : Prop := w.ownsRow B 3 1 v L.length (L.map (fun (n : Nat) => Value.int .i64 (n : Int)))
theorem Oi.nil (w : World) (B : Nat) : Oi w B (.slice none 0 0) [] := World.ownsRow_nil _ _ _ _
theorem Oi.shape {w : World} {B : Nat} {v : Value} {L : List Nat} (h : Oi w B v L) : ∃ ao c, v = .slice ao L.length c ∧ ∀ (j n : Nat), L[j]? = some n → ∃ g off, ao = some ⟨g, off, none⟩ ∧ w.cell? ⟨g, off + j, none⟩ = some (.int .i64 (n : Int)) := by
  have hcells := fun g => World.ownsRow.cells h (g := g)
  rcases h.2 with ⟨rfl, hn⟩ | ⟨g, cap, cur, rfl, hb, hg, hnc, rest⟩
  · refine ⟨none, 0, by rw [hn], fun j n hj => ?_⟩
    rw [List.eq_nil_of_length_eq_zero hn] at hj
    cases hj
  · refine ⟨some ⟨g, 0, none⟩, cap, rfl, fun j n hj => ⟨g, 0, rfl, ?_⟩⟩
    have := hcells g rfl j (.int .i64 (n : Int)) (by rw [List.getElem?_map, hj]; rfl)
    rw [add_lit] at this
    exact this

theorem rune1_cons (s : ByteArray) (pos : Nat) (h : pos < s.size) : ∃ t, s.data.toList.drop (pos + 1) = t ∧ s.data.toList.drop pos = (s[pos]'h) :: t ∧ t.length + 1 = s.size - pos := by
  have hl : s.data.toList.length = s.size := (Lib.size_eq s).symm
  have hx : s.data.toList[pos]'(by omega) = s[pos]'h := by rw [← getD_byte s pos h]; simp [List.getD, List.getElem?_eq_getElem (show pos < s.data.toList.length by omega)]
  exact ⟨_, rfl, by rw [List.drop_eq_getElem_cons (by omega), hx], by rw [List.length_drop]; omega⟩
theorem rune1_a {s : ByteArray} {pos : Nat} (h : pos < s.size) (hl : lead (s[pos]'h).toNat = none) : rune1 (s.data.toList.drop pos) = none := by
  obtain ⟨t, _, e, _⟩ := rune1_cons s pos h
  rw [e, rune1, hl]
theorem rune1_b {s : ByteArray} {pos n c least : Nat} (h : pos < s.size) (hl : lead (s[pos]'h).toNat = some (n, c, least)) (hn : s.size - pos < n) : rune1 (s.data.toList.drop pos) = none := by
  obtain ⟨t, _, e, q⟩ := rune1_cons s pos h
  rw [e, rune1, hl]
  simp only
  rw [if_pos (by omega)]
theorem rune1_c {s : ByteArray} {pos n c least : Nat} (h : pos < s.size) (hl : lead (s[pos]'h).toNat = some (n, c, least)) (hc : conts (n - 1) (s.data.toList.drop (pos + 1)) c = none) : rune1 (s.data.toList.drop pos) = none := by
  obtain ⟨t, u, e, q⟩ := rune1_cons s pos h
  rw [u] at hc
  rw [e, rune1, hl]
  simp only [hc, ite_self]
theorem rune1_d {s : ByteArray} {pos n c least r : Nat} (h : pos < s.size) (hl : lead (s[pos]'h).toNat = some (n, c, least)) (hc : conts (n - 1) (s.data.toList.drop (pos + 1)) c = some r) (hb : badRune r least) : rune1 (s.data.toList.drop pos) = none := by
  obtain ⟨t, u, e, q⟩ := rune1_cons s pos h
  rw [u] at hc
  rw [e, rune1, hl]
  simp only [hc, if_pos hb, ite_self]
theorem rune1_e {s : ByteArray} {pos n c least r : Nat} (h : pos < s.size) (hl : lead (s[pos]'h).toNat = some (n, c, least)) (hn : n ≤ s.size - pos) (hc : conts (n - 1) (s.data.toList.drop (pos + 1)) c = some r) (hb : ¬ badRune r least) : rune1 (s.data.toList.drop pos) = some (r, n) := by
  obtain ⟨t, u, e, q⟩ := rune1_cons s pos h
  rw [u] at hc
  rw [e, rune1, hl]
  simp only [hc, if_neg hb]
  rw [if_neg (by omega)]
theorem conts_step (s : ByteArray) (m pos c : Nat) (h : pos < s.size) : conts (m + 1) (s.data.toList.drop pos) c = if (s[pos]'h).toNat < 128 ∨ 192 ≤ (s[pos]'h).toNat then none else conts m (s.data.toList.drop (pos + 1)) (64 * c + ((s[pos]'h).toNat - 128)) := by
  have hl : s.data.toList.length = s.size := (Lib.size_eq s).symm
  have hx : s.data.toList[pos]'(by omega) = s[pos]'h := by rw [← getD_byte s pos h]; simp [List.getD, List.getElem?_eq_getElem (show pos < s.data.toList.length by omega)]
  rw [List.drop_eq_getElem_cons (by omega), hx, conts]
theorem at_string (s : ByteArray) (pos : Nat) (h : pos < s.size) : ∃ X : Int, X = ((s[pos]'h).toNat : Int) ∧ 0 ≤ X ∧ X < 256 ∧ ∀ W, (Instr.index 9 (.string s) (.int .i64 (pos : Int))).run Tryz.prog W = .ok (.int .u8 X) W := by
  refine ⟨_, rfl, by omega, ?_, fun W => ?_⟩
  · have := (s[pos]'h).toNat_lt
    omega
  · rw [run_index_string W 9 s .i64 (pos : Int) Tryz.underlying9, dif_pos ⟨by omega, by omega⟩]; rfl

/-- What runes answers: V: is it right UTF-8; A: may its bytes stand in a key. -/
def RunesE (w w' : World) (V A : Bool) (e : Ending) : Prop := ∃ v L, e = .returned (.tuple #[v, .bool V]) ∧ Oi w' w.heap.size v L ∧ (V = true → L.all kr = A ∧ L.length ≤ 1000000) ∧ (V = false → L = [])
theorem RunesE.no {w w' : World} {V A : Bool} (h : V = false) : RunesE w w' V A (.returned (.tuple #[.slice none 0 0, .bool false])) := ⟨_, [], by rw [h], Oi.nil _ _, by rw [h]; simp, fun _ => rfl⟩
set_option maxHeartbeats 4000000 in
set_option maxRecDepth 100000 in
theorem runes_any (s : ByteArray) (w : World) (hs : s.size ≤ 1000000) : Calls Tryz.prog 105 #[.string s] w fun e w' => RunesE w w' (Lib.validD s.data.toList) (s.data.toList.all keyByte) e ∧ Below w.heap.size w w' := by
  obtain ⟨i0, hi, hz0, hz1, hz2⟩ := info_parts Tryz.info3
  have hl : s.data.toList.length = s.size := (Lib.size_eq s).symm
  obtain ⟨V, hV⟩ : ∃ V, V = Lib.validD s.data.toList := ⟨_, rfl⟩
  obtain ⟨A, hA⟩ : ∃ A, A = s.data.toList.all keyByte := ⟨_, rfl⟩
  rw [← hV, ← hA]
  have H := hide (And.intro hV hA)
  clear hV hA
  go_enter Tryz.func105, Tryz.ntmps105
  go_wp2
  go_loopw [4, 5] (fun v4 v5 wr => ∃ (i : Nat) (L : List Nat), i ≤ s.size ∧ v5 = .int .i64 i ∧ L.length ≤ i ∧ Hid (Oi wr w.heap.size v4 L) ∧ Hid (Lib.validD (s.data.toList.drop i) = V ∧ (L.all kr && (s.data.toList.drop i).all keyByte) = A) ∧ Hid (Below w.heap.size w wr)) (fun _ v5 _ => s.size - (intOf v5).toNat)
  case atStart => exact ⟨0, [], by omega, rfl, by simp, hide (Oi.nil _ _), hide ⟨H.out.1.symm, by simpa using H.out.2.symm⟩, hide (Below.refl _ _)⟩
  case round =>
    obtain ⟨i, L, hil, rfl, hLi, HO, HV, HW⟩ := hrel
    obtain ⟨ao, cc, hv4, -⟩ := HO.out.shape
    subst hv4
    by_cases hc : i < s.size
    · have z1 : (i : Int) < (s.size : Int) := by omega
      obtain ⟨X, hX, x0, x1, ix⟩ := at_string s i hc
      have wX : IntKind.i64.wrap X = X := by rw [IntKind.wrap_i64]; omega
      obtain ⟨x, hx⟩ : ∃ x, x = (s[i]'hc).toNat := ⟨_, rfl⟩
      rw [← hx] at hX
      obtain ⟨ld, hld⟩ : ∃ ld, ld = lead x := ⟨_, rfl⟩
      have HR := hide hx
      clear hx
      have HX := hide hX
      clear hX
      go_upto_block 2 with fail
      go_cut [6, 7, 8] (fun v6 v7 v8 wf => ∃ n c least : Nat, v6 = .int .i64 c ∧ v7 = .int .i64 n ∧ v8 = .int .i64 least ∧ 1 ≤ n ∧ n ≤ 4 ∧ c < 128 ∧ least ≤ 65536 ∧ Hid (ld = some (n, c, least)) ∧ wf = wr)
      case first =>
        have h6 : X < 128 ∨ (128 ≤ X ∧ X < 192) ∨ (192 ≤ X ∧ X < 224) ∨ (224 ≤ X ∧ X < 240) ∨ (240 ≤ X ∧ X < 248) ∨ 248 ≤ X := by omega
        rcases h6 with g | ⟨g, g'⟩ | ⟨g, g'⟩ | ⟨g, g'⟩ | ⟨g, g'⟩ | g
        · have hE := hide (show ld = some (1, x, 0) by rw [hld]; unfold lead; rw [if_pos (by have := HX.out; omega)])
          clear hld HR
          go_wp2
          go_meet
          have := HX.out
          exact ⟨1, x, 0, by rw [HX.out], rfl, rfl, by omega, by omega, by omega, by omega, hE, rfl⟩
        · have k1 : ¬ X < 128 := by omega
          have k2 : ¬ 192 ≤ X := by omega
          have k3 : ¬ 224 ≤ X := by omega
          have k4 : ¬ 240 ≤ X := by omega
          have hE := hide (show ld = none by rw [hld]; unfold lead; have := HX.out; rw [if_neg (by omega), if_neg (by omega), if_neg (by omega), if_neg (by omega)])
          have hE2 := hide (show V = false by rw [← HV.out.1]; exact rune_none hc (rune1_a hc (by rw [← HR.out, ← hld, hE.out])))
          clear hld HR
          go_wp2
          go_ret2
          exact ⟨RunesE.no hE2.out, HW.out⟩
        · have k1 : ¬ X < 128 := by omega
          have wY : IntKind.i64.wrap (X - 192) = X - 192 := by rw [IntKind.wrap_i64]; omega
          have hE := hide (show ld = some (2, x - 192, 128) by rw [hld]; unfold lead; have := HX.out; rw [if_neg (by omega), if_pos (by omega)])
          clear hld HR
          go_wp2
          go_meet
          have := HX.out
          exact ⟨2, x - 192, 128, by rw [show ((x - 192 : Nat) : Int) = X - 192 by omega], rfl, rfl, by omega, by omega, by omega, by omega, hE, rfl⟩
        · have k1 : ¬ X < 128 := by omega
          have k2 : 192 ≤ X := by omega
          have k3 : ¬ X < 224 := by omega
          have wY : IntKind.i64.wrap (X - 224) = X - 224 := by rw [IntKind.wrap_i64]; omega
          have hE := hide (show ld = some (3, x - 224, 2048) by rw [hld]; unfold lead; have := HX.out; rw [if_neg (by omega), if_neg (by omega), if_pos (by omega)])
          clear hld HR
          go_wp2
          go_meet
          have := HX.out
          exact ⟨3, x - 224, 2048, by rw [show ((x - 224 : Nat) : Int) = X - 224 by omega], rfl, rfl, by omega, by omega, by omega, by omega, hE, rfl⟩
        · have k1 : ¬ X < 128 := by omega
          have k2 : 192 ≤ X := by omega
          have k3 : ¬ X < 224 := by omega
          have k4 : 224 ≤ X := by omega
          have wY : IntKind.i64.wrap (X - 240) = X - 240 := by rw [IntKind.wrap_i64]; omega
          have hE := hide (show ld = some (4, x - 240, 65536) by rw [hld]; unfold lead; have := HX.out; rw [if_neg (by omega), if_neg (by omega), if_neg (by omega), if_pos (by omega)])
          clear hld HR
          go_wp2
          go_meet
          have := HX.out
          exact ⟨4, x - 240, 65536, by rw [show ((x - 240 : Nat) : Int) = X - 240 by omega], rfl, rfl, by omega, by omega, by omega, by omega, hE, rfl⟩
        · have k1 : ¬ X < 128 := by omega
          have k2 : 192 ≤ X := by omega
          have k3 : ¬ X < 224 := by omega
          have k4 : 224 ≤ X := by omega
          have k5 : ¬ X < 240 := by omega
          have k6 : 240 ≤ X := by omega
          have k7 : ¬ X < 248 := by omega
          have hE := hide (show ld = none by rw [hld]; unfold lead; have := HX.out; rw [if_neg (by omega), if_neg (by omega), if_neg (by omega), if_neg (by omega)])
          have hE2 := hide (show V = false by rw [← HV.out.1]; exact rune_none hc (rune1_a hc (by rw [← HR.out, ← hld, hE.out])))
          clear hld HR
          go_wp2
          go_ret2
          exact ⟨RunesE.no hE2.out, HW.out⟩
      case rest =>
        obtain ⟨n, c, least, rfl, rfl, rfl, hn1, hn4, hc7, hls, HE, rfl⟩ := hcut
        have HLD := hide (show lead (s[i]'hc).toNat = some (n, c, least) by rw [← HR.out, ← hld, HE.out])
        clear hld HE HR x0 x1 ix wX HX
        have wn : IntKind.i64.wrap ((i : Int) + (n : Int)) = (i : Int) + (n : Int) := by rw [IntKind.wrap_i64]; omega
        by_cases hgt : s.size < i + n
        · have k1 : (s.size : Int) < (i : Int) + (n : Int) := by omega
          have hE2 := hide (show V = false by rw [← HV.out.1]; exact rune_none hc (rune1_b hc HLD.out (by omega)))
          go_wp2
          go_ret2
          exact ⟨RunesE.no hE2.out, HW.out⟩
        · have k1 : ¬ (s.size : Int) < (i : Int) + (n : Int) := by omega
          obtain ⟨R, hR⟩ : ∃ R, R = conts (n - 1) (s.data.toList.drop (i + 1)) c := ⟨_, rfl⟩
          have HRR := hide hR
          clear hR
          go_wp2
          go_loopw [6, 9] (fun v6 v9 wz => ∃ k d : Nat, 1 ≤ k ∧ k ≤ n ∧ v9 = .int .i64 k ∧ v6 = .int .i64 d ∧ Hid (conts (n - k) (s.data.toList.drop (i + k)) d = R) ∧ ((k = 1 ∧ d < 128) ∨ (k = 2 ∧ d < 8192) ∨ (k = 3 ∧ d < 524288) ∨ (k = 4 ∧ d < 33554432)) ∧ wz = wc) (fun _ v9 _ => n - (intOf v9).toNat)
          case atStart => exact ⟨1, c, by omega, by omega, rfl, rfl, hide HRR.out.symm, by omega, rfl⟩
          case round =>
            obtain ⟨k, d, hk1, hkn, rfl, rfl, HC, hd, rfl⟩ := hrel
            by_cases hk : k < n
            · have z2 : (k : Int) < (n : Int) := by omega
              have wk : IntKind.i64.wrap ((i : Int) + (k : Int)) = (i : Int) + (k : Int) := by rw [IntKind.wrap_i64]; omega
              have hik : i + k < s.size := by omega
              obtain ⟨D, hD, d0, d1, iD⟩ := at_string s (i + k) hik
              rw [show ((i + k : Nat) : Int) = (i : Int) + (k : Int) by omega] at iD
              have wD : IntKind.i64.wrap D = D := by rw [IntKind.wrap_i64]; omega
              have hcs := conts_step s (n - k - 1) (i + k) d hik
              rw [show n - k - 1 + 1 = n - k by omega, HC.out] at hcs
              have HCS := hide (And.intro hD hcs)
              clear hD hcs
              by_cases g1 : D < 128
              · have hE2 := hide (show V = false by rw [← HV.out.1]; exact rune_none hc (rune1_c hc HLD.out (by rw [← HRR.out, HCS.out.2, if_pos (by have := HCS.out.1; omega)])))
                go_wp2
                go_ret2
                exact ⟨RunesE.no hE2.out, HW.out⟩
              · by_cases g2 : 192 ≤ D
                · have hE2 := hide (show V = false by rw [← HV.out.1]; exact rune_none hc (rune1_c hc HLD.out (by rw [← HRR.out, HCS.out.2, if_pos (by have := HCS.out.1; omega)])))
                  go_wp2
                  go_ret2
                  exact ⟨RunesE.no hE2.out, HW.out⟩
                · have wm : IntKind.i64.wrap (64 * (d : Int)) = 64 * (d : Int) := by rw [IntKind.wrap_i64]; omega
                  have wa : IntKind.i64.wrap (64 * (d : Int) + D) = 64 * (d : Int) + D := by rw [IntKind.wrap_i64]; omega
                  have ws : IntKind.i64.wrap (64 * (d : Int) + D - 128) = 64 * (d : Int) + D - 128 := by rw [IntKind.wrap_i64]; omega
                  go_wp2
                  go_roundw
                  case rel =>
                    have hq := HCS.out.1
                    refine ⟨k + 1, 64 * d + ((s[i + k]'hik).toNat - 128), by omega, by omega, by go_num, by rw [show ((64 * d + ((s[i + k]'hik).toNat - 128) : Nat) : Int) = 64 * (d : Int) + D - 128 by omega], hide ?_, by omega, trivial⟩
                    rw [HCS.out.2, if_neg (by omega), show n - k - 1 = n - (k + 1) by omega]
                    rfl
                  case measure => simp [intOf]; omega
            · have z2 : ¬ (k : Int) < (n : Int) := by omega
              obtain rfl : k = n := by omega
              have hcd := HC.out
              rw [Nat.sub_self, conts] at hcd
              have HCD := hide (hcd.trans HRR.out)
              clear hcd HC
              have fin : ¬ badRune d least → V = Lib.validD (s.data.toList.drop (i + k)) ∧ A = ((L ++ [d]).all kr && (s.data.toList.drop (i + k)).all keyByte) ∧ i + k ≤ s.size := fun hb => by
                obtain ⟨a1, a2, a3, a4⟩ := rune_step hc (rune1_e hc HLD.out (by omega) HCD.out.symm hb)
                have hv := HV.out
                rw [a3, a4] at hv
                refine ⟨hv.1.symm, ?_, a2⟩
                rw [← hv.2]
                simp [List.all_append, Bool.and_assoc]
              have bad : badRune d least → V = false := fun hb => by rw [← HV.out.1]; exact rune_none hc (rune1_d hc HLD.out HCD.out.symm hb)
              have HF := hide (And.intro fin bad)
              clear fin bad
              by_cases g1 : d < least
              · have z3 : (d : Int) < (least : Int) := by omega
                have hE2 := hide (HF.out.2 (.inl g1))
                go_wp2
                go_ret2
                exact ⟨RunesE.no hE2.out, HW.out⟩
              · have z3 : ¬ (d : Int) < (least : Int) := by omega
                by_cases g2 : 1114111 < d
                · have z4 : (1114111 : Int) < (d : Int) := by omega
                  have hE2 := hide (HF.out.2 (.inr (.inl g2)))
                  go_wp2
                  go_ret2
                  exact ⟨RunesE.no hE2.out, HW.out⟩
                · have z4 : ¬ (1114111 : Int) < (d : Int) := by omega
                  by_cases g3 : 55296 ≤ d ∧ d ≤ 57343
                  · have z5 : (55296 : Int) ≤ (d : Int) := by omega
                    have z6 : (d : Int) ≤ (57343 : Int) := by omega
                    have hE2 := hide (HF.out.2 (.inr (.inr g3)))
                    clear g3
                    go_wp2
                    go_ret2
                    exact ⟨RunesE.no hE2.out, HW.out⟩
                  · have hfin := hide (HF.out.1 (by unfold badRune; omega))
                    have hor : ¬ (55296 : Int) ≤ (d : Int) ∨ ((55296 : Int) ≤ (d : Int) ∧ ¬ (d : Int) ≤ (57343 : Int)) := by omega
                    have hO := HO.out
                    have hB := HW.out
                    have hsz := hB.size
                    clear g1 g2 g3 HF HCD HLD hd
                    have q1 : ∀ (j : Nat) (u : Value), [Value.int .i64 (d : Int)][j]? = some u → (wr.alloc (.cells #[.int .i64 (d : Int)] 3)).cell? ((⟨wr.heap.size, 0, none⟩ : Addr).add j) = some u := fun j u hj => by
                      match j, hj with
                      | 0, hj => simp at hj; subst hj; simp [Addr.add]
                    have HQ := hide (And.intro q1 (show L.length + 1 ≤ maxLen ∧ (L.length + 1) * 8 ≤ 140737488355328 by unfold maxLen; omega))
                    clear q1
                    rcases hor with z5 | ⟨z5, z6⟩
                    all_goals
                      go_wp2_with (at_builtin; refine wpList_append_own _ rfl _ _ 141 rfl w.heap.size 3 i0 (.int .i64 0) 1 8 Tryz.underlying141 hi hz0 hz1 hz2 rfl (by decide) _ _ _ rfl (World.ownsRow.alloc hO (.cells #[.int .i64 (d : Int)] 3)) ⟨wr.heap.size, 0, none⟩ 1 1 [.int .i64 (d : Int)] rfl rfl HQ.out.1 (fun u hu => by simp at hu; subst hu; rfl) HQ.out.2.1 HQ.out.2.2 (Nat.le_trans hsz (by simp)) ?_)
                      intro v2 w9 hown9 hg9 _
                      have hO9 : Oi w9 w.heap.size v2 (L ++ [d]) := by
                        unfold Oi
                        rw [List.length_append, List.map_append]
                        exact hown9
                      have hB9 : Below w.heap.size w w9 := (hB.alloc hsz _).grown hg9 (by simp; omega) (fun j hj => (World.ownsRow.lt hO j hj).1)
                      obtain ⟨a9, c9, hv9, -⟩ := hO9.shape
                      subst hv9
                      have H9 := hide (And.intro hO9 hB9)
                      clear hO9 hB9 hown9 hg9 hO hB
                      go_wp2
                      go_roundw
                      case rel =>
                        obtain ⟨f1, f2, f3⟩ := hfin.out
                        exact ⟨i + k, L ++ [d], f3, by go_num, by simp; omega, hide H9.out.1, hide ⟨f1.symm, f2.symm⟩, hide H9.out.2⟩
                      case measure => simp [intOf]; omega
    · have z1 : ¬ (i : Int) < (s.size : Int) := by omega
      obtain rfl : i = s.size := by omega
      have hv := HV.out
      rw [List.drop_eq_nil_of_le (by omega)] at hv
      have hv1 : V = true := by rw [← hv.1]; rfl
      have hv2 : L.all kr = A := by rw [← hv.2]; simp
      have HVV := hide (And.intro hv1 hv2)
      clear hv hv1 hv2 HV
      go_wp2
      go_ret2
      exact ⟨⟨_, L, by rw [HVV.out.1]; rfl, HO.out, fun _ => ⟨HVV.out.2, by omega⟩, by rw [HVV.out.1]; simp⟩, HW.out⟩

set_option maxHeartbeats 1000000 in
set_option maxRecDepth 100000 in
theorem refKey_any (s : ByteArray) (w : World) : Calls Tryz.prog 50 #[.string s] w fun e w' => e = .returned (.bool (keyB s.data.toList)) ∧ Below w.heap.size w w' := by
  unfold keyB
  rw [← Lib.size_eq]
  by_cases h1 : 1 ≤ s.size
  · by_cases h2 : s.size ≤ 64
    · have hv := runes_any s w (by omega)
      generalize Lib.validD s.data.toList = V at hv ⊢
      generalize s.data.toList.all keyByte = A at hv ⊢
      have d1 : decide (1 ≤ s.size) = true := by simpa using h1
      have d2 : decide (s.size ≤ 64) = true := by simpa using h2
      have e1 : ¬ ((s.size : Int) < 1) := by omega
      have e2 : ¬ ((64 : Int) < (s.size : Int)) := by omega
      rw [d1, d2]
      simp only [Bool.true_and]
      cases V with
      | false =>
        go_enter Tryz.func50, Tryz.ntmps50
        go_wp2_with (go_at_call 105; refine hv.mono ?_; rintro e w1 ⟨⟨v, L, rfl, hO, -, hL⟩, b1⟩; obtain rfl := hL rfl; obtain ⟨ao, cc, rfl, -⟩ := hO.shape; clear hL hO; dsimp only)
        go_loopw [5] (fun v5 wz => v5 = .int .i64 0 ∧ wz = w1) (fun _ _ => 0)
        case atStart => exact ⟨rfl, rfl⟩
        case round =>
          obtain ⟨rfl, rfl⟩ := hrel
          go_wp2
          go_ret
          exact ⟨rfl, b1⟩
      | true =>
        go_enter Tryz.func50, Tryz.ntmps50
        go_wp2_with (go_at_call 105; refine hv.mono ?_; rintro e w1 ⟨⟨v, L, rfl, hO, hA, -⟩, b1⟩; obtain ⟨hA, hLl⟩ := hA rfl; obtain ⟨ao, cc, rfl, hcell⟩ := hO.shape; clear hO; have HA := hide hA; clear hA; have HC := hide hcell; clear hcell; dsimp only)
        obtain ⟨N, hN⟩ : ∃ N, N = L.length := ⟨_, rfl⟩
        have HN := hide hN
        have hNL : N ≤ 1000000 := by rw [hN]; exact hLl
        rw [← hN]
        clear hN
        go_loopw [5] (fun v5 wz => ∃ i : Nat, i ≤ N ∧ v5 = .int .i64 i ∧ Hid ((L.drop i).all kr = A) ∧ wz = w1) (fun v5 _ => N - (intOf v5).toNat)
        case atStart => exact ⟨0, by omega, rfl, hide (by simpa using HA.out), rfl⟩
        case round =>
          obtain ⟨i, hi, rfl, HD, rfl⟩ := hrel
          by_cases hc : i < N
          · have z1 : (i : Int) < (N : Int) := by omega
            have hx : L[i]? = some (L[i]'(by rw [← HN.out]; exact hc)) := List.getElem?_eq_getElem _
            generalize L[i]'(by rw [← HN.out]; exact hc) = d at hx
            obtain ⟨g, off, rfl, hcx⟩ := HC.out _ _ hx
            have hst : (L.drop i).all kr = (kr d && (L.drop (i + 1)).all kr) := by
              obtain ⟨hlt, he⟩ := List.getElem?_eq_some_iff.1 hx
              rw [List.drop_eq_getElem_cons hlt, List.all_cons, he]
            have HS := hide hst
            clear hst hx
            by_cases g1 : d < 32
            · have z2 : (d : Int) < 32 := by omega
              have hE := hide (show A = false by rw [← HD.out, HS.out]; simp [kr]; omega)
              go_wp2
              go_ret
              exact ⟨by rw [hE.out]; rfl, b1⟩
            · have z2 : ¬ (d : Int) < 32 := by omega
              by_cases g2 : d = 47
              · subst g2
                have hE := hide (show A = false by rw [← HD.out, HS.out]; simp [kr])
                go_wp2
                go_ret
                exact ⟨by rw [hE.out]; rfl, b1⟩
              · have z3 : ((d : Int) == 47) = false := by simp; omega
                have hE := hide (show (L.drop (i + 1)).all kr = A by rw [← HD.out, HS.out]; simp [kr]; omega)
                clear g2
                go_wp2
                go_roundw
                case rel => exact ⟨i + 1, by omega, by go_num, hide hE.out, trivial⟩
                case measure => simp [intOf]; omega
          · have z1 : ¬ (i : Int) < (N : Int) := by omega
            have hE := hide (show A = true by rw [← HD.out, List.drop_eq_nil_of_le (by rw [← HN.out]; omega)]; rfl)
            go_wp2
            go_ret
            exact ⟨by rw [hE.out]; rfl, b1⟩
    · have d2 : decide (s.size ≤ 64) = false := by simpa using h2
      have e1 : ¬ ((s.size : Int) < 1) := by omega
      have e2 : (64 : Int) < (s.size : Int) := by omega
      rw [d2, Bool.and_false, Bool.false_and, Bool.false_and]
      go_enter Tryz.func50, Tryz.ntmps50
      go_wp2
      go_ret
      exact ⟨rfl, Below.refl _ _⟩
  · have d1 : decide (1 ≤ s.size) = false := by simpa using h1
    have e1 : (s.size : Int) < 1 := by omega
    rw [d1, Bool.false_and, Bool.false_and, Bool.false_and]
    go_enter Tryz.func50, Tryz.ntmps50
    go_wp2
    go_ret
    exact ⟨rfl, Below.refl _ _⟩
end Go.Proofs.YtpepgoelnagoaaaGreatDoor
