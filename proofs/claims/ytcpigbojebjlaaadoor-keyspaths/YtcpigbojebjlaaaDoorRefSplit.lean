/-
  THE DOCUMENT's Join and Split: what they answer.
-/
import Derived.Test.YtcpigbojebjlaaaDoorKindsP
import Derived.Test.YtcpigbojebjlaaaDoorRefPlace
namespace Go.Proofs.YtcpigbojebjlaaaDoor
open Go.RowKit Go.Shelf
set_option linter.unusedSimpArgs false

set_option maxHeartbeats 1000000 in
set_option maxRecDepth 100000 in
theorem refJoin_any {w : World} {ao : Option Addr} {c : Nat} {l : List ByteArray} (h : Rs w ao l) (hp : pathB l = true) : Calls Tryd.prog 28 #[.slice ao l.length c] w fun e w' => e = .returned (.string ⟨(joinB l).toArray⟩) ∧ w' = w := by
  obtain ⟨h6, h64⟩ := path_sizes hp
  unfold joinB
  obtain ⟨N, hN⟩ : ∃ N, N = l.length := ⟨_, rfl⟩
  rw [← hN] at h6 ⊢
  by_cases h0 : l = []
  · subst h0
    subst hN
    rw [if_pos rfl]
    go_enter Tryd.func28, Tryd.ntmps28
    go_wp2
    go_ret
    exact ⟨rfl, rfl⟩
  · rw [if_neg h0]
    have hN0 : N ≠ 0 := fun e => h0 (List.eq_nil_of_length_eq_zero (by omega))
    have z0 : ((N : Int) == 0) = false := by rw [beq_eq_false_iff_ne]; omega
    obtain ⟨R, hR⟩ : ∃ R, R = l.flatMap (fun s => 47 :: s.data.toList) := ⟨_, rfl⟩
    rw [← hR]
    have H := hide (And.intro hN (And.intro hR h64))
    clear hN hR h0 h64
    go_enter Tryd.func28, Tryd.ntmps28
    go_wp2
    go_loopw [3, 4] (fun v3 v4 wr => ∃ (i : Nat) (a : ByteArray), i ≤ N ∧ v4 = .int .i64 i ∧ v3 = .string a ∧ a.size ≤ 65 * i ∧ Hid (a.data.toList = (l.take i).flatMap (fun s => 47 :: s.data.toList)) ∧ wr = w) (fun _ v4 _ => N - (intOf v4).toNat)
    case atStart => exact ⟨0, _, by omega, rfl, rfl, by simp [ByteArray.size], hide (by simp), rfl⟩
    case round =>
      obtain ⟨i, a, hi, rfl, rfl, ha, HA, rfl⟩ := hrel
      by_cases hc : i < N
      · have z1 : (i : Int) < (N : Int) := by omega
        have hx : l[i]? = some (l[i]'(by rw [← H.out.1]; exact hc)) := List.getElem?_eq_getElem _
        generalize l[i]'(by rw [← H.out.1]; exact hc) = s at hx
        have hft := flatJ_take l i s hx
        have hs64 := H.out.2.2 s (List.mem_of_getElem? hx)
        obtain ⟨g, off, rfl, hcx⟩ := h.at hx
        have HF := hide hft
        clear hft hx
        go_wp2
        go_roundw
        case rel =>
          refine ⟨i + 1, a ++ ⟨#[47]⟩ ++ s, by omega, by go_num, rfl, ?_, hide ?_, trivial⟩
          · simp only [ByteArray.size_append]
            have : (⟨#[47]⟩ : ByteArray).size = 1 := rfl
            omega
          · rw [HF.out, ← HA.out]
            simp [ByteArray.data_append]
        case measure => simp [intOf]; omega
      · have z1 : ¬ (i : Int) < (N : Int) := by omega
        have hE : a = ⟨R.toArray⟩ := by
          apply ba_eq
          rw [HA.out, List.take_of_length_le (by rw [← H.out.1]; omega), ← H.out.2.1]
        have HE := hide hE
        clear hE
        go_wp2
        go_ret
        exact ⟨by rw [HE.out]; rfl, rfl⟩

theorem ext_mid (s : ByteArray) (a i : Nat) : s.extract a i = ⟨((s.data.toList.drop a).take (i - a)).toArray⟩ := by
  apply ByteArray.ext
  apply Array.toList_inj.1
  simp [ByteArray.data_extract, List.drop_take]
theorem keysOf_snoc (acc : List (List UInt8)) (k : List UInt8) : keysOf (acc ++ [k]) = keysOf acc ++ [⟨k.toArray⟩] := by simp [keysOf]
theorem keysOf_length (acc : List (List UInt8)) : (keysOf acc).length = acc.length := by simp [keysOf]
theorem pieces_ne (cur l : List UInt8) : pieces cur l ≠ [] := by
  rw [pieces_cut]
  split <;> simp
theorem cur_next (s : ByteArray) (a i : Nat) (h : a ≤ i) (hi : i < s.size) : (s.data.toList.drop a).take (i + 1 - a) = (s.data.toList.drop a).take (i - a) ++ [s[i]'hi] := by
  have hl : s.data.toList.length = s.size := (Lib.size_eq s).symm
  rw [show i + 1 - a = i - a + 1 by omega, List.take_add_one, List.getElem?_drop, show a + (i - a) = i by omega, List.getElem?_eq_getElem (by omega)]
  simp only [Option.toList_some]
  congr 2

set_option maxHeartbeats 2000000 in
set_option maxRecDepth 100000 in
theorem refSplit_any (s : ByteArray) (w : World) (hs : s.size ≤ 1000000) : Calls Tryd.prog 9 #[.string s] w fun e w' => SplitE w w' (splitB s.data.toList) e ∧ Below w.heap.size w w' := by
  obtain ⟨i0, hi, hz0, hz1, hz2⟩ := info_parts Tryd.info9
  have hl : s.data.toList.length = s.size := (Lib.size_eq s).symm
  by_cases h47 : s.data.toList = [47]
  · have : s = ⟨#[47]⟩ := by
      apply ByteArray.ext
      apply Array.toList_inj.1
      exact h47
    subst this
    go_enter Tryd.func9, Tryd.ntmps9
    go_wp2
    go_ret2
    exact ⟨.inr ⟨[], _, rfl, rfl, Os.nil _ _⟩, Below.refl _ _⟩
  · have b2 : (s.toList == [47]) = false := by rw [beq_eq_false_iff_ne, ByteArray.toList_eq]; exact h47
    by_cases h0 : s.size = 0
    · obtain rfl : s = ⟨#[]⟩ := by
        apply ByteArray.ext
        exact Array.eq_empty_of_size_eq_zero h0
      go_enter Tryd.func9, Tryd.ntmps9
      go_wp2
      go_loopw [4, 6] (fun v4 v6 wr => v4 = .slice none 0 0 ∧ v6 = .int .i64 1 ∧ wr = w) (fun _ _ _ => 0)
      case atStart => exact ⟨rfl, rfl, rfl⟩
      case round =>
        obtain ⟨rfl, rfl, rfl⟩ := hrel
        go_wp2
        go_ret2
        exact ⟨.inl ⟨rfl, rfl⟩, Below.refl _ _⟩
    · obtain ⟨F, hF⟩ : ∃ F, F = pieces [] (s.data.toList.drop 1) := ⟨_, rfl⟩
      have hsp := refSplit_eq s.data.toList h47
      rw [← hF] at hsp
      have HF := hide (And.intro hF hsp)
      clear hF hsp h47
      go_enter Tryd.func9, Tryd.ntmps9
      go_wp2
      go_loopw [4, 5, 6] (fun v4 v5 v6 wr => ∃ (i at' : Nat) (acc : List (List UInt8)), v5 = .int .i64 at' ∧ v6 = .int .i64 i ∧ i ≤ s.size + 1 ∧ at' ≤ i + 1 ∧ acc.length ≤ 7 ∧ Hid (Os wr w.heap.size v4 (keysOf acc)) ∧ Hid ((i ≤ s.size ∧ at' ≤ i ∧ acc ++ pieces ((s.data.toList.drop at').take (i - at')) (s.data.toList.drop i) = F) ∨ (i = s.size + 1 ∧ acc = F)) ∧ Hid (Below w.heap.size w wr)) (fun _ _ v6 _ => s.size + 1 - (intOf v6).toNat)
      case atStart => exact ⟨1, 1, [], rfl, rfl, by omega, by omega, by simp, hide (Os.nil _ _), hide (.inl ⟨by omega, by omega, by rw [HF.out.1]; simp⟩), hide (Below.refl _ _)⟩
      case round =>
        obtain ⟨i, at', acc, rfl, rfl, his, hat, hacc, HO, HP, HW⟩ := hrel
        obtain ⟨ao, cc, hv4, -, -, -, -⟩ := HO.out.shape
        rw [keysOf_length] at hv4
        subst hv4
        have hsz := HW.out.size
        by_cases hgo : i ≤ s.size ∧ acc.length ≤ 6
        · obtain ⟨g1, g2⟩ := hgo
          have z1 : (i : Int) ≤ (s.size : Int) := by omega
          have z2 : (acc.length : Int) ≤ 6 := by omega
          obtain ⟨-, hai, hpc⟩ : i ≤ s.size ∧ at' ≤ i ∧ acc ++ pieces ((s.data.toList.drop at').take (i - at')) (s.data.toList.drop i) = F := by
            rcases HP.out with h | h
            · exact h
            · omega
          have a1 : (0 : Int) ≤ (at' : Int) := by omega
          have a2 : (at' : Int) ≤ (i : Int) := by omega
          have hext := ext_mid s at' i
          obtain ⟨cur, hcur⟩ : ∃ cur, cur = (s.data.toList.drop at').take (i - at') := ⟨_, rfl⟩
          rw [← hcur] at hext hpc
          have HX := hide (And.intro hpc hcur)
          clear hpc hcur HP
          have hO := HO.out
          have q1 : ∀ (j : Nat) (u : Value), [Value.string ⟨cur.toArray⟩][j]? = some u → (wr.alloc (.cells #[.string ⟨cur.toArray⟩] 9)).cell? ((⟨wr.heap.size, 0, none⟩ : Addr).add j) = some u := fun j u hj => by
            match j, hj with
            | 0, hj => simp at hj; subst hj; simp [Addr.add]
          have HQ := hide (And.intro q1 (show (keysOf acc).length + 1 ≤ maxLen ∧ ((keysOf acc).length + 1) * 16 ≤ 140737488355328 by unfold maxLen; rw [keysOf_length]; omega))
          clear q1
          by_cases hend : i = s.size
          · have hE : acc ++ [cur] = F := by
              have := HX.out.1
              rw [List.drop_eq_nil_of_le (by omega), pieces] at this
              exact this
            have HE := hide hE
            clear hE
            subst hend
            go_wp2_with (at_builtin; refine wpList_append_own _ rfl _ _ 23 rfl w.heap.size 9 i0 (.string ⟨#[]⟩) 1 16 Tryd.underlying23 hi hz0 hz1 hz2 rfl (by decide) _ _ _ rfl (World.ownsRow.alloc hO (.cells #[.string ⟨cur.toArray⟩] 9)) ⟨wr.heap.size, 0, none⟩ 1 1 [.string ⟨cur.toArray⟩] rfl rfl HQ.out.1 (fun u hu => by simp at hu; subst hu; rfl) HQ.out.2.1 HQ.out.2.2 (Nat.le_trans hsz (by simp)) ?_)
            intro v2 w9 hown9 hg9 _
            have hO9 : Os w9 w.heap.size v2 (keysOf (acc ++ [cur])) := by
              rw [keysOf_snoc]
              unfold Os
              rw [List.length_append, List.map_append]
              exact hown9
            have hB9 : Below w.heap.size w w9 := (HW.out.alloc hsz _).grown hg9 (by simp; omega) (fun j hj => (World.ownsRow.lt hO j hj).1)
            obtain ⟨a9, c9, hv9, -, -, -, -⟩ := hO9.shape
            rw [keysOf_length] at hv9
            subst hv9
            have H9 := hide (And.intro hO9 hB9)
            clear hO9 hB9 hown9 hg9 hO
            go_wp2
            go_roundw
            case rel => exact ⟨s.size + 1, s.size + 1, acc ++ [cur], by go_num, by go_num, by omega, by omega, by simp; omega, hide H9.out.1, hide (.inr ⟨rfl, HE.out⟩), hide H9.out.2⟩
            case measure => simp [intOf]
          · have hlt : i < s.size := by omega
            have z3 : ((i : Int) == (s.size : Int)) = false := by rw [beq_eq_false_iff_ne]; omega
            obtain ⟨X, hX, x0, x1, ix⟩ := at_string s i hlt
            obtain ⟨tl, hu, he, hq⟩ := rune1_cons s i hlt
            by_cases g47 : X = 47
            · subst g47
              have hs47 : s[i]'hlt = 47 := by
                apply UInt8.toNat_inj.1
                have : (47 : UInt8).toNat = 47 := rfl
                omega
              have hE : (acc ++ [cur]) ++ pieces [] (s.data.toList.drop (i + 1)) = F := by
                have := HX.out.1
                rw [he, hs47, pieces, if_pos rfl, ← hu] at this
                rw [← this]
                simp
              have HE := hide hE
              clear hE hs47 hX hu he hq
              go_wp2_with (at_builtin; refine wpList_append_own _ rfl _ _ 23 rfl w.heap.size 9 i0 (.string ⟨#[]⟩) 1 16 Tryd.underlying23 hi hz0 hz1 hz2 rfl (by decide) _ _ _ rfl (World.ownsRow.alloc hO (.cells #[.string ⟨cur.toArray⟩] 9)) ⟨wr.heap.size, 0, none⟩ 1 1 [.string ⟨cur.toArray⟩] rfl rfl HQ.out.1 (fun u hu => by simp at hu; subst hu; rfl) HQ.out.2.1 HQ.out.2.2 (Nat.le_trans hsz (by simp)) ?_)
              intro v2 w9 hown9 hg9 _
              have hO9 : Os w9 w.heap.size v2 (keysOf (acc ++ [cur])) := by
                rw [keysOf_snoc]
                unfold Os
                rw [List.length_append, List.map_append]
                exact hown9
              have hB9 : Below w.heap.size w w9 := (HW.out.alloc hsz _).grown hg9 (by simp; omega) (fun j hj => (World.ownsRow.lt hO j hj).1)
              obtain ⟨a9, c9, hv9, -, -, -, -⟩ := hO9.shape
              rw [keysOf_length] at hv9
              subst hv9
              have H9 := hide (And.intro hO9 hB9)
              clear hO9 hB9 hown9 hg9 hO
              go_wp2
              go_roundw
              case rel => exact ⟨i + 1, i + 1, acc ++ [cur], by go_num, by go_num, by omega, by omega, by simp; omega, hide H9.out.1, hide (.inl ⟨by omega, by omega, by rw [Nat.sub_self, List.take_zero]; exact HE.out⟩), hide H9.out.2⟩
              case measure => simp [intOf]; omega
            · have g48 : (X == 47) = false := by simpa using g47
              have hs47 : s[i]'hlt ≠ 47 := fun e => by
                apply g47
                rw [hX, e]
                rfl
              have hE : acc ++ pieces ((s.data.toList.drop at').take (i + 1 - at')) (s.data.toList.drop (i + 1)) = F := by
                have := HX.out.1
                rw [he, pieces, if_neg hs47, ← hu, HX.out.2] at this
                rw [cur_next s at' i hai hlt]
                exact this
              have HE := hide hE
              clear hE hs47 hX hu he hq
              go_wp2
              go_roundw
              case rel => exact ⟨i + 1, at', acc, rfl, by go_num, by omega, by omega, by omega, hide HO.out, hide (.inl ⟨by omega, by omega, HE.out⟩), hide HW.out⟩
              case measure => simp [intOf]; omega
        · have hK : F.take 7 = acc ∧ acc.length ≠ 0 := by
            have hne : F ≠ [] := by rw [HF.out.1]; exact pieces_ne _ _
            have hnl : F.length ≠ 0 := fun e => hne (List.eq_nil_of_length_eq_zero e)
            rcases HP.out with ⟨g1, g2, g3⟩ | ⟨g1, g2⟩
            · have h7 : acc.length = 7 := by omega
              refine ⟨?_, by omega⟩
              rw [← g3, List.take_append_of_le_length (by omega), List.take_of_length_le (by omega)]
            · refine ⟨by rw [← g2, List.take_of_length_le (by omega)], by rw [g2]; exact hnl⟩
          have hsp := HF.out.2
          rw [hK.1] at hsp
          have hk0 : ((acc.length : Int) == 0) = false := by rw [beq_eq_false_iff_ne]; omega
          have hrs : Rs wr ao (keysOf acc) := by
            obtain ⟨ao', c', hv', hr', -⟩ := HO.out.shape
            rw [keysOf_length] at hv'
            cases hv'
            exact hr'
          have hpt := refPath_any (c := cc) hrs
          rw [keysOf_length] at hpt
          have hor : ¬ (i : Int) ≤ (s.size : Int) ∨ ((i : Int) ≤ (s.size : Int) ∧ ¬ (acc.length : Int) ≤ 6) := by omega
          cases hpb : pathB (keysOf acc) with
          | false =>
            rw [hpb] at hsp hpt
            rw [if_neg (by simp)] at hsp
            have HS := hide hsp
            clear hsp hK hrs hgo hpb
            rcases hor with z1 | ⟨z1, z2⟩
            all_goals
              go_wp2_with (go_at_call 26; refine hpt.mono ?_; rintro e w8 ⟨rfl, b8⟩)
              go_ret2
              exact ⟨.inl ⟨HS.out, rfl⟩, HW.out.trans (b8.mono hsz)⟩
          | true =>
            have hjn : ∀ W, Below wr.heap.size wr W → Calls Tryd.prog 28 #[.slice ao acc.length cc] W fun e w' => e = .returned (.string ⟨(joinB (keysOf acc)).toArray⟩) ∧ w' = W := fun W hW => by
              have := refJoin_any (c := cc) (hrs.below hW) hpb
              rw [keysOf_length] at this
              exact this
            rw [hpb] at hsp hpt
            by_cases hj : joinB (keysOf acc) = s.data.toList
            · rw [if_pos ⟨rfl, hj⟩] at hsp
              have hsame : ((⟨(joinB (keysOf acc)).toArray⟩ : ByteArray).toList == s.toList) = true := by rw [ByteArray.toList_eq, ByteArray.toList_eq, hj]; simp
              have HS := hide hsp
              clear hsp hK hrs hgo hpb hj
              generalize (⟨(joinB (keysOf acc)).toArray⟩ : ByteArray) = J at hjn hsame
              rcases hor with z1 | ⟨z1, z2⟩
              all_goals
                go_wp2_with (first
                  | (go_at_call 26; refine hpt.mono ?_; rintro e w8 ⟨rfl, b8⟩)
                  | (go_at_call 28; refine (hjn _ b8).mono ?_; rintro e w7 ⟨rfl, hw7⟩; have hwx := hw7.symm; clear hw7; subst hwx))
                go_ret2
                exact ⟨.inr ⟨acc, _, HS.out, rfl, HO.out.below b8⟩, HW.out.trans (b8.mono hsz)⟩
            · rw [if_neg (fun e => hj e.2)] at hsp
              have hsame : ((⟨(joinB (keysOf acc)).toArray⟩ : ByteArray).toList == s.toList) = false := by rw [ByteArray.toList_eq, ByteArray.toList_eq, beq_eq_false_iff_ne]; exact hj
              have HS := hide hsp
              clear hsp hK hrs hgo hpb hj
              generalize (⟨(joinB (keysOf acc)).toArray⟩ : ByteArray) = J at hjn hsame
              rcases hor with z1 | ⟨z1, z2⟩
              all_goals
                go_wp2_with (first
                  | (go_at_call 26; refine hpt.mono ?_; rintro e w8 ⟨rfl, b8⟩)
                  | (go_at_call 28; refine (hjn _ b8).mono ?_; rintro e w7 ⟨rfl, hw7⟩; have hwx := hw7.symm; clear hw7; subst hwx))
                go_ret2
                exact ⟨.inl ⟨HS.out, rfl⟩, HW.out.trans (b8.mono hsz)⟩
end Go.Proofs.YtcpigbojebjlaaaDoor
