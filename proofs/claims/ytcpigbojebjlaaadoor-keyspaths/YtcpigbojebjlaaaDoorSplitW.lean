/-
  THE WALK over the program's Split.
-/
import Derived.Test.YtcpigbojebjlaaaDoorSplit
import Derived.WalkMore
import Derived.Scope
namespace Go.Proofs.YtcpigbojebjlaaaDoor
open Go.RowKit Go.Shelf
set_option linter.unusedSimpArgs false

theorem below_dr {B : Nat} {w wr : World} (h : Below B w wr) (n : Nat) : Below B w (wr.drewN n) := h.trans ⟨rfl, rfl, rfl, Nat.le_refl _, fun _ _ => rfl⟩
def lenOf : Value → Nat | .slice _ n _ => n | _ => 0
set_option maxHeartbeats 2000000 in
set_option maxRecDepth 100000 in
theorem split_any (s : ByteArray) (w : World) (hs : s.size ≤ 1000000) (hT : Tabs w) : Calls Tryd.prog 8 #[.string s] w fun e w' => SplitE w w' (splitB s.data.toList) e ∧ Below w.heap.size w w' := by
  obtain ⟨i0, hi, hz0, hz1, hz2⟩ := info_parts Tryd.info9
  have hl : s.data.toList.length = s.size := (Lib.size_eq s).symm
  have hcp := Tryd.strings_CutPrefix s ⟨#[47]⟩ w
  unfold splitB
  simp only [Lib.trimPrefix] at hcp
  by_cases hpf : Lib.hasPrefix s.data.toList [47] = true
  · rw [if_pos hpf]
    have hpf' : Lib.hasPrefix s.data.toList (⟨#[47]⟩ : ByteArray).data.toList = true := hpf
    rw [hpf', if_pos rfl] at hcp
    have hcp2 : Calls Tryd.prog 37 #[.string s, .string { data := #[47] }] w fun e w' => e = .returned (.tuple #[.string ⟨(s.data.toList.drop 1).toArray⟩, .bool true]) ∧ w' = w := hcp
    obtain ⟨r0, hr0⟩ : ∃ r0, r0 = s.data.toList.drop 1 := ⟨_, rfl⟩
    have hr0l : r0.length ≤ 1000000 := by rw [hr0, List.length_drop]; omega
    rw [← hr0] at hcp2 ⊢
    clear hcp hpf hpf' hr0
    by_cases hne : r0 = []
    · subst hne
      rw [if_pos rfl]
      go_enter Tryd.func8, Tryd.ntmps8
      go_wp2
      go_step3
      go_wp2_with (go_at_call 37; refine hcp2.mono ?_; rintro e w' ⟨rfl, rfl⟩)
      rw [Exit.noGoto_ret]
      go_ret2
      exact ⟨.inr ⟨[], _, rfl, rfl, Os.nil _ _⟩, Below.refl _ _⟩
    · rw [if_neg hne]
      have b1 : ((⟨r0.toArray⟩ : ByteArray).toList == []) = false := by rw [beq_eq_false_iff_ne, ByteArray.toList_eq]; simpa using hne
      have b1' : r0.isEmpty = false := by simpa using hne
      obtain ⟨R, hR⟩ : ∃ R, R = splitGo 8 [] r0 := ⟨_, rfl⟩
      rw [← hR]
      have HR := hide hR
      clear hR hne
      go_enter Tryd.func8, Tryd.ntmps8
      go_wp2
      go_step3
      go_wp2_with (go_at_call 37; refine hcp2.mono ?_; rintro e w' ⟨rfl, hww⟩; have hwx := hww.symm; clear hww; subst hwx)
      go_step3
      go_wp2
      go_loopw [4, 5, 6, 7] (fun v4 v5 v6 v7 wr => ∃ (t : List UInt8) (m : Bool) (acc : List (List UInt8)), v4 = .string ⟨t.toArray⟩ ∧ v5 = .bool m ∧ v7 = .int .i64 0 ∧ t.length ≤ 1000000 ∧ Hid (Os wr w.heap.size v6 (keysOf acc)) ∧ Hid (if m then acc.length ≤ 6 ∧ splitGo (8 - acc.length) acc t = R else acc.length ≤ 7 ∧ some acc = R) ∧ Hid (Below w.heap.size w wr)) (fun _ _ v6 _ _ => 8 - lenOf v6)
      case atStart => exact ⟨r0, true, [], rfl, rfl, rfl, hr0l, hide (Os.nil _ _), hide ⟨by simp, HR.out.symm⟩, hide (Below.refl _ _)⟩
      case round =>
        obtain ⟨t, m, acc, rfl, rfl, rfl, htl, HO, HG, HW⟩ := hrel
        obtain ⟨ao, cc, rfl, -, -, -, -⟩ := HO.out.shape
        have hkl : (keysOf acc).length = acc.length := by simp [keysOf]
        rw [hkl] at HO ⊢
        cases m with
        | false =>
          go_wp2
          rw [Exit.noGoto_ret]
          go_ret2
          have hg := HG.out
          simp only [Bool.false_eq_true, if_false] at hg
          exact ⟨.inr ⟨acc, _, hg.2.symm, rfl, HO.out⟩, HW.out⟩
        | true =>
          have hg := HG.out
          simp only [if_true] at hg
          obtain ⟨n, hn⟩ : ∃ n, 8 - acc.length = n + 1 := ⟨7 - acc.length, by omega⟩
          rw [hn] at hg
          have hacl := hg.1
          have hst : splitGo (n + 1) acc t = R := hg.2
          rw [splitGo] at hst
          have hcut := cut_any ⟨t.toArray⟩ wr (by simpa [ByteArray.size] using htl)
          have hcl := cut47_length t
          have ht' : (⟨t.toArray⟩ : ByteArray).data.toList = t := rfl
          rw [ht'] at hcut
          unfold cutE at hcut
          generalize cut47 t = C at hst hcut hcl
          obtain ⟨k, r, m'⟩ := C
          simp only at hst hcut hcl
          have hky : ∀ nq, Calls Tryd.prog 12 #[.string ⟨k.toArray⟩] (wr.drewN nq) fun e w' => e = .returned (.bool (keyB k)) ∧ Below wr.heap.size (wr.drewN nq) w' := fun nq => key_any ⟨k.toArray⟩ (wr.drewN nq) (Tabs.below hT (Below.trans (Below.mono (B := w.heap.size) HW.out (Nat.le_refl _)) ⟨rfl, rfl, rfl, Nat.le_refl _, fun _ _ => rfl⟩))
          have HS := hide hst
          clear hst hg HG
          by_cases h6 : acc.length = 6
          · have h6b : ((acc.length : Int) == 6) = true := by simp [h6]
            have hRn : R = none := by rw [← HS.out, if_pos (.inl h6)]
            have HE := hide hRn
            clear hRn h6 hky
            go_wp2_with (go_at_call 38; refine hcut.mono ?_; rintro e w' ⟨rfl, nq, rfl⟩)
            rw [Exit.noGoto_ret]
            go_ret2
            exact ⟨.inl ⟨HE.out, rfl⟩, HW.out.trans ⟨rfl, rfl, rfl, Nat.le_refl _, fun _ _ => rfl⟩⟩
          · have h6b : ((acc.length : Int) == 6) = false := by simp; omega
            cases hkb : keyB k with
            | false =>
              have hRn : R = none := by rw [← HS.out, if_pos (.inr hkb)]
              have HE := hide hRn
              simp only [hkb] at hky
              clear hRn h6 hkb
              go_wp2_with (first
                | (go_at_call 38; refine hcut.mono ?_; rintro e w' ⟨rfl, nq, rfl⟩)
                | (go_at_call 12; refine (hky _).mono ?_; rintro e w8 ⟨rfl, b8⟩))
              rw [Exit.noGoto_ret]
              go_ret2
              exact ⟨.inl ⟨HE.out, rfl⟩, (below_dr HW.out nq).trans (b8.mono HW.out.size)⟩
            | true =>
              simp only [hkb] at hky
              have HN := hide (And.intro h6 (And.intro hn hkb))
              clear h6 hkb hn
              go_wp2_with (first
                | (go_at_call 38; refine hcut.mono ?_; rintro e w' ⟨rfl, nq, rfl⟩)
                | (go_at_call 12; refine (hky _).mono ?_; rintro e w8 ⟨rfl, b8⟩; have hO8 : Os w8 w.heap.size (.slice ao acc.length cc) (keysOf acc) := HO.out.below ((below_dr (Below.refl _ wr) nq).trans b8); have hB8 : Below w.heap.size w w8 := (below_dr HW.out nq).trans (b8.mono HW.out.size); have hs8 := hB8.size)
                | (at_builtin; refine wpList_append_own _ rfl _ _ 23 rfl w.heap.size 9 i0 (.string ⟨#[]⟩) 1 16 Tryd.underlying23 hi hz0 hz1 hz2 rfl (by decide) _ _ _ rfl (hO8.alloc (.cells #[.string ⟨k.toArray⟩] 9)) ⟨w8.heap.size, 0, none⟩ 1 1 [.string ⟨k.toArray⟩] rfl rfl ?c1 ?c2 ?c3 ?c4 ?c5 ?_))
              case c1 =>
                intro j u hj
                match j, hj with
                | 0, hj => simp at hj; subst hj; simp [Addr.add]
              case c2 => intro u hu; simp at hu; subst hu; rfl
              case c3 => unfold maxLen; simp [keysOf]; omega
              case c4 => simp [keysOf]; omega
              case c5 => simp; omega
              intro v2 w9 hown9 hg9 _
              have hO9 : Os w9 w.heap.size v2 (keysOf (acc ++ [k])) := by
                have e1 : keysOf (acc ++ [k]) = keysOf acc ++ [⟨k.toArray⟩] := by simp [keysOf]
                rw [e1]
                unfold Os
                rw [List.length_append, List.map_append, hkl]
                exact hown9
              have hB9 : Below w.heap.size w w9 := (hB8.alloc hs8 _).grown hg9 (by simp; omega) (fun j hj => (World.ownsRow.lt hO8 j hj).1)
              obtain ⟨a9, c9, rfl, -, -, -, -⟩ := hO9.shape
              have hkl9 : (keysOf (acc ++ [k])).length = acc.length + 1 := by simp [keysOf]
              rw [hkl9] at hO9 ⊢
              have H9 := hide (And.intro hO9 hB9)
              clear hO9 hB9 hown9 hg9 hO8 hB8 b8
              go_wp2
              obtain ⟨h6, hn, hkb⟩ := HN.out
              refine ⟨⟨r, m', acc ++ [k], rfl, rfl, rfl, by omega, hide H9.out.1, hide ?_, hide H9.out.2⟩, ?_⟩
              · have hst := HS.out
                rw [if_neg (by simp [h6, hkb])] at hst
                cases m' with
                | true =>
                  simp only [if_true] at hst ⊢
                  refine ⟨by simp; omega, ?_⟩
                  rw [← hst]
                  congr 1
                  simp; omega
                | false =>
                  simp only [Bool.false_eq_true, if_false] at hst ⊢
                  exact ⟨by simp; omega, hst⟩
              · simp only [lenOf]; omega
  · have hpf' : Lib.hasPrefix s.data.toList (⟨#[47]⟩ : ByteArray).data.toList = false := by simpa using hpf
    rw [if_neg hpf]
    rw [hpf'] at hcp
    go_enter Tryd.func8, Tryd.ntmps8
    go_wp2
    go_step3
    go_wp2_with (go_at_call 37; refine hcp.mono ?_; rintro e w' ⟨rfl, rfl⟩)
    rw [Exit.noGoto_ret]
    go_ret2
    exact ⟨.inl ⟨rfl, rfl⟩, Below.refl _ _⟩
end Go.Proofs.YtcpigbojebjlaaaDoor
