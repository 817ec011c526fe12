/-
  WALKS over the document's own Scan.
-/
import Derived.Test.YtmabfaldndlneaaKnown
namespace Go.Proofs.Ytmabfaldndlneaa
open Go.RowKit Go.Shelf Crc
set_option linter.unusedSimpArgs false

set_option maxHeartbeats 1000000 in
set_option maxRecDepth 100000 in
theorem refScan_any {w : World} {ao : Option Addr} {c : Nat} {b : List Int} (h : Bs w ao c b) (hlen : b.length ≤ 1000000) :
    Calls Try.prog 7 #[.slice ao b.length c] w fun e w' => ∃ v xs, e = .returned (.tuple #[v, .int .i64 (fend b 0 : Nat), .int .i64 (ends b : Nat)]) ∧ Fms w' w.heap.size v (FL b) xs ∧ Below w.heap.size w w' := by
  obtain ⟨i36, hi, hz0, hz1, hz2⟩ := info_parts Try.info36
  have hfl := frs_length b 0 (by omega)
  have H := hide h
  clear h
  go_enter Try.func7, Try.ntmps7
  go_wp2
  go_loopw [5, 6] (fun v i wr => ∃ (k : Nat) (a3 : Option Addr) (n3 c3 : Nat) (xs : List Value), k ≤ (frs b 0).length ∧ i = .int .i64 (place (frs b 0) k : Nat) ∧ v = .slice a3 n3 c3 ∧ Fms wr w.heap.size (.slice a3 n3 c3) ((FL b).take k) xs ∧ Below w.heap.size w wr) (fun _ i _ => b.length - (intOf i).toNat)
  case atStart => exact ⟨0, none, 0, 0, [], Nat.zero_le _, rfl, rfl, by simpa using Fms.nil w _, Below.refl _ _⟩
  case round =>
    obtain ⟨k, a3, n3, c3, xs, hk, rfl, rfl, hM, hbw⟩ := hrel
    have hpl := place_le hk
    obtain ⟨p, hp⟩ : ∃ p, p = place (frs b 0) k := ⟨_, rfl⟩
    rw [← hp] at hpl ⊢
    have hdr := hide (And.intro (frs_drop hp hk) hp)
    clear hp
    have hkl : ((FL b).take k).length = k := by simp [FL]; omega
    by_cases hlt : p < b.length
    · have hd : decide ((p : Int) < (b.length : Int)) = true := by simp; omega
      have hdn : decide (p < b.length) = true := by simpa using hlt
      have hbs := H.out.below hbw
      obtain ⟨y, hy⟩ : ∃ y, b[p]? = some y := ⟨_, List.getElem?_eq_getElem hlt⟩
      obtain ⟨ab, off, rfl, _⟩ := hbs.rd.at hy
      have hcap := hbs.cap
      have hp1 : (p : Int) ≤ (b.length : Int) := by omega
      have hp2 : (b.length : Int) ≤ (c : Int) := by omega
      have hpc : ¬ c = p := by omega
      have hbp := hbs.from (i := p) (by omega)
      have hdl : (b.drop p).length = b.length - p := by simp
      have hf := begin_any hbp (by rw [hdl]; omega)
      rw [hdl, sub_some (by omega)] at hf
      have HM := hide hM
      have HB := hide hbw
      have hsr := hbw.size
      by_cases hw : why (b.drop p) = 0
      · have hfr : frs b p = (p, fst (b.drop p)) :: frs b (p + 9 + (fst (b.drop p)).body.length) := frs_yes ⟨hlt, hw⟩
        have hx : (frs b 0)[k]? = some (p, fst (b.drop p)) := by
          have : ((frs b 0).drop k)[0]? = some (p, fst (b.drop p)) := by rw [hdr.out.1, hfr]; rfl
          rw [List.getElem?_drop] at this
          simpa using this
        have hnx := hide (And.intro hx (And.intro (next_le hw) (show place (frs b 0) (k + 1) = p + 9 + (fst (b.drop p)).body.length by simp [place, hx])))
        have hf2 : Calls Try.prog 19 #[.slice (some ⟨ab, off + p, none⟩) (b.length - p) (c - p)] wr fun e w' => ∃ A C, e = .returned (.tuple #[frv (fst (b.drop p)).kind A (fst (b.drop p)).body.length C, .int .i64 (9 + ((fst (b.drop p)).body.length : Int)), .int .i64 0]) ∧ Own 5 w' (wr.heap.size + 1) (.slice A (fst (b.drop p)).body.length C) (fst (b.drop p)).body ∧ (A = none → C = 0) ∧ Below wr.heap.size wr w' := hf.mono (by
          rintro e w' ⟨hF | hF, hb⟩
          · exact (hF.1 hw).elim
          · obtain ⟨A, C, h1, h2, h3⟩ := hF.2
            exact ⟨A, C, h1, h2, h3, hb⟩)
        have hbl : (fst (b.drop p)).body.length ≤ 1000000 := by have := next_le hw; omega
        obtain ⟨f, hfe⟩ : ∃ f, f = fst (b.drop p) := ⟨_, rfl⟩
        rw [← hfe] at hnx hf2 hbl
        have hA : ∀ A C w2, Own 5 w2 (wr.heap.size + 1) (.slice A f.body.length C) f.body → (A = none → C = 0) → Below wr.heap.size wr w2 → ∃ a4 n4 c4 w4, (Builtin.append_ #[24, 24] 24 #[.slice a3 n3 c3, .slice (some ⟨w2.heap.size + 1, 0, none⟩) 1 1]).run Try.prog ((w2.alloc (.cells #[.int .i64 f.kind, .slice A f.body.length C] 36)).alloc (.cells #[.int .i64 f.kind, .slice A f.body.length C] 36)) = .ok (.slice a4 n4 c4) w4 ∧ Hid (Fms w4 w.heap.size (.slice a4 n4 c4) ((FL b).take (k + 1)) (xs ++ [.int .i64 f.kind, .slice A f.body.length C]) ∧ Below w.heap.size w w4) := fun A C w2 ho hn hb2 => by
          have hb4 : Below w2.heap.size w2 ((w2.alloc (.cells #[.int .i64 f.kind, .slice A f.body.length C] 36)).alloc (.cells #[.int .i64 f.kind, .slice A f.body.length C] 36)) := ((Below.refl _ w2).alloc (Nat.le_refl _) _).alloc (by simp) _
          have hM4 := (HM.out.below hb2).below hb4
          have hn2 := (new2 w2 (.cells #[.int .i64 f.kind, .slice A f.body.length C] 36) (.cells #[.int .i64 f.kind, .slice A f.body.length C] 36)).2
          obtain ⟨z0, z1, _, _⟩ := blk2 hn2
          obtain ⟨v', w4, hr3, ho3, hg3, hw3⟩ := append_where (P := Try.prog) ((w2.alloc (.cells #[.int .i64 f.kind, .slice A f.body.length C] 36)).alloc (.cells #[.int .i64 f.kind, .slice A f.body.length C] 36)) 24 24 36 i36 _ 2 32 Try.underlying24 hi hz0 hz1 hz2 rfl (by decide) (.slice a3 n3 c3) _ _ hM4.row ⟨w2.heap.size + 1, 0, none⟩ 1 1 [.int .i64 f.kind, .slice A f.body.length C] rfl (by
            intro j u hj
            rw [add_lit]
            match j, hj with
            | 0, hj => cases hj; exact z0
            | 1, hj => cases hj; exact z1) (by simp [Value.oneCell']) (by rw [hkl]; unfold maxLen; omega) (by rw [hkl]; omega)
          obtain ⟨a4, c4, rfl, _, _⟩ := row_form ho3
          have hM5 := hM4.snoc (f := f) (m := wr.heap.size + 1) (ho.below hb4) hn (fun n _ hu => by
            rcases hu with hu | ⟨i, u, hu, hn'⟩
            · have := (World.ownsRow.lt HM.out.row n hu).2; omega
            · have := (HM.out.it.body hu hn').2; omega) (by omega) ho3 hg3 hw3 (by have := hb2.size; simp; omega)
          refine ⟨a4, _, c4, w4, hr3, hide ⟨?_, ?_⟩⟩
          · rw [FL_snoc hnx.out.1]; exact hM5
          · exact ((HB.out.trans (hb2.mono hsr)).trans (hb4.mono (Nat.le_trans hsr hb2.size))).grown hg3 (by have := hb2.size; simp; omega) (fun j hj => HM.out.lo j hj)
        clear hM hbw hf hbp hx hfr hw hfe hbs hy hkl
        go_wp2_with (first
          | (go_at_call 19; refine hf2.mono ?_; rintro e w2 ⟨A, C, rfl, ho, hn, b2⟩; obtain ⟨a4, n4, c4, w4, hr4, HR⟩ := hA A C w2 ho hn b2)
          | (at_builtin; refine wpList_turn (OP := Op.call { callee := Callee.builtin Builtin.append, args := #[Operand.tmp 27, Operand.tmp 29], argTypes := #[24, 24] }) (T := 24) (w' := w4) rfl rfl rfl (exec_append rfl rfl hr4) ?_))
        go_roundw
        case rel => exact ⟨k + 1, a4, n4, c4, _, by have := (List.getElem?_eq_some_iff.1 hnx.out.1).1; omega, by rw [hnx.out.2.2]; exact congrArg _ (by push_cast; omega), rfl, HR.out.1, HR.out.2⟩
        case measure => simp [intOf]; have := hnx.out.2.1; omega
      · have hno : frs b p = [] := frs_no (fun h => hw h.2)
        have hkl2 : k = (frs b 0).length := by
          have := hdr.out.1
          rw [hno, List.drop_eq_nil_iff] at this
          omega
        have hpe : p = fend b 0 := by rw [hdr.out.2, hkl2, place_end]
        have hen : ends b = why (b.drop p) := by rw [ends, ← hpe, if_neg (by omega)]
        have hf1 : Calls Try.prog 19 #[.slice (some ⟨ab, off + p, none⟩) (b.length - p) (c - p)] wr fun e w' => e = .returned (.tuple #[frv 0 none 0 0, .int .i64 0, .int .i64 (why (b.drop p) : Nat)]) ∧ Below wr.heap.size wr w' := hf.mono (by
          rintro e w' ⟨hF | hF, hb⟩
          · exact ⟨hF.2, hb⟩
          · exact (hw hF.1).elim)
        obtain ⟨n, hn⟩ : ∃ n, n = why (b.drop p) := ⟨_, rfl⟩
        rw [← hn] at hf1 hw hen
        have hd3 : ((n : Int) == 0) = false := by simp; omega
        have hd4 : ((n : Int) != 0) = true := by simp; omega
        have hd5 : (n == 0) = false := by simpa using hw
        have hd6 : decide (n = 0) = false := by simpa using hw
        have HK := hide (And.intro hkl2 (And.intro hpe hen))
        clear hM hbw hf hbp hno hkl2 hpe hen hn hbs hy hkl
        go_wp2_with (go_at_call 19; refine hf1.mono ?_; rintro e w2 ⟨rfl, b2⟩)
        go_ret3
        have b3 := b2.alloc b2.size (.cells #[.int .i64 0, .slice none 0 0] 36)
        have hM3 := HM.out.below b3
        rw [HK.out.1, List.take_of_length_le (by rw [FL_length]; exact Nat.le_refl _)] at hM3
        exact ⟨_, xs, by rw [← HK.out.2.1, HK.out.2.2]; rfl, hM3, HB.out.trans (b3.mono hsr)⟩
    · have hd : decide ((p : Int) < (b.length : Int)) = false := by simp; omega
      have hdn : decide (p < b.length) = false := by simpa using hlt
      have hno : frs b p = [] := frs_no (fun h => hlt h.1)
      have hkl2 : k = (frs b 0).length := by
        have := hdr.out.1
        rw [hno, List.drop_eq_nil_iff] at this
        omega
      have hpe : p = fend b 0 := by rw [hdr.out.2, hkl2, place_end]
      have hen : ends b = 0 := by rw [ends, ← hpe, if_pos (by omega)]
      rw [hkl2, List.take_of_length_le (by rw [FL_length]; exact Nat.le_refl _)] at hM
      have HK := hide (And.intro hpe (And.intro hen (And.intro hM hbw)))
      clear hM hbw hno hkl2 hpe hen hkl
      go_wp2
      go_ret3
      exact ⟨_, xs, by rw [← HK.out.1, HK.out.2.1]; rfl, HK.out.2.2.1, HK.out.2.2.2⟩
end Go.Proofs.Ytmabfaldndlneaa
