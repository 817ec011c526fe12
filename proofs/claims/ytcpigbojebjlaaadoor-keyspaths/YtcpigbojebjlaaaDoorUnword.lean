/-
  WORDS READ: what the program's Unword answers.
-/
import Derived.Test.YtcpigbojebjlaaaDoorFirst
namespace Go.Proofs.YtcpigbojebjlaaaDoor
open Go.RowKit Go.Shelf
set_option linter.unusedSimpArgs false

/-- What Unword answers. -/
def unE (r : Option (List UInt8)) : Value := match r with | some l => .tuple #[.string ⟨l.toArray⟩, .int .i64 0] | none => .tuple #[.string ⟨#[]⟩, .int .i64 4]
theorem toList_of (s : ByteArray) : s.toList = s.data.toList := by rw [ByteArray.toList_eq]
theorem empty_of {s : ByteArray} (h : s.size = 0) : s = ⟨#[]⟩ := by
  apply ByteArray.ext
  exact Array.eq_empty_of_size_eq_zero h
theorem unwordGo_step {n : Nat} {l : List UInt8} (hne : l ≠ []) : unwordGo (n + 1) l = if (firstB l).2 = 0 then none else (unwordGo n (l.drop (firstB l).2)).map ((firstB l).1 :: ·) := by
  rw [unwordGo, if_neg hne]
set_option maxHeartbeats 2000000 in
set_option maxRecDepth 100000 in
theorem unword_any (s : ByteArray) (w : World) (hs : s.size ≤ 1000000) : Calls Tryd.prog 10 #[.string s] w fun e w' => e = .returned (unE (unwordB s.data.toList)) ∧ Below w.heap.size w w' := by
  have hl : s.data.toList.length = s.size := (Lib.size_eq s).symm
  by_cases h0 : s.size = 0
  · obtain rfl := empty_of h0
    go_enter Tryd.func10, Tryd.ntmps10
    go_wp2
    go_ret2
    exact ⟨rfl, Below.refl _ _⟩
  · by_cases h37 : s.data.toList = [37]
    · have : s = ⟨#[37]⟩ := by
        apply ByteArray.ext
        apply Array.toList_inj.1
        exact h37
      subst this
      go_enter Tryd.func10, Tryd.ntmps10
      go_wp2
      go_ret2
      exact ⟨rfl, Below.refl _ _⟩
    · have hne : s.data.toList ≠ [] := fun e => by rw [e] at hl; simp at hl; omega
      have b1 : (s.toList == []) = false := by rw [beq_eq_false_iff_ne, toList_of]; exact hne
      have b2 : (s.toList == [37]) = false := by rw [beq_eq_false_iff_ne, toList_of]; exact h37
      rw [unwordB, if_neg hne, if_neg h37]
      obtain ⟨R, hR⟩ : ∃ R, R = unwordGo s.data.toList.length s.data.toList := ⟨_, rfl⟩
      rw [← hR]
      have HR := hide hR
      clear hR h37 hne
      have hb0 : Below w.heap.size w (w.alloc (.cells #[.pointer none, .slice none 0 0] 61)) := (Below.refl _ w).alloc (Nat.le_refl _) _
      have hf0 := Bd.fresh w (w.heap.size + 1)
      have HI := hide (And.intro hb0 hf0)
      clear hb0 hf0
      go_enter Tryd.func10, Tryd.ntmps10
      go_wp2
      go_loopw [5] (fun rv wr => ∃ (t : ByteArray) (v : Value) (acc : List UInt8) (n : Nat), rv = .string t ∧ t.size ≤ n ∧ acc.length + t.size ≤ s.size ∧ Hid (Bd wr (w.heap.size + 1) w.heap.size v acc) ∧ Hid ((unwordGo n t.data.toList).map (acc ++ ·) = R) ∧ Hid (Below w.heap.size w wr ∧ w.heap.size + 1 ≤ wr.heap.size)) (fun rv _ => match rv with | .string t => t.size | _ => 0)
      case atStart => exact ⟨s, _, [], s.data.toList.length, rfl, by omega, by simp, hide HI.out.2, hide (by rw [HR.out]; simp), hide ⟨HI.out.1, by simp⟩⟩
      case round =>
        obtain ⟨t, v, acc, n, rfl, htn, hac, HB, HG, HW⟩ := hrel
        have htl : t.data.toList.length = t.size := (Lib.size_eq t).symm
        by_cases ht0 : t.size = 0
        · obtain rfl := empty_of ht0
          have hRR : R = some acc := by
            rw [← HG.out]
            cases n with
            | zero => simp [unwordGo]
            | succ n => simp [unwordGo]
          have hst := string_any HB.out (B' := w.heap.size) (Nat.le_refl _) (by omega) HW.out.1.size
          have HE := hide hRR
          have HW' := hide HW.out.1
          clear hRR HB HG HI
          go_wp2_with (go_at_call 41; refine hst.mono ?_; rintro e w' ⟨rfl, b9⟩)
          go_ret2
          exact ⟨by rw [HE.out]; rfl, HW'.out.trans b9⟩
        · have hne : t.data.toList ≠ [] := fun e => by rw [e] at htl; simp at htl; omega
          have b3 : (t.toList == []) = false := by rw [beq_eq_false_iff_ne, toList_of]; exact hne
          obtain ⟨m, rfl⟩ : ∃ m, n = m + 1 := ⟨n - 1, by omega⟩
          have hstp := unwordGo_step (n := m) hne
          have hfi := fun W => first_any t W (by omega)
          have hle := firstB_le t.data.toList (by omega)
          generalize firstB t.data.toList = F at hstp hfi hle
          obtain ⟨fc, fn⟩ := F
          simp only at hstp hfi hle
          have HS := hide hstp
          clear hstp hne
          by_cases hz : fn = 0
          · have hz1 : ((fn : Int) == 0) = true := by simp [hz]
            have hRR : R = none := by rw [← HG.out, HS.out, if_pos hz]; rfl
            have HE := hide hRR
            clear hRR hz
            go_wp2_with (go_at_call 39; refine (hfi _).mono ?_; rintro e w' ⟨rfl, nq, rfl⟩)
            go_ret2
            exact ⟨by rw [HE.out]; rfl, HW.out.1.trans ⟨rfl, rfl, rfl, Nat.le_refl _, fun _ _ => rfl⟩⟩
          · have hz1 : ((fn : Int) == 0) = false := by simp; omega
            have hwb : ∀ nq, Calls Tryd.prog 40 #[.pointer (some ⟨w.heap.size, 0, none⟩), .int .u8 (fc.toNat : Int)] (wr.drewN nq) fun e w' => e = .returned .nilIface ∧ Wrote (wr.drewN nq) w' (w.heap.size + 1) w.heap.size v (acc ++ [fc]) := fun nq => writeByte_any fc (HB.out.only (D := None) ⟨rfl, rfl, rfl, Nat.le_refl _, fun _ _ _ => rfl⟩ (fun d => d) (fun _ _ d => d)) (by omega) HW.out.2
            have hsl1 : (fn : Int) ≤ (t.size : Int) := by omega
            have hsl0 : (0 : Int) ≤ (fn : Int) := by omega
            have HZ := hide hz
            clear hz
            go_wp2_with (first
              | (go_at_call 39; refine (hfi _).mono ?_; rintro e w' ⟨rfl, nq, rfl⟩; have hwb' := hwb nq)
              | (go_at_call 40; refine hwb'.mono ?_; rintro e W2 ⟨rfl, v2, hB2, o2⟩))
            have e1 : (t.extract fn t.size).size = t.size - fn := Lib.ext_size t fn
            have e2 : (t.extract fn t.size).data.toList = t.data.toList.drop fn := Lib.ext_list t fn
            have hz := HZ.out
            refine ⟨⟨t.extract fn t.size, v2, acc ++ [fc], m, rfl, by omega, by simp only [List.length_append, List.length_cons, List.length_nil]; omega, hide hB2, hide ?_, hide ⟨?_, ?_⟩⟩, ?_⟩
            · rw [← HG.out, HS.out, if_neg hz, e2, Option.map_map]
              congr 1
              funext x
              simp
            · refine Below.only HW.out.1 (Only.trans (w1 := wr.drewN nq) ⟨rfl, rfl, rfl, Nat.le_refl _, fun _ _ _ => rfl⟩ o2 (fun _ _ e => e)) HW.out.1.size (fun k e => ?_)
              rcases e with e | e
              · omega
              · have := (HB.out.blk k e).1; omega
            · exact Nat.le_trans HW.out.2 o2.size
            · simp only; omega
end Go.Proofs.YtcpigbojebjlaaaDoor
