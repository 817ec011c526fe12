/-
  From AND All, as iterators.
-/
import Derived.Test.YtkeldhohilmdcaaGreatPIter
import Derived.Laws.EntriesVeiled
namespace Go.Proofs.YtkeldhohilmdcaaGreat.Pm
open Go.RowKit Go.Shelf
set_option linter.unusedSimpArgs false

theorem Same.cell {K : Nat → Prop} {w W : World} (h : Same K w W) {L : Nat} (hL : K L) {x : Value} (hc : w.cell? ⟨L, 0, none⟩ = some x) : W.cell? ⟨L, 0, none⟩ = some x := by
  rw [World.cell?_of_block (h L hL)]; exact hc
theorem Same.below {K : Nat → Prop} {w W W' : World} (h : Same K w W) (hK : ∀ j, K j → j < w.heap.size) (hs : w.heap.size ≤ W.heap.size) (hb : Below W.heap.size W W') : Same K w W' := fun j hj => (hb.block j (Nat.lt_of_lt_of_le (hK j hj) hs)).trans (h j hj)
/-- What an iterator's rounds keep. -/
def Keeps (J : Nat → World → Prop) (K : Nat → Prop) (w W : World) (c : Nat) (W1 : World) : Prop := J c W1 ∧ Same K w W1 ∧ W.heap.size + 2 ≤ W1.heap.size
theorem Went.keeps {D K : Nat → Prop} {J : Nat → World → Prop} {Jx : World → Prop} {w W W1 : World} {c : Nat} {e : Ending} {W2 : World} (h : Went D J Jx W1 c e W2) (hS : Same K w W1) (hz : W.heap.size + 2 ≤ W1.heap.size) (hK : ∀ j, K j → j < w.heap.size) (hs : w.heap.size ≤ W1.heap.size) (hD : ∀ j, D j → ¬ K j) : Went D (Keeps J K w W) Jx W1 c e W2 := by
  refine ⟨h.1, ?_⟩
  rcases h.2 with ⟨he, hj⟩ | ⟨he, hj⟩
  · exact .inl ⟨he, hj, hS.only hK hs h.1 hD, Nat.le_trans hz h.1.size⟩
  · exact .inr ⟨he, hj⟩
def KF (t : T) (L1 LM : Nat) : Nat → Prop := fun j => j = L1 ∨ j = LM ∨ t.blk j

set_option maxHeartbeats 2000000 in
set_option maxRecDepth 100000 in
theorem iter_from (t : T) (k : ByteArray) (L1 LM : Nat) (w : World) (ht : In w t) (h1 : w.cell? ⟨L1, 0, none⟩ = some (.string k)) (hM : w.cell? ⟨LM, 0, none⟩ = some t.ptr) :
    Iter 180 #[.pointer (some ⟨L1, 0, none⟩), .pointer (some ⟨LM, 0, none⟩)] (t.from k) (fun x => #[.string x.1, .string x.2]) (KF t L1 LM) w := by
  intro l D J Jx W hS hs hDK hD0 hD1 hJB hY hJ
  have hK : ∀ j, KF t L1 LM j → j < w.heap.size := fun j hj => by
    rcases hj with rfl | rfl | hj
    · exact World.block_lt_of_cell? w _ h1
    · exact World.block_lt_of_cell? w _ hM
    · exact ht.blk_lt hj
  have hcM := hS.cell (L := LM) (.inr (.inl rfl)) hM
  obtain ⟨W1, hW1⟩ : ∃ W1, W1 = (W.alloc (.cells #[.func (.yield l) #[] #[]] 199)).alloc (.cells #[.func (.func 181) #[] #[.pointer (some ⟨L1, 0, none⟩), .pointer (some ⟨W.heap.size + 1, 0, none⟩), .pointer (some ⟨W.heap.size, 0, none⟩)]] 200) := ⟨_, rfl⟩
  have hb : Below W.heap.size W W1 := by rw [hW1]; exact ((Below.refl _ W).alloc (Nat.le_refl _) _).alloc (by simp) _
  have hsz : W1.heap.size = W.heap.size + 2 := by rw [hW1]; simp
  obtain ⟨n0, n1⟩ := new2 W (.cells #[.func (.yield l) #[] #[]] 199) (.cells #[.func (.func 181) #[] #[.pointer (some ⟨L1, 0, none⟩), .pointer (some ⟨W.heap.size + 1, 0, none⟩), .pointer (some ⟨W.heap.size, 0, none⟩)]] 200)
  rw [← hW1] at n0 n1
  have hS1 : Same (KF t L1 LM) w W1 := hS.below hK hs hb
  have hE : FEnv W1 t k L1 (W.heap.size + 1) W.heap.size l := ⟨In.same ht (fun j hj => hS1 j (.inr (.inr hj))), hS1.cell (.inl rfl) h1, by rw [cell_of_row _ _ 0 _ 200 (0, 0) n1]; rfl, by rw [cell_of_row _ _ 0 _ 199 (0, 0) n0]; rfl⟩
  have ho := over_from t k L1 (W.heap.size + 1) W.heap.size l (t.from k) D (Keeps J (KF t L1 LM) w W) Jx (fun j d e => hDK j d (.inr (.inr e))) (fun d => hDK _ d (.inl rfl)) hD1 hD0
    (fun c A B hj hb' => ⟨hJB c A B hj.1 hb', hj.2.1.below hK (by have := hj.2.2; omega) hb', Nat.le_trans hj.2.2 hb'.size⟩)
    (fun c x A hx hj _ => (hY c x A hx hj.1 hj.2.1 hj.2.2).mono (fun e B hw => hw.keeps hj.2.1 hj.2.2 hK (by have := hj.2.2; omega) hDK)) t 0 W1 (.inl .here) hE ⟨hJB 0 W W1 hJ hb, hS1, by omega⟩ (fun i x h => by rw [Nat.zero_add]; exact h)
  have HO := hide (show Calls Tryz.prog 181 _ W1 (fun e W' => ∃ b, e = .returned (.bool b) ∧ (J (t.from k).length W' ∨ Jx W')) from ho.mono (fun e W' h => by
    rcases h.2 with ⟨rfl, hj⟩ | ⟨rfl, hj⟩
    · exact ⟨_, rfl, .inl (by rw [Nat.zero_add] at hj; exact hj.1)⟩
    · exact ⟨_, rfl, .inr hj⟩))
  obtain ⟨a, ha⟩ := t.ptr_shape
  rw [ha] at hcM HO
  have hcM2 : ∀ o1 o2, ((W.alloc o1).alloc o2).cell? ⟨LM, 0, none⟩ = some (.pointer a) := fun o1 o2 => cell_stays hcM (((Below.refl _ W).alloc (Nat.le_refl _) _).alloc (by simp) _)
  have ho2 := HO.out
  rw [hW1] at ho2
  clear hE ho hS1 n0 n1 hsz hb hK hY hJB hJ hD0 hD1 hDK hS hs ha ht h1 hM HO hW1
  go_enter Tryz.func180, Tryz.ntmps180
  go_wp2_with (go_at_call 181; refine ho2.mono ?_; rintro e W' ⟨b, rfl, hj⟩)
  go_end0
  exact ⟨⟨_, rfl⟩, hj⟩

theorem mFrom_any (t : T) (k : ByteArray) (w : World) : Calls Tryz.prog 145 #[mv t, .string k] w fun e w' => e = .returned (.func (.func 180) #[] #[.pointer (some ⟨w.heap.size + 1, 0, none⟩), .pointer (some ⟨w.heap.size, 0, none⟩)]) ∧ w' = (w.alloc (.cells #[t.ptr] 27)).alloc (.cells #[.string k] 9) := by
  unfold mv
  obtain ⟨a, ha⟩ := t.ptr_shape
  rw [ha]
  go_enter Tryz.func145, Tryz.ntmps145
  go_wp2
  go_ret
  exact ⟨rfl, rfl⟩
theorem mAll_any (t : T) (w : World) : Calls Tryz.prog 111 #[mv t] w fun e w' => e = .returned (.func (.func 180) #[] #[.pointer (some ⟨w.heap.size + 2, 0, none⟩), .pointer (some ⟨w.heap.size + 1, 0, none⟩)]) ∧ w' = ((w.alloc (.cells #[t.ptr] 27)).alloc (.cells #[t.ptr] 27)).alloc (.cells #[.string ⟨#[]⟩] 9) := by
  have hf := mFrom_any t ⟨#[]⟩ (w.alloc (.cells #[t.ptr] 27))
  have hs : (w.alloc (.cells #[t.ptr] 27)).heap.size = w.heap.size + 1 := by simp
  rw [hs] at hf
  unfold mv at *
  obtain ⟨a, ha⟩ := t.ptr_shape
  rw [ha] at hf ⊢
  clear ha hs
  go_enter Tryz.func111, Tryz.ntmps111
  go_wp2_with (go_at_call 145; refine hf.mono ?_; rintro e w' ⟨rfl, rfl⟩)
  go_ret
  exact ⟨rfl, rfl⟩
/-- What From answers goes over the keys from one on. -/
theorem from_is (k : ByteArray) : ∀ {t : T}, Srt t.list → t.from k = t.list.drop (pos k t.list)
  | .nil, _ => by simp [T.from, T.list]
  | .node p nk nv l r, h => by
    obtain ⟨s1, s2, s3, s4⟩ := Srt.app.1 h
    rw [T.from, from_is k s1, from_is k s2]
    by_cases hc : cmpB nk k = -1
    · rw [if_pos hc]
      have e : (T.node p nk nv l r).list = (l.list ++ [(nk, nv)]) ++ r.list := by simp [T.list]
      rw [e, pos_right, List.drop_length_add_append]
      intro y hy
      simp only [List.mem_append, List.mem_singleton] at hy
      rcases hy with hy | rfl
      · exact ord_B.trans _ _ _ (s3 y hy) hc
      · exact hc
    · rw [if_neg hc]
      have hn : cmpB k nk ≠ 1 := by have := ord_B.anti k nk; omega
      rw [T.list, pos_left (x := (nk, nv)) hn, List.drop_append_of_le_length (pos_le _ _)]
      have hr : pos k r.list = 0 := by
        cases hrl : r.list with
        | nil => rfl
        | cons y ys =>
          have h4 := s4 y (by rw [hrl]; simp)
          have : ¬ cmpB y.1 k = -1 := fun e => by
            have := ord_B.trans _ _ _ h4 e
            exact hc this
          rw [pos, if_neg this]
      rw [hr]
      rfl
theorem empty_low (x : ByteArray) : cmpB x ⟨#[]⟩ ≠ -1 := by
  unfold cmpB
  cases x.data.toList <;> simp [Lib.compareBytes]
theorem pos_empty (l : List (ByteArray × ByteArray)) : pos ⟨#[]⟩ l = 0 := by
  cases l with
  | nil => rfl
  | cons y ys => rw [pos, if_neg (empty_low y.1)]
theorem all_is {t : T} (h : Srt t.list) : t.from ⟨#[]⟩ = t.list := by rw [from_is _ h, pos_empty]; rfl
end Go.Proofs.YtkeldhohilmdcaaGreat.Pm
