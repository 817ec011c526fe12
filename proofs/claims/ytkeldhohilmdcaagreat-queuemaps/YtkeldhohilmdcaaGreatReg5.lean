/-
  register: One (47), Write (38); a map that is whole.
-/
import Derived.Test.YtkeldhohilmdcaaGreatReg4
import Derived.Test.YtkeldhohilmdcaaGreatPEnv
import Derived.Test.YtkeldhohilmdcaaGreatTold
namespace Go.Proofs.YtkeldhohilmdcaaGreat.Pm
open Go.RowKit Go.Shelf
set_option linter.unusedSimpArgs false
theorem mLast_any (t : T) (w : World) (h : In w t) : Calls Tryz.prog 110 #[mv t] w fun e w' => e = .returned (.tuple #[.string t.last.key, .string t.last.val, .bool t.last.isSome]) ∧ Below w.heap.size w w' := by
  have hb : Below w.heap.size w (w.alloc (.cells #[t.ptr] 27)) := (Below.refl _ w).alloc (Nat.le_refl _) _
  have h1 := end_right t _ (In.below hb h)
  have h2 := told_any t.last _ (In.below hb h.last)
  unfold mv
  obtain ⟨a, ha⟩ := t.ptr_shape
  obtain ⟨b, hb'⟩ := t.last.ptr_shape
  rw [ha] at hb h1 h2 ⊢
  rw [hb'] at h1 h2
  generalize t.last.key = K at *
  generalize t.last.val = V at *
  generalize t.last.isSome = D at *
  clear h ha hb'
  go_enter Tryz.func110, Tryz.ntmps110
  go_wp2_with (first
    | (go_at_call 153; refine h1.mono ?_; rintro e w' ⟨rfl, rfl⟩)
    | (go_at_call 152; refine h2.mono ?_; rintro e w' ⟨rfl, rfl⟩))
  go_ret3
  exact ⟨rfl, hb⟩
end Go.Proofs.YtkeldhohilmdcaaGreat.Pm
namespace Go.Proofs.YtkeldhohilmdcaaGreat
open Go.RowKit Go.Shelf
set_option linter.unusedSimpArgs false
attribute [local go_sem] Oper.semAt_some

/-- A map that is whole. -/
structure Mg (w : World) (t : Pm.T) : Prop where
  inn : Pm.In w t
  srt : Pm.Srt t.list
  bal : t.bal
  few : t.n ≤ 400
  key : ∀ x ∈ t.list, x.1.size ≤ 9223372036854775807
theorem Mg.below {w w' : World} {t : Pm.T} (h : Mg w t) (hb : Below w.heap.size w w') : Mg w' t := ⟨Pm.In.below hb h.inn, h.srt, h.bal, h.few, h.key⟩
theorem Mg.nil (w : World) : Mg w .nil := ⟨trivial, List.Pairwise.nil, trivial, Nat.zero_le _, fun x h => by cases h⟩
theorem Mg.may {w : World} {t : Pm.T} (h : Mg w t) : Calls Tryz.prog 46 #[Pm.mv t] w fun e w' => e = .returned (.bool (mayL t.list)) ∧ Below w.heap.size w w' := rMay_any t w h.inn h.srt h.key
def oneL (l : List Kv) : ByteArray × Bool := match l with
  | [x] => if okKv x then (x.2, true) else (⟨#[]⟩, false)
  | _ => (⟨#[]⟩, false)
theorem one_cases (t : Pm.T) : (t.n ≠ 1 ∧ oneL t.list = (⟨#[]⟩, false)) ∨ (t.n = 1 ∧ mayL t.list = false ∧ oneL t.list = (⟨#[]⟩, false)) ∨ (t.n = 1 ∧ mayL t.list = true ∧ oneL t.list = (t.first.val, true)) := by
  by_cases hn : t.n = 1
  · right
    rw [← Pm.T.n_eq] at hn
    obtain ⟨x, hx⟩ := List.length_eq_one_iff.1 hn
    have hne : t ≠ .nil := fun e => by rw [e] at hx; cases hx
    obtain ⟨p, k, v, r, rest, hf, hl, _⟩ := Pm.T.first_spec hne
    rw [hx] at hl
    injection hl with h1 h2
    rw [← Pm.T.n_eq, hx, hf, h1]
    by_cases ho : okKv (k, v) = true
    · right; exact ⟨rfl, by simp [mayL, ho], by simp [oneL, ho, Pm.T.val]⟩
    · left; exact ⟨rfl, by simp [mayL, ho], by simp [oneL, ho]⟩
  · left
    refine ⟨hn, ?_⟩
    rw [← Pm.T.n_eq] at hn
    unfold oneL
    split
    · rename_i x hx; rw [hx] at hn; exact absurd rfl hn
    · rfl
set_option maxHeartbeats 4000000 in
theorem rOne_any (t : Pm.T) (w : World) (h : Mg w t) : Calls Tryz.prog 51 #[Pm.mv t] w fun e w' => e = .returned (.tuple #[.string (oneL t.list).1, .bool (oneL t.list).2]) ∧ Below w.heap.size w w' := by
  have hb : Below w.heap.size w (w.alloc (.cells #[t.ptr] 27)) := (Below.refl _ w).alloc (Nat.le_refl _) _
  have hl := Pm.mLen_any t _ (Pm.In.below hb h.inn)
  have hm : ∀ W, Below w.heap.size w W → Calls Tryz.prog 46 #[Pm.mv t] W fun e w' => e = .returned (.bool (mayL t.list)) ∧ Below W.heap.size W w' := fun W hW => (h.below hW).may
  have hf : ∀ W, Below w.heap.size w W → Calls Tryz.prog 117 #[Pm.mv t] W fun e w' => e = .returned (.tuple #[.string t.first.key, .string t.first.val, .bool t.first.isSome]) ∧ Below W.heap.size W w' := fun W hW => Pm.mFirst_any t W (Pm.In.below hW h.inn)
  obtain ⟨a, ha⟩ := t.ptr_shape
  unfold Pm.mv at hl hm hf ⊢
  rw [ha] at hb hl ⊢
  simp only [ha] at hm hf
  have hc0 : (w.alloc (.cells #[.pointer a] 27)).cell? ⟨w.heap.size, 0, none⟩ = some (.pointer a) := (cell_of_row _ _ 0 _ 27 (0, 0) (heap_alloc_new w _)).trans rfl
  obtain ⟨w0, hw0⟩ : ∃ w0, w0 = w.alloc (.cells #[.pointer a] 27) := ⟨_, rfl⟩
  rw [← hw0] at hb hl hc0
  have HB := hide hb
  have HM := hide hm
  have HF := hide hf
  have hcs := one_cases t
  have hn := h.few
  generalize oneL t.list = R at *
  generalize mayL t.list = M at *
  generalize t.first.key = FK at *
  generalize t.first.val = FV at *
  generalize t.first.isSome = FS at *
  generalize t.n = N at *
  clear hb hm hf h ha
  rcases hcs with ⟨h1, hR⟩ | ⟨h1, hMM, hR⟩ | ⟨h1, hMM, hR⟩
  · subst hR
    have d1 : ((N : Int) == 1) = false := by simp; omega
    have d2 : ((N : Int) != 1) = true := by simp [bne, d1]
    clear h1 hn
    go_enter Tryz.func51, Tryz.ntmps51
    go_upto_region 1 with fail
    rw [← hw0]
    clear hw0
    go_wp2_with (go_at_call 17; refine hl.mono ?_; rintro e w1 ⟨rfl, b1⟩; have H1 := hide b1; clear b1; dsimp only)
    go_ret2
    exact ⟨rfl, HB.out.trans (H1.out.mono HB.out.size)⟩
  · subst h1 hR hMM
    clear hn
    go_enter Tryz.func51, Tryz.ntmps51
    go_upto_region 1 with fail
    rw [← hw0]
    clear hw0
    go_wp2_with (first
      | (go_at_call 17; refine hl.mono ?_; rintro e w1 ⟨rfl, b1⟩; have H1 := hide (HB.out.trans (b1.mono HB.out.size)); have c1 := cell_stays hc0 b1; clear b1; dsimp only)
      | (go_at_call 46; refine (HM.out w1 H1.out).mono ?_; rintro e w2 ⟨rfl, b2⟩; have H2 := hide b2; clear b2; dsimp only))
    go_ret2
    exact ⟨rfl, H1.out.trans (H2.out.mono H1.out.size)⟩
  · subst h1 hR hMM
    clear hn
    go_enter Tryz.func51, Tryz.ntmps51
    go_upto_region 1 with fail
    rw [← hw0]
    clear hw0
    go_wp2_with (first
      | (go_at_call 17; refine hl.mono ?_; rintro e w1 ⟨rfl, b1⟩; have H1 := hide (HB.out.trans (b1.mono HB.out.size)); have c1 := cell_stays hc0 b1; clear b1; dsimp only)
      | (go_at_call 46; refine (HM.out w1 H1.out).mono ?_; rintro e w2 ⟨rfl, b2⟩; have H2 := hide (H1.out.trans (b2.mono H1.out.size)); have c2 := cell_stays c1 b2; clear b2; dsimp only)
      | (go_at_call 117; refine (HF.out w2 H2.out).mono ?_; rintro e w3 ⟨rfl, b3⟩; have H3 := hide (H2.out.trans (b3.mono H2.out.size)); clear b3; dsimp only))
    go_ret2
    exact ⟨rfl, H3.out⟩
end Go.Proofs.YtkeldhohilmdcaaGreat
