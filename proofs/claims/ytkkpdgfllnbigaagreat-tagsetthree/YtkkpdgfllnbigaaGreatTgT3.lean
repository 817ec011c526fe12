/-
  tagset: what three sets run together come to, against the document's lists: plainly; Of, answered by members.
-/
import Derived.Test.YtkkpdgfllnbigaaGreatTgK
namespace Go.Proofs.YtkkpdgfllnbigaaGreat.Tg
open Go.RowKit Go.Shelf
set_option linter.unusedSimpArgs false
set_option linter.unusedVariables false

theorem tags_kv {l : List Kv} (hm : mayT l = true) (z : El) : z ∈ tagsL l ↔ okEl z = true ∧ kvT z ∈ l := by
  rw [tagsL, if_pos hm, List.mem_map]
  constructor
  · rintro ⟨y, hy, rfl⟩
    obtain ⟨h1, h2⟩ := kvT_tg (mayT_mem hm hy)
    exact ⟨h2, by rw [h1]; exact hy⟩
  · rintro ⟨h1, h2⟩
    exact ⟨kvT z, h2, (tg_kvT h1).1⟩
theorem look_of {l : List Kv} (hm : mayT l = true) (hs : Pm.Srt l) {z : El} (hz : okEl z = true) (h : (Pm.look (tkey z.2 z.1) l).2 = true) : (Pm.look (tkey z.2 z.1) l).1 = z.2 := by
  have h1 : (tkey z.2 z.1, (Pm.look (tkey z.2 z.1) l).1) ∈ l := (look_at hs).2 (Prod.ext rfl h)
  obtain ⟨v, hv⟩ : ∃ v, v = (Pm.look (tkey z.2 z.1) l).1 := ⟨_, rfl⟩
  rw [← hv] at h1 ⊢
  have h2 := mayT_mem hm h1
  dsimp only at h2
  obtain ⟨h3, h4, h5⟩ := tgV_of h2
  have h6 : okEl (tgS (tkey z.2 z.1) v, v) = true := by simp only [okEl, h4, h5, Bool.and_self]
  have := tkey_inj h6 hz h3.symm
  rw [← this]
theorem tags_at {l : List Kv} (hm : mayT l = true) (hs : Pm.Srt l) {z : El} (hz : okEl z = true) : z ∈ tagsL l ↔ (Pm.look (tkey z.2 z.1) l).2 = true := by
  rw [tags_kv hm]
  constructor
  · rintro ⟨-, h⟩
    rw [(look_at hs).1 h]
  · intro h
    refine ⟨hz, (look_at hs).2 (Prod.ext (look_of hm hs hz h) h)⟩
/-- What three sets come to. -/
theorem tog_tags {P Q R L : List Kv} {base a b : List El} (mp : mayT P = true) (mq : mayT Q = true) (mr : mayT R = true) (sp : Pm.Srt P) (sq : Pm.Srt Q) (sr : Pm.Srt R) (sl : Pm.Srt L) (hP : ∀ z, z ∈ tagsL P ↔ z ∈ base) (hQ : ∀ z, z ∈ tagsL Q ↔ z ∈ a) (hR : ∀ z, z ∈ tagsL R ↔ z ∈ b)
    (hl : ∀ k, Pm.look k L = Pm.keeps (Pm.look k P) (Pm.look k Q) (Pm.look k R)) : mayT L = true ∧ ∀ z, z ∈ tagsL L ↔ z ∈ thr base a b := by
  have ml : mayT L = true := List.all_eq_true.2 (fun y hy => by
    have h1 := (look_at (k := y.1) (v := y.2) sl).1 hy
    rw [hl] at h1
    unfold Pm.keeps at h1
    split at h1
    · rename_i hc
      simp only [Bool.and_eq_true] at hc
      have : Pm.look y.1 Q = (y.2, true) := Prod.ext (by simpa using h1) hc.1
      exact mayT_mem mq ((look_at sq).2 this)
    · split at h1
      · rename_i hc
        simp only [Bool.and_eq_true] at hc
        have : Pm.look y.1 R = (y.2, true) := Prod.ext (by simpa using h1) hc.1
        exact mayT_mem mr ((look_at sr).2 this)
      · simp at h1)
  refine ⟨ml, fun z => ?_⟩
  by_cases hz : okEl z = true
  · rw [thr_mem, ← hP, ← hQ, ← hR, tags_at ml sl hz, tags_at mp sp hz, tags_at mq sq hz, tags_at mr sr hz, hl]
    obtain ⟨p1, p2⟩ := Pm.look (tkey z.2 z.1) P
    obtain ⟨q1, q2⟩ := Pm.look (tkey z.2 z.1) Q
    obtain ⟨r1, r2⟩ := Pm.look (tkey z.2 z.1) R
    cases p2 <;> cases q2 <;> cases r2 <;> simp [Pm.keeps]
  · have n1 : z ∉ tagsL L := fun h => hz ((tags_kv ml z).1 h).1
    have n2 : z ∉ a := fun h => hz ((tags_kv mq z).1 ((hQ z).2 h)).1
    have n3 : z ∉ b := fun h => hz ((tags_kv mr z).1 ((hR z).2 h)).1
    rw [thr_mem]
    simp [n1, n2, n3]
theorem srt_same {l m : List El} (hl : l.Nodup) (hm : m.Nodup) (h : ∀ z, z ∈ l ↔ z ∈ m) : srtQ l = srtQ m :=
  upQ_eq (srtQ_up hl) (srtQ_up hm) (fun z => by rw [(srtQ_perm l).mem_iff, (srtQ_perm m).mem_iff]; exact h z)
theorem els_thr {L : List Kv} {l : List El} (sl : Pm.Srt L) (hn : l.Nodup) (h : ∀ z, z ∈ tagsL L ↔ z ∈ l) : elsT L = srtQ l := srt_same (tagsL_nodup sl) hn h
theorem thr_turn {base a b : List El} (z : El) : z ∈ thr base b a ↔ z ∈ thr base a b := by
  rw [thr_mem, thr_mem]
  by_cases h1 : z ∈ a <;> by_cases h2 : z ∈ b <;> by_cases h3 : z ∈ base <;> simp [h1, h2, h3]
theorem thr_back {base a : List El} (z : El) : z ∈ thr base a base ↔ z ∈ a := by
  rw [thr_mem]
  by_cases h1 : z ∈ a <;> by_cases h3 : z ∈ base <;> simp [h1, h3]
theorem good_nodup {l : List El} (h : goodT l = true) : l.Nodup := by
  simp only [goodT, Bool.and_eq_true, decide_eq_true_eq] at h
  exact (List.pairwise_map.1 h.2).imp (fun h e => h (by rw [e]))
theorem good_ok {l : List El} (h : goodT l = true) : ∀ x ∈ l, okEl x = true := by
  simp only [goodT, Bool.and_eq_true] at h
  exact fun x hx => List.all_eq_true.1 h.1 x hx
theorem perm_tags {l : List El} {L : List Kv} (hg : goodT l = true) (hp : L.Perm (l.map kvT)) : mayT L = true ∧ ∀ z, z ∈ tagsL L ↔ z ∈ l := by
  have hok := good_ok hg
  have ml : mayT L = true := List.all_eq_true.2 (fun y hy => by
    obtain ⟨x, hx, rfl⟩ := List.mem_map.1 (hp.mem_iff.1 hy)
    exact (tg_kvT (hok x hx)).2)
  refine ⟨ml, fun z => ?_⟩
  rw [tags_kv ml, hp.mem_iff, List.mem_map]
  constructor
  · rintro ⟨hz, y, hy, e⟩
    have h1 : tkey y.2 y.1 = tkey z.2 z.1 := congrArg Prod.fst e
    rw [← tkey_inj (hok y hy) hz h1]; exact hy
  · intro h
    exact ⟨hok z h, z, h, rfl⟩
theorem ofTG {w : World} {ao : Option Addr} {c : Nat} (l : List El) (h : Re w ao l) (hl : l.length ≤ 120) (hg : goodT l = true) : Calls Tryz.prog 18 #[.slice ao l.length c] w fun e w' => ∃ t pt, t.ptr = .pointer pt ∧ e = .returned (.tuple #[.agg #[.pointer pt], .int .i64 0]) ∧ Mg w' t ∧ (mayT t.list = true ∧ (∀ z, z ∈ tagsL t.list ↔ z ∈ l) ∧ t.n ≤ l.length ∧ t.over w.heap.size) ∧ Below w.heap.size w w' := by
  refine (of18 (c := c) l h (by omega)).mono (fun e w' hh => ?_)
  obtain ⟨t, he, hm, hb, h1, -, ho⟩ := hh
  obtain ⟨pt, hpt⟩ := t.ptr_shape
  rw [if_pos hg] at he
  have hp := perm_tags hg (h1 hg)
  have hn : t.n = l.length := by have := (h1 hg).length_eq; rw [List.length_map, Pm.T.n_eq] at this; exact this
  exact ⟨t, pt, hpt, by rw [he]; unfold Pm.mv; rw [hpt], hm, ⟨hp.1, hp.2, by omega, ho⟩, hb⟩
theorem may_goodT (l : List El) : mayE l = goodT l := rfl
end Go.Proofs.YtkkpdgfllnbigaaGreat.Tg
