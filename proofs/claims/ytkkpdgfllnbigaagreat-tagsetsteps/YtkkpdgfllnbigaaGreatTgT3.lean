/-
  tagset: what three sets run together come to, against the document's lists: plainly; Of, answered by members.
-/
import Derived.Test.YtkkpdgfllnbigaaGreatTgK
namespace Go.Proofs.YtkkpdgfllnbigaaGreat.Tg
open Go.RowKit Go.Shelf
set_option linter.unusedSimpArgs false
set_option linter.unusedVariables false

theorem tags_kv {l : List Kv} (hm : mayT l = true) (z : El) : z ∈ tagsL l ↔ okEl z = true ∧ kvT z ∈ l := by
  rw [tagsL, if_pos hm, List.mem_map]
  constructor
  · rintro ⟨y, hy, rfl⟩
    obtain ⟨h1, h2⟩ := kvT_tg (mayT_mem hm hy)
    exact ⟨h2, by rw [h1]; exact hy⟩
  · rintro ⟨h1, h2⟩
    exact ⟨kvT z, h2, (tg_kvT h1).1⟩
theorem srt_same {l m : List El} (hl : l.Nodup) (hm : m.Nodup) (h : ∀ z, z ∈ l ↔ z ∈ m) : srtQ l = srtQ m :=
  upQ_eq (srtQ_up hl) (srtQ_up hm) (fun z => by rw [(srtQ_perm l).mem_iff, (srtQ_perm m).mem_iff]; exact h z)
theorem els_thr {L : List Kv} {l : List El} (sl : Pm.Srt L) (hn : l.Nodup) (h : ∀ z, z ∈ tagsL L ↔ z ∈ l) : elsT L = srtQ l := srt_same (tagsL_nodup sl) hn h
theorem good_nodup {l : List El} (h : goodT l = true) : l.Nodup := by
  simp only [goodT, Bool.and_eq_true, decide_eq_true_eq] at h
  exact (List.pairwise_map.1 h.2).imp (fun h e => h (by rw [e]))
theorem good_ok {l : List El} (h : goodT l = true) : ∀ x ∈ l, okEl x = true := by
  simp only [goodT, Bool.and_eq_true] at h
  exact fun x hx => List.all_eq_true.1 h.1 x hx
theorem perm_tags {l : List El} {L : List Kv} (hg : goodT l = true) (hp : L.Perm (l.map kvT)) : mayT L = true ∧ ∀ z, z ∈ tagsL L ↔ z ∈ l := by
  have hok := good_ok hg
  have ml : mayT L = true := List.all_eq_true.2 (fun y hy => by
    obtain ⟨x, hx, rfl⟩ := List.mem_map.1 (hp.mem_iff.1 hy)
    exact (tg_kvT (hok x hx)).2)
  refine ⟨ml, fun z => ?_⟩
  rw [tags_kv ml, hp.mem_iff, List.mem_map]
  constructor
  · rintro ⟨hz, y, hy, e⟩
    have h1 : tkey y.2 y.1 = tkey z.2 z.1 := congrArg Prod.fst e
    rw [← tkey_inj (hok y hy) hz h1]; exact hy
  · intro h
    exact ⟨hok z h, z, h, rfl⟩
theorem ofTG {w : World} {ao : Option Addr} {c : Nat} (l : List El) (h : Re w ao l) (hl : l.length ≤ 120) (hg : goodT l = true) : Calls Tryz.prog 18 #[.slice ao l.length c] w fun e w' => ∃ t pt, t.ptr = .pointer pt ∧ e = .returned (.tuple #[.agg #[.pointer pt], .int .i64 0]) ∧ Mg w' t ∧ (mayT t.list = true ∧ (∀ z, z ∈ tagsL t.list ↔ z ∈ l) ∧ t.n ≤ l.length ∧ t.over w.heap.size) ∧ Below w.heap.size w w' := by
  refine (of18 (c := c) l h (by omega)).mono (fun e w' hh => ?_)
  obtain ⟨t, he, hm, hb, h1, -, ho⟩ := hh
  obtain ⟨pt, hpt⟩ := t.ptr_shape
  rw [if_pos hg] at he
  have hp := perm_tags hg (h1 hg)
  have hn : t.n = l.length := by have := (h1 hg).length_eq; rw [List.length_map, Pm.T.n_eq] at this; exact this
  exact ⟨t, pt, hpt, by rw [he]; unfold Pm.mv; rw [hpt], hm, ⟨hp.1, hp.2, by omega, ho⟩, hb⟩
theorem may_goodT (l : List El) : mayE l = goodT l := rfl
end Go.Proofs.YtkkpdgfllnbigaaGreat.Tg
