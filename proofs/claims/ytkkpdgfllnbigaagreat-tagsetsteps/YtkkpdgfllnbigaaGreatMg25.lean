/-
  tagset: what a step makes of a set's tags, told of the document's list.
  register: the walk of RegisterWrites (6).
  tagset: one step of the law TagsetSteps (do 24): what all kinds share.
-/
import Derived.Test.YtkkpdgfllnbigaaGreatMg24
import Derived.Test.YtkkpdgfllnbigaaGreatMg18
import Derived.Test.YtkkpdgfllnbigaaGreatMg20
import Derived.Test.YtkkpdgfllnbigaaGreatMg15
import Derived.Test.YtkkpdgfllnbigaaGreatMg23
import Derived.Deep.DeepCutAuto
import Derived.Deep.CutBlock
import Derived.Test.YtkkpdgfllnbigaaGreatMg14
namespace Go.Proofs.YtkkpdgfllnbigaaGreat.Tg
open Go.RowKit Go.Shelf
set_option linter.unusedSimpArgs false
set_option linter.unusedVariables false

theorem els_okEl {l : List Kv} (hm : mayT l = true) {z : El} (hz : z ∈ elsT l) : okEl z = true := ((tags_kv hm z).1 ((elsT_mem z).1 hz)).1
theorem stg_els {l : List Kv} (X : ByteArray) (hm : mayT l = true) (hs : Pm.Srt l) : stgL l X = stL X (elsT l) := by
  unfold stgL tokR
  rw [hm, Bool.and_true]
  cases hX : txtB X with
  | true =>
    rw [if_pos rfl, found_is hm hs, ← stL_els X hm hs, tagsL, if_pos hm]
    unfold stL
    rw [List.filter_map, List.map_map]
    have h1 : (l.filter ((fun x : El => decide (x.2 = X)) ∘ tgE)) = l.filter fun x => decide (x.2 = X) := rfl
    rw [h1]
    refine List.map_congr_left fun x hx => ?_
    have hxX : x.2 = X := by simpa using (List.mem_filter.1 hx).2
    simp [tgE, hxX]
  | false =>
    rw [if_neg (by decide)]
    symm
    refine stL_none fun x hx e => ?_
    have := els_okEl hm hx
    unfold okEl at this
    rw [Bool.and_eq_true] at this
    rw [e, hX] at this
    exact absurd this.2 (by decide)
theorem kvT_inj {x y : El} (hx : okEl x = true) (hy : okEl y = true) (h : kvT x = kvT y) : x = y := by
  have h1 := (tg_kvT hx).1
  have h2 := (tg_kvT hy).1
  rw [← h1, ← h2, h]
theorem may_ins {l : List Kv} (hm : mayT l = true) (hs : Pm.Srt l) {x : El} (hx : okEl x = true) : mayT (Pm.ins (tkey x.2 x.1) x.2 l) = true := by
  refine List.all_eq_true.2 fun y hy => ?_
  rcases (Pm.mem_ins hs _ _ y).1 hy with rfl | ⟨h, -⟩
  · exact (tg_kvT hx).2
  · exact mayT_mem hm h
theorem els_ins {l : List Kv} (hm : mayT l = true) (hs : Pm.Srt l) {x : El} (hx : okEl x = true) : srtQ ((elsT l).filter (fun y => !decide (y = x)) ++ [x]) = elsT (Pm.ins (tkey x.2 x.1) x.2 l) := by
  refine srt_same ?_ (tagsL_nodup (Pm.srt_insP hs _ _)) fun z => ?_
  · have hn : (elsT l).Nodup := (srtQ_perm _).nodup_iff.2 (tagsL_nodup hs)
    refine List.nodup_append.2 ⟨hn.filter _, by simp, fun a ha b hb => ?_⟩
    rw [List.mem_singleton] at hb
    subst hb
    have := (List.mem_filter.1 ha).2
    simpa using this
  · rw [tags_kv (may_ins hm hs hx), Pm.mem_ins hs, List.mem_append, List.mem_filter, elsT_mem, tags_kv hm, List.mem_singleton]
    by_cases hzx : z = x
    · subst hzx
      simp only [or_true, true_iff]
      exact ⟨hx, .inl rfl⟩
    · simp only [hzx, or_false, decide_false, Bool.not_false, and_true]
      constructor
      · rintro ⟨h1, h2⟩
        refine ⟨h1, .inr ⟨h2, fun e => hzx ?_⟩⟩
        exact tkey_inj h1 hx e
      · rintro ⟨h1, h2 | h2⟩
        · exact absurd (kvT_inj h1 hx h2) hzx
        · exact ⟨h1, h2.1⟩
theorem may_rem {l : List Kv} (hm : mayT l = true) (p : Kv → Bool) : mayT (l.filter p) = true := List.all_eq_true.2 fun y hy => mayT_mem hm (List.mem_filter.1 hy).1
theorem els_rem {l : List Kv} (X : ByteArray) (hm : mayT l = true) (hs : Pm.Srt l) : (elsT l).filter (fun y => !decide (y.2 = X)) = elsT (l.filter fun x => !decide (x.2 = X)) := by
  have hs' : Pm.Srt (l.filter fun x => !decide (x.2 = X)) := List.Pairwise.filter _ hs
  refine upQ_eq ((elsT_up hs).filter _) (elsT_up hs') fun z => ?_
  rw [List.mem_filter, elsT_mem, elsT_mem, tags_kv hm, tags_kv (may_rem hm _), List.mem_filter]
  constructor
  · rintro ⟨⟨h1, h2⟩, h3⟩; exact ⟨h1, h2, h3⟩
  · rintro ⟨h1, h2, h3⟩; exact ⟨⟨h1, h2⟩, h3⟩
theorem els_len {l : List Kv} (hm : mayT l = true) : (elsT l).length = l.length := by rw [elsT_len, tagsL, if_pos hm, List.length_map]
theorem rem_n {l : List Kv} (X : ByteArray) (hm : mayT l = true) (hs : Pm.Srt l) : (l.filter fun x => decide (x.2 = X)).length + ((elsT l).filter (fun y => !decide (y.2 = X))).length = (elsT l).length := by
  rw [els_rem X hm hs, els_len (may_rem hm _), els_len hm]
  clear hm hs
  induction l with
  | nil => rfl
  | cons x l ih =>
    by_cases h : x.2 = X
    · simp [List.filter_cons, h]; omega
    · simp [List.filter_cons, h]; omega
theorem has_ins {l : List Kv} (hm : mayT l = true) (hs : Pm.Srt l) {x : El} (hx : okEl x = true) : 0 < (stgL (Pm.ins (tkey x.2 x.1) x.2 l) x.2).length := by
  rw [stg_els _ (may_ins hm hs hx) (Pm.srt_insP hs _ _)]
  have : x.1 ∈ stL x.2 (elsT (Pm.ins (tkey x.2 x.1) x.2 l)) := by
    rw [stL_mem, elsT_mem, tags_kv (may_ins hm hs hx), Pm.mem_ins hs]
    exact ⟨hx, .inl rfl⟩
  exact List.length_pos_of_mem this
theorem has_rem {l : List Kv} (X : ByteArray) (hm : mayT l = true) (hs : Pm.Srt l) : (stgL (l.filter fun x => !decide (x.2 = X)) X).length = 0 := by
  rw [stg_els X (may_rem hm _) (List.Pairwise.filter _ hs), ← els_rem X hm hs, List.length_eq_zero_iff]
  refine stL_none fun x hx e => ?_
  have := (List.mem_filter.1 hx).2
  simp [e] at this
end Go.Proofs.YtkkpdgfllnbigaaGreat.Tg
namespace Go.Proofs.YtkkpdgfllnbigaaGreat
open Go.RowKit Go.Shelf
set_option linter.unusedSimpArgs false
attribute [local go_sem] Oper.semAt_some

theorem encE_np (x : El) (j : Nat) (u : Value) (h : (encE x)[j]? = some u) : ∀ p, u ≠ .pointer p := fun p e => by
  have hm := List.mem_of_getElem? h
  rw [e] at hm
  simp [encE] at hm
theorem flatE_np (l : List El) (j : Nat) (u : Value) (h : (flatE l)[j]? = some u) : ∀ p, u ≠ .pointer p := fun p e => by
  have hm := List.mem_of_getElem? h
  unfold flatE at hm
  obtain ⟨x, -, hx⟩ := List.mem_flatMap.1 hm
  obtain ⟨k, hk⟩ := List.mem_iff_getElem?.1 hx
  exact encE_np x k u hk p e
/-- Rows of elements do not lie in a map's box. -/
theorem Re.aside {w w' : World} {B : Nat} {p : Option Addr} {ao : Option Addr} {l : List El} (h : Re w ao l) (hw : w.heap[B]? = some (.cells #[.pointer p] 27 (0, 0))) (ho : Only (fun j => j = B) w w') : Re w' ao l := ⟨h.1, fun a ha j u hj => by
  have hc := h.2 a ha j u hj
  generalize a.add j = A at hc ⊢
  by_cases hb : A.block = B
  · exfalso
    have hsp := World.cell?_spot hc
    obtain ⟨bb, oo, sp⟩ := A
    simp only at hb hsp
    subst hb hsp
    rw [cell_of_row _ _ oo _ 27 (0, 0) hw] at hc
    have hm : u = .pointer p := by
      have := Array.mem_of_getElem? hc
      simpa using this
    exact flatE_np l j u hj p hm
  · exact ho.cell hc hb⟩
theorem Boxd.aside {w w' : World} {B C : Nat} {pt p : Option Addr} {t : Pm.T} (h : Boxd w B pt t) (hw : w.heap[C]? = some (.cells #[.pointer p] 27 (0, 0))) (ho : Only (fun j => j = C) w w') (hne : B ≠ C) : Boxd w' B pt t := ⟨(ho.block _ (gI h.1).1 hne).trans h.1, h.2.1, h.2.2.aside hw ho⟩
end Go.Proofs.YtkkpdgfllnbigaaGreat
namespace Go.Proofs.YtkkpdgfllnbigaaGreat.Tg
open Go.RowKit Go.Shelf
set_option linter.unusedSimpArgs false
set_option linter.unusedVariables false
attribute [local go_sem] Oper.semAt_some

def DoT (w : World) (t : Pm.T) (e : Ending) (w' : World) : Prop := ∃ t' pt a' c', t'.ptr = .pointer pt ∧ e = .returned (.tuple #[.agg #[.pointer pt], .slice a' (elsT t'.list).length c', .bool true]) ∧ Mg w' t' ∧ mayT t'.list = true ∧ Re w' a' (elsT t'.list) ∧ t'.n ≤ t.n + 1 ∧ Below w.heap.size w w'
theorem ret_row_t3 {P : Program} {fn : Func} {p q s : Tmp} {ty : TypeId} (b : Nat) (cs : List Value) {R : Ending → World → Prop} {a : Act} {w : World} (h : fn.results = #[.cell p ty, .tmp q, .tmp s]) (hp : a.tmps.getD p undef = .pointer (some ⟨b, 0, none⟩)) {u v : Value} (hq : a.tmps.getD q undef = u) (hs : a.tmps.getD s undef = v)
    {d : TypeDesc} (hu : P.underlying ty = some d) (hd : d.isRow = true) (hi : (P.info? ty).map (·.size) = some cs.length) {t : TypeId} {fr : Nat × Nat} (hc : w.heap[b]? = some (.cells cs.toArray t fr)) (hdef : a.defers = [])
    (hR : R (.returned (.tuple #[.agg cs.toArray, u, v])) w) : bodyPost P fn R .ret a w := by
  refine bodyPost_ret (v := .tuple #[.agg cs.toArray, u, v]) ?_ hdef hR
  have := run_loadVar_mid (P := P) w b 0 ty cs _ (fun j v hv => by rw [cell_of_row w b (0 + j) cs.toArray t fr hc, Nat.zero_add]; simpa using hv) hu hd hi
  have hp' : a.tmps[p]?.getD undef = .pointer (some ⟨b, 0, none⟩) := by simpa using hp
  have hq' : a.tmps[q]?.getD undef = u := by simpa using hq
  have hs' : a.tmps[s]?.getD undef = v := by simpa using hs
  simp [results, h, hp', hq', hs', asAddr, Sem.run_bind, Result.andThen, this]
theorem exec_ne53T {ev' : Operand → Value} {x y : Operand} {T : TypeId} {w : World} {p q : El} {B : Bool} (hx : ev' x = ev p) (hy : ev' y = ev q) (hB : (!decide (p = q)) = B) : (execOp ev' { dst := none, op := .binOp .neq 53 x y 53, type := T, pos := "", after := #[], guard := none }).run Tryz.prog w = .ok (.value (.bool B)) w := by
  have h := fun W => run_ne77 p q W
  rw [hB] at h
  obtain ⟨⟨g, r, l, n, i⟩, t⟩ := p
  obtain ⟨⟨g', r', l', n', i'⟩, t'⟩ := q
  unfold execOp
  simp only [hx, hy]
  dsimp only [ev] at h ⊢
  go_simp
/-- What a step begins with. -/
structure DoI (w w0 : World) (Mb Pb Rb : Nat) (t : Pm.T) (pm ao : Option Addr) (L0 : List El) (K : Int) (X : ByteArray) (s : St) : Prop where
  cell : ∀ W, Below w0.heap.size w0 W → W.cell? ⟨Mb, 0, none⟩ = some (.pointer pm) ∧ W.cell? ⟨Pb, 0, none⟩ = some (.int .i64 K) ∧ W.cell? ⟨Pb, 1, none⟩ = some (.string X) ∧ W.cell? ⟨Pb, 2, none⟩ = some (.int .i64 s.1) ∧ W.cell? ⟨Pb, 3, none⟩ = some (.int .i64 s.2.1) ∧ W.cell? ⟨Pb, 4, none⟩ = some (.string s.2.2.1) ∧ W.cell? ⟨Pb, 5, none⟩ = some (.int .i64 s.2.2.2.1) ∧ W.cell? ⟨Pb, 6, none⟩ = some (.int .i64 s.2.2.2.2)
  row : ∀ W, Below w0.heap.size w0 W → W.heap[Rb]? = some (.cells #[.pointer none] 27 (0, 0)) ∧ Mg W t ∧ Re W ao L0 ∧ Below w.heap.size w W
  ge : Mb = w.heap.size ∧ Pb = w.heap.size + 1 ∧ Rb = w.heap.size + 2 ∧ w0.heap.size = w.heap.size + 3
theorem DoI.of {w : World} {t : Pm.T} {pm ao : Option Addr} {L0 : List El} (K : Int) (X : ByteArray) (s : St) (h : Mg w t) (hre : Re w ao L0) :
    DoI w (((w.alloc (.cells #[.pointer pm] 27)).alloc (.cells #[.int .i64 K, .string X, .int .i64 s.1, .int .i64 s.2.1, .string s.2.2.1, .int .i64 s.2.2.2.1, .int .i64 s.2.2.2.2] 45)).alloc (.cells #[.pointer none] 27)) w.heap.size (w.heap.size + 1) (w.heap.size + 1 + 1) t pm ao L0 K X s := by
  obtain ⟨m0, m1, m2, b0⟩ := new4r w (.cells #[.pointer pm] 27) (.cells #[.int .i64 K, .string X, .int .i64 s.1, .int .i64 s.2.1, .string s.2.2.1, .int .i64 s.2.2.2.1, .int .i64 s.2.2.2.2] 45) (.cells #[.pointer none] 27) _ rfl
  refine ⟨fun W hW => ⟨cell_stays ((cell_of_row _ _ 0 _ 27 (0, 0) m0).trans rfl) hW, cell_stays ((cell_of_row _ _ 0 _ 45 (0, 0) m1).trans rfl) hW, cell_stays ((cell_of_row _ _ 1 _ 45 (0, 0) m1).trans rfl) hW, cell_stays ((cell_of_row _ _ 2 _ 45 (0, 0) m1).trans rfl) hW, cell_stays ((cell_of_row _ _ 3 _ 45 (0, 0) m1).trans rfl) hW, cell_stays ((cell_of_row _ _ 4 _ 45 (0, 0) m1).trans rfl) hW, cell_stays ((cell_of_row _ _ 5 _ 45 (0, 0) m1).trans rfl) hW, cell_stays ((cell_of_row _ _ 6 _ 45 (0, 0) m1).trans rfl) hW⟩,
    fun W hW => ⟨(hW.block _ (gI m2).1).trans m2, h.below (b0.trans (hW.mono b0.size)), hre.below (b0.trans (hW.mono b0.size)), b0.trans (hW.mono b0.size)⟩, rfl, rfl, rfl, by simp⟩
end Go.Proofs.YtkkpdgfllnbigaaGreat.Tg
