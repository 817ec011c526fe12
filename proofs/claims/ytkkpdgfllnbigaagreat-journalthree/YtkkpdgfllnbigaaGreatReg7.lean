/-
  register: Of (33).
-/
import Derived.Test.YtkkpdgfllnbigaaGreatMg17
import Derived.Test.YtkkpdgfllnbigaaGreatMg18
import Derived.Test.YtkkpdgfllnbigaaGreatKeyO
namespace Go.Proofs.YtkkpdgfllnbigaaGreat
open Go.RowKit Go.Shelf
set_option linter.unusedSimpArgs false
attribute [local go_sem] Oper.semAt_some

/-- Two operations that turn the world come up together in a region that draws its order. -/
theorem turn2_op {P : Program} {md : Region.Mode} {ops : Array Oper} {Q : Exit → Act → World → Prop} {S : World → Prop} {i j : Nat} {oi oj : Oper} {di dj : Tmp} {OPi OPj : Op} {Ti Tj : TypeId} {v u : Value} {fuel : Nat} {listed : Array Bool} {a : Act} {w wi wj : World}
    (hi : ops[i]? = some oi) (hdi : oi.dst = some di) (hoi : oi.op = OPi) (hti : oi.type = Ti) (hj : ops[j]? = some oj) (hdj : oj.dst = some dj) (hoj : oj.op = OPj) (htj : oj.type = Tj)
    (hr : Region.ready md ops listed = [i, j]) (hwi : Region.wanted oi (yielded ops a.tmps) = true) (hwj : Region.wanted oj (yielded ops a.tmps) = true)
    (hyi : (execOp a.eval { dst := none, op := OPi, type := Ti, pos := "", after := #[], guard := none }).run P w = .ok (.value v) wi)
    (hyj : (execOp a.eval { dst := none, op := OPj, type := Tj, pos := "", after := #[], guard := none }).run P w = .ok (.value u) wj)
    (hSi : S wi) (hSj : S wj)
    (h1 : wpAnyH P md ops Q S fuel (listed.setIfInBounds i true) (a.put (some di) v) wi) (h2 : wpAnyH P md ops Q S fuel (listed.setIfInBounds j true) (a.put (some dj) u) wj) : wpAnyH P md ops Q S (fuel + 1) listed a w := by
  refine wpAnyH_ready hr (by simp) (AllReadyH.cons hi (fun K hK => ?_) (AllReadyH.cons hj (fun K hK => ?_) AllReadyH.nil))
  · rw [if_pos hwi]
    unfold Oper.wp
    rw [exec_same a.eval oi hoi hti, hyi]
    show K (a.put oi.dst v) wi
    rw [hdi]
    exact hK.out _ _ hSi (fun _ => h1)
  · rw [if_pos hwj]
    unfold Oper.wp
    rw [exec_same a.eval oj hoj htj, hyj]
    show K (a.put oj.dst u) wj
    rw [hdj]
    exact hK.out _ _ hSj (fun _ => h2)
/-- One is laid behind; where the row then lies. -/
theorem push_OtW {w : World} {B b : Nat} {v : Value} {p : List ByteArray} {y : ByteArray} (hown : Ot w B v p) (hcell : w.heap[b]? = some (.cells #[.string y] 9 (0, 0))) (hp : p.length + 1 ≤ 1000000) (hB : B ≤ w.heap.size) :
    ∃ a' c' w', (Builtin.append_ #[63, 63] 63 #[v, .slice (some ⟨b, 0, none⟩) 1 1]).run Tryz.prog w = .ok (.slice a' (p.length + 1) c') w' ∧ Ot w' B (.slice a' (p.length + 1) c') (p ++ [y]) ∧ Only (fun k => v.ownBlock = some k) w w' ∧ Where w v (.slice a' (p.length + 1) c') := by
  obtain ⟨i0, hi, hz0, hz1, hz2⟩ := info_of info9t
  obtain ⟨v', w', hr, h2, h3, h4⟩ := append_where (P := Tryz.prog) w 63 63 9 i0 (.string ⟨#[]⟩) 1 16 Tryz.underlying63 hi hz0 hz1 hz2 rfl (by decide) v p.length (p.map Value.string) (hown.lift (Nat.zero_le _)) ⟨b, 0, none⟩ 1 1 [.string y] (by simp) (fun j u hj => by rw [add_lit, cell_of_row _ _ (0 + j) #[.string y] 9 (0, 0) hcell, Nat.zero_add]; simpa using hj) (fun u hu => strs_one (l := [y]) u (by simpa using hu)) (by unfold maxLen; omega) (by omega)
  have hO : Ot w' 0 v' (p ++ [y]) := by
    unfold Ot
    rw [List.map_append, List.length_append]
    exact h2
  obtain ⟨a', c', hv, _, _⟩ := row_form hO
  subst hv
  rw [List.length_append] at hO hr h4
  refine ⟨a', c', w', hr, ?_, Only.ofGrown h3, h4⟩
  rcases hO with ⟨q1, q2⟩
  refine ⟨q1, ?_⟩
  rcases q2 with q2 | ⟨g, cap, cur, e, hb, r⟩
  · exact .inl q2
  · refine .inr ⟨g, cap, cur, e, ?_, r⟩
    rcases h4 g (by rw [show (Value.slice a' (p.length + [y].length) c') = _ from e]; rfl) with h | h
    · exact (World.ownsRow.lt hown g h).1
    · omega
def okEl (x : El) : Bool := stV x.1 && txtB x.2
def kvE (x : El) : Kv := (keyT x.1, x.2)
/-- What stands between turns. -/
structure OI (w0 : World) (B : Nat) (ks ts : List ByteArray) (kv tv : Value) (W : World) : Prop where
  low : Below B w0 W
  k : Ot W B kv ks
  t : Ot W B tv ts
  ne : ∀ j, kv.ownBlock = some j → tv.ownBlock ≠ some j
theorem OI.alloc {w0 : World} {B : Nat} {ks ts : List ByteArray} {kv tv : Value} {W : World} (h : OI w0 B ks ts kv tv W) (hB : B ≤ W.heap.size) (o : Obj) : OI w0 B ks ts kv tv (W.alloc o) := by
  have hb : Below W.heap.size W (W.alloc o) := (Below.refl _ W).alloc (Nat.le_refl _) _
  exact ⟨h.low.trans (hb.mono hB), h.k.below hb, h.t.below hb, h.ne⟩
theorem OI.below {w0 : World} {B : Nat} {ks ts : List ByteArray} {kv tv : Value} {W W' : World} (h : OI w0 B ks ts kv tv W) (hB : B ≤ W.heap.size) (hb : Below W.heap.size W W') : OI w0 B ks ts kv tv W' := ⟨h.low.trans (hb.mono hB), h.k.below hb, h.t.below hb, h.ne⟩
theorem OI.pushK {w0 : World} {B b : Nat} {ks ts : List ByteArray} {kv tv : Value} {W : World} {y : ByteArray} (h : OI w0 B ks ts kv tv W) (hB : B ≤ W.heap.size) (hp : ks.length ≤ 100000) (hc : W.heap[b]? = some (.cells #[.string y] 9 (0, 0))) :
    ∃ a' c' w', (Builtin.append_ #[63, 63] 63 #[kv, .slice (some ⟨b, 0, none⟩) 1 1]).run Tryz.prog W = .ok (.slice a' (ks.length + 1) c') w' ∧ OI w0 B (ks ++ [y]) ts (.slice a' (ks.length + 1) c') tv w' ∧ Only (fun k => kv.ownBlock = some k) W w' := by
  obtain ⟨a', c', w', hr, hO, ho, hw⟩ := push_OtW h.k hc (by omega) hB
  refine ⟨a', c', w', hr, ⟨Below.only h.low ho hB (fun j e => (World.ownsRow.lt h.k j e).1), hO, h.t.only ho (fun k hk e => h.ne k e hk), fun j hj e => ?_⟩, ho⟩
  rcases hw j hj with h1 | h1
  · exact h.ne j h1 e
  · have := (World.ownsRow.lt h.t j e).2; omega
theorem OI.pushT {w0 : World} {B b : Nat} {ks ts : List ByteArray} {kv tv : Value} {W : World} {y : ByteArray} (h : OI w0 B ks ts kv tv W) (hB : B ≤ W.heap.size) (hp : ts.length ≤ 100000) (hc : W.heap[b]? = some (.cells #[.string y] 9 (0, 0))) :
    ∃ a' c' w', (Builtin.append_ #[63, 63] 63 #[tv, .slice (some ⟨b, 0, none⟩) 1 1]).run Tryz.prog W = .ok (.slice a' (ts.length + 1) c') w' ∧ OI w0 B ks (ts ++ [y]) kv (.slice a' (ts.length + 1) c') w' ∧ Only (fun k => tv.ownBlock = some k) W w' := by
  obtain ⟨a', c', w', hr, hO, ho, hw⟩ := push_OtW h.t hc (by omega) hB
  refine ⟨a', c', w', hr, ⟨Below.only h.low ho hB (fun j e => (World.ownsRow.lt h.t j e).1), h.k.only ho (fun k hk e => h.ne k hk e), hO, fun j hj e => ?_⟩, ho⟩
  rcases hw j e with h1 | h1
  · exact h.ne j hj h1
  · have := (World.ownsRow.lt h.k j hj).2; omega
theorem OI.notK {w0 : World} {B j : Nat} {ks ts : List ByteArray} {kv tv : Value} {W : World} (h : OI w0 B ks ts kv tv W) (hj : W.heap.size ≤ j) : ¬ (kv.ownBlock = some j) := fun e => by have := (World.ownsRow.lt h.k j e).2; omega
theorem OI.notT {w0 : World} {B j : Nat} {ks ts : List ByteArray} {kv tv : Value} {W : World} (h : OI w0 B ks ts kv tv W) (hj : W.heap.size ≤ j) : ¬ (tv.ownBlock = some j) := fun e => by have := (World.ownsRow.lt h.t j e).2; omega
theorem Ot.cs {w : World} {B : Nat} {v : Value} {L : List ByteArray} (h : Ot w B v L) : Pm.Cs w v (L.map Value.string) := by
  rcases h with ⟨h1, h2⟩
  rcases h2 with ⟨e, e2⟩ | ⟨g, cap, cur, e, hb, hg, hnc, hcm, hcs, htake⟩
  · have : L = [] := List.eq_nil_of_length_eq_zero e2
    subst this
    exact ⟨none, 0, e, Nat.le_refl _, fun j u hj => by simp at hj⟩
  · refine ⟨some ⟨g, 0, none⟩, cap, by rw [e, List.length_map], by rw [List.length_map]; exact hnc, fun j u hj => ⟨g, 0, rfl, ?_⟩⟩
    rw [Nat.zero_add, cell_of_row _ _ j _ 9 (0, 0) hg]
    have hj' : j < (L.map Value.string).length := (List.getElem?_eq_some_iff.1 hj).1
    rw [← htake, List.getElem?_take] at hj
    split at hj
    · simpa using hj
    · cases hj
def goodL (l : List El) : Bool := l.all okEl && decide ((l.map fun x => keyT x.1).Nodup)
theorem keyT_size {s : St} (h : stV s = true) : (keyT s).size ≤ 100 := by
  have := S_bounds h
  unfold keyT keyS
  simp only [ByteArray.size_append, strOfNums_size, low_length, List.length_singleton]
  have h0 : (ByteArray.mk #[0]).size = 1 := rfl
  omega
theorem ent_list (l : List El) : (List.range l.length).map (Pm.ent (l.map fun x => keyT x.1) (l.map Prod.snd)) = l.map kvE := by
  apply List.ext_getElem?
  intro j
  rw [List.getElem?_map, List.getElem?_map]
  by_cases hj : j < l.length
  · rw [List.getElem?_range hj]
    obtain ⟨x, hx⟩ : ∃ x, l[j]? = some x := ⟨_, List.getElem?_eq_getElem hj⟩
    simp [Pm.ent, hx, kvE]
  · rw [List.getElem?_eq_none (by simpa using hj), List.getElem?_eq_none (by simpa using hj)]; rfl
theorem of_good {w : World} {l : List El} {u4 u5 : Value} {ks ts : List ByteArray} (hks : ks = l.map fun x => keyT x.1) (hts : ts = l.map Prod.snd) (hall : l.all okEl = true) (hl : l.length ≤ 400) (hk : Pm.Cs w u4 (ks.map .string)) (ht : Pm.Cs w u5 (ts.map .string)) :
    Calls Tryz.prog 110 #[u4, u5] w (fun e w' => ∃ (t : Pm.T) (ec : Int) (pt : Option Addr), t.ptr = .pointer pt ∧ e = .returned (.tuple #[.agg #[.pointer pt], .int .i64 ec]) ∧ Below w.heap.size w w' ∧ ec = (if goodL l = true then 0 else 2) ∧ Mg w' t ∧ (goodL l = true → t.list.Perm (l.map kvE)) ∧ (goodL l = false → t = .nil) ∧ t.over w.heap.size) := by
  have hgl : goodL l = decide (ks.Nodup) := by rw [goodL, hall, Bool.true_and, hks]
  have hof := Pm.of_any ks ts u4 u5 w hk ht (by rw [hks, List.length_map]; omega)
  refine hof.mono ?_
  rintro e w' ⟨hb, hh⟩
  rcases hh with ⟨rfl, hbad⟩ | ⟨t, p, rfl, -, hp, htl', hsr, hbl, hin, hov⟩
  · have hg : goodL l = false := by
      rw [hgl, decide_eq_false_iff_not]
      rcases hbad with h1 | h1
      · rw [hks, hts, List.length_map, List.length_map] at h1; exact absurd rfl h1
      · exact h1
    refine ⟨.nil, 2, none, rfl, rfl, hb, by rw [if_neg (by rw [hg]; decide)], Mg.nil _, fun hc => ?_, fun _ => rfl, Pm.T.over_nil⟩
    rw [hg] at hc; cases hc
  · obtain ⟨pt, hpt⟩ := t.ptr_shape
    have hperm : t.list.Perm (l.map kvE) := by
      rw [hks, List.length_map] at hp
      rw [htl', ← ent_list l, hks, hts]
      exact hp.map _
    have hg : goodL l = true := by
      rw [hgl, decide_eq_true_eq]
      have hnd : (t.list.map Prod.fst).Nodup := by
        rw [List.nodup_iff_pairwise_ne, List.pairwise_map]
        exact List.Pairwise.imp (fun h e => by rw [e, Pm.ord_B.refl] at h; cases h) hsr
      have h2 := (hperm.map Prod.fst).nodup_iff.1 hnd
      rw [List.map_map] at h2
      rw [hks]
      exact h2
    refine ⟨t, 0, pt, hpt, by unfold Pm.mv; rw [hpt], hb, by rw [if_pos hg], ⟨hin, hsr, hbl, ?_, ?_⟩, fun _ => hperm, fun hc => ?_, hov⟩
    · rw [← Pm.T.n_eq, hperm.length_eq, List.length_map]; omega
    · intro y hy
      have hy' := hperm.mem_iff.1 hy
      obtain ⟨x, hx, rfl⟩ := List.mem_map.1 hy'
      rw [List.all_eq_true] at hall
      have ho := hall x hx
      simp only [okEl, Bool.and_eq_true] at ho
      have := keyT_size ho.1
      simp only [kvE]
      omega
    · rw [hg] at hc; cases hc
/-- What Of answers. -/
def OfE (w : World) (l : List El) (e : Ending) (w' : World) : Prop := ∃ t, e = .returned (.tuple #[Pm.mv t, .int .i64 (if goodL l = true then 0 else 2)]) ∧ Mg w' t ∧ Below w.heap.size w w' ∧ (goodL l = true → t.list.Perm (l.map kvE)) ∧ (goodL l = false → t = .nil) ∧ t.over w.heap.size
set_option maxHeartbeats 8000000 in
set_option maxRecDepth 100000 in
theorem rOf_any {w : World} {ao : Option Addr} {c : Nat} (l : List El) (h : Re w ao l) (hl : l.length ≤ 400) : Calls Tryz.prog 41 #[.slice ao l.length c] w (OfE w l) := by
  obtain ⟨w0, hw0⟩ : ∃ w0, w0 = w.alloc (.cells #[.pointer none] 27) := ⟨_, rfl⟩
  have m0 := heap_alloc_new w (.cells #[.pointer none] 27)
  rw [← hw0] at m0
  have b0 : Below w.heap.size w w0 := by rw [hw0]; exact (Below.refl _ w).alloc (Nat.le_refl _) _
  have s0 : w0.heap.size = w.heap.size + 1 := by rw [hw0]; simp
  have h0 : Re w0 ao l := h.below b0
  obtain ⟨N, hN⟩ : ∃ N, N = l.length := ⟨_, rfl⟩
  obtain ⟨Rb, hRb⟩ : ∃ Rb, Rb = w.heap.size := ⟨_, rfl⟩
  have HS : Hid (w0.heap.size = w.heap.size + 1 ∧ Rb = w.heap.size ∧ N = l.length ∧ l.length ≤ 400) := hide ⟨s0, hRb, hN, hl⟩
  rw [← hN]
  rw [← hRb] at m0
  have HM : Hid (w0.heap[Rb]? = some (.cells #[.pointer none] 27 (0, 0)) ∧ Below w.heap.size w w0 ∧ Re w0 ao l) := hide ⟨m0, b0, h0⟩
  have hNb : N ≤ 400 := by omega
  -- where it is refused
  have bad : ∀ W, Below w0.heap.size w0 W → W.cell? ⟨Rb, 0, none⟩ = some (.pointer none) ∧ W.frozen? ⟨Rb, 0, none⟩ = false ∧ Hid ((W.setCell ⟨Rb, 0, none⟩ (.pointer none)).heap[Rb]? = some (.cells #[.pointer none] 27 (0, 0)) ∧ (goodL l = false → OfE w l (.returned (.tuple #[.agg #[.pointer none], .int .i64 2])) (W.setCell ⟨Rb, 0, none⟩ (.pointer none)))) := fun W hW => by
    have q2 := (hW.block _ (Array.getElem?_eq_some_iff.1 m0).1).trans m0
    have q3 := b0.trans (hW.mono b0.size)
    obtain ⟨u, o⟩ := set_one (i := 0) (.pointer none) q2
    refine ⟨(cell_of_row _ _ 0 _ 27 (0, 0) q2).trans rfl, frozen_of_row _ _ 0 _ 27 q2, hide ⟨by simpa using u, fun hg => ⟨.nil, ?_, Mg.nil _, Below.only q3 o q3.size (fun j e => by have e' : j = Rb := e; omega), fun hc => ?_, fun _ => rfl, Pm.T.over_nil⟩⟩⟩
    · rw [hg]; rfl
    · rw [hg] at hc; cases hc
  have HBAD := hide bad
  have htx := fun (x : ByteArray) W => mayText_any x W
  have hky := fun (s : St) W => keyT_any s W
  have HW0 := hide hw0
  clear m0 b0 s0 h0 hN hRb h hl bad hw0
  go_enter Tryz.func41, Tryz.ntmps41
  go_upto_region 1 with fail
  rw [← HW0.out]
  rw [show w.heap.size = Rb from HS.out.2.1.symm]
  go_wp2
  go_loopw [4, 5, 12] (fun v4 v5 v12 wr => ∃ j : Nat, j ≤ N ∧ v12 = .int .i64 (j : Nat) ∧ Hid (OI w0 w0.heap.size ((l.take j).map fun x => keyT x.1) ((l.take j).map Prod.snd) v4 v5 wr ∧ (l.take j).all okEl = true)) (fun _ _ v12 _ => N - (intOf v12).toNat)
  case atStart => exact ⟨0, Nat.zero_le _, rfl, hide ⟨⟨Below.refl _ _, Ot.nil _ _, Ot.nil _ _, fun j hj => by cases hj⟩, rfl⟩⟩
  case round =>
    obtain ⟨j, hj, rfl, HI⟩ := hrel
    by_cases hlt : j < N
    · have z1 : (j : Int) < (N : Int) := by omega
      have z2 : decide ((j : Int) < (N : Int)) = true := by simpa using z1
      obtain ⟨x, hx⟩ : ∃ x, l[j]? = some x := ⟨_, List.getElem?_eq_getElem (by rw [← HS.out.2.2.1]; exact hlt)⟩
      have hre : Re wr ao l := HM.out.2.2.below HI.out.1.low
      obtain ⟨b, off, hao, c0, c1, c2, c3, c4, c5⟩ := hre.cells hx
      obtain ⟨⟨g, r, lb, n, ix⟩, xt⟩ := x
      dsimp only at c0 c1 c2 c3 c4 c5
      have HAO := hide hao
      have hEb : wr.heap.size = wr.heap.size := rfl
      obtain ⟨Eb, hEbb⟩ : ∃ Eb, Eb = wr.heap.size := ⟨_, rfl⟩
      obtain ⟨wE, hwE⟩ : ∃ wE, wE = wr.alloc (.cells #[.int .i64 g, .int .i64 r, .string lb, .int .i64 n, .int .i64 ix, .string xt] 53) := ⟨_, rfl⟩
      have rE : wE.heap[Eb]? = some (.cells #[.int .i64 g, .int .i64 r, .string lb, .int .i64 n, .int .i64 ix, .string xt] 53 (0, 0)) := by rw [hwE, hEbb]; exact heap_alloc_new wr _
      have bE : Below wr.heap.size wr wE := by rw [hwE]; exact (Below.refl _ wr).alloc (Nat.le_refl _) _
      have hk80 := hky (g, r, lb, n, ix) wE
      have htx1 := fun W => htx xt W
      have hlow : Below w0.heap.size w0 wE := HI.out.1.low.trans (bE.mono HI.out.1.low.size)
      have HB80 : Hid (∀ W, Below wE.heap.size wE W → Below w0.heap.size w0 W ∧ W.heap[Eb]? = some (.cells #[.int .i64 g, .int .i64 r, .string lb, .int .i64 n, .int .i64 ix, .string xt] 53 (0, 0)) ∧ OI w0 w0.heap.size ((l.take j).map fun x => keyT x.1) ((l.take j).map Prod.snd) u4 u5 W) := hide (fun W hW => ⟨hlow.trans (hW.mono hlow.size), (hW.block _ (Array.getElem?_eq_some_iff.1 rE).1).trans rE, (HI.out.1.below HI.out.1.low.size bE).below (by have := HI.out.1.low.size; have := bE.size; omega) hW⟩)
      have q53 : ∀ W, Below wE.heap.size wE W → W.cell? ⟨Eb, 0, none⟩ = some (.int .i64 g) ∧ W.cell? ⟨Eb, 1, none⟩ = some (.int .i64 r) ∧ W.cell? ⟨Eb, 2, none⟩ = some (.string lb) ∧ W.cell? ⟨Eb, 3, none⟩ = some (.int .i64 n) ∧ W.cell? ⟨Eb, 4, none⟩ = some (.int .i64 ix) ∧ W.cell? ⟨Eb, 5, none⟩ = some (.string xt) := fun W hW => by
        have := (HB80.out W hW).2.1
        exact ⟨(cell_of_row _ _ 0 _ 53 (0, 0) this).trans rfl, (cell_of_row _ _ 1 _ 53 (0, 0) this).trans rfl, (cell_of_row _ _ 2 _ 53 (0, 0) this).trans rfl, (cell_of_row _ _ 3 _ 53 (0, 0) this).trans rfl, (cell_of_row _ _ 4 _ 53 (0, 0) this).trans rfl, (cell_of_row _ _ 5 _ 53 (0, 0) this).trans rfl⟩
      obtain ⟨e0, e1, e2, e3, e4, e5⟩ := q53 wE (Below.refl _ _)
      have HQ := hide q53
      have HWE := hide hwE
      have HEB := hide hEbb
      have HX := hide hx
      have HJ : Hid (j < N ∧ N ≤ 400 ∧ N = l.length) := hide ⟨hlt, hNb, HS.out.2.2.1⟩
      have hbad : okEl ((g, r, lb, n, ix), xt) = false → goodL l = false := fun ho => by
        have hm : ((g, r, lb, n, ix), xt) ∈ l := List.mem_of_getElem? HX.out
        have : l.all okEl = false := by
          rw [Bool.eq_false_iff]
          intro ha
          rw [List.all_eq_true] at ha
          rw [ha _ hm] at ho
          cases ho
        rw [goodL, this]; rfl
      have HBD := hide hbad
      subst hao
      clear hx hre hEbb hwE rE bE hlow q53 hbad hEb hky htx hj
      obtain ⟨V, hV⟩ : ∃ V, V = stV (g, r, lb, n, ix) := ⟨_, rfl⟩
      rw [← hV] at hk80
      have HV := hide hV
      dsimp only [svT] at hk80
      obtain ⟨TX, hTX⟩ : ∃ TX, TX = txtB xt := ⟨_, rfl⟩
      rw [← hTX] at htx1
      have HTX := hide hTX
      obtain ⟨xk, hxk⟩ : ∃ xk, xk = keyT (g, r, lb, n, ix) := ⟨_, rfl⟩
      rw [← hxk] at hk80
      have HXK := hide hxk
      clear hV hTX hxk
      cases V with
      | false =>
        go_upto_region 5 with fail
        rw [← HEB.out, ← HWE.out]
        go_wp2_with (go_at_call 135; refine hk80.mono ?_; rintro e w1 ⟨rfl, b1⟩; obtain ⟨y1, y2, HY⟩ := HBAD.out w1 (HB80.out w1 b1).1; clear b1; dsimp only)
        refine ret_row_tmp Rb [.pointer none] rfl rfl rfl Tryz.underlying27 rfl T27 HY.out.1 rfl ?_
        exact HY.out.2 (HBD.out (by simp [okEl, ← HV.out]))
      | true =>
        cases TX with
        | false =>
          go_upto_region 5 with fail
          rw [← HEB.out, ← HWE.out]
          go_wp2_with (first
            | (go_at_call 135; refine hk80.mono ?_; rintro e w1 ⟨rfl, b1⟩; obtain ⟨y1, y2, HY⟩ := HBAD.out w1 (HB80.out w1 b1).1; obtain ⟨f0, f1, f2, f3, f4, f5⟩ := HQ.out w1 b1; clear b1; dsimp only)
            | (go_at_call 136; refine (htx1 _).mono ?_; rintro e w3 ⟨rfl, hw3⟩; replace hw3 := hw3.symm; subst hw3; dsimp only))
          refine ret_row_tmp Rb [.pointer none] rfl rfl rfl Tryz.underlying27 rfl T27 HY.out.1 rfl ?_
          exact HY.out.2 (HBD.out (by simp [okEl, ← HTX.out]))
        | true =>
          go_upto_region 5 with fail
          rw [← HEB.out, ← HWE.out]
          go_upto_region 8 with (first
            | (go_at_call 135; refine hk80.mono ?_; rintro e w1 ⟨rfl, b1⟩; obtain ⟨f0, f1, f2, f3, f4, f5⟩ := HQ.out w1 b1; have H1 := hide (HB80.out w1 b1); clear b1; dsimp only)
            | (go_at_call 136; refine (htx1 _).mono ?_; rintro e w3 ⟨rfl, hw3⟩; replace hw3 := hw3.symm; subst hw3; dsimp only))
          obtain ⟨ks, hks⟩ : ∃ ks, ks = (l.take j).map (fun x => keyT x.1) := ⟨_, rfl⟩
          obtain ⟨ts, hts⟩ : ∃ ts, ts = (l.take j).map Prod.snd := ⟨_, rfl⟩
          have I1 : OI w0 w0.heap.size ks ts u4 u5 w1 := by rw [hks, hts]; exact H1.out.2.2
          have HLN : Hid (ks.length ≤ 400 ∧ ts.length ≤ 400) := hide (by rw [hks, hts]; simp; omega)
          have HNE : Hid (¬ u4.ownBlock = some Eb ∧ ¬ u5.ownBlock = some Eb) := hide ⟨HI.out.1.notK (by rw [HEB.out]; exact Nat.le_refl _), HI.out.1.notT (by rw [HEB.out]; exact Nat.le_refl _)⟩
          have HNX : Hid (∀ kv' tv' W', OI w0 w0.heap.size (ks ++ [xk]) (ts ++ [xt]) kv' tv' W' → OI w0 w0.heap.size ((l.take (j + 1)).map fun x => keyT x.1) ((l.take (j + 1)).map Prod.snd) kv' tv' W' ∧ (l.take (j + 1)).all okEl = true) := hide (fun kv' tv' W' h => by
            rw [List.take_add_one, HX.out]
            refine ⟨?_, ?_⟩
            · simp only [Option.toList, List.map_append, List.map_cons, List.map_nil]
              rw [← hks, ← hts, ← HXK.out]
              exact h
            · simp only [Option.toList, List.all_append, List.all_cons, List.all_nil, Bool.and_true, Bool.and_eq_true]
              exact ⟨HI.out.2, by simp [okEl, ← HV.out, ← HTX.out]⟩)
          obtain ⟨Wd, hWd⟩ : ∃ Wd, Wd = w1.drew := ⟨_, rfl⟩
          have I0 : OI w0 w0.heap.size ks ts u4 u5 Wd := by rw [hWd]; exact I1.below I1.low.size (drew_below w1)
          have HNW : Hid ((∀ q, Wd.heap.size ≤ q → ¬ u4.ownBlock = some q) ∧ (∀ q, Wd.heap.size ≤ q → ¬ u5.ownBlock = some q)) := hide ⟨fun q hq => I0.notK hq, fun q hq => I0.notT hq⟩
          have qd : w1.drew.cell? ⟨Eb, 5, none⟩ = some (.string xt) := f5
          clear hk80 htx1 e0 e1 e2 e3 e4 e5 f0 f1 f2 f3 f4 f5 I1 hks hts c0 c1 c2 c3 c4 c5 HQ H1 HBD HBAD HB80 hlt
          refine wp_region_held_drew (S := fun w' => w'.cell? ⟨Eb, 5, none⟩ = some (.string xt)) (by kernel_rfl) qd (fun hHeld => ?_)
          clear qd
          rw [← hWd] at hHeld ⊢
          clear hWd
          refine take_op (i := 0) (d := 31) (OP := Op.move (Operand.tmp 4)) (T := 63) (v := ?vzz1) rfl rfl rfl rfl (by kernel_rfl) (by kernel_rfl) (by kernel_rfl) (fun _ _ _ h => h) (by rfl) ?hzz1 hHeld ?rzz1
          case hzz1 => (intro w' hSw; (try dsimp only at hSw); go_simp <;> with_reducible rfl)
          try simp only [Act.put, List.setIfInBounds_toArray, List.set_cons_zero, List.set_cons_succ]
          refine take_op (i := 1) (d := 32) (OP := Op.move (Operand.tmp 8)) (T := 9) (v := ?vzz2) rfl rfl rfl rfl (by kernel_rfl) (by kernel_rfl) (by kernel_rfl) (fun _ _ _ h => h) (by rfl) ?hzz2 hHeld ?rzz2
          case hzz2 => (intro w' hSw; (try dsimp only at hSw); go_simp <;> with_reducible rfl)
          try simp only [Act.put, List.setIfInBounds_toArray, List.set_cons_zero, List.set_cons_succ]
          refine take_op (i := 4) (d := 35) (OP := Op.move (Operand.tmp 5)) (T := 63) (v := ?vzz3) rfl rfl rfl rfl (by kernel_rfl) (by kernel_rfl) (by kernel_rfl) (fun _ _ _ h => h) (by rfl) ?hzz3 hHeld ?rzz3
          case hzz3 => (intro w' hSw; (try dsimp only at hSw); go_simp <;> with_reducible rfl)
          try simp only [Act.put, List.setIfInBounds_toArray, List.set_cons_zero, List.set_cons_succ]
          refine take_op (i := 5) (d := 36) (OP := Op.fieldAddr 53 (Operand.tmp 7) 1) (T := 0) (v := ?vzz4) rfl rfl rfl rfl (by kernel_rfl) (by kernel_rfl) (by kernel_rfl) (fun _ _ _ h => h) (by rfl) ?hzz4 hHeld ?rzz4
          case hzz4 => (intro w' hSw; (try dsimp only at hSw); go_simp <;> with_reducible rfl)
          try simp only [Act.put, List.setIfInBounds_toArray, List.set_cons_zero, List.set_cons_succ]
          refine take_op (i := 6) (d := 37) (OP := Op.load 9 (Operand.tmp 36)) (T := 9) (v := ?vzz5) rfl rfl rfl rfl (by kernel_rfl) (by kernel_rfl) (by kernel_rfl) (fun _ _ _ h => h) (by rfl) ?hzz5 hHeld ?rzz5
          case hzz5 => (intro w' hSw; (try dsimp only at hSw); go_simp <;> with_reducible rfl)
          try simp only [Act.put, List.setIfInBounds_toArray, List.set_cons_zero, List.set_cons_succ]
          obtain ⟨z1, hz1⟩ : ∃ q, q = Wd.alloc (.cells #[.string xk] 9) := ⟨_, rfl⟩
          have rz1 : z1.heap[Wd.heap.size]? = some (.cells #[.string xk] 9 (0, 0)) := by rw [hz1]; exact heap_alloc_new Wd _
          have bz1 : Below Wd.heap.size Wd z1 := by rw [hz1]; exact (Below.refl _ Wd).alloc (Nat.le_refl _) _
          have iz1 := I0.below (by have := I0.low.size; omega) bz1
          have sz1 : z1.cell? ⟨Eb, 5, none⟩ = some (.string xt) := cell_stays hHeld bz1
          obtain ⟨y1, hy1⟩ : ∃ q, q = Wd.alloc (.cells #[.string xt] 9) := ⟨_, rfl⟩
          have ry1 : y1.heap[Wd.heap.size]? = some (.cells #[.string xt] 9 (0, 0)) := by rw [hy1]; exact heap_alloc_new Wd _
          have by1 : Below Wd.heap.size Wd y1 := by rw [hy1]; exact (Below.refl _ Wd).alloc (Nat.le_refl _) _
          have iy1 := I0.below (by have := I0.low.size; omega) by1
          have sy1 : y1.cell? ⟨Eb, 5, none⟩ = some (.string xt) := cell_stays hHeld by1
          refine turn2_op (i := 2) (di := 33) (OPi := Op.buildSlice 63 1 #[(0, Operand.tmp 32)]) (Ti := 63) (j := 7) (dj := 38) (OPj := Op.buildSlice 63 1 #[(0, Operand.tmp 37)]) (Tj := 63) (v := .slice (some ⟨Wd.heap.size, 0, none⟩) 1 1) (u := .slice (some ⟨Wd.heap.size, 0, none⟩) 1 1) (wi := z1) (wj := y1) rfl rfl rfl rfl rfl rfl rfl rfl (by kernel_rfl) (by rfl) (by rfl) (by rw [hz1]; exact exec_bs9 rfl) (by rw [hy1]; exact exec_bs9 rfl) sz1 sy1 ?_ ?_
          · try simp only [Act.put, List.setIfInBounds_toArray, List.set_cons_zero, List.set_cons_succ]
            obtain ⟨Ka, Kc, z2, hrz2, iz2, oz2⟩ := iz1.pushK (by have := iz1.low.size; omega) (by have := HLN.out; omega) rz1
            have sz2 : z2.cell? ⟨Eb, 5, none⟩ = some (.string xt) := (World.cell?_of_block (oz2.block Eb (World.block_lt_of_cell? _ _ sz1) (HNE.out.1))).trans sz1
            obtain ⟨y2, hy2⟩ : ∃ q, q = z1.alloc (.cells #[.string xt] 9) := ⟨_, rfl⟩
            have ry2 : y2.heap[z1.heap.size]? = some (.cells #[.string xt] 9 (0, 0)) := by rw [hy2]; exact heap_alloc_new z1 _
            have by2 : Below z1.heap.size z1 y2 := by rw [hy2]; exact (Below.refl _ z1).alloc (Nat.le_refl _) _
            have iy2 := iz1.below (by have := iz1.low.size; omega) by2
            have sy2 : y2.cell? ⟨Eb, 5, none⟩ = some (.string xt) := cell_stays sz1 by2
            refine turn2_op (i := 3) (di := 34) (OPi := Op.call { callee := Callee.builtin Builtin.append, args := #[Operand.tmp 31, Operand.tmp 33], argTypes := #[63, 63] }) (Ti := 63) (j := 7) (dj := 38) (OPj := Op.buildSlice 63 1 #[(0, Operand.tmp 37)]) (Tj := 63) (v := .slice Ka (ks.length + 1) Kc) (u := .slice (some ⟨z1.heap.size, 0, none⟩) 1 1) (wi := z2) (wj := y2) rfl rfl rfl rfl rfl rfl rfl rfl (by kernel_rfl) (by rfl) (by rfl) (exec_append rfl rfl hrz2) (by rw [hy2]; exact exec_bs9 rfl) sz2 sy2 ?_ ?_
            · try simp only [Act.put, List.setIfInBounds_toArray, List.set_cons_zero, List.set_cons_succ]
              obtain ⟨z3, hz3⟩ : ∃ q, q = z2.alloc (.cells #[.string xt] 9) := ⟨_, rfl⟩
              have rz3 : z3.heap[z2.heap.size]? = some (.cells #[.string xt] 9 (0, 0)) := by rw [hz3]; exact heap_alloc_new z2 _
              have bz3 : Below z2.heap.size z2 z3 := by rw [hz3]; exact (Below.refl _ z2).alloc (Nat.le_refl _) _
              have iz3 := iz2.below (by have := iz2.low.size; omega) bz3
              have sz3 : z3.cell? ⟨Eb, 5, none⟩ = some (.string xt) := cell_stays sz2 bz3
              refine turn_op (i := 7) (d := 38) (OP := Op.buildSlice 63 1 #[(0, Operand.tmp 37)]) (T := 63) (v := .slice (some ⟨z2.heap.size, 0, none⟩) 1 1) (w' := z3) rfl rfl rfl rfl (by kernel_rfl) (by rfl) (by rw [hz3]; exact exec_bs9 rfl) sz3 ?_
              try simp only [Act.put, List.setIfInBounds_toArray, List.set_cons_zero, List.set_cons_succ]
              obtain ⟨Ta, Tc, z4, hrz4, iz4, oz4⟩ := iz3.pushT (by have := iz3.low.size; omega) (by have := HLN.out; omega) rz3
              have sz4 : z4.cell? ⟨Eb, 5, none⟩ = some (.string xt) := (World.cell?_of_block (oz4.block Eb (World.block_lt_of_cell? _ _ sz3) (HNE.out.2))).trans sz3
              refine turn_op (i := 8) (d := 39) (OP := Op.call { callee := Callee.builtin Builtin.append, args := #[Operand.tmp 35, Operand.tmp 38], argTypes := #[63, 63] }) (T := 63) (v := .slice Ta (ts.length + 1) Tc) (w' := z4) rfl rfl rfl rfl (by kernel_rfl) (by rfl) (exec_append rfl rfl hrz4) sz4 ?_
              try simp only [Act.put, List.setIfInBounds_toArray, List.set_cons_zero, List.set_cons_succ]
              refine take_op (i := 9) (d := 4) (OP := Op.assign (Operand.tmp 34)) (T := 63) (v := ?vzz6) rfl rfl rfl rfl (by kernel_rfl) (by kernel_rfl) (by kernel_rfl) (fun _ _ _ h => h) (by rfl) ?hzz6 sz4 ?rzz6
              case hzz6 => (intro w' hSw; (try dsimp only at hSw); go_simp <;> with_reducible rfl)
              try simp only [Act.put, List.setIfInBounds_toArray, List.set_cons_zero, List.set_cons_succ]
              refine take_op (i := 10) (d := 5) (OP := Op.assign (Operand.tmp 39)) (T := 63) (v := ?vzz7) rfl rfl rfl rfl (by kernel_rfl) (by kernel_rfl) (by kernel_rfl) (fun _ _ _ h => h) (by rfl) ?hzz7 sz4 ?rzz7
              case hzz7 => (intro w' hSw; (try dsimp only at hSw); go_simp <;> with_reducible rfl)
              try simp only [Act.put, List.setIfInBounds_toArray, List.set_cons_zero, List.set_cons_succ]
              refine wpAnyH_done (by kernel_rfl) ?_ _
              have HEND := hide (HNX.out _ _ _ iz4)
              clear hHeld HNE I0
              go_wp2
              go_roundw
              case rel => exact ⟨j + 1, by have := HJ.out; omega, by go_num, HEND⟩
              case measure => have := HJ.out; simp [intOf]; omega
            · try simp only [Act.put, List.setIfInBounds_toArray, List.set_cons_zero, List.set_cons_succ]
              have rk2 := (by2.block _ (Array.getElem?_eq_some_iff.1 rz1).1).trans rz1
              obtain ⟨La, Lc, z5, hrz5, iz5, oz5⟩ := iy2.pushK (by have := iy2.low.size; omega) (by have := HLN.out; omega) rk2
              have sz5 : z5.cell? ⟨Eb, 5, none⟩ = some (.string xt) := (World.cell?_of_block (oz5.block Eb (World.block_lt_of_cell? _ _ sy2) (HNE.out.1))).trans sy2
              refine turn_op (i := 3) (d := 34) (OP := Op.call { callee := Callee.builtin Builtin.append, args := #[Operand.tmp 31, Operand.tmp 33], argTypes := #[63, 63] }) (T := 63) (v := .slice La (ks.length + 1) Lc) (w' := z5) rfl rfl rfl rfl (by kernel_rfl) (by rfl) (exec_append rfl rfl hrz5) sz5 ?_
              try simp only [Act.put, List.setIfInBounds_toArray, List.set_cons_zero, List.set_cons_succ]
              have rt5 := (oz5.block _ (Array.getElem?_eq_some_iff.1 ry2).1 (HNW.out.1 _ (by have := bz1.size; omega))).trans ry2
              obtain ⟨Ta, Tc, z6, hrz6, iz6, oz6⟩ := iz5.pushT (by have := iz5.low.size; omega) (by have := HLN.out; omega) rt5
              have sz6 : z6.cell? ⟨Eb, 5, none⟩ = some (.string xt) := (World.cell?_of_block (oz6.block Eb (World.block_lt_of_cell? _ _ sz5) (HNE.out.2))).trans sz5
              refine turn_op (i := 8) (d := 39) (OP := Op.call { callee := Callee.builtin Builtin.append, args := #[Operand.tmp 35, Operand.tmp 38], argTypes := #[63, 63] }) (T := 63) (v := .slice Ta (ts.length + 1) Tc) (w' := z6) rfl rfl rfl rfl (by kernel_rfl) (by rfl) (exec_append rfl rfl hrz6) sz6 ?_
              try simp only [Act.put, List.setIfInBounds_toArray, List.set_cons_zero, List.set_cons_succ]
              refine take_op (i := 9) (d := 4) (OP := Op.assign (Operand.tmp 34)) (T := 63) (v := ?vzz8) rfl rfl rfl rfl (by kernel_rfl) (by kernel_rfl) (by kernel_rfl) (fun _ _ _ h => h) (by rfl) ?hzz8 sz6 ?rzz8
              case hzz8 => (intro w' hSw; (try dsimp only at hSw); go_simp <;> with_reducible rfl)
              try simp only [Act.put, List.setIfInBounds_toArray, List.set_cons_zero, List.set_cons_succ]
              refine take_op (i := 10) (d := 5) (OP := Op.assign (Operand.tmp 39)) (T := 63) (v := ?vzz9) rfl rfl rfl rfl (by kernel_rfl) (by kernel_rfl) (by kernel_rfl) (fun _ _ _ h => h) (by rfl) ?hzz9 sz6 ?rzz9
              case hzz9 => (intro w' hSw; (try dsimp only at hSw); go_simp <;> with_reducible rfl)
              try simp only [Act.put, List.setIfInBounds_toArray, List.set_cons_zero, List.set_cons_succ]
              refine wpAnyH_done (by kernel_rfl) ?_ _
              have HEND := hide (HNX.out _ _ _ iz6)
              clear hHeld HNE I0
              go_wp2
              go_roundw
              case rel => exact ⟨j + 1, by have := HJ.out; omega, by go_num, HEND⟩
              case measure => have := HJ.out; simp [intOf]; omega
          · try simp only [Act.put, List.setIfInBounds_toArray, List.set_cons_zero, List.set_cons_succ]
            obtain ⟨y3, hy3⟩ : ∃ q, q = y1.alloc (.cells #[.string xk] 9) := ⟨_, rfl⟩
            have ry3 : y3.heap[y1.heap.size]? = some (.cells #[.string xk] 9 (0, 0)) := by rw [hy3]; exact heap_alloc_new y1 _
            have by3 : Below y1.heap.size y1 y3 := by rw [hy3]; exact (Below.refl _ y1).alloc (Nat.le_refl _) _
            have iy3 := iy1.below (by have := iy1.low.size; omega) by3
            have sy3 : y3.cell? ⟨Eb, 5, none⟩ = some (.string xt) := cell_stays sy1 by3
            refine turn_op (i := 2) (d := 33) (OP := Op.buildSlice 63 1 #[(0, Operand.tmp 32)]) (T := 63) (v := .slice (some ⟨y1.heap.size, 0, none⟩) 1 1) (w' := y3) rfl rfl rfl rfl (by kernel_rfl) (by rfl) (by rw [hy3]; exact exec_bs9 rfl) sy3 ?_
            try simp only [Act.put, List.setIfInBounds_toArray, List.set_cons_zero, List.set_cons_succ]
            obtain ⟨Ka, Kc, y4, hry4, iy4, oy4⟩ := iy3.pushK (by have := iy3.low.size; omega) (by have := HLN.out; omega) ry3
            have sy4 : y4.cell? ⟨Eb, 5, none⟩ = some (.string xt) := (World.cell?_of_block (oy4.block Eb (World.block_lt_of_cell? _ _ sy3) (HNE.out.1))).trans sy3
            refine turn_op (i := 3) (d := 34) (OP := Op.call { callee := Callee.builtin Builtin.append, args := #[Operand.tmp 31, Operand.tmp 33], argTypes := #[63, 63] }) (T := 63) (v := .slice Ka (ks.length + 1) Kc) (w' := y4) rfl rfl rfl rfl (by kernel_rfl) (by rfl) (exec_append rfl rfl hry4) sy4 ?_
            try simp only [Act.put, List.setIfInBounds_toArray, List.set_cons_zero, List.set_cons_succ]
            have rt3 := (by3.block _ (Array.getElem?_eq_some_iff.1 ry1).1).trans ry1
            have rt4 := (oy4.block _ (Array.getElem?_eq_some_iff.1 rt3).1 (HNW.out.1 _ (Nat.le_refl _))).trans rt3
            obtain ⟨Ta, Tc, y5, hry5, iy5, oy5⟩ := iy4.pushT (by have := iy4.low.size; omega) (by have := HLN.out; omega) rt4
            have sy5 : y5.cell? ⟨Eb, 5, none⟩ = some (.string xt) := (World.cell?_of_block (oy5.block Eb (World.block_lt_of_cell? _ _ sy4) (HNE.out.2))).trans sy4
            refine turn_op (i := 8) (d := 39) (OP := Op.call { callee := Callee.builtin Builtin.append, args := #[Operand.tmp 35, Operand.tmp 38], argTypes := #[63, 63] }) (T := 63) (v := .slice Ta (ts.length + 1) Tc) (w' := y5) rfl rfl rfl rfl (by kernel_rfl) (by rfl) (exec_append rfl rfl hry5) sy5 ?_
            try simp only [Act.put, List.setIfInBounds_toArray, List.set_cons_zero, List.set_cons_succ]
            refine take_op (i := 9) (d := 4) (OP := Op.assign (Operand.tmp 34)) (T := 63) (v := ?vzz10) rfl rfl rfl rfl (by kernel_rfl) (by kernel_rfl) (by kernel_rfl) (fun _ _ _ h => h) (by rfl) ?hzz10 sy5 ?rzz10
            case hzz10 => (intro w' hSw; (try dsimp only at hSw); go_simp <;> with_reducible rfl)
            try simp only [Act.put, List.setIfInBounds_toArray, List.set_cons_zero, List.set_cons_succ]
            refine take_op (i := 10) (d := 5) (OP := Op.assign (Operand.tmp 39)) (T := 63) (v := ?vzz11) rfl rfl rfl rfl (by kernel_rfl) (by kernel_rfl) (by kernel_rfl) (fun _ _ _ h => h) (by rfl) ?hzz11 sy5 ?rzz11
            case hzz11 => (intro w' hSw; (try dsimp only at hSw); go_simp <;> with_reducible rfl)
            try simp only [Act.put, List.setIfInBounds_toArray, List.set_cons_zero, List.set_cons_succ]
            refine wpAnyH_done (by kernel_rfl) ?_ _
            have HEND := hide (HNX.out _ _ _ iy5)
            clear hHeld HNE I0
            go_wp2
            go_roundw
            case rel => exact ⟨j + 1, by have := HJ.out; omega, by go_num, HEND⟩
            case measure => have := HJ.out; simp [intOf]; omega
    · have hjN : j = N := by omega
      have z1 : ¬ (j : Int) < (N : Int) := by omega
      have z2 : decide ((j : Int) < (N : Int)) = false := by simpa using z1
      obtain ⟨hoi, hall⟩ := HI.out
      have htl : l.take j = l := by rw [hjN, HS.out.2.2.1, List.take_length]
      rw [htl] at hoi hall
      have hof := of_good (w := wr) rfl rfl hall (by have := HS.out; omega) hoi.k.cs hoi.t.cs
      have HLOW := hide hoi.low
      obtain ⟨ec0, hec0⟩ : ∃ ec0 : Int, ec0 = 0 := ⟨_, rfl⟩
      clear hoi hall htl HI hjN hec0 hky htx
      go_wp2_with (go_at_call 110; refine hof.mono ?_; rintro e w5 ⟨t, ec, pt, hpt, rfl, b5, hec, hmg, hp1, hp2⟩; obtain ⟨y1, y2, -⟩ := HBAD.out w5 (HLOW.out.trans (b5.mono HLOW.out.size)); have H5 := hide (And.intro hpt (And.intro b5 (And.intro hec (And.intro hmg (And.intro hp1 hp2))))); clear hpt b5 hec hmg hp1 hp2; dsimp only)
      obtain ⟨hpt, b5, hec, hmg, hp1, hp2⟩ := H5.out
      have bl := HLOW.out.trans (b5.mono HLOW.out.size)
      have q2 := (bl.block _ (Array.getElem?_eq_some_iff.1 HM.out.1).1).trans HM.out.1
      have q3 := HM.out.2.1.trans (bl.mono HM.out.2.1.size)
      obtain ⟨u, o⟩ := set_one (i := 0) (.pointer pt) q2
      refine ret_row_tmp Rb [.pointer pt] rfl rfl rfl Tryz.underlying27 rfl T27 (by simpa using u) rfl ?_
      refine ⟨t, ?_, ⟨Pm.In.aside q2 o hmg.inn, hmg.srt, hmg.bal, hmg.few, hmg.key⟩, Below.only q3 o q3.size (fun k e => by have e' : k = Rb := e; have := HS.out; omega), hp1, hp2.1, hp2.2.mono (Nat.le_trans HM.out.2.1.size HLOW.out.size)⟩
      unfold Pm.mv
      rw [hpt, ← hec]
      rfl
end Go.Proofs.YtkkpdgfllnbigaaGreat
