/-
  register: Of (33).
  The document's SameElements 65, Same 24, SameTexts 31; the laws' at 38.
  register: the law's small functions: at (46), num (35), the document's Text (55).
  register: the chapter's rows (known 32).
-/
import Derived.Test.YtkkpdgfllnbigaaGreatMg12
import Derived.Test.YtkkpdgfllnbigaaGreatMg13
import Derived.Test.YtkkpdgfllnbigaaGreatMg11
import Derived.Test.YtkkpdgfllnbigaaGreatMg10
import Derived.Deep.DeepCutAuto
import Derived.Deep.CutBlock
namespace Go.Proofs.YtkkpdgfllnbigaaGreat
open Go.RowKit Go.Shelf
set_option linter.unusedSimpArgs false
attribute [local go_sem] Oper.semAt_some

/-- Two operations that turn the world come up together in a region that draws its order. -/
theorem turn2_op {P : Program} {md : Region.Mode} {ops : Array Oper} {Q : Exit → Act → World → Prop} {S : World → Prop} {i j : Nat} {oi oj : Oper} {di dj : Tmp} {OPi OPj : Op} {Ti Tj : TypeId} {v u : Value} {fuel : Nat} {listed : Array Bool} {a : Act} {w wi wj : World}
    (hi : ops[i]? = some oi) (hdi : oi.dst = some di) (hoi : oi.op = OPi) (hti : oi.type = Ti) (hj : ops[j]? = some oj) (hdj : oj.dst = some dj) (hoj : oj.op = OPj) (htj : oj.type = Tj)
    (hr : Region.ready md ops listed = [i, j]) (hwi : Region.wanted oi (yielded ops a.tmps) = true) (hwj : Region.wanted oj (yielded ops a.tmps) = true)
    (hyi : (execOp a.eval { dst := none, op := OPi, type := Ti, pos := "", after := #[], guard := none }).run P w = .ok (.value v) wi)
    (hyj : (execOp a.eval { dst := none, op := OPj, type := Tj, pos := "", after := #[], guard := none }).run P w = .ok (.value u) wj)
    (hSi : S wi) (hSj : S wj)
    (h1 : wpAnyH P md ops Q S fuel (listed.setIfInBounds i true) (a.put (some di) v) wi) (h2 : wpAnyH P md ops Q S fuel (listed.setIfInBounds j true) (a.put (some dj) u) wj) : wpAnyH P md ops Q S (fuel + 1) listed a w := by
  refine wpAnyH_ready hr (by simp) (AllReadyH.cons hi (fun K hK => ?_) (AllReadyH.cons hj (fun K hK => ?_) AllReadyH.nil))
  · rw [if_pos hwi]
    unfold Oper.wp
    rw [exec_same a.eval oi hoi hti, hyi]
    show K (a.put oi.dst v) wi
    rw [hdi]
    exact hK.out _ _ hSi (fun _ => h1)
  · rw [if_pos hwj]
    unfold Oper.wp
    rw [exec_same a.eval oj hoj htj, hyj]
    show K (a.put oj.dst u) wj
    rw [hdj]
    exact hK.out _ _ hSj (fun _ => h2)
/-- One is laid behind; where the row then lies. -/
theorem push_OtW {w : World} {B b : Nat} {v : Value} {p : List ByteArray} {y : ByteArray} (hown : Ot w B v p) (hcell : w.heap[b]? = some (.cells #[.string y] 9 (0, 0))) (hp : p.length + 1 ≤ 1000000) (hB : B ≤ w.heap.size) :
    ∃ a' c' w', (Builtin.append_ #[63, 63] 63 #[v, .slice (some ⟨b, 0, none⟩) 1 1]).run Tryz.prog w = .ok (.slice a' (p.length + 1) c') w' ∧ Ot w' B (.slice a' (p.length + 1) c') (p ++ [y]) ∧ Only (fun k => v.ownBlock = some k) w w' ∧ Where w v (.slice a' (p.length + 1) c') := by
  obtain ⟨i0, hi, hz0, hz1, hz2⟩ := info_of info9t
  obtain ⟨v', w', hr, h2, h3, h4⟩ := append_where (P := Tryz.prog) w 63 63 9 i0 (.string ⟨#[]⟩) 1 16 Tryz.underlying63 hi hz0 hz1 hz2 rfl (by decide) v p.length (p.map Value.string) (hown.lift (Nat.zero_le _)) ⟨b, 0, none⟩ 1 1 [.string y] (by simp) (fun j u hj => by rw [add_lit, cell_of_row _ _ (0 + j) #[.string y] 9 (0, 0) hcell, Nat.zero_add]; simpa using hj) (fun u hu => strs_one (l := [y]) u (by simpa using hu)) (by unfold maxLen; omega) (by omega)
  have hO : Ot w' 0 v' (p ++ [y]) := by
    unfold Ot
    rw [List.map_append, List.length_append]
    exact h2
  obtain ⟨a', c', hv, _, _⟩ := row_form hO
  subst hv
  rw [List.length_append] at hO hr h4
  refine ⟨a', c', w', hr, ?_, Only.ofGrown h3, h4⟩
  rcases hO with ⟨q1, q2⟩
  refine ⟨q1, ?_⟩
  rcases q2 with q2 | ⟨g, cap, cur, e, hb, r⟩
  · exact .inl q2
  · refine .inr ⟨g, cap, cur, e, ?_, r⟩
    rcases h4 g (by rw [show (Value.slice a' (p.length + [y].length) c') = _ from e]; rfl) with h | h
    · exact (World.ownsRow.lt hown g h).1
    · omega
def okEl (x : El) : Bool := stV x.1 && txtB x.2
def kvE (x : El) : Kv := (keyT x.1, x.2)
/-- What stands between turns. -/
structure OI (w0 : World) (B : Nat) (ks ts : List ByteArray) (kv tv : Value) (W : World) : Prop where
  low : Below B w0 W
  k : Ot W B kv ks
  t : Ot W B tv ts
  ne : ∀ j, kv.ownBlock = some j → tv.ownBlock ≠ some j
theorem OI.alloc {w0 : World} {B : Nat} {ks ts : List ByteArray} {kv tv : Value} {W : World} (h : OI w0 B ks ts kv tv W) (hB : B ≤ W.heap.size) (o : Obj) : OI w0 B ks ts kv tv (W.alloc o) := by
  have hb : Below W.heap.size W (W.alloc o) := (Below.refl _ W).alloc (Nat.le_refl _) _
  exact ⟨h.low.trans (hb.mono hB), h.k.below hb, h.t.below hb, h.ne⟩
theorem OI.below {w0 : World} {B : Nat} {ks ts : List ByteArray} {kv tv : Value} {W W' : World} (h : OI w0 B ks ts kv tv W) (hB : B ≤ W.heap.size) (hb : Below W.heap.size W W') : OI w0 B ks ts kv tv W' := ⟨h.low.trans (hb.mono hB), h.k.below hb, h.t.below hb, h.ne⟩
theorem OI.pushK {w0 : World} {B b : Nat} {ks ts : List ByteArray} {kv tv : Value} {W : World} {y : ByteArray} (h : OI w0 B ks ts kv tv W) (hB : B ≤ W.heap.size) (hp : ks.length ≤ 100000) (hc : W.heap[b]? = some (.cells #[.string y] 9 (0, 0))) :
    ∃ a' c' w', (Builtin.append_ #[63, 63] 63 #[kv, .slice (some ⟨b, 0, none⟩) 1 1]).run Tryz.prog W = .ok (.slice a' (ks.length + 1) c') w' ∧ OI w0 B (ks ++ [y]) ts (.slice a' (ks.length + 1) c') tv w' ∧ Only (fun k => kv.ownBlock = some k) W w' := by
  obtain ⟨a', c', w', hr, hO, ho, hw⟩ := push_OtW h.k hc (by omega) hB
  refine ⟨a', c', w', hr, ⟨Below.only h.low ho hB (fun j e => (World.ownsRow.lt h.k j e).1), hO, h.t.only ho (fun k hk e => h.ne k e hk), fun j hj e => ?_⟩, ho⟩
  rcases hw j hj with h1 | h1
  · exact h.ne j h1 e
  · have := (World.ownsRow.lt h.t j e).2; omega
theorem OI.pushT {w0 : World} {B b : Nat} {ks ts : List ByteArray} {kv tv : Value} {W : World} {y : ByteArray} (h : OI w0 B ks ts kv tv W) (hB : B ≤ W.heap.size) (hp : ts.length ≤ 100000) (hc : W.heap[b]? = some (.cells #[.string y] 9 (0, 0))) :
    ∃ a' c' w', (Builtin.append_ #[63, 63] 63 #[tv, .slice (some ⟨b, 0, none⟩) 1 1]).run Tryz.prog W = .ok (.slice a' (ts.length + 1) c') w' ∧ OI w0 B ks (ts ++ [y]) kv (.slice a' (ts.length + 1) c') w' ∧ Only (fun k => tv.ownBlock = some k) W w' := by
  obtain ⟨a', c', w', hr, hO, ho, hw⟩ := push_OtW h.t hc (by omega) hB
  refine ⟨a', c', w', hr, ⟨Below.only h.low ho hB (fun j e => (World.ownsRow.lt h.t j e).1), h.k.only ho (fun k hk e => h.ne k hk e), hO, fun j hj e => ?_⟩, ho⟩
  rcases hw j e with h1 | h1
  · exact h.ne j hj h1
  · have := (World.ownsRow.lt h.k j hj).2; omega
theorem OI.notK {w0 : World} {B j : Nat} {ks ts : List ByteArray} {kv tv : Value} {W : World} (h : OI w0 B ks ts kv tv W) (hj : W.heap.size ≤ j) : ¬ (kv.ownBlock = some j) := fun e => by have := (World.ownsRow.lt h.k j e).2; omega
theorem OI.notT {w0 : World} {B j : Nat} {ks ts : List ByteArray} {kv tv : Value} {W : World} (h : OI w0 B ks ts kv tv W) (hj : W.heap.size ≤ j) : ¬ (tv.ownBlock = some j) := fun e => by have := (World.ownsRow.lt h.t j e).2; omega
theorem Ot.cs {w : World} {B : Nat} {v : Value} {L : List ByteArray} (h : Ot w B v L) : Pm.Cs w v (L.map Value.string) := by
  rcases h with ⟨h1, h2⟩
  rcases h2 with ⟨e, e2⟩ | ⟨g, cap, cur, e, hb, hg, hnc, hcm, hcs, htake⟩
  · have : L = [] := List.eq_nil_of_length_eq_zero e2
    subst this
    exact ⟨none, 0, e, Nat.le_refl _, fun j u hj => by simp at hj⟩
  · refine ⟨some ⟨g, 0, none⟩, cap, by rw [e, List.length_map], by rw [List.length_map]; exact hnc, fun j u hj => ⟨g, 0, rfl, ?_⟩⟩
    rw [Nat.zero_add, cell_of_row _ _ j _ 9 (0, 0) hg]
    have hj' : j < (L.map Value.string).length := (List.getElem?_eq_some_iff.1 hj).1
    rw [← htake, List.getElem?_take] at hj
    split at hj
    · simpa using hj
    · cases hj
def goodL (l : List El) : Bool := l.all okEl && decide ((l.map fun x => keyT x.1).Nodup)
theorem keyT_size {s : St} (h : stV s = true) : (keyT s).size ≤ 100 := by
  have := S_bounds h
  unfold keyT keyS
  simp only [ByteArray.size_append, strOfNums_size, low_length, List.length_singleton]
  have h0 : (ByteArray.mk #[0]).size = 1 := rfl
  omega
theorem ent_list (l : List El) : (List.range l.length).map (Pm.ent (l.map fun x => keyT x.1) (l.map Prod.snd)) = l.map kvE := by
  apply List.ext_getElem?
  intro j
  rw [List.getElem?_map, List.getElem?_map]
  by_cases hj : j < l.length
  · rw [List.getElem?_range hj]
    obtain ⟨x, hx⟩ : ∃ x, l[j]? = some x := ⟨_, List.getElem?_eq_getElem hj⟩
    simp [Pm.ent, hx, kvE]
  · rw [List.getElem?_eq_none (by simpa using hj), List.getElem?_eq_none (by simpa using hj)]; rfl
theorem of_good {w : World} {l : List El} {u4 u5 : Value} {ks ts : List ByteArray} (hks : ks = l.map fun x => keyT x.1) (hts : ts = l.map Prod.snd) (hall : l.all okEl = true) (hl : l.length ≤ 400) (hk : Pm.Cs w u4 (ks.map .string)) (ht : Pm.Cs w u5 (ts.map .string)) :
    Calls Tryz.prog 110 #[u4, u5] w (fun e w' => ∃ (t : Pm.T) (ec : Int) (pt : Option Addr), t.ptr = .pointer pt ∧ e = .returned (.tuple #[.agg #[.pointer pt], .int .i64 ec]) ∧ Below w.heap.size w w' ∧ ec = (if goodL l = true then 0 else 2) ∧ Mg w' t ∧ (goodL l = true → t.list.Perm (l.map kvE)) ∧ (goodL l = false → t = .nil) ∧ t.over w.heap.size) := by
  have hgl : goodL l = decide (ks.Nodup) := by rw [goodL, hall, Bool.true_and, hks]
  have hof := Pm.of_any ks ts u4 u5 w hk ht (by rw [hks, List.length_map]; omega)
  refine hof.mono ?_
  rintro e w' ⟨hb, hh⟩
  rcases hh with ⟨rfl, hbad⟩ | ⟨t, p, rfl, -, hp, htl', hsr, hbl, hin, hov⟩
  · have hg : goodL l = false := by
      rw [hgl, decide_eq_false_iff_not]
      rcases hbad with h1 | h1
      · rw [hks, hts, List.length_map, List.length_map] at h1; exact absurd rfl h1
      · exact h1
    refine ⟨.nil, 2, none, rfl, rfl, hb, by rw [if_neg (by rw [hg]; decide)], Mg.nil _, fun hc => ?_, fun _ => rfl, Pm.T.over_nil⟩
    rw [hg] at hc; cases hc
  · obtain ⟨pt, hpt⟩ := t.ptr_shape
    have hperm : t.list.Perm (l.map kvE) := by
      rw [hks, List.length_map] at hp
      rw [htl', ← ent_list l, hks, hts]
      exact hp.map _
    have hg : goodL l = true := by
      rw [hgl, decide_eq_true_eq]
      have hnd : (t.list.map Prod.fst).Nodup := by
        rw [List.nodup_iff_pairwise_ne, List.pairwise_map]
        exact List.Pairwise.imp (fun h e => by rw [e, Pm.ord_B.refl] at h; cases h) hsr
      have h2 := (hperm.map Prod.fst).nodup_iff.1 hnd
      rw [List.map_map] at h2
      rw [hks]
      exact h2
    refine ⟨t, 0, pt, hpt, by unfold Pm.mv; rw [hpt], hb, by rw [if_pos hg], ⟨hin, hsr, hbl, ?_, ?_⟩, fun _ => hperm, fun hc => ?_, hov⟩
    · rw [← Pm.T.n_eq, hperm.length_eq, List.length_map]; omega
    · intro y hy
      have hy' := hperm.mem_iff.1 hy
      obtain ⟨x, hx, rfl⟩ := List.mem_map.1 hy'
      rw [List.all_eq_true] at hall
      have ho := hall x hx
      simp only [okEl, Bool.and_eq_true] at ho
      have := keyT_size ho.1
      simp only [kvE]
      omega
    · rw [hg] at hc; cases hc
/-- What Of answers. -/
def OfE (w : World) (l : List El) (e : Ending) (w' : World) : Prop := ∃ t, e = .returned (.tuple #[Pm.mv t, .int .i64 (if goodL l = true then 0 else 2)]) ∧ Mg w' t ∧ Below w.heap.size w w' ∧ (goodL l = true → t.list.Perm (l.map kvE)) ∧ (goodL l = false → t = .nil) ∧ t.over w.heap.size
end Go.Proofs.YtkkpdgfllnbigaaGreat
namespace Go.Proofs.YtkkpdgfllnbigaaGreat
open Go.RowKit Go.Shelf
set_option linter.unusedSimpArgs false
attribute [local go_sem] Oper.semAt_some

set_option maxHeartbeats 4000000 in
set_option maxRecDepth 100000 in
theorem sameTexts_any {w : World} {ao bo : Option Addr} {c d : Nat} {l m : List ByteArray} (h : Rs w ao l) (k : Rs w bo m) (hl : l.length ≤ 1000000) (hm : m.length ≤ 1000000) : Calls Tryz.prog 108 #[.slice ao l.length c, .slice bo m.length d] w fun e w' => e = .returned (.bool (decide (l = m))) ∧ ∃ n, w' = w.drewN n := by
  obtain ⟨N, hN⟩ : ∃ N, N = l.length := ⟨_, rfl⟩
  obtain ⟨M, hM⟩ : ∃ N, N = m.length := ⟨_, rfl⟩
  obtain ⟨R, hR⟩ : ∃ R, R = decide (l = m) := ⟨_, rfl⟩
  rw [← hR]
  rw [← hN] at hl ⊢
  rw [← hM] at hm ⊢
  have H := hide (And.intro hN (And.intro hM (And.intro h k)))
  have HR := hide hR
  clear hN hM hR h k
  by_cases hNM : N = M
  · subst hNM
    go_enter Tryz.func108, Tryz.ntmps108
    go_wp2
    go_loopw [5] (fun iv wr => ∃ i : Nat, i ≤ N ∧ iv = .int .i64 i ∧ Hid (l.take i = m.take i) ∧ ∃ n, wr = w.drewN n) (fun iv _ => N - (intOf iv).toNat)
    case atStart => exact ⟨0, by omega, rfl, hide (by simp), 0, rfl⟩
    case round =>
      obtain ⟨i, hi, rfl, hrest, n, hwr⟩ := hrel
      have hlr : Rs wr ao l := by rw [hwr]; exact ⟨H.out.2.2.1.1, H.out.2.2.1.2⟩
      have hmr : Rs wr bo m := by rw [hwr]; exact ⟨H.out.2.2.2.1, H.out.2.2.2.2⟩
      have HWR := hide hwr
      clear hwr
      by_cases h1 : i < N
      · have z1 : (i : Int) < (N : Int) := by omega
        have d1 : decide (i < N) = true := by simpa using h1
        obtain ⟨x, hx⟩ : ∃ x, l[i]? = some x := ⟨_, List.getElem?_eq_getElem (by rw [← H.out.1]; exact h1)⟩
        obtain ⟨y, hy⟩ : ∃ y, m[i]? = some y := ⟨_, List.getElem?_eq_getElem (by rw [← H.out.2.1]; exact h1)⟩
        obtain ⟨ab, off, rfl, q0⟩ := hlr.at hx
        obtain ⟨bb, ob, rfl, p0⟩ := hmr.at hy
        have HX := hide (And.intro hx hy)
        clear hx hy hlr hmr
        by_cases hxy : x = y
        · have HXY := hide hxy
          have d2 : (x.toList == y.toList) = true := bytes_same.2 hxy
          clear hxy
          go_wp2
          go_quiet (fail)
          go_wp2
          go_roundw
          case rel => exact ⟨i + 1, by omega, by go_num, hide (by rw [List.take_add_one, List.take_add_one, HX.out.1, HX.out.2, hrest.out, HXY.out]), _, by rw [HWR.out, World.drewN_drewN]⟩
          case measure => simp [intOf]; omega
        · have hd : R = false := by
            rw [HR.out]
            simp only [decide_eq_false_iff_not]
            intro e
            have := HX.out.1.symm.trans ((congrArg (·[i]?) e).trans HX.out.2)
            exact hxy (by simpa using this)
          have d2 : (x.toList == y.toList) = false := by rw [Bool.eq_false_iff, Ne, bytes_same]; exact hxy
          have HD := hide hd
          clear hd hxy
          go_wp2
          go_quiet (fail)
          go_wp2
          go_ret
          exact ⟨by rw [HD.out]; rfl, _, by rw [HWR.out, World.drewN_drewN]⟩
      · obtain rfl : i = N := by omega
        have d1 : decide (i < i) = false := by simp
        go_wp2
        go_ret
        have : l = m := by
          have := hrest.out
          rwa [show l.take i = l by rw [H.out.1]; exact List.take_length, show m.take i = m by rw [H.out.2.1]; exact List.take_length] at this
        exact ⟨by rw [HR.out, decide_eq_true this]; rfl, n, HWR.out⟩
  · have e1 : ((N : Int) == (M : Int)) = false := by rw [beq_eq_false_iff_ne]; omega
    have hd : R = false := by
      rw [HR.out]
      simp only [decide_eq_false_iff_not]
      intro e
      exact hNM (by rw [H.out.1, H.out.2.1, e])
    subst hd
    go_enter Tryz.func108, Tryz.ntmps108
    go_wp2
    go_ret
    exact ⟨rfl, 0, rfl⟩


/-- The laws' stamps. -/
def atS (g : Int) : St := (g, 0, ⟨#[97]⟩, 1, 0)
end Go.Proofs.YtkkpdgfllnbigaaGreat
namespace Go.Proofs.YtkkpdgfllnbigaaGreat
open Go.RowKit Go.Shelf
set_option linter.unusedSimpArgs false
attribute [local go_sem] Oper.semAt_some

theorem refText_any (s : ByteArray) (w : World) : Calls Tryz.prog 111 #[.string s] w fun e w' => e = .returned (.bool (txtB s)) ∧ w' = w := by
  unfold txtB
  by_cases h : s.size ≤ 256
  · have h1 : (s.size : Int) ≤ 256 := by omega
    have h2 : decide ((s.size : Int) ≤ 256) = true := by simpa using h1
    have h3 : decide (s.size ≤ 256) = true := by simpa using h
    rw [h3]
    go_enter Tryz.func111, Tryz.ntmps111
    go_wp2
    go_ret
    exact ⟨rfl, rfl⟩
  · have h1 : ¬ (s.size : Int) ≤ 256 := by omega
    have h2 : decide ((s.size : Int) ≤ 256) = false := by simpa using h1
    have h3 : decide (s.size ≤ 256) = false := by simpa using h
    rw [h3]
    go_enter Tryz.func111, Tryz.ntmps111
    go_wp2
    go_ret
    exact ⟨rfl, rfl⟩
abbrev tA : ByteArray := ⟨#[97]⟩
abbrev tB : ByteArray := ⟨#[98]⟩
abbrev tC : ByteArray := ⟨#[99]⟩
theorem good_ba : goodL [(atS 2, tB), (atS 1, tA)] = true := by decide +kernel
theorem wr_3 : okWr [kvE (atS 1, tA), kvE (atS 2, tB)] (atS 3) tC = true := by decide +kernel
theorem wr_2 : okWr [kvE (atS 1, tA), kvE (atS 2, tB)] (atS 2) tC = false := by decide +kernel
theorem cmp_21 : ¬ Pm.cmpB (kvE (atS 2, tB)).1 (kvE (atS 1, tA)).1 = -1 := by decide +kernel
theorem perm_two {α : Type} {l : List α} {a b : α} (h : l.Perm [a, b]) : l = [a, b] ∨ l = [b, a] := by
  have hl := h.length_eq
  match l, hl with
  | [x, y], _ =>
    have hx : x ∈ [a, b] := h.mem_iff.1 (by simp)
    simp only [List.mem_cons, List.not_mem_nil, or_false] at hx
    rcases hx with rfl | rfl
    · have := (List.perm_cons x).1 h
      rw [List.perm_singleton] at this
      left; rw [this]
    · have h2 := h.trans (List.Perm.swap x a [])
      have := (List.perm_cons x).1 h2
      rw [List.perm_singleton] at this
      right; rw [this]
theorem list_ab {t : Pm.T} (h : t.list.Perm ([(atS 2, tB), (atS 1, tA)].map kvE)) (hs : Pm.Srt t.list) : t.list = [kvE (atS 1, tA), kvE (atS 2, tB)] := by
  rcases perm_two h with e | e
  · rw [e] at hs
    have : Pm.cmpB (kvE (atS 2, tB)).1 (kvE (atS 1, tA)).1 = -1 := (List.pairwise_cons.1 hs).1 _ (by simp)
    exact absurd this cmp_21
  · exact e
end Go.Proofs.YtkkpdgfllnbigaaGreat
namespace Go.Proofs.YtkkpdgfllnbigaaGreat
open Go.RowKit Go.Shelf
set_option linter.unusedSimpArgs false
attribute [local go_sem] Oper.semAt_some

theorem exec_st27 {ev' : Operand → Value} {x y : Operand} {T : TypeId} {w : World} {B : Nat} {u : Value} {pt : Option Addr} (hx : ev' x = .pointer (some ⟨B, 0, none⟩)) (hy : ev' y = .agg #[.pointer pt]) (h : w.cell? ⟨B, 0, none⟩ = some u) (hf : w.frozen? ⟨B, 0, none⟩ = false) : (execOp ev' { dst := none, op := .store 27 x y, type := T, pos := "", after := #[], guard := none }).run Tryz.prog w = .ok .skip (w.setCell ⟨B, 0, none⟩ (.pointer pt)) := by
  unfold execOp
  simp only [hx, hy]
  go_simp
theorem exec_al27 {ev' : Operand → Value} {T : TypeId} (w : World) : (execOp ev' { dst := none, op := .alloc 27, type := T, pos := "", after := #[], guard := none }).run Tryz.prog w = .ok (.value (.pointer (some ⟨w.heap.size, 0, none⟩))) (w.alloc (.cells #[.pointer none] 27)) := by
  unfold execOp
  go_simp
/-- A map in a box. -/
def Boxd (w : World) (B : Nat) (pt : Option Addr) (t : Pm.T) : Prop := w.heap[B]? = some (.cells #[.pointer pt] 27 (0, 0)) ∧ t.ptr = .pointer pt ∧ Mg w t
theorem Boxd.below {w w' : World} {B : Nat} {pt : Option Addr} {t : Pm.T} (h : Boxd w B pt t) (hb : Below w.heap.size w w') : Boxd w' B pt t := ⟨(hb.block _ (gI h.1).1).trans h.1, h.2.1, h.2.2.below hb⟩
theorem Boxd.cell {w : World} {B : Nat} {pt : Option Addr} {t : Pm.T} (h : Boxd w B pt t) : w.cell? ⟨B, 0, none⟩ = some (.pointer pt) := (cell_of_row _ _ 0 _ 27 (0, 0) h.1).trans rfl
theorem Mg.aside {w w' : World} {B : Nat} {x : Value} {t : Pm.T} (h : Mg w t) (hw : w.heap[B]? = some (.cells #[x] 27 (0, 0))) (ho : Only (fun j => j = B) w w') : Mg w' t := ⟨Pm.In.aside hw ho h.inn, h.srt, h.bal, h.few, h.key⟩
theorem Ot.rs {w : World} {B n c : Nat} {ao : Option Addr} {L : List ByteArray} (h : Ot w B (.slice ao n c) L) : Rs w ao L := by
  rcases h with ⟨h1, h2⟩
  rcases h2 with ⟨e, e2⟩ | ⟨g, cap, cur, e, hb, hg, hnc, hcm, hcs, htake⟩
  · have : L = [] := List.eq_nil_of_length_eq_zero e2
    subst this
    exact Rs.nil _ _
  · injection e with e1 e2 e3
    subst e1
    refine ⟨fun h => (by cases h), fun a ha j s hj => ?_⟩
    cases ha
    rw [add_lit, cell_of_row _ _ (0 + j) _ 9 (0, 0) hg, Nat.zero_add]
    have hj' : (L.map Value.string)[j]? = some (.string s) := by rw [List.getElem?_map, hj]; rfl
    rw [← htake, List.getElem?_take] at hj'
    split at hj'
    · simpa using hj'
    · cases hj'
theorem two_re {W : World} {b : Nat} {x y : El} (h : W.heap[b]? = some (.cells (flatE [x, y]).toArray 53 (0, 0))) : Re W (some ⟨b, 0, none⟩) [x, y] := Re.ofRe0 (fun j v hj => by
  rw [cell_of_row _ _ (0 + j) (flatE [x, y]).toArray 53 (0, 0) h, Nat.zero_add]
  simpa using hj)
end Go.Proofs.YtkkpdgfllnbigaaGreat
