/-
  walk: Run 18.
  walk: THE ELEMENTS' RULE MAY BE ASKED, AND IS FAIR WHERE VALUES ARE TOLD BY THEIR KEYS.
  walk: Elements 10.
  THE LAWS' OWN SMALL FUNCTIONS: part 12, stays 15; Run 18 with no rule.
  register: One (47), Write (38); a map that is whole.
  EQS6: branches, names, stamps compared.
  register: Write (38), Three (45).
  Where a tree's nodes lie.
  DERIVED: THE SHELF's CONTRACTS AT THIS DUMP, IN PLAIN WORDS (tools/lay-plain.mjs out of 'TryLayS.lean', which tools/lay-shelf.mjs wrote): THE SAME DECLARATIONS UNDER THE SAME NAMES: 'import', 'namespace', 'open', 'def', 'theorem' AND NOTHING ELSE: no command of the shelf's: FOR A HAND-IN. Each laying: the table of numbers ('.._ren') and one theorem, a field a fact of the dump's own or the kernel's comparison; each contract: ONE APPLICATION.
  SORTED PLACES: slices.SortFunc at []int, with the closure of rising.
  SLICES THAT TELL VALUES OF ONE CELL.
-/
import Derived.Test.YtkkpdgfllnbigaaGreatMg16
import Derived.Test.YtkkpdgfllnbigaaGreatReg4
import Derived.Test.YtkkpdgfllnbigaaGreatMg10
import Derived.Test.YtkkpdgfllnbigaaGreatMg12
import Derived.Laws.StructEq
import Derived.Test.YtkkpdgfllnbigaaGreatMg1
import Derived.Shelf.SlSortCmp.NoneTotal
import Derived.Shelf.SlSortCmp.Whole1
import Derived.Ground.SlsfProg
import Derived.Test.YtkkpdgfllnbigaaGreatProg
import Derived.Test.YtkkpdgfllnbigaaGreatMg14
namespace Go.Proofs.YtkkpdgfllnbigaaGreat.Pm
open Go.RowKit Go.Shelf
set_option linter.unusedSimpArgs false

theorem ret_rr_t {P : Program} {fn : Func} {p q s : Tmp} {ty ty' : TypeId} (b c : Nat) (cs ds : List Value) {R : Ending → World → Prop} {a : Act} {w : World} (h : fn.results = #[.cell p ty, .cell q ty', .tmp s]) (hp : a.tmps.getD p undef = .pointer (some ⟨b, 0, none⟩)) (hq : a.tmps.getD q undef = .pointer (some ⟨c, 0, none⟩)) {v : Value} (hs : a.tmps.getD s undef = v)
    {d d' : TypeDesc} (hu : P.underlying ty = some d) (hd : d.isRow = true) (hu' : P.underlying ty' = some d') (hd' : d'.isRow = true) (hi : (P.info? ty).map (·.size) = some cs.length) (hi2 : (P.info? ty').map (·.size) = some ds.length) {t t2 : TypeId} {fr fr2 : Nat × Nat} (hc : w.heap[b]? = some (.cells cs.toArray t fr)) (hc2 : w.heap[c]? = some (.cells ds.toArray t2 fr2)) (hdef : a.defers = [])
    (hR : R (.returned (.tuple #[.agg cs.toArray, .agg ds.toArray, v])) w) : bodyPost P fn R .ret a w := by
  refine bodyPost_ret (v := .tuple #[.agg cs.toArray, .agg ds.toArray, v]) ?_ hdef hR
  have h1 := run_loadVar_mid (P := P) w b 0 ty cs _ (fun j v hv => by rw [cell_of_row w b (0 + j) cs.toArray t fr hc, Nat.zero_add]; simpa using hv) hu hd hi
  have h2 := run_loadVar_mid (P := P) w c 0 ty' ds _ (fun j v hv => by rw [cell_of_row w c (0 + j) ds.toArray t2 fr2 hc2, Nat.zero_add]; simpa using hv) hu' hd' hi2
  have hp' : a.tmps[p]?.getD undef = .pointer (some ⟨b, 0, none⟩) := by simpa using hp
  have hq' : a.tmps[q]?.getD undef = .pointer (some ⟨c, 0, none⟩) := by simpa using hq
  have hs' : a.tmps[s]?.getD undef = v := by simpa using hs
  simp [results, h, hp', hq', hs', asAddr, Sem.run_bind, Result.andThen, h1, h2]
theorem Tryz.info136 : (Tryz.prog.info? 136).map (·.size) = some 3 := by kernel_rfl
theorem set3 {w : World} {B : Nat} {x0 x1 x2 : Value} {ty : TypeId} (a b c : Value) (h : w.heap[B]? = some (.cells #[x0, x1, x2] ty (0, 0))) : (((w.setCell ⟨B, 0, none⟩ a).setCell ⟨B, 1, none⟩ b).setCell ⟨B, 2, none⟩ c).heap[B]? = some (.cells #[a, b, c] ty (0, 0)) ∧ Only (fun j => j = B) w (((w.setCell ⟨B, 0, none⟩ a).setCell ⟨B, 1, none⟩ b).setCell ⟨B, 2, none⟩ c) := by
  obtain ⟨h1, o1⟩ := set_one (i := 0) a h
  obtain ⟨h2, o2⟩ := set_one (i := 1) b h1
  obtain ⟨h3, o3⟩ := set_one (i := 2) c h2
  exact ⟨by simpa using h3, (o1.trans o2 (fun _ _ e => e)).trans o3 (fun _ _ e => e)⟩
theorem new8 (w : World) (o0 o1 o2 o3 o4 o5 o6 o7 : Obj) : ∃ w0, w0 = ((((((((w.alloc o0).alloc o1).alloc o2).alloc o3).alloc o4).alloc o5).alloc o6).alloc o7) ∧ w0.heap[w.heap.size]? = some o0 ∧ w0.heap[w.heap.size + 1]? = some o1 ∧ w0.heap[w.heap.size + 1 + 1]? = some o2 ∧ w0.heap[w.heap.size + 1 + 1 + 1]? = some o3 ∧ w0.heap[w.heap.size + 1 + 1 + 1 + 1]? = some o4 ∧ w0.heap[w.heap.size + 1 + 1 + 1 + 1 + 1]? = some o5 ∧ w0.heap[w.heap.size + 1 + 1 + 1 + 1 + 1 + 1]? = some o6 ∧ w0.heap[w.heap.size + 1 + 1 + 1 + 1 + 1 + 1 + 1]? = some o7 ∧ Below w.heap.size w w0 := by
  refine ⟨_, rfl, ?_⟩
  obtain ⟨m0, m1, m2, m3, hb⟩ := new4 w o0 o1 o2 o3
  obtain ⟨n0, n1, n2, n3, hc⟩ := new4 ((((w.alloc o0).alloc o1).alloc o2).alloc o3) o4 o5 o6 o7
  have hs : ((((w.alloc o0).alloc o1).alloc o2).alloc o3).heap.size = w.heap.size + 1 + 1 + 1 + 1 := by simp
  rw [hs] at n0 n1 n2 n3
  exact ⟨(hc.block _ (Array.getElem?_eq_some_iff.1 m0).1).trans m0, (hc.block _ (Array.getElem?_eq_some_iff.1 m1).1).trans m1, (hc.block _ (Array.getElem?_eq_some_iff.1 m2).1).trans m2, (hc.block _ (Array.getElem?_eq_some_iff.1 m3).1).trans m3, n0, n1, n2, n3, hb.trans (hc.mono hb.size)⟩
end Go.Proofs.YtkkpdgfllnbigaaGreat.Pm
namespace Go.Proofs.YtkkpdgfllnbigaaGreat.Pm
open Go.RowKit Go.Shelf
set_option linter.unusedSimpArgs false

/-- Keep may be asked. -/
theorem keep_ok (B Tk : Nat) : RuleOk (fun _ _ _ _ => True) B Tk 185 #[] (fun _ p q r => keeps p q r) (fun _ _ => True) := by
  refine ⟨fun args W => enters_of Tryz.func185 (by kernel_rfl) rfl args W, fun W ks k p q r hB _ _ _ => ?_, fun _ _ _ _ _ => trivial⟩
  refine (keep_any k p q r W).mono ?_
  rintro e w' ⟨rfl, hb⟩
  exact ⟨⟨_, rfl, fun _ => rfl⟩, trivial, Goes.of hb hB, fun _ _ ho => (hb.block _ (Array.getElem?_eq_some_iff.1 ho).1).trans ho⟩
end Go.Proofs.YtkkpdgfllnbigaaGreat.Pm
namespace Go.Proofs.YtkkpdgfllnbigaaGreat.Pm
open Go.RowKit Go.Shelf
set_option linter.unusedSimpArgs false

theorem ret_rr {P : Program} {fn : Func} {p q : Tmp} {ty ty' : TypeId} (b c : Nat) (cs ds : List Value) {R : Ending → World → Prop} {a : Act} {w : World} (h : fn.results = #[.cell p ty, .cell q ty']) (hp : a.tmps.getD p undef = .pointer (some ⟨b, 0, none⟩)) (hq : a.tmps.getD q undef = .pointer (some ⟨c, 0, none⟩))
    {d d' : TypeDesc} (hu : P.underlying ty = some d) (hd : d.isRow = true) (hu' : P.underlying ty' = some d') (hd' : d'.isRow = true) (hi : (P.info? ty).map (·.size) = some cs.length) (hi2 : (P.info? ty').map (·.size) = some ds.length) {t t2 : TypeId} {fr fr2 : Nat × Nat} (hc : w.heap[b]? = some (.cells cs.toArray t fr)) (hc2 : w.heap[c]? = some (.cells ds.toArray t2 fr2)) (hdef : a.defers = [])
    (hR : R (.returned (.tuple #[.agg cs.toArray, .agg ds.toArray])) w) : bodyPost P fn R .ret a w := by
  refine bodyPost_ret (v := .tuple #[.agg cs.toArray, .agg ds.toArray]) ?_ hdef hR
  have h1 := run_loadVar_mid (P := P) w b 0 ty cs _ (fun j v hv => by rw [cell_of_row w b (0 + j) cs.toArray t fr hc, Nat.zero_add]; simpa using hv) hu hd hi
  have h2 := run_loadVar_mid (P := P) w c 0 ty' ds _ (fun j v hv => by rw [cell_of_row w c (0 + j) ds.toArray t2 fr2 hc2, Nat.zero_add]; simpa using hv) hu' hd' hi2
  have hp' : a.tmps[p]?.getD undef = .pointer (some ⟨b, 0, none⟩) := by simpa using hp
  have hq' : a.tmps[q]?.getD undef = .pointer (some ⟨c, 0, none⟩) := by simpa using hq
  simp [results, h, hp', hq', asAddr, Sem.run_bind, Result.andThen, h1, h2]
theorem new5 (w : World) (o0 o1 o2 o3 o4 : Obj) : ∃ w0, w0 = (((((w.alloc o0).alloc o1).alloc o2).alloc o3).alloc o4) ∧ w0.heap[w.heap.size]? = some o0 ∧ w0.heap[w.heap.size + 1]? = some o1 ∧ w0.heap[w.heap.size + 1 + 1]? = some o2 ∧ w0.heap[w.heap.size + 1 + 1 + 1]? = some o3 ∧ w0.heap[w.heap.size + 1 + 1 + 1 + 1]? = some o4 ∧ Below w.heap.size w w0 := by
  refine ⟨_, rfl, ?_⟩
  obtain ⟨m0, m1, m2, m3, hb⟩ := new4 w o0 o1 o2 o3
  have hc : Below ((((w.alloc o0).alloc o1).alloc o2).alloc o3).heap.size ((((w.alloc o0).alloc o1).alloc o2).alloc o3) (((((w.alloc o0).alloc o1).alloc o2).alloc o3).alloc o4) := (Below.refl _ _).alloc (Nat.le_refl _) _
  have h4 := heap_alloc_new ((((w.alloc o0).alloc o1).alloc o2).alloc o3) o4
  rw [show ((((w.alloc o0).alloc o1).alloc o2).alloc o3).heap.size = w.heap.size + 1 + 1 + 1 + 1 from by simp] at h4
  exact ⟨(hc.block _ (Array.getElem?_eq_some_iff.1 m0).1).trans m0, (hc.block _ (Array.getElem?_eq_some_iff.1 m1).1).trans m1, (hc.block _ (Array.getElem?_eq_some_iff.1 m2).1).trans m2, (hc.block _ (Array.getElem?_eq_some_iff.1 m3).1).trans m3, h4, hb.trans (hc.mono hb.size)⟩
end Go.Proofs.YtkkpdgfllnbigaaGreat.Pm
namespace Go.Proofs.YtkkpdgfllnbigaaGreat.Pm
open Go.RowKit Go.Shelf
set_option linter.unusedSimpArgs false

end Go.Proofs.YtkkpdgfllnbigaaGreat.Pm
namespace Go.Proofs.YtkkpdgfllnbigaaGreat.Pm
open Go.RowKit Go.Shelf
set_option linter.unusedSimpArgs false
theorem mLast_any (t : T) (w : World) (h : In w t) : Calls Tryz.prog 138 #[mv t] w fun e w' => e = .returned (.tuple #[.string t.last.key, .string t.last.val, .bool t.last.isSome]) ∧ Below w.heap.size w w' := by
  have hb : Below w.heap.size w (w.alloc (.cells #[t.ptr] 27)) := (Below.refl _ w).alloc (Nat.le_refl _) _
  have h1 := end_right t _ (In.below hb h)
  have h2 := told_any t.last _ (In.below hb h.last)
  unfold mv
  obtain ⟨a, ha⟩ := t.ptr_shape
  obtain ⟨b, hb'⟩ := t.last.ptr_shape
  rw [ha] at hb h1 h2 ⊢
  rw [hb'] at h1 h2
  generalize t.last.key = K at *
  generalize t.last.val = V at *
  generalize t.last.isSome = D at *
  clear h ha hb'
  go_enter Tryz.func138, Tryz.ntmps138
  go_wp2_with (first
    | (go_at_call 190; refine h1.mono ?_; rintro e w' ⟨rfl, rfl⟩)
    | (go_at_call 189; refine h2.mono ?_; rintro e w' ⟨rfl, rfl⟩))
  go_ret3
  exact ⟨rfl, hb⟩
end Go.Proofs.YtkkpdgfllnbigaaGreat.Pm
namespace Go.Proofs.YtkkpdgfllnbigaaGreat
open Go.RowKit Go.Shelf
set_option linter.unusedSimpArgs false
attribute [local go_sem] Oper.semAt_some

/-- A map that is whole. -/
structure Mg (w : World) (t : Pm.T) : Prop where
  inn : Pm.In w t
  srt : Pm.Srt t.list
  bal : t.bal
  few : t.n ≤ 400
  key : ∀ x ∈ t.list, x.1.size ≤ 9223372036854775807
theorem Mg.below {w w' : World} {t : Pm.T} (h : Mg w t) (hb : Below w.heap.size w w') : Mg w' t := ⟨Pm.In.below hb h.inn, h.srt, h.bal, h.few, h.key⟩
theorem Mg.nil (w : World) : Mg w .nil := ⟨trivial, List.Pairwise.nil, trivial, Nat.zero_le _, fun x h => by cases h⟩
theorem Mg.may {w : World} {t : Pm.T} (h : Mg w t) : Calls Tryz.prog 50 #[Pm.mv t] w fun e w' => e = .returned (.bool (mayL t.list)) ∧ Below w.heap.size w w' := rMay_any t w h.inn h.srt h.key
def oneL (l : List Kv) : ByteArray × Bool := match l with
  | [x] => if okKv x then (x.2, true) else (⟨#[]⟩, false)
  | _ => (⟨#[]⟩, false)
theorem one_cases (t : Pm.T) : (t.n ≠ 1 ∧ oneL t.list = (⟨#[]⟩, false)) ∨ (t.n = 1 ∧ mayL t.list = false ∧ oneL t.list = (⟨#[]⟩, false)) ∨ (t.n = 1 ∧ mayL t.list = true ∧ oneL t.list = (t.first.val, true)) := by
  by_cases hn : t.n = 1
  · right
    rw [← Pm.T.n_eq] at hn
    obtain ⟨x, hx⟩ := List.length_eq_one_iff.1 hn
    have hne : t ≠ .nil := fun e => by rw [e] at hx; cases hx
    obtain ⟨p, k, v, r, rest, hf, hl, _⟩ := Pm.T.first_spec hne
    rw [hx] at hl
    injection hl with h1 h2
    rw [← Pm.T.n_eq, hx, hf, h1]
    by_cases ho : okKv (k, v) = true
    · right; exact ⟨rfl, by simp [mayL, ho], by simp [oneL, ho, Pm.T.val]⟩
    · left; exact ⟨rfl, by simp [mayL, ho], by simp [oneL, ho]⟩
  · left
    refine ⟨hn, ?_⟩
    rw [← Pm.T.n_eq] at hn
    unfold oneL
    split
    · rename_i x hx; rw [hx] at hn; exact absurd rfl hn
    · rfl
set_option maxHeartbeats 4000000 in
theorem rOne_any (t : Pm.T) (w : World) (h : Mg w t) : Calls Tryz.prog 55 #[Pm.mv t] w fun e w' => e = .returned (.tuple #[.string (oneL t.list).1, .bool (oneL t.list).2]) ∧ Below w.heap.size w w' := by
  have hb : Below w.heap.size w (w.alloc (.cells #[t.ptr] 27)) := (Below.refl _ w).alloc (Nat.le_refl _) _
  have hl := Pm.mLen_any t _ (Pm.In.below hb h.inn)
  have hm : ∀ W, Below w.heap.size w W → Calls Tryz.prog 50 #[Pm.mv t] W fun e w' => e = .returned (.bool (mayL t.list)) ∧ Below W.heap.size W w' := fun W hW => (h.below hW).may
  have hf : ∀ W, Below w.heap.size w W → Calls Tryz.prog 145 #[Pm.mv t] W fun e w' => e = .returned (.tuple #[.string t.first.key, .string t.first.val, .bool t.first.isSome]) ∧ Below W.heap.size W w' := fun W hW => Pm.mFirst_any t W (Pm.In.below hW h.inn)
  obtain ⟨a, ha⟩ := t.ptr_shape
  unfold Pm.mv at hl hm hf ⊢
  rw [ha] at hb hl ⊢
  simp only [ha] at hm hf
  have hc0 : (w.alloc (.cells #[.pointer a] 27)).cell? ⟨w.heap.size, 0, none⟩ = some (.pointer a) := (cell_of_row _ _ 0 _ 27 (0, 0) (heap_alloc_new w _)).trans rfl
  obtain ⟨w0, hw0⟩ : ∃ w0, w0 = w.alloc (.cells #[.pointer a] 27) := ⟨_, rfl⟩
  rw [← hw0] at hb hl hc0
  have HB := hide hb
  have HM := hide hm
  have HF := hide hf
  have hcs := one_cases t
  have hn := h.few
  generalize oneL t.list = R at *
  generalize mayL t.list = M at *
  generalize t.first.key = FK at *
  generalize t.first.val = FV at *
  generalize t.first.isSome = FS at *
  generalize t.n = N at *
  clear hb hm hf h ha
  rcases hcs with ⟨h1, hR⟩ | ⟨h1, hMM, hR⟩ | ⟨h1, hMM, hR⟩
  · subst hR
    have d1 : ((N : Int) == 1) = false := by simp; omega
    have d2 : ((N : Int) != 1) = true := by simp [bne, d1]
    clear h1 hn
    go_enter Tryz.func55, Tryz.ntmps55
    go_upto_region 1 with fail
    rw [← hw0]
    clear hw0
    go_wp2_with (go_at_call 21; refine hl.mono ?_; rintro e w1 ⟨rfl, b1⟩; have H1 := hide b1; clear b1; dsimp only)
    go_ret2
    exact ⟨rfl, HB.out.trans (H1.out.mono HB.out.size)⟩
  · subst h1 hR hMM
    clear hn
    go_enter Tryz.func55, Tryz.ntmps55
    go_upto_region 1 with fail
    rw [← hw0]
    clear hw0
    go_wp2_with (first
      | (go_at_call 21; refine hl.mono ?_; rintro e w1 ⟨rfl, b1⟩; have H1 := hide (HB.out.trans (b1.mono HB.out.size)); have c1 := cell_stays hc0 b1; clear b1; dsimp only)
      | (go_at_call 50; refine (HM.out w1 H1.out).mono ?_; rintro e w2 ⟨rfl, b2⟩; have H2 := hide b2; clear b2; dsimp only))
    go_ret2
    exact ⟨rfl, H1.out.trans (H2.out.mono H1.out.size)⟩
  · subst h1 hR hMM
    clear hn
    go_enter Tryz.func55, Tryz.ntmps55
    go_upto_region 1 with fail
    rw [← hw0]
    clear hw0
    go_wp2_with (first
      | (go_at_call 21; refine hl.mono ?_; rintro e w1 ⟨rfl, b1⟩; have H1 := hide (HB.out.trans (b1.mono HB.out.size)); have c1 := cell_stays hc0 b1; clear b1; dsimp only)
      | (go_at_call 50; refine (HM.out w1 H1.out).mono ?_; rintro e w2 ⟨rfl, b2⟩; have H2 := hide (H1.out.trans (b2.mono H1.out.size)); have c2 := cell_stays c1 b2; clear b2; dsimp only)
      | (go_at_call 145; refine (HF.out w2 H2.out).mono ?_; rintro e w3 ⟨rfl, b3⟩; have H3 := hide (H2.out.trans (b3.mono H2.out.size)); clear b3; dsimp only))
    go_ret2
    exact ⟨rfl, H3.out⟩
end Go.Proofs.YtkkpdgfllnbigaaGreat
namespace Go.Proofs.YtkkpdgfllnbigaaGreat
open Go.RowKit Go.Shelf
set_option linter.unusedSimpArgs false

theorem equalIn48 (d : Nat) (r r' : Int) (l l' : ByteArray) (w : World) : (Op.equalIn (d + 2) 39 (bv r l) (bv r' l')).run Tryz.prog w = .ok (r == r' && l.toList == l'.toList) w := by
  have hS : Tryz.prog.underlying 39 = some (.struct (Tryz.prog.fieldsOf 39)) := by kernel_rfl
  have hp : Tryz.prog.stoodInHeld 39 = false := by kernel_rfl
  rw [run_equalIn_agg w (d + 1) 39 _ _ hS hp]
  simp only [Program.fieldsOf, Tryz.underlying39]
  go_simp
  by_cases h1 : r = r' <;> by_cases h2 : l.toList = l'.toList <;> simp [h1, h2]
theorem equalIn50 (d : Nat) (r r' n n' : Int) (l l' : ByteArray) (w : World) : (Op.equalIn (d + 3) 41 (nv r l n) (nv r' l' n')).run Tryz.prog w = .ok (r == r' && l.toList == l'.toList && n == n') w := by
  have hS : Tryz.prog.underlying 41 = some (.struct (Tryz.prog.fieldsOf 41)) := by kernel_rfl
  have hp : Tryz.prog.stoodInHeld 41 = false := by kernel_rfl
  have h48 := equalIn48 d r r' l l'
  rw [run_equalIn_agg w (d + 2) 41 _ _ hS hp]
  simp only [Program.fieldsOf, Tryz.underlying41]
  go_simp
  by_cases h1 : r = r' <;> by_cases h2 : l.toList = l'.toList <;> by_cases h3 : n = n' <;> simp [h1, h2, h3]
theorem equalIn52 (d : Nat) (g g' r r' n n' x x' : Int) (l l' : ByteArray) (w : World) : (Op.equalIn (d + 4) 43 (sv g r l n x) (sv g' r' l' n' x')).run Tryz.prog w = .ok (g == g' && (r == r' && l.toList == l'.toList && n == n') && x == x') w := by
  have hS : Tryz.prog.underlying 43 = some (.struct (Tryz.prog.fieldsOf 43)) := by kernel_rfl
  have hp : Tryz.prog.stoodInHeld 43 = false := by kernel_rfl
  have h50 := equalIn50 d r r' n n' l l'
  rw [run_equalIn_agg w (d + 3) 43 _ _ hS hp]
  simp only [Program.fieldsOf, Tryz.underlying43]
  go_simp
  by_cases h0 : g = g' <;> by_cases h1 : r = r' <;> by_cases h2 : l.toList = l'.toList <;> by_cases h3 : n = n' <;> by_cases h4 : x = x' <;> simp [h0, h1, h2, h3, h4]
theorem run_eq52 (g g' r r' n n' x x' : Int) (l l' : ByteArray) (w : World) : (binOp .eql 43 (sv g r l n x) (sv g' r' l' n' x')).run Tryz.prog w = .ok (.bool (g == g' && (r == r' && l.toList == l'.toList && n == n') && x == x')) w := by
  rw [run_eql_struct, show (10000 : Nat) = 9996 + 4 from rfl, equalIn52]
  rfl
theorem equalIn77 (d : Nat) (g g' r r' n n' x x' : Int) (l l' t t' : ByteArray) (w : World) : (Op.equalIn (d + 5) 53 (ev ((g, r, l, n, x), t)) (ev ((g', r', l', n', x'), t'))).run Tryz.prog w = .ok (g == g' && (r == r' && l.toList == l'.toList && n == n') && x == x' && t.toList == t'.toList) w := by
  have hS : Tryz.prog.underlying 53 = some (.struct (Tryz.prog.fieldsOf 53)) := by kernel_rfl
  have hp : Tryz.prog.stoodInHeld 53 = false := by kernel_rfl
  have h52 := equalIn52 d g g' r r' n n' x x' l l'
  rw [run_equalIn_agg w (d + 4) 53 _ _ hS hp]
  simp only [Program.fieldsOf, Tryz.underlying53]
  go_simp
  by_cases h0 : g = g' <;> by_cases h1 : r = r' <;> by_cases h2 : l.toList = l'.toList <;> by_cases h3 : n = n' <;> by_cases h4 : x = x' <;> by_cases h5 : t.toList = t'.toList <;> simp [h0, h1, h2, h3, h4, h5]
/-- Are two elements one? -/
def sameE (x y : El) : Bool := x.1.1 == y.1.1 && (x.1.2.1 == y.1.2.1 && x.1.2.2.1.toList == y.1.2.2.1.toList && x.1.2.2.2.1 == y.1.2.2.2.1) && x.1.2.2.2.2 == y.1.2.2.2.2 && x.2.toList == y.2.toList
theorem bytes_same {a b : ByteArray} : (a.toList == b.toList) = true ↔ a = b := by
  rw [beq_iff_eq, ByteArray.toList_eq, ByteArray.toList_eq]
  exact ⟨fun h => ba_eq h, fun h => by rw [h]⟩
theorem sameE_iff (x y : El) : sameE x y = true ↔ x = y := by
  obtain ⟨⟨g, r, l, n, i⟩, t⟩ := x
  obtain ⟨⟨g', r', l', n', i'⟩, t'⟩ := y
  unfold sameE
  simp only [Bool.and_eq_true, bytes_same, Prod.mk.injEq]
  simp only [beq_iff_eq]
  constructor
  · rintro ⟨⟨⟨rfl, ⟨rfl, rfl⟩, rfl⟩, rfl⟩, rfl⟩; exact ⟨⟨rfl, rfl, rfl, rfl, rfl⟩, rfl⟩
  · rintro ⟨⟨rfl, rfl, rfl, rfl, rfl⟩, rfl⟩; exact ⟨⟨⟨rfl, ⟨rfl, rfl⟩, rfl⟩, rfl⟩, rfl⟩
theorem sameE_dec (x y : El) : sameE x y = decide (x = y) := by
  rw [Bool.eq_iff_iff, sameE_iff, decide_eq_true_eq]
theorem run_ne77 (x y : El) (w : World) : (binOp .neq 53 (ev x) (ev y)).run Tryz.prog w = .ok (.bool (!decide (x = y))) w := by
  rw [run_neq_struct, show (10000 : Nat) = 9995 + 5 from rfl, equalIn77, ← sameE_dec]
  rfl
theorem run_eq52' (s t : St) (w : World) : (binOp .eql 43 (svT s) (svT t)).run Tryz.prog w = .ok (.bool (decide (s = t))) w := by
  obtain ⟨g, r, l, n, i⟩ := s
  obtain ⟨g', r', l', n', i'⟩ := t
  have h := sameE_dec ((g, r, l, n, i), ⟨#[]⟩) ((g', r', l', n', i'), ⟨#[]⟩)
  rw [run_eq52]
  congr 2
  have : sameE ((g, r, l, n, i), ⟨#[]⟩) ((g', r', l', n', i'), ⟨#[]⟩) = (g == g' && (r == r' && l.toList == l'.toList && n == n') && i == i') := by
    unfold sameE
    simp
  rw [← this, h]
  simp
end Go.Proofs.YtkkpdgfllnbigaaGreat
namespace Go.Proofs.YtkkpdgfllnbigaaGreat
open Go.RowKit Go.Shelf
set_option linter.unusedSimpArgs false
attribute [local go_sem] Oper.semAt_some

theorem keyT_any (s : St) (w : World) : Calls Tryz.prog 135 #[svT s] w fun e w' => e = .returned (.tuple #[.string (if stV s then keyT s else ⟨#[]⟩), .int .i64 (if stV s then 0 else 2)]) ∧ Below w.heap.size w w' := key_any s.1 s.2.1 s.2.2.1 s.2.2.2.1 s.2.2.2.2 w
theorem leq_B (a b : ByteArray) : (Op.bytesLess a.toList b.toList || a.toList == b.toList) = !decide (Pm.cmpB b a = -1) := by
  rw [Pm.less_B]
  rcases Pm.cmp_three a b with h | h | h
  · have h2 : Pm.cmpB b a = 1 := by have := Pm.ord_B.anti a b; omega
    rw [h, h2]; rfl
  · subst h
    rw [Pm.ord_B.refl]
    simp
  · have h2 : Pm.cmpB a b = 1 := by have := Pm.ord_B.anti a b; omega
    have hne : (a.toList == b.toList) = false := by
      rw [Bool.eq_false_iff, Ne, bytes_same]
      intro e
      rw [e, Pm.ord_B.refl] at h
      cases h
    rw [h, h2, hne]; rfl
/-- May one be written behind these? -/
def okWr (l : List Kv) (s : St) (x : ByteArray) : Bool := stV s && txtB x && decide (Pm.cmpB ((l.getLast?.map Prod.fst).getD ⟨#[]⟩) (keyT s) = -1) && mayL l
theorem last_key (t : Pm.T) : t.last.key = (t.list.getLast?.map Prod.fst).getD ⟨#[]⟩ := by
  cases t with
  | nil => rfl
  | node p k v l r =>
    obtain ⟨p', k', v', l', rest, hf, hl, _⟩ := Pm.T.last_spec (t := .node p k v l r) (by simp)
    rw [hl, hf]
    simp [Pm.T.key]
/-- What a call that makes a map answers. -/
def MapE (w : World) (ec : Int) (P : Pm.T → Prop) (e : Ending) (w' : World) : Prop := ∃ t, e = .returned (.tuple #[Pm.mv t, .int .i64 ec]) ∧ Mg w' t ∧ P t ∧ Below w.heap.size w w'
theorem new4r (w : World) (o1 o2 o3 : Obj) (W : World) (hW : W = ((w.alloc o1).alloc o2).alloc o3) : W.heap[w.heap.size]? = some o1 ∧ W.heap[w.heap.size + 1]? = some o2 ∧ W.heap[w.heap.size + 1 + 1]? = some o3 ∧ Below w.heap.size w W := by rw [hW]; exact new3r w o1 o2 o3
theorem T27 : (Tryz.prog.info? 27).map (·.size) = some 1 := by kernel_rfl
theorem put_nil_list {B : Nat} {k v : ByteArray} {t : Pm.T} (h : Pm.Puts B k v .nil t) : t.list = [(k, v)] ∧ t.bal ∧ t.n = 1 := by
  have hl := h.list List.Pairwise.nil
  have : t.list = [(k, v)] := by rw [hl]; rfl
  refine ⟨this, ?_, by rw [← Pm.T.n_eq, this]; rfl⟩
  cases h
  exact ⟨by decide, by decide, trivial, trivial⟩
set_option maxHeartbeats 4000000 in
set_option maxRecDepth 100000 in
theorem rWrite_any (t : Pm.T) (s : St) (x : ByteArray) (w : World) (h : Mg w t) :
    Calls Tryz.prog 46 #[Pm.mv t, svT s, .string x] w (MapE w (if okWr t.list s x then 0 else 2) (fun t' => t'.list = if okWr t.list s x then [(keyT s, x)] else [])) := by
  obtain ⟨a, ha⟩ := t.ptr_shape
  obtain ⟨g, r, l, n, i⟩ := s
  obtain ⟨w0, hw0⟩ : ∃ w0, w0 = ((w.alloc (.cells #[.pointer a] 27)).alloc (.cells #[.int .i64 g, .int .i64 r, .string l, .int .i64 n, .int .i64 i] 43)).alloc (.cells #[.pointer none] 27) := ⟨_, rfl⟩
  obtain ⟨m0, m1, m2, b0⟩ := new4r w _ _ _ w0 hw0
  have hkey := keyT_any (g, r, l, n, i) w0
  have hlast : ∀ W, Below w.heap.size w W → Calls Tryz.prog 138 #[.agg #[.pointer a]] W fun e w' => e = .returned (.tuple #[.string t.last.key, .string t.last.val, .bool t.last.isSome]) ∧ Below W.heap.size W w' := fun W hW => by
    have := Pm.mLast_any t W (Pm.In.below hW h.inn)
    unfold Pm.mv at this
    rw [ha] at this
    exact this
  have hmay : ∀ W, Below w.heap.size w W → Calls Tryz.prog 50 #[.agg #[.pointer a]] W fun e w' => e = .returned (.bool (mayL t.list)) ∧ Below W.heap.size W w' := fun W hW => by
    have := (h.below hW).may
    unfold Pm.mv at this
    rw [ha] at this
    exact this
  have htx := fun W => mayText_any x W
  have hput : ∀ W, Calls Tryz.prog 25 #[.agg #[.pointer none], .string (keyT (g, r, l, n, i)), .string x] W fun e w' => ∃ t', e = .returned (Pm.mv t') ∧ Pm.In w' t' ∧ (t'.list = [(keyT (g, r, l, n, i), x)] ∧ t'.bal ∧ t'.n = 1) ∧ Below W.heap.size W w' := fun W => (Pm.mPut_any .nil (keyT (g, r, l, n, i)) x W trivial (by decide)).mono (fun e w' hh => by
    obtain ⟨t', h1, h2, h3, h4⟩ := hh
    exact ⟨t', h1, h2, put_nil_list h3, h4⟩)
  have hksz : (keyT (g, r, l, n, i)).size ≤ 9223372036854775807 ∨ stV (g, r, l, n, i) = false := by
    by_cases hv : stV (g, r, l, n, i) = true
    · left
      have := S_bounds hv
      unfold keyT keyS
      simp only [ByteArray.size_append, strOfNums_size, low_length, List.length_singleton]
      have h0 : (ByteArray.mk #[0]).size = 1 := rfl
      dsimp only at this ⊢
      omega
    · right; simpa using hv
  have HC : Hid (∀ W, Below w0.heap.size w0 W → W.cell? ⟨w.heap.size, 0, none⟩ = some (.pointer a) ∧ W.heap[w.heap.size + 1 + 1]? = some (.cells #[.pointer none] 27 (0, 0)) ∧ Below w.heap.size w W) := hide (fun W hW => ⟨cell_stays ((cell_of_row _ _ 0 _ 27 (0, 0) m0).trans rfl) hW, (hW.block _ (Array.getElem?_eq_some_iff.1 m2).1).trans m2, b0.trans (hW.mono b0.size)⟩)
  have HW0 := hide hw0
  have hlk := last_key t
  have bad : ∀ W, Below w0.heap.size w0 W → W.cell? ⟨w.heap.size + 1 + 1, 0, none⟩ = some (.pointer none) ∧ W.frozen? ⟨w.heap.size + 1 + 1, 0, none⟩ = false ∧ Hid ((W.setCell ⟨w.heap.size + 1 + 1, 0, none⟩ (.pointer none)).heap[w.heap.size + 1 + 1]? = some (.cells #[.pointer none] 27 (0, 0)) ∧ Below w.heap.size w (W.setCell ⟨w.heap.size + 1 + 1, 0, none⟩ (.pointer none))) := fun W hW => by
    obtain ⟨-, q2, q3⟩ := HC.out W hW
    obtain ⟨u, o⟩ := set_one (i := 0) (.pointer none) q2
    exact ⟨(cell_of_row _ _ 0 _ 27 (0, 0) q2).trans rfl, frozen_of_row _ _ 0 _ 27 q2, hide ⟨by simpa using u, Below.only q3 o q3.size (fun j e => by have e' : j = w.heap.size + 1 + 1 := e; omega)⟩⟩
  have HBAD := hide bad
  have HH := hide (And.intro h hksz)
  have c1 : w0.cell? ⟨w.heap.size + 1, 0, none⟩ = some (.int .i64 g) ∧ w0.cell? ⟨w.heap.size + 1, 1, none⟩ = some (.int .i64 r) ∧ w0.cell? ⟨w.heap.size + 1, 2, none⟩ = some (.string l) ∧ w0.cell? ⟨w.heap.size + 1, 3, none⟩ = some (.int .i64 n) ∧ w0.cell? ⟨w.heap.size + 1, 4, none⟩ = some (.int .i64 i) := ⟨(cell_of_row _ _ 0 _ 43 (0, 0) m1).trans rfl, (cell_of_row _ _ 1 _ 43 (0, 0) m1).trans rfl, (cell_of_row _ _ 2 _ 43 (0, 0) m1).trans rfl, (cell_of_row _ _ 3 _ 43 (0, 0) m1).trans rfl, (cell_of_row _ _ 4 _ 43 (0, 0) m1).trans rfl⟩
  dsimp only [svT] at hkey ⊢
  unfold Pm.mv
  rw [ha]
  clear h ha m0 m1 m2 b0 bad hksz hw0
  have hok : okWr t.list (g, r, l, n, i) x = (stV (g, r, l, n, i) && txtB x && decide (Pm.cmpB t.last.key (keyT (g, r, l, n, i)) = -1) && mayL t.list) := by rw [okWr, hlk]
  obtain ⟨OK, hOK⟩ : ∃ OK, OK = okWr t.list (g, r, l, n, i) x := ⟨_, rfl⟩
  rw [← hOK] at hok ⊢
  obtain ⟨EC, hEC⟩ : ∃ EC : Int, EC = if OK = true then 0 else 2 := ⟨_, rfl⟩
  obtain ⟨PL, hPL⟩ : ∃ PL : List Kv, PL = if OK = true then [(keyT (g, r, l, n, i), x)] else [] := ⟨_, rfl⟩
  rw [← hEC, ← hPL]
  have HEC := hide hEC
  have hless := leq_B (keyT (g, r, l, n, i)) t.last.key
  obtain ⟨V, hV⟩ : ∃ V, V = stV (g, r, l, n, i) := ⟨_, rfl⟩
  rw [← hV] at hok hkey
  have HV := hide hV
  clear hV hOK hlk
  generalize hKK : keyT (g, r, l, n, i) = K at *
  generalize mayL t.list = M at *
  generalize txtB x = TX at *
  generalize t.last.key = LK at *
  generalize t.last.val = LV at *
  generalize t.last.isSome = LS at *
  obtain ⟨LE, hLE⟩ : ∃ LE, LE = decide (Pm.cmpB LK K = -1) := ⟨_, rfl⟩
  rw [← hLE] at hok hless
  have HKK := hide hKK
  have HPL := hide hPL
  clear hLE hKK hPL hEC
  have HL := hide hlast
  have HMY := hide hmay
  have HP := hide hput
  obtain ⟨d0, d1, d2, d3, d4⟩ := c1
  have fail_ : ∀ (W : World), OK = false → (W.setCell ⟨w.heap.size + 1 + 1, 0, none⟩ (.pointer none)).heap[w.heap.size + 1 + 1]? = some (.cells #[.pointer none] 27 (0, 0)) ∧ Below w.heap.size w (W.setCell ⟨w.heap.size + 1 + 1, 0, none⟩ (.pointer none)) → MapE w EC (fun t' => t'.list = PL) (.returned (.tuple #[.agg #[.pointer none], .int .i64 2])) (W.setCell ⟨w.heap.size + 1 + 1, 0, none⟩ (.pointer none)) := fun W ho hh => by
    refine ⟨.nil, ?_, Mg.nil _, ?_, hh.2⟩
    · rw [HEC.out, ho]; rfl
    · rw [HPL.out, ho]; rfl
  have HFL := hide fail_
  clear hlast hmay hput fail_
  cases V with
  | false =>
    have hko : OK = false := by rw [hok]; rfl
    have HK := hide hko
    clear hok hless hko
    go_enter Tryz.func46, Tryz.ntmps46
    go_upto_region 1 with fail
    rw [← HW0.out]
    go_wp2_with (first
      | (go_at_call 135; refine hkey.mono ?_; rintro e w1 ⟨rfl, b1⟩; obtain ⟨x1, -, x3⟩ := HC.out w1 b1; have H1 := hide (And.intro b1 x3); clear b1 x3; dsimp only)
      | (go_at_call 138; refine (HL.out w1 H1.out.2).mono ?_; rintro e w2 ⟨rfl, b2⟩; obtain ⟨y1, y2, HY⟩ := HBAD.out w2 (H1.out.1.trans (b2.mono H1.out.1.size)); clear b2; dsimp only))
    refine ret_row_tmp (w.heap.size + 1 + 1) [.pointer none] rfl rfl rfl Tryz.underlying27 rfl T27 HY.out.1 rfl ?_
    exact HFL.out w2 HK.out HY.out
  | true =>
    cases TX with
    | false =>
      have hko : OK = false := by rw [hok]; rfl
      have HK := hide hko
      clear hok hless hko
      go_enter Tryz.func46, Tryz.ntmps46
      go_upto_region 1 with fail
      rw [← HW0.out]
      go_wp2_with (first
        | (go_at_call 135; refine hkey.mono ?_; rintro e w1 ⟨rfl, b1⟩; obtain ⟨x1, -, x3⟩ := HC.out w1 b1; have H1 := hide (And.intro b1 x3); clear b1 x3; dsimp only)
        | (go_at_call 138; refine (HL.out w1 H1.out.2).mono ?_; rintro e w2 ⟨rfl, b2⟩; obtain ⟨y1, y2, HY⟩ := HBAD.out w2 (H1.out.1.trans (b2.mono H1.out.1.size)); clear b2; dsimp only)
        | (go_at_call 136; refine (htx _).mono ?_; rintro e w3 ⟨rfl, hw3⟩; replace hw3 := hw3.symm; subst hw3; dsimp only))
      refine ret_row_tmp (w.heap.size + 1 + 1) [.pointer none] rfl rfl rfl Tryz.underlying27 rfl T27 HY.out.1 rfl ?_
      exact HFL.out w2 HK.out HY.out
    | true =>
      cases LE with
      | false =>
        have hko : OK = false := by rw [hok]; rfl
        have HK := hide hko
        clear hok hko
        go_enter Tryz.func46, Tryz.ntmps46
        go_upto_region 1 with fail
        rw [← HW0.out]
        go_wp2_with (first
          | (go_at_call 135; refine hkey.mono ?_; rintro e w1 ⟨rfl, b1⟩; obtain ⟨x1, -, x3⟩ := HC.out w1 b1; have H1 := hide (And.intro b1 x3); clear b1 x3; dsimp only)
          | (go_at_call 138; refine (HL.out w1 H1.out.2).mono ?_; rintro e w2 ⟨rfl, b2⟩; obtain ⟨y1, y2, HY⟩ := HBAD.out w2 (H1.out.1.trans (b2.mono H1.out.1.size)); clear b2; dsimp only)
          | (go_at_call 136; refine (htx _).mono ?_; rintro e w3 ⟨rfl, hw3⟩; replace hw3 := hw3.symm; subst hw3; dsimp only))
        refine ret_row_tmp (w.heap.size + 1 + 1) [.pointer none] rfl rfl rfl Tryz.underlying27 rfl T27 HY.out.1 rfl ?_
        exact HFL.out w2 HK.out HY.out
      | true =>
        cases M with
        | false =>
          have hko : OK = false := by rw [hok]; rfl
          have HK := hide hko
          clear hok hko
          go_enter Tryz.func46, Tryz.ntmps46
          go_upto_region 1 with fail
          rw [← HW0.out]
          go_wp2_with (first
            | (go_at_call 135; refine hkey.mono ?_; rintro e w1 ⟨rfl, b1⟩; obtain ⟨x1, -, x3⟩ := HC.out w1 b1; have H1 := hide (And.intro b1 x3); clear b1 x3; dsimp only)
            | (go_at_call 138; refine (HL.out w1 H1.out.2).mono ?_; rintro e w2 ⟨rfl, b2⟩; obtain ⟨v1, -, v3⟩ := HC.out w2 (H1.out.1.trans (b2.mono H1.out.1.size)); have H2 := hide (And.intro (H1.out.1.trans (b2.mono H1.out.1.size)) v3); clear b2 v3; dsimp only)
            | (go_at_call 136; refine (htx _).mono ?_; rintro e w3 ⟨rfl, hw3⟩; replace hw3 := hw3.symm; subst hw3; dsimp only)
            | (go_at_call 50; refine (HMY.out w2 H2.out.2).mono ?_; rintro e w4 ⟨rfl, b4⟩; obtain ⟨y1, y2, HY⟩ := HBAD.out w4 (H2.out.1.trans (b4.mono H2.out.1.size)); clear b4; dsimp only))
          refine ret_row_tmp (w.heap.size + 1 + 1) [.pointer none] rfl rfl rfl Tryz.underlying27 rfl T27 HY.out.1 rfl ?_
          exact HFL.out w4 HK.out HY.out
        | true =>
          have hko : OK = true := by rw [hok]; rfl
          have HK := hide hko
          clear hok hko
          go_enter Tryz.func46, Tryz.ntmps46
          go_upto_region 1 with fail
          rw [← HW0.out]
          go_wp2_with (first
            | (go_at_call 135; refine hkey.mono ?_; rintro e w1 ⟨rfl, b1⟩; obtain ⟨x1, -, x3⟩ := HC.out w1 b1; have H1 := hide (And.intro b1 x3); clear b1 x3; dsimp only)
            | (go_at_call 138; refine (HL.out w1 H1.out.2).mono ?_; rintro e w2 ⟨rfl, b2⟩; obtain ⟨v1, -, v3⟩ := HC.out w2 (H1.out.1.trans (b2.mono H1.out.1.size)); have H2 := hide (And.intro (H1.out.1.trans (b2.mono H1.out.1.size)) v3); clear b2 v3; dsimp only)
            | (go_at_call 136; refine (htx _).mono ?_; rintro e w3 ⟨rfl, hw3⟩; replace hw3 := hw3.symm; subst hw3; dsimp only)
            | (go_at_call 50; refine (HMY.out w2 H2.out.2).mono ?_; rintro e w4 ⟨rfl, b4⟩; have H4 := hide (H2.out.1.trans (b4.mono H2.out.1.size)); clear b4; dsimp only)
            | (go_at_call 25; refine (HP.out w4).mono ?_; rintro e w5 ⟨t', rfl, i5, l5, b5⟩; obtain ⟨pt, hpt⟩ := t'.ptr_shape; have H5 := hide (And.intro hpt (And.intro i5 (And.intro l5 (H4.out.trans (b5.mono H4.out.size))))); unfold Pm.mv; rw [hpt]; obtain ⟨y1, y2, -⟩ := HBAD.out w5 (H4.out.trans (b5.mono H4.out.size)); clear b5 i5 l5 hpt; dsimp only))
          obtain ⟨hpt, i5, ⟨l5, bl5, n5⟩, b5⟩ := H5.out
          obtain ⟨-, q2, q3⟩ := HC.out w5 b5
          obtain ⟨u, o⟩ := set_one (i := 0) (.pointer pt) q2
          refine ret_row_tmp (w.heap.size + 1 + 1) [.pointer pt] rfl rfl rfl Tryz.underlying27 rfl T27 (by simpa using u) rfl ?_
          have it := Pm.In.aside q2 o i5
          refine ⟨t', ?_, ⟨it, ?_, bl5, by omega, ?_⟩, ?_, Below.only q3 o q3.size (fun j e => by have e' : j = w.heap.size + 1 + 1 := e; omega)⟩
          · unfold Pm.mv; rw [hpt, HEC.out, HK.out]; rfl
          · rw [l5]; exact List.pairwise_singleton _ _
          · rw [l5]
            intro y hy
            rw [List.mem_singleton] at hy
            rw [hy]
            rcases HH.out.2 with h1 | h1
            · exact h1
            · rw [← HV.out] at h1; cases h1
          · show t'.list = PL
            rw [l5, HPL.out, HK.out]; rfl
end Go.Proofs.YtkkpdgfllnbigaaGreat
namespace Go.Proofs.YtkkpdgfllnbigaaGreat.Pm
/-- A tree has a node at a block. -/
def T.atB (q : Nat) : T → Prop
  | .nil => False
  | .node p _ _ l r => p = q ∨ l.atB q ∨ r.atB q
/-- All nodes lie from a block on. -/
def T.over (B : Nat) (t : T) : Prop := ∀ q, t.atB q → B ≤ q
theorem T.over.mono {B B' : Nat} {t : T} (h : t.over B') (hB : B ≤ B') : t.over B := fun q hq => Nat.le_trans hB (h q hq)
theorem T.over_nil {B : Nat} : T.over B .nil := fun _ h => h.elim
theorem T.over_node {B p k v l r} (hp : B ≤ p) (hl : T.over B l) (hr : T.over B r) : T.over B (.node p k v l r) := fun q h => by
  rcases h with rfl | h | h
  · exact hp
  · exact hl q h
  · exact hr q h
end Go.Proofs.YtkkpdgfllnbigaaGreat.Pm
namespace Go.Proofs
open Go.Shelf
def Tryz.sortInts_ren : Go.Shelf.Ren := ⟨fun | 6 => 204 | 15 => 179 | 14 => 235 | 28 => 220 | 29 => 221 | 20 => 251 | 21 => 252 | 22 => 253 | 23 => 254 | 24 => 255 | 25 => 256 | 26 => 257 | 27 => 258 | 46 => 268 | 47 => 241 | 48 => 242 | 49 => 269 | 50 => 270 | 57 => 271 | n => n, fun | 22 => 156 | 24 => 3 | 25 => 188 | 3 => 3 | 39 => 174 | 0 => 0 | 53 => 205 | 55 => 207 | 4 => 4 | 46 => 198 | 45 => 197 | 50 => 202 | 5 => 5 | 9 => 9 | 66 => 223 | 70 => 227 | 76 => 240 | 77 => 241 | n => n, fun | n => n⟩
theorem Tryz.sortInts : Go.Proofs.SlLaysF.n6 Tryz.prog Tryz.sortInts_ren := {
  mixed := by kernel_rfl
  f6 := ⟨Tryz.f204.name, by decide, Tryz.func204.trans (congrArg some (by kernel_rfl))⟩
  f14 := ⟨Tryz.f235.name, by decide, Tryz.func235.trans (congrArg some (by kernel_rfl))⟩
  f15 := Tryz.func179.trans (congrArg some (by kernel_rfl))
  f20 := ⟨Tryz.f251.name, by decide, Tryz.func251.trans (congrArg some (by kernel_rfl))⟩
  f21 := ⟨Tryz.f252.name, by decide, Tryz.func252.trans (congrArg some (by kernel_rfl))⟩
  f22 := ⟨Tryz.f253.name, by decide, Tryz.func253.trans (congrArg some (by kernel_rfl))⟩
  f23 := ⟨Tryz.f254.name, by decide, Tryz.func254.trans (congrArg some (by kernel_rfl))⟩
  f24 := ⟨Tryz.f255.name, by decide, Tryz.func255.trans (congrArg some (by kernel_rfl))⟩
  f25 := ⟨Tryz.f256.name, by decide, Tryz.func256.trans (congrArg some (by kernel_rfl))⟩
  f26 := ⟨Tryz.f257.name, by decide, Tryz.func257.trans (congrArg some (by kernel_rfl))⟩
  f27 := ⟨Tryz.f258.name, by decide, Tryz.func258.trans (congrArg some (by kernel_rfl))⟩
  f28 := Tryz.func220.trans (congrArg some (by kernel_rfl))
  f29 := Tryz.func221.trans (congrArg some (by kernel_rfl))
  f46 := ⟨Tryz.f268.name, by decide, Tryz.func268.trans (congrArg some (by kernel_rfl))⟩
  f47 := Tryz.func241.trans (congrArg some (by kernel_rfl))
  f48 := Tryz.func242.trans (congrArg some (by kernel_rfl))
  f49 := ⟨Tryz.f269.name, by decide, Tryz.func269.trans (congrArg some (by kernel_rfl))⟩
  f50 := ⟨Tryz.f270.name, by decide, Tryz.func270.trans (congrArg some (by kernel_rfl))⟩
  f57 := ⟨Tryz.f271.name, by decide, Tryz.func271.trans (congrArg some (by kernel_rfl))⟩
  t0 := Tryz.underlying0
  a0 := Tryz.isAgg0
  z0 := Tryz.sizeOf0
  v0 := Tryz.zeroValue0
  t3 := Tryz.underlying3
  a3 := Tryz.isAgg3
  z3 := Tryz.sizeOf3
  v3 := Tryz.zeroValue3
  t4 := Tryz.underlying4
  a4 := Tryz.isAgg4
  z4 := Tryz.sizeOf4
  v4 := Tryz.zeroValue4
  t5 := Tryz.underlying5
  a5 := Tryz.isAgg5
  z5 := Tryz.sizeOf5
  v5 := Tryz.zeroValue5
  t9 := Tryz.underlying9
  a9 := Tryz.isAgg9
  z9 := Tryz.sizeOf9
  v9 := Tryz.zeroValue9
  t22 := Tryz.underlying156
  a22 := Tryz.isAgg156
  z22 := Tryz.sizeOf156
  v22 := Tryz.zeroValue156
  a24 := Tryz.isAgg3
  z24 := Tryz.sizeOf3
  t25 := Tryz.underlying188
  a25 := Tryz.isAgg188
  z25 := Tryz.sizeOf188
  v25 := Tryz.zeroValue188
  t39 := Tryz.underlying174
  a39 := Tryz.isAgg174
  z39 := Tryz.sizeOf174
  v39 := Tryz.zeroValue174
  t45 := Tryz.underlying197
  a45 := Tryz.isAgg197
  z45 := Tryz.sizeOf197
  v45 := Tryz.zeroValue197
  t46 := Tryz.underlying198
  a46 := Tryz.isAgg198
  z46 := Tryz.sizeOf198
  v46 := Tryz.zeroValue198
  t50 := Tryz.underlying202
  a50 := Tryz.isAgg202
  z50 := Tryz.sizeOf202
  v50 := Tryz.zeroValue202
  t53 := Tryz.underlying205
  a53 := Tryz.isAgg205
  z53 := Tryz.sizeOf205
  v53 := Tryz.zeroValue205
  t55 := Tryz.underlying207
  a55 := Tryz.isAgg207
  z55 := Tryz.sizeOf207
  v55 := Tryz.zeroValue207
  t66 := Tryz.underlying223
  a66 := Tryz.isAgg223
  z66 := Tryz.sizeOf223
  v66 := Tryz.zeroValue223
  t70 := Tryz.underlying227
  a70 := Tryz.isAgg227
  z70 := Tryz.sizeOf227
  v70 := Tryz.zeroValue227
  t76 := Tryz.underlying240
  a76 := Tryz.isAgg240
  z76 := Tryz.sizeOf240
  v76 := Tryz.zeroValue240
  t77 := Tryz.underlying241
  a77 := Tryz.isAgg241
  z77 := Tryz.sizeOf241
  v77 := Tryz.zeroValue241 }
end Go.Proofs
namespace Go.Proofs.YtkkpdgfllnbigaaGreat.Pm
open Go.RowKit Go.Shelf
set_option linter.unusedSimpArgs false

set_option maxHeartbeats 2000000 in
theorem closure64 (x y N B b off cap : Nat) (kx ky : ByteArray) (W : World) (hbox : W.cell? ⟨B, 0, none⟩ = some (.slice (some ⟨b, off, none⟩) N cap)) (h1 : W.cell? ⟨b, off + x, none⟩ = some (.string kx)) (h2 : W.cell? ⟨b, off + y, none⟩ = some (.string ky)) (hx : x < N) (hy : y < N) :
    Calls Tryz.prog 205 #[.int .i64 x, .int .i64 y, .pointer (some ⟨B, 0, none⟩)] W fun e w' => e = .returned (.int .i64 (cmpB kx ky)) ∧ ∃ q, w' = W.drewN q := by
  have hc := fun W => compare_B kx ky W
  generalize cmpB kx ky = C at *
  have z1 : (x : Int) < (N : Int) := by omega
  have z2 : (y : Int) < (N : Int) := by omega
  go_enter Tryz.func205, Tryz.ntmps205
  go_wp2
  go_quiet (first | (go_at_call 128; refine Calls.quiet_of_same (hc _)))
  go_wp2
  go_ret
  exact ⟨rfl, _, rfl⟩

def encP {M : Nat} (x : Fin (M + 1)) : Value := .int .i64 (x.val : Nat)
theorem lt_B {M : Nat} (ks : Fin (M + 1) → ByteArray) (x y : Fin (M + 1)) : ltOf (fun x y => cmpB (ks x) (ks y)) x y = true ↔ cmpB (ks x) (ks y) = -1 := by
  have := ord_B.range (ks x) (ks y)
  unfold ltOf
  simp
  omega
theorem lt_Bn {M : Nat} (ks : Fin (M + 1) → ByteArray) (x y : Fin (M + 1)) : ltOf (fun x y => cmpB (ks x) (ks y)) x y = false ↔ cmpB (ks x) (ks y) ≠ -1 := by
  rw [Ne, ← lt_B]; simp
theorem swo_B {M : Nat} (ks : Fin (M + 1) → ByteArray) : Sort.SWO (ltOf (fun x y => cmpB (ks x) (ks y))) := ⟨fun x => by rw [lt_Bn, ord_B.refl]; decide, fun x y z h1 h2 => by rw [lt_B] at *; exact ord_B.trans _ _ _ h1 h2, fun x y z h1 h2 => by
    rw [lt_Bn] at *
    intro h3
    rcases ord_B.range (ks x) (ks y) with h | h | h
    · exact h1 h
    · rw [ord_B.eq _ _ h] at h3; exact h2 h3
    · have : cmpB (ks y) (ks x) = -1 := by rw [ord_B.anti, h]
      exact h2 (ord_B.trans _ _ _ this h3)⟩
theorem only_sorted {M : Nat} (W : World) (G n : Nat) (d : Array (Fin (M + 1))) (os : Array Obj) : Only (fun j => j = G) W (sortWorld encP W G 0 n d os) := by
  have hheap : (sortWorld encP W G 0 n d os).heap = W.heap.modify G (Sort.onCells (Sort.putCells encP 0 d)) ++ os := rfl
  refine ⟨rfl, rfl, rfl, ?_, fun k hk hG => ?_⟩
  · rw [hheap]; simp
  · rw [hheap, Array.getElem?_append_left (by simpa using hk), Array.getElem?_modify, if_neg (fun e => hG e.symm)]

theorem sort63 (M : Nat) (ks : Fin (M + 1) → ByteArray) (B G b off cap kcap : Nat) (d : Array (Fin (M + 1))) (hd : d.size = M + 1) (W : World) (hbox : W.cell? ⟨B, 0, none⟩ = some (.slice (some ⟨b, off, none⟩) (M + 1) kcap)) (hk : ∀ x : Fin (M + 1), W.cell? ⟨b, off + x.val, none⟩ = some (.string (ks x))) (hBG : B ≠ G) (hbG : b ≠ G) (hH : Sort.Holds encP W G 0 d) (hM : M < 1000000) :
    Calls Tryz.prog 204 #[.slice (some ⟨G, 0, none⟩) (M + 1) cap, .func (.func 205) #[] #[.pointer (some ⟨B, 0, none⟩)]] W fun e w' => e = .returned (.tuple #[]) ∧ ∃ d' : Array (Fin (M + 1)), d'.size = M + 1 ∧ d'.toList.Perm d.toList ∧ (∀ i j, i < j → j < M + 1 → cmpB (ks d'[j]!) (ks d'[i]!) ≠ -1) ∧ Sort.Holds encP w' G 0 d' ∧ Only (fun j => j = G) W w' := by
  have eg : ∀ args w, (callFunc 205 args).run Tryz.prog w = .ok (.enter 205 args) w := enters_of Tryz.func205 (by kernel_rfl) rfl
  have hblk : G < W.heap.size := by
    have := (hH 0 (by omega)).1
    exact World.block_lt_of_cell? W _ this
  have hc : CmpLays1 Tryz.prog 205 #[.pointer (some ⟨B, 0, none⟩)] encP (fun x y => cmpB (ks x) (ks y)) G 0 d.size W := fun m os dk hdk x y => by
    have ho := only_sorted W G m dk os
    refine (closure64 x.val y.val (M + 1) B b off kcap (ks x) (ks y) (sortWorld encP W G 0 m dk os) (ho.cell hbox hBG) (ho.cell (hk x) hbG) (ho.cell (hk y) hbG) x.isLt y.isLt).mono ?_
    rintro e w' ⟨he, q, hw⟩
    exact ⟨he, q, #[], by rw [hw, Sort.grow_empty]⟩
  have hs := Any.slices_SortFunc Tryz.sortInts encP (fun _ => rfl) (fun x y => cmpB (ks x) (ks y)) (swo_B ks) 205 #[.pointer (some ⟨B, 0, none⟩)] G 0 cap d W eg hc hH hblk (by omega)
  change Calls Tryz.prog 204 _ _ _ at hs
  rw [hd] at hs
  refine hs.mono ?_
  rintro e w' ⟨he, d', n, os, hp, hso, rfl⟩
  have hsz : d'.size = M + 1 := hp.1.trans hd
  refine ⟨he, d', hsz, ?_, ?_, holds_sortWorld encP W G 0 n d d' os hblk hH hp.1, only_sorted W G n d' os⟩
  · have := hp.2.2
    have ex : ∀ (a : Array (Fin (M + 1))) n, a.size = n → a.extract 0 n = a := by intro a n h; subst h; simp
    rw [ex d' _ hsz, ex d _ hd] at this
    exact this
  · intro i j hij hj
    have := hso i j (Nat.zero_le _) hij hj
    rw [lt_Bn] at this
    exact this
end Go.Proofs.YtkkpdgfllnbigaaGreat.Pm
namespace Go.Proofs.YtkkpdgfllnbigaaGreat.Pm
open Go.RowKit Go.Shelf
set_option linter.unusedSimpArgs false

/-- A slice that tells values of one cell. -/
structure Cs (w : World) (v : Value) (l : List Value) : Prop where
  ex : ∃ ao cap, v = .slice ao l.length cap ∧ l.length ≤ cap ∧ ∀ j u, l[j]? = some u → ∃ b off, ao = some ⟨b, off, none⟩ ∧ w.cell? ⟨b, off + j, none⟩ = some u
theorem Cs.below {w w' : World} {v : Value} {l : List Value} (h : Cs w v l) (hb : Below w.heap.size w w') : Cs w' v l := by
  obtain ⟨ao, cap, e, hc, hr⟩ := h.ex
  exact ⟨ao, cap, e, hc, fun j u hj => by obtain ⟨b, off, e2, h2⟩ := hr j u hj; exact ⟨b, off, e2, cell_stays h2 hb⟩⟩
end Go.Proofs.YtkkpdgfllnbigaaGreat.Pm
