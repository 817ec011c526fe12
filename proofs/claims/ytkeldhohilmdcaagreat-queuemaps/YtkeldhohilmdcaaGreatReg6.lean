/-
  register: Write (38), Three (45).
-/
import Derived.Test.YtkeldhohilmdcaaGreatReg5
import Derived.Test.YtkeldhohilmdcaaGreatEqs9
namespace Go.Proofs.YtkeldhohilmdcaaGreat
open Go.RowKit Go.Shelf
set_option linter.unusedSimpArgs false
attribute [local go_sem] Oper.semAt_some

theorem keyT_any (s : St) (w : World) : Calls Tryz.prog 107 #[svT s] w fun e w' => e = .returned (.tuple #[.string (if stV s then keyT s else ⟨#[]⟩), .int .i64 (if stV s then 0 else 2)]) ∧ Below w.heap.size w w' := key_any s.1 s.2.1 s.2.2.1 s.2.2.2.1 s.2.2.2.2 w
theorem leq_B (a b : ByteArray) : (Op.bytesLess a.toList b.toList || a.toList == b.toList) = !decide (Pm.cmpB b a = -1) := by
  rw [Pm.less_B]
  rcases Pm.cmp_three a b with h | h | h
  · have h2 : Pm.cmpB b a = 1 := by have := Pm.ord_B.anti a b; omega
    rw [h, h2]; rfl
  · subst h
    rw [Pm.ord_B.refl]
    simp
  · have h2 : Pm.cmpB a b = 1 := by have := Pm.ord_B.anti a b; omega
    have hne : (a.toList == b.toList) = false := by
      rw [Bool.eq_false_iff, Ne, bytes_same]
      intro e
      rw [e, Pm.ord_B.refl] at h
      cases h
    rw [h, h2, hne]; rfl
/-- May one be written behind these? -/
def okWr (l : List Kv) (s : St) (x : ByteArray) : Bool := stV s && txtB x && decide (Pm.cmpB ((l.getLast?.map Prod.fst).getD ⟨#[]⟩) (keyT s) = -1) && mayL l
theorem last_key (t : Pm.T) : t.last.key = (t.list.getLast?.map Prod.fst).getD ⟨#[]⟩ := by
  cases t with
  | nil => rfl
  | node p k v l r =>
    obtain ⟨p', k', v', l', rest, hf, hl, _⟩ := Pm.T.last_spec (t := .node p k v l r) (by simp)
    rw [hl, hf]
    simp [Pm.T.key]
/-- What a call that makes a map answers. -/
def MapE (w : World) (ec : Int) (P : Pm.T → Prop) (e : Ending) (w' : World) : Prop := ∃ t, e = .returned (.tuple #[Pm.mv t, .int .i64 ec]) ∧ Mg w' t ∧ P t ∧ Below w.heap.size w w'
theorem new4r (w : World) (o1 o2 o3 : Obj) (W : World) (hW : W = ((w.alloc o1).alloc o2).alloc o3) : W.heap[w.heap.size]? = some o1 ∧ W.heap[w.heap.size + 1]? = some o2 ∧ W.heap[w.heap.size + 1 + 1]? = some o3 ∧ Below w.heap.size w W := by rw [hW]; exact new3r w o1 o2 o3
theorem T27 : (Tryz.prog.info? 27).map (·.size) = some 1 := by kernel_rfl
theorem put_nil_list {B : Nat} {k v : ByteArray} {t : Pm.T} (h : Pm.Puts B k v .nil t) : t.list = [(k, v)] ∧ t.bal ∧ t.n = 1 := by
  have hl := h.list List.Pairwise.nil
  have : t.list = [(k, v)] := by rw [hl]; rfl
  refine ⟨this, ?_, by rw [← Pm.T.n_eq, this]; rfl⟩
  cases h
  exact ⟨by decide, by decide, trivial, trivial⟩
set_option maxHeartbeats 4000000 in
set_option maxRecDepth 100000 in
theorem rWrite_any (t : Pm.T) (s : St) (x : ByteArray) (w : World) (h : Mg w t) :
    Calls Tryz.prog 42 #[Pm.mv t, svT s, .string x] w (MapE w (if okWr t.list s x then 0 else 2) (fun t' => t'.list = if okWr t.list s x then [(keyT s, x)] else [])) := by
  obtain ⟨a, ha⟩ := t.ptr_shape
  obtain ⟨g, r, l, n, i⟩ := s
  obtain ⟨w0, hw0⟩ : ∃ w0, w0 = ((w.alloc (.cells #[.pointer a] 27)).alloc (.cells #[.int .i64 g, .int .i64 r, .string l, .int .i64 n, .int .i64 i] 43)).alloc (.cells #[.pointer none] 27) := ⟨_, rfl⟩
  obtain ⟨m0, m1, m2, b0⟩ := new4r w _ _ _ w0 hw0
  have hkey := keyT_any (g, r, l, n, i) w0
  have hlast : ∀ W, Below w.heap.size w W → Calls Tryz.prog 110 #[.agg #[.pointer a]] W fun e w' => e = .returned (.tuple #[.string t.last.key, .string t.last.val, .bool t.last.isSome]) ∧ Below W.heap.size W w' := fun W hW => by
    have := Pm.mLast_any t W (Pm.In.below hW h.inn)
    unfold Pm.mv at this
    rw [ha] at this
    exact this
  have hmay : ∀ W, Below w.heap.size w W → Calls Tryz.prog 46 #[.agg #[.pointer a]] W fun e w' => e = .returned (.bool (mayL t.list)) ∧ Below W.heap.size W w' := fun W hW => by
    have := (h.below hW).may
    unfold Pm.mv at this
    rw [ha] at this
    exact this
  have htx := fun W => mayText_any x W
  have hput : ∀ W, Calls Tryz.prog 21 #[.agg #[.pointer none], .string (keyT (g, r, l, n, i)), .string x] W fun e w' => ∃ t', e = .returned (Pm.mv t') ∧ Pm.In w' t' ∧ (t'.list = [(keyT (g, r, l, n, i), x)] ∧ t'.bal ∧ t'.n = 1) ∧ Below W.heap.size W w' := fun W => (Pm.mPut_any .nil (keyT (g, r, l, n, i)) x W trivial (by decide)).mono (fun e w' hh => by
    obtain ⟨t', h1, h2, h3, h4⟩ := hh
    exact ⟨t', h1, h2, put_nil_list h3, h4⟩)
  have hksz : (keyT (g, r, l, n, i)).size ≤ 9223372036854775807 ∨ stV (g, r, l, n, i) = false := by
    by_cases hv : stV (g, r, l, n, i) = true
    · left
      have := S_bounds hv
      unfold keyT keyS
      simp only [ByteArray.size_append, strOfNums_size, low_length, List.length_singleton]
      have h0 : (ByteArray.mk #[0]).size = 1 := rfl
      dsimp only at this ⊢
      omega
    · right; simpa using hv
  have HC : Hid (∀ W, Below w0.heap.size w0 W → W.cell? ⟨w.heap.size, 0, none⟩ = some (.pointer a) ∧ W.heap[w.heap.size + 1 + 1]? = some (.cells #[.pointer none] 27 (0, 0)) ∧ Below w.heap.size w W) := hide (fun W hW => ⟨cell_stays ((cell_of_row _ _ 0 _ 27 (0, 0) m0).trans rfl) hW, (hW.block _ (Array.getElem?_eq_some_iff.1 m2).1).trans m2, b0.trans (hW.mono b0.size)⟩)
  have HW0 := hide hw0
  have hlk := last_key t
  have bad : ∀ W, Below w0.heap.size w0 W → W.cell? ⟨w.heap.size + 1 + 1, 0, none⟩ = some (.pointer none) ∧ W.frozen? ⟨w.heap.size + 1 + 1, 0, none⟩ = false ∧ Hid ((W.setCell ⟨w.heap.size + 1 + 1, 0, none⟩ (.pointer none)).heap[w.heap.size + 1 + 1]? = some (.cells #[.pointer none] 27 (0, 0)) ∧ Below w.heap.size w (W.setCell ⟨w.heap.size + 1 + 1, 0, none⟩ (.pointer none))) := fun W hW => by
    obtain ⟨-, q2, q3⟩ := HC.out W hW
    obtain ⟨u, o⟩ := set_one (i := 0) (.pointer none) q2
    exact ⟨(cell_of_row _ _ 0 _ 27 (0, 0) q2).trans rfl, frozen_of_row _ _ 0 _ 27 q2, hide ⟨by simpa using u, Below.only q3 o q3.size (fun j e => by have e' : j = w.heap.size + 1 + 1 := e; omega)⟩⟩
  have HBAD := hide bad
  have HH := hide (And.intro h hksz)
  have c1 : w0.cell? ⟨w.heap.size + 1, 0, none⟩ = some (.int .i64 g) ∧ w0.cell? ⟨w.heap.size + 1, 1, none⟩ = some (.int .i64 r) ∧ w0.cell? ⟨w.heap.size + 1, 2, none⟩ = some (.string l) ∧ w0.cell? ⟨w.heap.size + 1, 3, none⟩ = some (.int .i64 n) ∧ w0.cell? ⟨w.heap.size + 1, 4, none⟩ = some (.int .i64 i) := ⟨(cell_of_row _ _ 0 _ 43 (0, 0) m1).trans rfl, (cell_of_row _ _ 1 _ 43 (0, 0) m1).trans rfl, (cell_of_row _ _ 2 _ 43 (0, 0) m1).trans rfl, (cell_of_row _ _ 3 _ 43 (0, 0) m1).trans rfl, (cell_of_row _ _ 4 _ 43 (0, 0) m1).trans rfl⟩
  dsimp only [svT] at hkey ⊢
  unfold Pm.mv
  rw [ha]
  clear h ha m0 m1 m2 b0 bad hksz hw0
  have hok : okWr t.list (g, r, l, n, i) x = (stV (g, r, l, n, i) && txtB x && decide (Pm.cmpB t.last.key (keyT (g, r, l, n, i)) = -1) && mayL t.list) := by rw [okWr, hlk]
  obtain ⟨OK, hOK⟩ : ∃ OK, OK = okWr t.list (g, r, l, n, i) x := ⟨_, rfl⟩
  rw [← hOK] at hok ⊢
  obtain ⟨EC, hEC⟩ : ∃ EC : Int, EC = if OK = true then 0 else 2 := ⟨_, rfl⟩
  obtain ⟨PL, hPL⟩ : ∃ PL : List Kv, PL = if OK = true then [(keyT (g, r, l, n, i), x)] else [] := ⟨_, rfl⟩
  rw [← hEC, ← hPL]
  have HEC := hide hEC
  have hless := leq_B (keyT (g, r, l, n, i)) t.last.key
  obtain ⟨V, hV⟩ : ∃ V, V = stV (g, r, l, n, i) := ⟨_, rfl⟩
  rw [← hV] at hok hkey
  have HV := hide hV
  clear hV hOK hlk
  generalize hKK : keyT (g, r, l, n, i) = K at *
  generalize mayL t.list = M at *
  generalize txtB x = TX at *
  generalize t.last.key = LK at *
  generalize t.last.val = LV at *
  generalize t.last.isSome = LS at *
  obtain ⟨LE, hLE⟩ : ∃ LE, LE = decide (Pm.cmpB LK K = -1) := ⟨_, rfl⟩
  rw [← hLE] at hok hless
  have HKK := hide hKK
  have HPL := hide hPL
  clear hLE hKK hPL hEC
  have HL := hide hlast
  have HMY := hide hmay
  have HP := hide hput
  obtain ⟨d0, d1, d2, d3, d4⟩ := c1
  have fail_ : ∀ (W : World), OK = false → (W.setCell ⟨w.heap.size + 1 + 1, 0, none⟩ (.pointer none)).heap[w.heap.size + 1 + 1]? = some (.cells #[.pointer none] 27 (0, 0)) ∧ Below w.heap.size w (W.setCell ⟨w.heap.size + 1 + 1, 0, none⟩ (.pointer none)) → MapE w EC (fun t' => t'.list = PL) (.returned (.tuple #[.agg #[.pointer none], .int .i64 2])) (W.setCell ⟨w.heap.size + 1 + 1, 0, none⟩ (.pointer none)) := fun W ho hh => by
    refine ⟨.nil, ?_, Mg.nil _, ?_, hh.2⟩
    · rw [HEC.out, ho]; rfl
    · rw [HPL.out, ho]; rfl
  have HFL := hide fail_
  clear hlast hmay hput fail_
  cases V with
  | false =>
    have hko : OK = false := by rw [hok]; rfl
    have HK := hide hko
    clear hok hless hko
    go_enter Tryz.func42, Tryz.ntmps42
    go_upto_region 1 with fail
    rw [← HW0.out]
    go_wp2_with (first
      | (go_at_call 107; refine hkey.mono ?_; rintro e w1 ⟨rfl, b1⟩; obtain ⟨x1, -, x3⟩ := HC.out w1 b1; have H1 := hide (And.intro b1 x3); clear b1 x3; dsimp only)
      | (go_at_call 110; refine (HL.out w1 H1.out.2).mono ?_; rintro e w2 ⟨rfl, b2⟩; obtain ⟨y1, y2, HY⟩ := HBAD.out w2 (H1.out.1.trans (b2.mono H1.out.1.size)); clear b2; dsimp only))
    refine ret_row_tmp (w.heap.size + 1 + 1) [.pointer none] rfl rfl rfl Tryz.underlying27 rfl T27 HY.out.1 rfl ?_
    exact HFL.out w2 HK.out HY.out
  | true =>
    cases TX with
    | false =>
      have hko : OK = false := by rw [hok]; rfl
      have HK := hide hko
      clear hok hless hko
      go_enter Tryz.func42, Tryz.ntmps42
      go_upto_region 1 with fail
      rw [← HW0.out]
      go_wp2_with (first
        | (go_at_call 107; refine hkey.mono ?_; rintro e w1 ⟨rfl, b1⟩; obtain ⟨x1, -, x3⟩ := HC.out w1 b1; have H1 := hide (And.intro b1 x3); clear b1 x3; dsimp only)
        | (go_at_call 110; refine (HL.out w1 H1.out.2).mono ?_; rintro e w2 ⟨rfl, b2⟩; obtain ⟨y1, y2, HY⟩ := HBAD.out w2 (H1.out.1.trans (b2.mono H1.out.1.size)); clear b2; dsimp only)
        | (go_at_call 108; refine (htx _).mono ?_; rintro e w3 ⟨rfl, hw3⟩; replace hw3 := hw3.symm; subst hw3; dsimp only))
      refine ret_row_tmp (w.heap.size + 1 + 1) [.pointer none] rfl rfl rfl Tryz.underlying27 rfl T27 HY.out.1 rfl ?_
      exact HFL.out w2 HK.out HY.out
    | true =>
      cases LE with
      | false =>
        have hko : OK = false := by rw [hok]; rfl
        have HK := hide hko
        clear hok hko
        go_enter Tryz.func42, Tryz.ntmps42
        go_upto_region 1 with fail
        rw [← HW0.out]
        go_wp2_with (first
          | (go_at_call 107; refine hkey.mono ?_; rintro e w1 ⟨rfl, b1⟩; obtain ⟨x1, -, x3⟩ := HC.out w1 b1; have H1 := hide (And.intro b1 x3); clear b1 x3; dsimp only)
          | (go_at_call 110; refine (HL.out w1 H1.out.2).mono ?_; rintro e w2 ⟨rfl, b2⟩; obtain ⟨y1, y2, HY⟩ := HBAD.out w2 (H1.out.1.trans (b2.mono H1.out.1.size)); clear b2; dsimp only)
          | (go_at_call 108; refine (htx _).mono ?_; rintro e w3 ⟨rfl, hw3⟩; replace hw3 := hw3.symm; subst hw3; dsimp only))
        refine ret_row_tmp (w.heap.size + 1 + 1) [.pointer none] rfl rfl rfl Tryz.underlying27 rfl T27 HY.out.1 rfl ?_
        exact HFL.out w2 HK.out HY.out
      | true =>
        cases M with
        | false =>
          have hko : OK = false := by rw [hok]; rfl
          have HK := hide hko
          clear hok hko
          go_enter Tryz.func42, Tryz.ntmps42
          go_upto_region 1 with fail
          rw [← HW0.out]
          go_wp2_with (first
            | (go_at_call 107; refine hkey.mono ?_; rintro e w1 ⟨rfl, b1⟩; obtain ⟨x1, -, x3⟩ := HC.out w1 b1; have H1 := hide (And.intro b1 x3); clear b1 x3; dsimp only)
            | (go_at_call 110; refine (HL.out w1 H1.out.2).mono ?_; rintro e w2 ⟨rfl, b2⟩; obtain ⟨v1, -, v3⟩ := HC.out w2 (H1.out.1.trans (b2.mono H1.out.1.size)); have H2 := hide (And.intro (H1.out.1.trans (b2.mono H1.out.1.size)) v3); clear b2 v3; dsimp only)
            | (go_at_call 108; refine (htx _).mono ?_; rintro e w3 ⟨rfl, hw3⟩; replace hw3 := hw3.symm; subst hw3; dsimp only)
            | (go_at_call 46; refine (HMY.out w2 H2.out.2).mono ?_; rintro e w4 ⟨rfl, b4⟩; obtain ⟨y1, y2, HY⟩ := HBAD.out w4 (H2.out.1.trans (b4.mono H2.out.1.size)); clear b4; dsimp only))
          refine ret_row_tmp (w.heap.size + 1 + 1) [.pointer none] rfl rfl rfl Tryz.underlying27 rfl T27 HY.out.1 rfl ?_
          exact HFL.out w4 HK.out HY.out
        | true =>
          have hko : OK = true := by rw [hok]; rfl
          have HK := hide hko
          clear hok hko
          go_enter Tryz.func42, Tryz.ntmps42
          go_upto_region 1 with fail
          rw [← HW0.out]
          go_wp2_with (first
            | (go_at_call 107; refine hkey.mono ?_; rintro e w1 ⟨rfl, b1⟩; obtain ⟨x1, -, x3⟩ := HC.out w1 b1; have H1 := hide (And.intro b1 x3); clear b1 x3; dsimp only)
            | (go_at_call 110; refine (HL.out w1 H1.out.2).mono ?_; rintro e w2 ⟨rfl, b2⟩; obtain ⟨v1, -, v3⟩ := HC.out w2 (H1.out.1.trans (b2.mono H1.out.1.size)); have H2 := hide (And.intro (H1.out.1.trans (b2.mono H1.out.1.size)) v3); clear b2 v3; dsimp only)
            | (go_at_call 108; refine (htx _).mono ?_; rintro e w3 ⟨rfl, hw3⟩; replace hw3 := hw3.symm; subst hw3; dsimp only)
            | (go_at_call 46; refine (HMY.out w2 H2.out.2).mono ?_; rintro e w4 ⟨rfl, b4⟩; have H4 := hide (H2.out.1.trans (b4.mono H2.out.1.size)); clear b4; dsimp only)
            | (go_at_call 21; refine (HP.out w4).mono ?_; rintro e w5 ⟨t', rfl, i5, l5, b5⟩; obtain ⟨pt, hpt⟩ := t'.ptr_shape; have H5 := hide (And.intro hpt (And.intro i5 (And.intro l5 (H4.out.trans (b5.mono H4.out.size))))); unfold Pm.mv; rw [hpt]; obtain ⟨y1, y2, -⟩ := HBAD.out w5 (H4.out.trans (b5.mono H4.out.size)); clear b5 i5 l5 hpt; dsimp only))
          obtain ⟨hpt, i5, ⟨l5, bl5, n5⟩, b5⟩ := H5.out
          obtain ⟨-, q2, q3⟩ := HC.out w5 b5
          obtain ⟨u, o⟩ := set_one (i := 0) (.pointer pt) q2
          refine ret_row_tmp (w.heap.size + 1 + 1) [.pointer pt] rfl rfl rfl Tryz.underlying27 rfl T27 (by simpa using u) rfl ?_
          have it := Pm.In.aside q2 o i5
          refine ⟨t', ?_, ⟨it, ?_, bl5, by omega, ?_⟩, ?_, Below.only q3 o q3.size (fun j e => by have e' : j = w.heap.size + 1 + 1 := e; omega)⟩
          · unfold Pm.mv; rw [hpt, HEC.out, HK.out]; rfl
          · rw [l5]; exact List.pairwise_singleton _ _
          · rw [l5]
            intro y hy
            rw [List.mem_singleton] at hy
            rw [hy]
            rcases HH.out.2 with h1 | h1
            · exact h1
            · rw [← HV.out] at h1; cases h1
          · show t'.list = PL
            rw [l5, HPL.out, HK.out]; rfl
end Go.Proofs.YtkeldhohilmdcaaGreat
