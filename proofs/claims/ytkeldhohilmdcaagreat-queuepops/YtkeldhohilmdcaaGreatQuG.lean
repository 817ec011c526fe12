/-
  queue: Push (66).
  queue: First (73).
  queue: Pop (65).
  queue: Drop (74).
-/
import Derived.Test.YtkeldhohilmdcaaGreatQuD
import Derived.Test.YtkeldhohilmdcaaGreatRegM
import Derived.Test.YtkeldhohilmdcaaGreatPEnv
namespace Go.Proofs.YtkeldhohilmdcaaGreat.Qu
open Go.RowKit Go.Shelf
set_option linter.unusedSimpArgs false
attribute [local go_sem] Oper.semAt_some

theorem ins_all {k v : ByteArray} : ∀ {l : List (ByteArray × ByteArray)}, (∀ y ∈ l, Pm.cmpB y.1 k = -1) → Pm.ins k v l = l ++ [(k, v)]
  | [], _ => rfl
  | x :: l, h => by rw [Pm.ins_lessP (h x (by simp)), ins_all (fun y hy => h y (by simp [hy]))]; rfl
theorem ins_end {k v : ByteArray} {l : List (ByteArray × ByteArray)} (hs : Pm.Srt l) (h : Pm.cmpB ((l.getLast?.map Prod.fst).getD ⟨#[]⟩) k = -1) : Pm.ins k v l = l ++ [(k, v)] := by
  refine ins_all (fun y hy => ?_)
  cases hl : l.getLast? with
  | none => rw [List.getLast?_eq_none_iff.1 hl] at hy; cases hy
  | some z =>
    rw [hl] at h
    have hz : Pm.cmpB z.1 k = -1 := h
    obtain ⟨ys, rfl⟩ := List.getLast?_eq_some_iff.1 hl
    rcases List.mem_append.1 hy with h1 | h1
    · exact Pm.ord_B.trans _ _ _ ((List.pairwise_append.1 hs).2.2 y h1 z (by simp)) hz
    · rw [List.mem_singleton.1 h1]; exact hz
set_option maxHeartbeats 4000000 in
set_option maxRecDepth 100000 in
theorem qPush_any (t : Pm.T) (s : St) (x : ByteArray) (w : World) (h : Mg w t) (hn4 : t.n < 400) :
    Calls Tryz.prog 66 #[Pm.mv t, svT s, .string x] w (MapE w (if okWr t.list s x then 0 else 2) (fun t' => t'.list = if okWr t.list s x then t.list ++ [(keyT s, x)] else [])) := by
  obtain ⟨a, ha⟩ := t.ptr_shape
  obtain ⟨g, r, l, n, i⟩ := s
  obtain ⟨w0, hw0⟩ : ∃ w0, w0 = ((w.alloc (.cells #[.pointer a] 27)).alloc (.cells #[.int .i64 g, .int .i64 r, .string l, .int .i64 n, .int .i64 i] 43)).alloc (.cells #[.pointer none] 27) := ⟨_, rfl⟩
  obtain ⟨m0, m1, m2, b0⟩ := new4r w _ _ _ w0 hw0
  have hkey := keyT_any (g, r, l, n, i) w0
  have hlast : ∀ W, Below w.heap.size w W → Calls Tryz.prog 110 #[.agg #[.pointer a]] W fun e w' => e = .returned (.tuple #[.string t.last.key, .string t.last.val, .bool t.last.isSome]) ∧ Below W.heap.size W w' := fun W hW => by
    have := Pm.mLast_any t W (Pm.In.below hW h.inn)
    unfold Pm.mv at this
    rw [ha] at this
    exact this
  have hmay : ∀ W, Below w.heap.size w W → Calls Tryz.prog 70 #[.agg #[.pointer a]] W fun e w' => e = .returned (.bool (mayL t.list)) ∧ Below W.heap.size W w' := fun W hW => by
    have := rMay_any t W (h.below hW).inn (h.below hW).srt (h.below hW).key
    unfold Pm.mv at this
    rw [ha] at this
    exact this
  have htx := fun W => mayText_any x W
  have hput : ∀ W, Below w.heap.size w W → Calls Tryz.prog 21 #[.agg #[.pointer a], .string (keyT (g, r, l, n, i)), .string x] W fun e w' => ∃ t', e = .returned (Pm.mv t') ∧ Pm.In w' t' ∧ (Pm.Puts W.heap.size (keyT (g, r, l, n, i)) x t t' ∧ Mg W t) ∧ Below W.heap.size W w' := fun W hW => by
    have := Pm.mPut_any t (keyT (g, r, l, n, i)) x W (h.below hW).inn (by omega)
    unfold Pm.mv at this
    rw [ha] at this
    exact this.mono (fun e w' hh => by
      obtain ⟨t', h1, h2, h3, h4⟩ := hh
      exact ⟨t', h1, h2, ⟨h3, h.below hW⟩, h4⟩)
  have hksz : (keyT (g, r, l, n, i)).size ≤ 9223372036854775807 ∨ stV (g, r, l, n, i) = false := by
    by_cases hv : stV (g, r, l, n, i) = true
    · left
      have := S_bounds hv
      unfold keyT keyS
      simp only [ByteArray.size_append, strOfNums_size, low_length, List.length_singleton]
      have h0 : (ByteArray.mk #[0]).size = 1 := rfl
      dsimp only at this ⊢
      omega
    · right; simpa using hv
  have HC : Hid (∀ W, Below w0.heap.size w0 W → W.cell? ⟨w.heap.size, 0, none⟩ = some (.pointer a) ∧ W.heap[w.heap.size + 1 + 1]? = some (.cells #[.pointer none] 27 (0, 0)) ∧ Below w.heap.size w W) := hide (fun W hW => ⟨cell_stays ((cell_of_row _ _ 0 _ 27 (0, 0) m0).trans rfl) hW, (hW.block _ (Array.getElem?_eq_some_iff.1 m2).1).trans m2, b0.trans (hW.mono b0.size)⟩)
  have HW0 := hide hw0
  have hlk := last_key t
  have bad : ∀ W, Below w0.heap.size w0 W → W.cell? ⟨w.heap.size + 1 + 1, 0, none⟩ = some (.pointer none) ∧ W.frozen? ⟨w.heap.size + 1 + 1, 0, none⟩ = false ∧ Hid ((W.setCell ⟨w.heap.size + 1 + 1, 0, none⟩ (.pointer none)).heap[w.heap.size + 1 + 1]? = some (.cells #[.pointer none] 27 (0, 0)) ∧ Below w.heap.size w (W.setCell ⟨w.heap.size + 1 + 1, 0, none⟩ (.pointer none))) := fun W hW => by
    obtain ⟨-, q2, q3⟩ := HC.out W hW
    obtain ⟨u, o⟩ := set_one (i := 0) (.pointer none) q2
    exact ⟨(cell_of_row _ _ 0 _ 27 (0, 0) q2).trans rfl, frozen_of_row _ _ 0 _ 27 q2, hide ⟨by simpa using u, Below.only q3 o q3.size (fun j e => by have e' : j = w.heap.size + 1 + 1 := e; omega)⟩⟩
  have HBAD := hide bad
  have HH := hide (And.intro h (And.intro hksz hn4))
  have c1 : w0.cell? ⟨w.heap.size + 1, 0, none⟩ = some (.int .i64 g) ∧ w0.cell? ⟨w.heap.size + 1, 1, none⟩ = some (.int .i64 r) ∧ w0.cell? ⟨w.heap.size + 1, 2, none⟩ = some (.string l) ∧ w0.cell? ⟨w.heap.size + 1, 3, none⟩ = some (.int .i64 n) ∧ w0.cell? ⟨w.heap.size + 1, 4, none⟩ = some (.int .i64 i) := ⟨(cell_of_row _ _ 0 _ 43 (0, 0) m1).trans rfl, (cell_of_row _ _ 1 _ 43 (0, 0) m1).trans rfl, (cell_of_row _ _ 2 _ 43 (0, 0) m1).trans rfl, (cell_of_row _ _ 3 _ 43 (0, 0) m1).trans rfl, (cell_of_row _ _ 4 _ 43 (0, 0) m1).trans rfl⟩
  dsimp only [svT] at hkey ⊢
  unfold Pm.mv
  rw [ha]
  clear h hn4 ha m0 m1 m2 b0 bad hksz hw0
  have hok : okWr t.list (g, r, l, n, i) x = (stV (g, r, l, n, i) && txtB x && decide (Pm.cmpB t.last.key (keyT (g, r, l, n, i)) = -1) && mayL t.list) := by rw [okWr, hlk]
  obtain ⟨OK, hOK⟩ : ∃ OK, OK = okWr t.list (g, r, l, n, i) x := ⟨_, rfl⟩
  rw [← hOK] at hok ⊢
  obtain ⟨EC, hEC⟩ : ∃ EC : Int, EC = if OK = true then 0 else 2 := ⟨_, rfl⟩
  obtain ⟨PL, hPL⟩ : ∃ PL : List Kv, PL = if OK = true then t.list ++ [(keyT (g, r, l, n, i), x)] else [] := ⟨_, rfl⟩
  rw [← hEC, ← hPL]
  have HEC := hide hEC
  have hless := leq_B (keyT (g, r, l, n, i)) t.last.key
  obtain ⟨V, hV⟩ : ∃ V, V = stV (g, r, l, n, i) := ⟨_, rfl⟩
  rw [← hV] at hok hkey
  have HV := hide hV
  have HLK := hide hlk
  clear hV hOK hlk
  generalize hKK : keyT (g, r, l, n, i) = K at *
  generalize mayL t.list = M at *
  generalize txtB x = TX at *
  generalize t.last.key = LK at *
  generalize t.last.val = LV at *
  generalize t.last.isSome = LS at *
  obtain ⟨LE, hLE⟩ : ∃ LE, LE = decide (Pm.cmpB LK K = -1) := ⟨_, rfl⟩
  rw [← hLE] at hok hless
  have HKK := hide hKK
  have HLE := hide hLE
  have HPL := hide hPL
  clear hLE hKK hPL hEC
  have HL := hide hlast
  have HMY := hide hmay
  have HP := hide hput
  obtain ⟨d0, d1, d2, d3, d4⟩ := c1
  have fail_ : ∀ (W : World), OK = false → (W.setCell ⟨w.heap.size + 1 + 1, 0, none⟩ (.pointer none)).heap[w.heap.size + 1 + 1]? = some (.cells #[.pointer none] 27 (0, 0)) ∧ Below w.heap.size w (W.setCell ⟨w.heap.size + 1 + 1, 0, none⟩ (.pointer none)) → MapE w EC (fun t' => t'.list = PL) (.returned (.tuple #[.agg #[.pointer none], .int .i64 2])) (W.setCell ⟨w.heap.size + 1 + 1, 0, none⟩ (.pointer none)) := fun W ho hh => by
    refine ⟨.nil, ?_, Mg.nil _, ?_, hh.2⟩
    · rw [HEC.out, ho]; rfl
    · rw [HPL.out, ho]; rfl
  have HFL := hide fail_
  clear hlast hmay hput fail_
  cases V with
  | false =>
    have hko : OK = false := by rw [hok]; rfl
    have HK := hide hko
    clear hok hless hko
    go_enter Tryz.func66, Tryz.ntmps66
    go_upto_region 1 with fail
    rw [← HW0.out]
    go_wp2_with (first
      | (go_at_call 107; refine hkey.mono ?_; rintro e w1 ⟨rfl, b1⟩; obtain ⟨x1, -, x3⟩ := HC.out w1 b1; have H1 := hide (And.intro b1 x3); clear b1 x3; dsimp only)
      | (go_at_call 110; refine (HL.out w1 H1.out.2).mono ?_; rintro e w2 ⟨rfl, b2⟩; obtain ⟨y1, y2, HY⟩ := HBAD.out w2 (H1.out.1.trans (b2.mono H1.out.1.size)); clear b2; dsimp only))
    refine ret_row_tmp (w.heap.size + 1 + 1) [.pointer none] rfl rfl rfl Tryz.underlying27 rfl T27 HY.out.1 rfl ?_
    exact HFL.out w2 HK.out HY.out
  | true =>
    cases TX with
    | false =>
      have hko : OK = false := by rw [hok]; rfl
      have HK := hide hko
      clear hok hless hko
      go_enter Tryz.func66, Tryz.ntmps66
      go_upto_region 1 with fail
      rw [← HW0.out]
      go_wp2_with (first
        | (go_at_call 107; refine hkey.mono ?_; rintro e w1 ⟨rfl, b1⟩; obtain ⟨x1, -, x3⟩ := HC.out w1 b1; have H1 := hide (And.intro b1 x3); clear b1 x3; dsimp only)
        | (go_at_call 110; refine (HL.out w1 H1.out.2).mono ?_; rintro e w2 ⟨rfl, b2⟩; obtain ⟨y1, y2, HY⟩ := HBAD.out w2 (H1.out.1.trans (b2.mono H1.out.1.size)); clear b2; dsimp only)
        | (go_at_call 120; refine (htx _).mono ?_; rintro e w3 ⟨rfl, hw3⟩; replace hw3 := hw3.symm; subst hw3; dsimp only))
      refine ret_row_tmp (w.heap.size + 1 + 1) [.pointer none] rfl rfl rfl Tryz.underlying27 rfl T27 HY.out.1 rfl ?_
      exact HFL.out w2 HK.out HY.out
    | true =>
      cases LE with
      | false =>
        have hko : OK = false := by rw [hok]; rfl
        have HK := hide hko
        clear hok hko
        go_enter Tryz.func66, Tryz.ntmps66
        go_upto_region 1 with fail
        rw [← HW0.out]
        go_wp2_with (first
          | (go_at_call 107; refine hkey.mono ?_; rintro e w1 ⟨rfl, b1⟩; obtain ⟨x1, -, x3⟩ := HC.out w1 b1; have H1 := hide (And.intro b1 x3); clear b1 x3; dsimp only)
          | (go_at_call 110; refine (HL.out w1 H1.out.2).mono ?_; rintro e w2 ⟨rfl, b2⟩; obtain ⟨y1, y2, HY⟩ := HBAD.out w2 (H1.out.1.trans (b2.mono H1.out.1.size)); clear b2; dsimp only)
          | (go_at_call 120; refine (htx _).mono ?_; rintro e w3 ⟨rfl, hw3⟩; replace hw3 := hw3.symm; subst hw3; dsimp only))
        refine ret_row_tmp (w.heap.size + 1 + 1) [.pointer none] rfl rfl rfl Tryz.underlying27 rfl T27 HY.out.1 rfl ?_
        exact HFL.out w2 HK.out HY.out
      | true =>
        cases M with
        | false =>
          have hko : OK = false := by rw [hok]; rfl
          have HK := hide hko
          clear hok hko
          go_enter Tryz.func66, Tryz.ntmps66
          go_upto_region 1 with fail
          rw [← HW0.out]
          go_wp2_with (first
            | (go_at_call 107; refine hkey.mono ?_; rintro e w1 ⟨rfl, b1⟩; obtain ⟨x1, -, x3⟩ := HC.out w1 b1; have H1 := hide (And.intro b1 x3); clear b1 x3; dsimp only)
            | (go_at_call 110; refine (HL.out w1 H1.out.2).mono ?_; rintro e w2 ⟨rfl, b2⟩; obtain ⟨v1, -, v3⟩ := HC.out w2 (H1.out.1.trans (b2.mono H1.out.1.size)); have H2 := hide (And.intro (H1.out.1.trans (b2.mono H1.out.1.size)) v3); clear b2 v3; dsimp only)
            | (go_at_call 120; refine (htx _).mono ?_; rintro e w3 ⟨rfl, hw3⟩; replace hw3 := hw3.symm; subst hw3; dsimp only)
            | (go_at_call 70; refine (HMY.out w2 H2.out.2).mono ?_; rintro e w4 ⟨rfl, b4⟩; obtain ⟨y1, y2, HY⟩ := HBAD.out w4 (H2.out.1.trans (b4.mono H2.out.1.size)); clear b4; dsimp only))
          refine ret_row_tmp (w.heap.size + 1 + 1) [.pointer none] rfl rfl rfl Tryz.underlying27 rfl T27 HY.out.1 rfl ?_
          exact HFL.out w4 HK.out HY.out
        | true =>
          have hko : OK = true := by rw [hok]; rfl
          have HK := hide hko
          clear hok hko
          go_enter Tryz.func66, Tryz.ntmps66
          go_upto_region 1 with fail
          rw [← HW0.out]
          go_wp2_with (first
            | (go_at_call 107; refine hkey.mono ?_; rintro e w1 ⟨rfl, b1⟩; obtain ⟨x1, -, x3⟩ := HC.out w1 b1; have H1 := hide (And.intro b1 x3); clear b1 x3; dsimp only)
            | (go_at_call 110; refine (HL.out w1 H1.out.2).mono ?_; rintro e w2 ⟨rfl, b2⟩; obtain ⟨v1, -, v3⟩ := HC.out w2 (H1.out.1.trans (b2.mono H1.out.1.size)); have H2 := hide (And.intro (H1.out.1.trans (b2.mono H1.out.1.size)) v3); clear b2 v3; dsimp only)
            | (go_at_call 120; refine (htx _).mono ?_; rintro e w3 ⟨rfl, hw3⟩; replace hw3 := hw3.symm; subst hw3; dsimp only)
            | (go_at_call 70; refine (HMY.out w2 H2.out.2).mono ?_; rintro e w4 ⟨rfl, b4⟩; have H4 := hide (H2.out.1.trans (b4.mono H2.out.1.size)); have x4 := (HC.out w4 H4.out).1; clear b4; dsimp only)
            | (go_at_call 21; refine (HP.out w4 (HC.out w4 H4.out).2.2).mono ?_; rintro e w5 ⟨t', rfl, i5, l5, b5⟩; obtain ⟨pt, hpt⟩ := t'.ptr_shape; have H5 := hide (And.intro hpt (And.intro i5 (And.intro l5 (H4.out.trans (b5.mono H4.out.size))))); unfold Pm.mv; rw [hpt]; obtain ⟨y1, y2, -⟩ := HBAD.out w5 (H4.out.trans (b5.mono H4.out.size)); clear b5 i5 l5 hpt; dsimp only))
          obtain ⟨hpt, i5, ⟨l5, mg4⟩, b5⟩ := H5.out
          obtain ⟨-, q2, q3⟩ := HC.out w5 b5
          obtain ⟨u, o⟩ := set_one (i := 0) (.pointer pt) q2
          refine ret_row_tmp (w.heap.size + 1 + 1) [.pointer pt] rfl rfl rfl Tryz.underlying27 rfl T27 (by simpa using u) rfl ?_
          have hks : K.size ≤ 9223372036854775807 := by
            rcases HH.out.2.1 with h1 | h1
            · exact h1
            · rw [← HV.out] at h1; cases h1
          have mg5 := mg4.put l5 i5 HH.out.2.2 hks
          refine ⟨t', ?_, mg5.aside q2 o, ?_, Below.only q3 o q3.size (fun j e => by have e' : j = w.heap.size + 1 + 1 := e; omega)⟩
          · unfold Pm.mv; rw [hpt, HEC.out, HK.out]; rfl
          · show t'.list = PL
            rw [l5.list HH.out.1.srt, HPL.out, HK.out]
            show Pm.ins K x t.list = t.list ++ [(K, x)]
            refine ins_end HH.out.1.srt ?_
            rw [← HLK.out]
            exact of_decide_eq_true HLE.out.symm
end Go.Proofs.YtkeldhohilmdcaaGreat.Qu
namespace Go.Proofs.YtkeldhohilmdcaaGreat.Qu
open Go.RowKit Go.Shelf
set_option linter.unusedSimpArgs false
attribute [local go_sem] Oper.semAt_some

def zE : El := ((0, 0, ⟨#[]⟩, 0, 0), ⟨#[]⟩)
/-- The first one, if there is one. -/
def firstE : List El → El × Bool
  | [] => (zE, false)
  | x :: _ => (x, true)
theorem set6 {w : World} {B : Nat} {x0 x1 x2 x3 x4 x5 : Value} {ty : TypeId} (a b c d e f : Value) (h : w.heap[B]? = some (.cells #[x0, x1, x2, x3, x4, x5] ty (0, 0))) : ((((((w.setCell ⟨B, 0, none⟩ a).setCell ⟨B, 1, none⟩ b).setCell ⟨B, 2, none⟩ c).setCell ⟨B, 3, none⟩ d).setCell ⟨B, 4, none⟩ e).setCell ⟨B, 5, none⟩ f).heap[B]? = some (.cells #[a, b, c, d, e, f] ty (0, 0)) ∧ Only (fun j => j = B) w ((((((w.setCell ⟨B, 0, none⟩ a).setCell ⟨B, 1, none⟩ b).setCell ⟨B, 2, none⟩ c).setCell ⟨B, 3, none⟩ d).setCell ⟨B, 4, none⟩ e).setCell ⟨B, 5, none⟩ f) := by
  obtain ⟨h1, o1⟩ := set_one (i := 0) a h
  obtain ⟨h2, o2⟩ := set_one (i := 1) b h1
  obtain ⟨h3, o3⟩ := set_one (i := 2) c h2
  obtain ⟨h4, o4⟩ := set_one (i := 3) d h3
  obtain ⟨h5, o5⟩ := set_one (i := 4) e h4
  obtain ⟨h6, o6⟩ := set_one (i := 5) f h5
  exact ⟨by simpa using h6, ((((o1.next o2).next o3).next o4).next o5).next o6⟩
theorem exec_st53 {ev' : Operand → Value} {x y : Operand} {T : TypeId} {w : World} {B : Nat} {z0 z1 z2 z3 z4 z5 : Value} {g r : Int} {lb : ByteArray} {n ix : Int} {X : ByteArray} (hx : ev' x = .pointer (some ⟨B, 0, none⟩)) (hy : ev' y = ev ((g, r, lb, n, ix), X)) (h : w.heap[B]? = some (.cells #[z0, z1, z2, z3, z4, z5] 53 (0, 0))) : (execOp ev' { dst := none, op := .store 53 x y, type := T, pos := "", after := #[], guard := none }).run Tryz.prog w = .ok .skip ((((((w.setCell ⟨B, 0, none⟩ (.int .i64 g)).setCell ⟨B, 1, none⟩ (.int .i64 r)).setCell ⟨B, 2, none⟩ (.string lb)).setCell ⟨B, 3, none⟩ (.int .i64 n)).setCell ⟨B, 4, none⟩ (.int .i64 ix)).setCell ⟨B, 5, none⟩ (.string X)) := by
  have c0 : w.cell? ⟨B, 0, none⟩ = some z0 := (cell_of_row _ _ 0 _ 53 (0, 0) h).trans rfl
  have c1 : w.cell? ⟨B, 1, none⟩ = some z1 := (cell_of_row _ _ 1 _ 53 (0, 0) h).trans rfl
  have c2 : w.cell? ⟨B, 2, none⟩ = some z2 := (cell_of_row _ _ 2 _ 53 (0, 0) h).trans rfl
  have c3 : w.cell? ⟨B, 3, none⟩ = some z3 := (cell_of_row _ _ 3 _ 53 (0, 0) h).trans rfl
  have c4 : w.cell? ⟨B, 4, none⟩ = some z4 := (cell_of_row _ _ 4 _ 53 (0, 0) h).trans rfl
  have c5 : w.cell? ⟨B, 5, none⟩ = some z5 := (cell_of_row _ _ 5 _ 53 (0, 0) h).trans rfl
  have f0 := frozen_of_row w B 0 _ 53 h
  have f1 := frozen_of_row w B 1 _ 53 h
  have f2 := frozen_of_row w B 2 _ 53 h
  have f3 := frozen_of_row w B 3 _ 53 h
  have f4 := frozen_of_row w B 4 _ 53 h
  have f5 := frozen_of_row w B 5 _ 53 h
  unfold execOp
  simp only [hx, hy, ev]
  go_simp
theorem leave_row_tmp {fn : Func} {tmps : Array Value} {p q : Tmp} {ty : TypeId} (b : Nat) (cs : List Value) {R : Ending → World → Prop} {w : World} (h : fn.results = #[.cell p ty, .tmp q]) (hp : tmps.getD p undef = .pointer (some ⟨b, 0, none⟩)) {v : Value} (hq : tmps.getD q undef = v)
    {d : TypeDesc} (hu : Tryz.prog.underlying ty = some d) (hd : d.isRow = true) (hi : (Tryz.prog.info? ty).map (·.size) = some cs.length) {t : TypeId} {fr : Nat × Nat} (hc : w.heap[b]? = some (.cells cs.toArray t fr))
    (hR : R (.returned (.tuple #[.agg cs.toArray, v])) w) : LeavesInM Fence.wide 6 Tryz.prog fn tmps R [] .returning w := by
  refine leave_none (v := .tuple #[.agg cs.toArray, v]) ?_ hR
  have := run_loadVar_mid (P := Tryz.prog) w b 0 ty cs _ (fun j v hv => by rw [cell_of_row w b (0 + j) cs.toArray t fr hc, Nat.zero_add]; simpa using hv) hu hd hi
  have hp' : tmps[p]?.getD undef = .pointer (some ⟨b, 0, none⟩) := by simpa using hp
  have hq' : tmps[q]?.getD undef = v := by simpa using hq
  simp [results, h, hp', hq', asAddr, Sem.run_bind, Result.andThen, this]
theorem T53 : (Tryz.prog.info? 53).map (·.size) = some 6 := by kernel_rfl
set_option maxHeartbeats 8000000 in
set_option maxRecDepth 100000 in
theorem qFirst_any (t : Pm.T) (w : World) (h : Mg w t) : Calls Tryz.prog 73 #[Pm.mv t] w fun e w' => e = .returned (.tuple #[ev (firstE (elsL t.list)).1, .bool (firstE (elsL t.list)).2]) ∧ Below w.heap.size w w' := by
  have mixed : Tryz.prog.follows .mixedOrders = true := by kernel_rfl
  obtain ⟨xs, hxs⟩ : ∃ xs, xs = elsL t.list := ⟨_, rfl⟩
  rw [← hxs]
  obtain ⟨a, ha⟩ := t.ptr_shape
  obtain ⟨w1, hw1⟩ : ∃ w1, w1 = (((w.alloc (.cells #[.pointer a] 27)).alloc (.cells #[.int .i64 0, .int .i64 0, .string ⟨#[]⟩, .int .i64 0, .int .i64 0, .string ⟨#[]⟩] 53)).alloc (.cells #[.int .i64 0, .int .i64 0, .string ⟨#[]⟩, .int .i64 0, .int .i64 0, .string ⟨#[]⟩] 53)).alloc (.cells #[.bool false] 4) := ⟨_, rfl⟩
  have hn := Pm.new4 w (.cells #[.pointer a] 27) (.cells #[.int .i64 0, .int .i64 0, .string ⟨#[]⟩, .int .i64 0, .int .i64 0, .string ⟨#[]⟩] 53) (.cells #[.int .i64 0, .int .i64 0, .string ⟨#[]⟩, .int .i64 0, .int .i64 0, .string ⟨#[]⟩] 53) (.cells #[.bool false] 4)
  rw [← hw1] at hn
  obtain ⟨m0, m1, m2, m3, b1⟩ := hn
  have s1 : w1.heap.size = w.heap.size + 4 := by rw [hw1]; simp
  obtain ⟨wA, hwA⟩ : ∃ wA, wA = w1.alloc (.cells #[t.ptr] 27) := ⟨_, rfl⟩
  have hAll := rAll_any t w1
  rw [← hwA] at hAll
  have sA : wA.heap.size = w.heap.size + 5 := by rw [hwA]; simp [s1]
  have bA : Below w1.heap.size w1 wA := by rw [hwA]; exact (Below.refl _ w1).alloc (Nat.le_refl _) _
  have bWA : Below w.heap.size w wA := b1.trans (bA.mono b1.size)
  have cL : wA.cell? ⟨w1.heap.size, 0, none⟩ = some t.ptr := by rw [hwA]; exact (cell_of_row _ _ 0 _ 27 (0, 0) (heap_alloc_new w1 _)).trans rfl
  have hit := iterAll t w1.heap.size wA (Pm.In.below bWA h.inn) h.srt h.key cL
  rw [← hxs] at hit
  obtain ⟨Mb, hMb⟩ : ∃ q, q = w.heap.size := ⟨_, rfl⟩
  obtain ⟨Rb, hRb⟩ : ∃ q, q = w.heap.size + 1 := ⟨_, rfl⟩
  obtain ⟨Fb, hFb⟩ : ∃ q, q = w.heap.size + 1 + 1 := ⟨_, rfl⟩
  obtain ⟨Hb, hHb⟩ : ∃ q, q = w.heap.size + 1 + 1 + 1 := ⟨_, rfl⟩
  have HZ : Hid (Mb = w.heap.size ∧ Rb = w.heap.size + 1 ∧ Fb = w.heap.size + 2 ∧ Hb = w.heap.size + 3 ∧ w1.heap.size = w.heap.size + 4 ∧ wA.heap.size = w.heap.size + 5) := hide ⟨hMb, hRb, hFb, hHb, s1, sA⟩
  rw [← hRb] at m1
  rw [← hFb] at m2
  rw [← hHb] at m3
  have m1A := (bA.block _ (Array.getElem?_eq_some_iff.1 m1).1).trans m1
  have m2A := (bA.block _ (Array.getElem?_eq_some_iff.1 m2).1).trans m2
  have m3A := (bA.block _ (Array.getElem?_eq_some_iff.1 m3).1).trans m3
  have hKlt : ∀ j, KA t w1.heap.size j → j < wA.heap.size ∧ j ≠ Fb ∧ j ≠ Hb := fun j hj => by
    rcases hj with rfl | hj
    · omega
    · have := h.inn.blk_lt hj; omega
  have c0 : w1.cell? ⟨w.heap.size, 0, none⟩ = some (.pointer a) := (cell_of_row _ _ 0 _ 27 (0, 0) m0).trans rfl
  have hne : (Fb ≠ Rb) ∧ (Hb ≠ Rb) := by omega
  -- what an end leaves
  have fin : ∀ (bb : Bool) (W W' : World) (y : El), W.heap[wA.heap.size]? = some (.deferred (some [])) → Below w.heap.size w W → W.heap[Rb]? = some (.cells #[.int .i64 0, .int .i64 0, .string ⟨#[]⟩, .int .i64 0, .int .i64 0, .string ⟨#[]⟩] 53 (0, 0)) → True → True → firstE xs = (y, bb) → True := fun _ _ _ _ _ _ _ _ _ _ => trivial
  clear fin
  have FIN : Hid (∀ (bb : Bool) (W : World) (W' : World) (y : El), W.heap[wA.heap.size]? = some (.deferred (some [])) → Below w.heap.size w W → W'.heap[Rb]? = some (.cells (encE y).toArray 53 (0, 0)) → Only (fun j => j = Rb) W W' → firstE xs = (y, bb) → ∀ tmps : Array Value, tmps.getD 2 undef = .pointer (some ⟨Rb, 0, none⟩) → tmps.getD 3 undef = .bool bb → LeavesInM Fence.wide 6 Tryz.prog Tryz.f73 tmps (fun e w' => e = .returned (.tuple #[ev (firstE xs).1, .bool (firstE xs).2]) ∧ Below w.heap.size w w') ({ target := .collected wA.heap.size, args := #[] } :: []) .returning W') := hide (fun bb W W' y kW bW u6 o6 hyb tmps h2 h3 => by
    have hz := HZ.out
    have o1 := only_putObj W' wA.heap.size (.deferred none)
    have k6 := (o6.block _ (Array.getElem?_eq_some_iff.1 kW).1 (fun e => by have e' : wA.heap.size = Rb := e; omega)).trans kW
    have b6 := Below.only bW o6 bW.size (fun j e => by have e' : j = Rb := e; omega)
    have b7 := Below.only b6 o1 b6.size (fun j e => by have e' : j = wA.heap.size := e; omega)
    have u7 := (o1.block _ (Array.getElem?_eq_some_iff.1 u6).1 (fun e => by have e' : Rb = wA.heap.size := e; omega)).trans u6
    refine leave_mark k6 (leave_row_tmp Rb (encE y) rfl h2 h3 Tryz.underlying53 rfl T53 u7 ?_)
    rw [hyb]
    exact ⟨rfl, b7⟩)
  have HA : Hid (wA.heap[Rb]? = some (.cells #[.int .i64 0, .int .i64 0, .string ⟨#[]⟩, .int .i64 0, .int .i64 0, .string ⟨#[]⟩] 53 (0, 0)) ∧ wA.heap[Fb]? = some (.cells #[.int .i64 0, .int .i64 0, .string ⟨#[]⟩, .int .i64 0, .int .i64 0, .string ⟨#[]⟩] 53 (0, 0)) ∧ wA.heap[Hb]? = some (.cells #[.bool false] 4 (0, 0)) ∧ Below w.heap.size w wA) := hide ⟨m1A, m2A, m3A, bWA⟩
  have HW1 := hide hw1
  have HK := hide hKlt
  have HIT := hide hit
  unfold Pm.mv at hAll ⊢
  rw [ha] at hAll ⊢
  clear m0 m1 m2 m3 b1 s1 sA bA bWA cL hw1 hwA hMb hRb hFb hHb m1A m2A m3A hKlt hit h ha hxs
  refine calls_marks Tryz.func73 rfl ?_
  simp only [Tryz.ntmps73, List.size_toArray, List.length_cons, List.length_nil, Nat.reduceAdd, Nat.reduceSub, Array.replicate_succ, Array.replicate_zero, List.push_toArray, List.append_toArray, List.nil_append, List.cons_append]
  go_wp2
  refine wp_scope_straight ?_
  go_wp2
  refine wp_label ?_
  rw [← HW1.out]
  go_wp2_with (first | (refine wp_label ?_) | (go_at_call 77; refine hAll.mono ?_; rintro e w' ⟨rfl, hw'⟩; obtain rfl : wA = w' := hw'.symm; clear hw'; dsimp only))
  clear hAll c0 HW1
  refine range_ib (Q := _) 126 enters126 _ xs encS _ HIT.out rfl (fun _ _ => rfl) (fun j hj => (HK.out j hj).1) (fun j => j = Fb ∨ j = Hb) (fun j e hj => e.elim (HK.out j hj).2.1 (HK.out j hj).2.2) (fun j e => by have := HZ.out; have e' : j = Fb ∨ j = Hb := e; omega)
    (fun B k W => k = 0 ∧ Only (fun j => wA.heap.size ≤ j) wA W) (fun _ cd W => cd = .exit 0 ∧ ∃ x, xs[0]? = some x ∧ Only (fun j => j = Fb ∨ j = Hb ∨ wA.heap.size ≤ j) wA W ∧ W.heap[Fb]? = some (.cells (encE x).toArray 53 (0, 0)) ∧ W.heap[Hb]? = some (.cells #[.bool true] 4 (0, 0)))
    (fun B k W W' hB hi ho => ⟨hi.1, hi.2.trans ho (fun j _ e => by have e' : wA.heap.size + 1 ≤ j ∧ j < B := e; show wA.heap.size ≤ j; omega)⟩)
    (fun B cd W W' hB hi ho => by
      obtain ⟨h1, x, h2, h3, h4, h5⟩ := hi
      have hz := HZ.out
      exact ⟨h1, x, h2, h3.trans ho (fun j _ e => by have e' : wA.heap.size + 1 ≤ j ∧ j < B := e; show j = Fb ∨ j = Hb ∨ wA.heap.size ≤ j; omega), (ho.block _ (Array.getElem?_eq_some_iff.1 h4).1 (fun e => by have e' : wA.heap.size + 1 ≤ Fb ∧ Fb < B := e; omega)).trans h4, (ho.block _ (Array.getElem?_eq_some_iff.1 h5).1 (fun e => by have e' : wA.heap.size + 1 ≤ Hb ∧ Hb < B := e; omega)).trans h5⟩)
    (fun B W hb hB => ⟨rfl, below_only hb⟩) ?hround ?hdone ?hstop
  case hdone =>
    rintro B W hB ⟨hx0, hi⟩ hlt kW
    have hxn : xs = [] := List.length_eq_zero_iff.1 hx0
    obtain ⟨q1, q2, q3, q4⟩ := HA.out
    have hz := HZ.out
    have rR := (hi.block _ (by omega) (fun e => by have e' : wA.heap.size ≤ Rb := e; omega)).trans q1
    have fF := (hi.block _ (by omega) (fun e => by have e' : wA.heap.size ≤ Fb := e; omega)).trans q2
    have hH := (hi.block _ (by omega) (fun e => by have e' : wA.heap.size ≤ Hb := e; omega)).trans q3
    have bW : Below w.heap.size w W := Below.only q4 hi q4.size (fun j e => by have e' : wA.heap.size ≤ j := e; omega)
    have hyb : firstE xs = (zE, false) := by rw [hxn]; rfl
    clear hi q1 q2 q3 q4 hz hxn hx0 HIT HK HA
    obtain ⟨y, hy⟩ : ∃ y, y = zE := ⟨_, rfl⟩
    obtain ⟨bb, hbb⟩ : ∃ b, b = false := ⟨_, rfl⟩
    obtain ⟨g, r, lb, n, ix, X, hyy⟩ : ∃ g r lb n ix X, y = ((g, r, lb, n, ix), X) := ⟨_, _, _, _, _, _, rfl⟩
    have fF' : W.heap[Fb]? = some (.cells (encE y).toArray 53 (0, 0)) := by rw [hy]; exact fF
    rw [← hy, ← hbb] at hyb
    rw [← hbb] at hH
    clear hy hbb fF
    have fF := fF'
    clear fF'
    subst hyy
    have en1 : w.heap.size + 1 = Rb := by have := HZ.out; omega
    have en2 : Rb + 1 = Fb := by have := HZ.out; omega
    have en3 : Fb + 1 = Hb := by have := HZ.out; omega
    rw [en1, en2, en3]
    clear en1 en2 en3
    go_wp2
    have qd : (W.drew.cell? ⟨Fb, 0, none⟩ = some (.int .i64 g) ∧ W.drew.cell? ⟨Fb, 1, none⟩ = some (.int .i64 r) ∧ W.drew.cell? ⟨Fb, 2, none⟩ = some (.string lb) ∧ W.drew.cell? ⟨Fb, 3, none⟩ = some (.int .i64 n) ∧ W.drew.cell? ⟨Fb, 4, none⟩ = some (.int .i64 ix) ∧ W.drew.cell? ⟨Fb, 5, none⟩ = some (.string X)) ∧ W.drew.cell? ⟨Hb, 0, none⟩ = some (.bool bb) := ⟨⟨(cell_of_row W.drew _ 0 _ 53 (0, 0) fF).trans rfl, (cell_of_row W.drew _ 1 _ 53 (0, 0) fF).trans rfl, (cell_of_row W.drew _ 2 _ 53 (0, 0) fF).trans rfl, (cell_of_row W.drew _ 3 _ 53 (0, 0) fF).trans rfl, (cell_of_row W.drew _ 4 _ 53 (0, 0) fF).trans rfl, (cell_of_row W.drew _ 5 _ 53 (0, 0) fF).trans rfl⟩, (cell_of_row W.drew _ 0 _ 4 (0, 0) hH).trans rfl⟩
    obtain ⟨u6, o6⟩ := set6 (.int .i64 g) (.int .i64 r) (.string lb) (.int .i64 n) (.int .i64 ix) (.string X) (w := W.drew) rR
    have ex6 := fun (ev' : Operand → Value) (x y : Operand) (T : TypeId) (h1 : ev' x = .pointer (some ⟨Rb, 0, none⟩)) (h2 : ev' y = ev ((g, r, lb, n, ix), X)) => exec_st53 (T := T) h1 h2 (w := W.drew) rR
    have hL := FIN.out bb W _ ((g, r, lb, n, ix), X) kW bW u6 ((below_only (drew_below W)).next o6) hyb
    clear rR fF hH kW bW
    refine wp_region_held_drew (S := fun w' => (w'.cell? ⟨Fb, 0, none⟩ = some (.int .i64 g) ∧ w'.cell? ⟨Fb, 1, none⟩ = some (.int .i64 r) ∧ w'.cell? ⟨Fb, 2, none⟩ = some (.string lb) ∧ w'.cell? ⟨Fb, 3, none⟩ = some (.int .i64 n) ∧ w'.cell? ⟨Fb, 4, none⟩ = some (.int .i64 ix) ∧ w'.cell? ⟨Fb, 5, none⟩ = some (.string X)) ∧ w'.cell? ⟨Hb, 0, none⟩ = some (.bool bb)) (by kernel_rfl) qd (fun hHeld => ?_)
    clear qd
    refine take_op (i := 0) (d := 15) (OP := Op.load 53 (Operand.tmp 4)) (T := 53) (v := ?vzf1) rfl rfl rfl rfl (by kernel_rfl) (by kernel_rfl) (by kernel_rfl) (fun _ _ _ h => h) (by rfl) ?hzf1 hHeld ?rzf1
    case hzf1 => (intro w' hSw; (try dsimp only at hSw); go_simp <;> with_reducible rfl)
    try simp only [Act.put, List.setIfInBounds_toArray, List.set_cons_zero, List.set_cons_succ]
    refine take_op (i := 1) (d := 16) (OP := Op.load 4 (Operand.tmp 5)) (T := 4) (v := ?vzf2) rfl rfl rfl rfl (by kernel_rfl) (by kernel_rfl) (by kernel_rfl) (fun _ _ _ h => h) (by rfl) ?hzf2 hHeld ?rzf2
    case hzf2 => (intro w' hSw; (try dsimp only at hSw); go_simp <;> with_reducible rfl)
    try simp only [Act.put, List.setIfInBounds_toArray, List.set_cons_zero, List.set_cons_succ]
    refine skip_op (i := 2) (OP := Op.store 53 (Operand.tmp 2) (Operand.tmp 15)) (T := 0) (w' := ((((((W.drew.setCell ⟨Rb, 0, none⟩ (.int .i64 g)).setCell ⟨Rb, 1, none⟩ (.int .i64 r)).setCell ⟨Rb, 2, none⟩ (.string lb)).setCell ⟨Rb, 3, none⟩ (.int .i64 n)).setCell ⟨Rb, 4, none⟩ (.int .i64 ix)).setCell ⟨Rb, 5, none⟩ (.string X))) rfl rfl rfl rfl (by kernel_rfl) (by rfl) (ex6 _ _ _ _ rfl rfl) ⟨⟨⟨o6.cell hHeld.1.1 hne.1, o6.cell hHeld.1.2.1 hne.1, o6.cell hHeld.1.2.2.1 hne.1, o6.cell hHeld.1.2.2.2.1 hne.1, o6.cell hHeld.1.2.2.2.2.1 hne.1, o6.cell hHeld.1.2.2.2.2.2 hne.1⟩, o6.cell hHeld.2 hne.2⟩, ?_⟩
    try simp only [Act.put, List.setIfInBounds_toArray, List.set_cons_zero, List.set_cons_succ]
    have hS2 : (((((((W.drew.setCell ⟨Rb, 0, none⟩ (.int .i64 g)).setCell ⟨Rb, 1, none⟩ (.int .i64 r)).setCell ⟨Rb, 2, none⟩ (.string lb)).setCell ⟨Rb, 3, none⟩ (.int .i64 n)).setCell ⟨Rb, 4, none⟩ (.int .i64 ix)).setCell ⟨Rb, 5, none⟩ (.string X)).cell? ⟨Fb, 0, none⟩ = some (.int .i64 g) ∧ ((((((W.drew.setCell ⟨Rb, 0, none⟩ (.int .i64 g)).setCell ⟨Rb, 1, none⟩ (.int .i64 r)).setCell ⟨Rb, 2, none⟩ (.string lb)).setCell ⟨Rb, 3, none⟩ (.int .i64 n)).setCell ⟨Rb, 4, none⟩ (.int .i64 ix)).setCell ⟨Rb, 5, none⟩ (.string X)).cell? ⟨Fb, 1, none⟩ = some (.int .i64 r) ∧ ((((((W.drew.setCell ⟨Rb, 0, none⟩ (.int .i64 g)).setCell ⟨Rb, 1, none⟩ (.int .i64 r)).setCell ⟨Rb, 2, none⟩ (.string lb)).setCell ⟨Rb, 3, none⟩ (.int .i64 n)).setCell ⟨Rb, 4, none⟩ (.int .i64 ix)).setCell ⟨Rb, 5, none⟩ (.string X)).cell? ⟨Fb, 2, none⟩ = some (.string lb) ∧ ((((((W.drew.setCell ⟨Rb, 0, none⟩ (.int .i64 g)).setCell ⟨Rb, 1, none⟩ (.int .i64 r)).setCell ⟨Rb, 2, none⟩ (.string lb)).setCell ⟨Rb, 3, none⟩ (.int .i64 n)).setCell ⟨Rb, 4, none⟩ (.int .i64 ix)).setCell ⟨Rb, 5, none⟩ (.string X)).cell? ⟨Fb, 3, none⟩ = some (.int .i64 n) ∧ ((((((W.drew.setCell ⟨Rb, 0, none⟩ (.int .i64 g)).setCell ⟨Rb, 1, none⟩ (.int .i64 r)).setCell ⟨Rb, 2, none⟩ (.string lb)).setCell ⟨Rb, 3, none⟩ (.int .i64 n)).setCell ⟨Rb, 4, none⟩ (.int .i64 ix)).setCell ⟨Rb, 5, none⟩ (.string X)).cell? ⟨Fb, 4, none⟩ = some (.int .i64 ix) ∧ ((((((W.drew.setCell ⟨Rb, 0, none⟩ (.int .i64 g)).setCell ⟨Rb, 1, none⟩ (.int .i64 r)).setCell ⟨Rb, 2, none⟩ (.string lb)).setCell ⟨Rb, 3, none⟩ (.int .i64 n)).setCell ⟨Rb, 4, none⟩ (.int .i64 ix)).setCell ⟨Rb, 5, none⟩ (.string X)).cell? ⟨Fb, 5, none⟩ = some (.string X)) ∧ ((((((W.drew.setCell ⟨Rb, 0, none⟩ (.int .i64 g)).setCell ⟨Rb, 1, none⟩ (.int .i64 r)).setCell ⟨Rb, 2, none⟩ (.string lb)).setCell ⟨Rb, 3, none⟩ (.int .i64 n)).setCell ⟨Rb, 4, none⟩ (.int .i64 ix)).setCell ⟨Rb, 5, none⟩ (.string X)).cell? ⟨Hb, 0, none⟩ = some (.bool bb) := ⟨⟨o6.cell hHeld.1.1 hne.1, o6.cell hHeld.1.2.1 hne.1, o6.cell hHeld.1.2.2.1 hne.1, o6.cell hHeld.1.2.2.2.1 hne.1, o6.cell hHeld.1.2.2.2.2.1 hne.1, o6.cell hHeld.1.2.2.2.2.2 hne.1⟩, o6.cell hHeld.2 hne.2⟩
    refine take_op (i := 3) (d := 3) (OP := Op.assign (Operand.tmp 16)) (T := 4) (v := ?vzf3) rfl rfl rfl rfl (by kernel_rfl) (by kernel_rfl) (by kernel_rfl) (fun _ _ _ h => h) (by rfl) ?hzf3 hS2 ?rzf3
    case hzf3 => (intro w' hSw; (try dsimp only at hSw); go_simp <;> with_reducible rfl)
    try simp only [Act.put, List.setIfInBounds_toArray, List.set_cons_zero, List.set_cons_succ]
    refine wpAnyH_done (by kernel_rfl) ?_ _
    have HLL := hide hL
    clear hL hS2 hHeld u6 o6 ex6
    go_wp2
    refine noGoto_ret ?_
    exact HLL.out _ rfl rfl
  case hstop =>
    rintro B cd W hB ⟨rfl, y, hx0, hi, fF, hH⟩ hlt kW
    obtain ⟨q1, q2, q3, q4⟩ := HA.out
    have hz := HZ.out
    have rR := (hi.block _ (by omega) (fun e => by have e' : Rb = Fb ∨ Rb = Hb ∨ wA.heap.size ≤ Rb := e; omega)).trans q1
    have bW : Below w.heap.size w W := Below.only q4 hi q4.size (fun j e => by have e' : j = Fb ∨ j = Hb ∨ wA.heap.size ≤ j := e; omega)
    obtain ⟨bb, hbb⟩ : ∃ b, b = true := ⟨_, rfl⟩
    have hyb : firstE xs = (y, bb) := by
      rw [hbb]
      cases xs with
      | nil => cases hx0
      | cons z l => simp at hx0; rw [hx0]; rfl
    rw [← hbb] at hH
    obtain ⟨⟨g, r, lb, n, ix⟩, X⟩ := y
    clear hi q1 q2 q3 q4 hz hx0 HIT HK HA hbb
    have en1 : w.heap.size + 1 = Rb := by have := HZ.out; omega
    have en2 : Rb + 1 = Fb := by have := HZ.out; omega
    have en3 : Fb + 1 = Hb := by have := HZ.out; omega
    rw [en1, en2, en3]
    clear en1 en2 en3
    go_wp2
    have qd : (W.drew.cell? ⟨Fb, 0, none⟩ = some (.int .i64 g) ∧ W.drew.cell? ⟨Fb, 1, none⟩ = some (.int .i64 r) ∧ W.drew.cell? ⟨Fb, 2, none⟩ = some (.string lb) ∧ W.drew.cell? ⟨Fb, 3, none⟩ = some (.int .i64 n) ∧ W.drew.cell? ⟨Fb, 4, none⟩ = some (.int .i64 ix) ∧ W.drew.cell? ⟨Fb, 5, none⟩ = some (.string X)) ∧ W.drew.cell? ⟨Hb, 0, none⟩ = some (.bool bb) := ⟨⟨(cell_of_row W.drew _ 0 _ 53 (0, 0) fF).trans rfl, (cell_of_row W.drew _ 1 _ 53 (0, 0) fF).trans rfl, (cell_of_row W.drew _ 2 _ 53 (0, 0) fF).trans rfl, (cell_of_row W.drew _ 3 _ 53 (0, 0) fF).trans rfl, (cell_of_row W.drew _ 4 _ 53 (0, 0) fF).trans rfl, (cell_of_row W.drew _ 5 _ 53 (0, 0) fF).trans rfl⟩, (cell_of_row W.drew _ 0 _ 4 (0, 0) hH).trans rfl⟩
    obtain ⟨u6, o6⟩ := set6 (.int .i64 g) (.int .i64 r) (.string lb) (.int .i64 n) (.int .i64 ix) (.string X) (w := W.drew) rR
    have ex6 := fun (ev' : Operand → Value) (x y : Operand) (T : TypeId) (h1 : ev' x = .pointer (some ⟨Rb, 0, none⟩)) (h2 : ev' y = ev ((g, r, lb, n, ix), X)) => exec_st53 (T := T) h1 h2 (w := W.drew) rR
    have hL := FIN.out bb W _ ((g, r, lb, n, ix), X) kW bW u6 ((below_only (drew_below W)).next o6) hyb
    clear rR fF hH kW bW
    refine wp_region_held_drew (S := fun w' => (w'.cell? ⟨Fb, 0, none⟩ = some (.int .i64 g) ∧ w'.cell? ⟨Fb, 1, none⟩ = some (.int .i64 r) ∧ w'.cell? ⟨Fb, 2, none⟩ = some (.string lb) ∧ w'.cell? ⟨Fb, 3, none⟩ = some (.int .i64 n) ∧ w'.cell? ⟨Fb, 4, none⟩ = some (.int .i64 ix) ∧ w'.cell? ⟨Fb, 5, none⟩ = some (.string X)) ∧ w'.cell? ⟨Hb, 0, none⟩ = some (.bool bb)) (by kernel_rfl) qd (fun hHeld => ?_)
    clear qd
    refine take_op (i := 0) (d := 15) (OP := Op.load 53 (Operand.tmp 4)) (T := 53) (v := ?vzf4) rfl rfl rfl rfl (by kernel_rfl) (by kernel_rfl) (by kernel_rfl) (fun _ _ _ h => h) (by rfl) ?hzf4 hHeld ?rzf4
    case hzf4 => (intro w' hSw; (try dsimp only at hSw); go_simp <;> with_reducible rfl)
    try simp only [Act.put, List.setIfInBounds_toArray, List.set_cons_zero, List.set_cons_succ]
    refine take_op (i := 1) (d := 16) (OP := Op.load 4 (Operand.tmp 5)) (T := 4) (v := ?vzf5) rfl rfl rfl rfl (by kernel_rfl) (by kernel_rfl) (by kernel_rfl) (fun _ _ _ h => h) (by rfl) ?hzf5 hHeld ?rzf5
    case hzf5 => (intro w' hSw; (try dsimp only at hSw); go_simp <;> with_reducible rfl)
    try simp only [Act.put, List.setIfInBounds_toArray, List.set_cons_zero, List.set_cons_succ]
    refine skip_op (i := 2) (OP := Op.store 53 (Operand.tmp 2) (Operand.tmp 15)) (T := 0) (w' := ((((((W.drew.setCell ⟨Rb, 0, none⟩ (.int .i64 g)).setCell ⟨Rb, 1, none⟩ (.int .i64 r)).setCell ⟨Rb, 2, none⟩ (.string lb)).setCell ⟨Rb, 3, none⟩ (.int .i64 n)).setCell ⟨Rb, 4, none⟩ (.int .i64 ix)).setCell ⟨Rb, 5, none⟩ (.string X))) rfl rfl rfl rfl (by kernel_rfl) (by rfl) (ex6 _ _ _ _ rfl rfl) ⟨⟨⟨o6.cell hHeld.1.1 hne.1, o6.cell hHeld.1.2.1 hne.1, o6.cell hHeld.1.2.2.1 hne.1, o6.cell hHeld.1.2.2.2.1 hne.1, o6.cell hHeld.1.2.2.2.2.1 hne.1, o6.cell hHeld.1.2.2.2.2.2 hne.1⟩, o6.cell hHeld.2 hne.2⟩, ?_⟩
    try simp only [Act.put, List.setIfInBounds_toArray, List.set_cons_zero, List.set_cons_succ]
    have hS2 : (((((((W.drew.setCell ⟨Rb, 0, none⟩ (.int .i64 g)).setCell ⟨Rb, 1, none⟩ (.int .i64 r)).setCell ⟨Rb, 2, none⟩ (.string lb)).setCell ⟨Rb, 3, none⟩ (.int .i64 n)).setCell ⟨Rb, 4, none⟩ (.int .i64 ix)).setCell ⟨Rb, 5, none⟩ (.string X)).cell? ⟨Fb, 0, none⟩ = some (.int .i64 g) ∧ ((((((W.drew.setCell ⟨Rb, 0, none⟩ (.int .i64 g)).setCell ⟨Rb, 1, none⟩ (.int .i64 r)).setCell ⟨Rb, 2, none⟩ (.string lb)).setCell ⟨Rb, 3, none⟩ (.int .i64 n)).setCell ⟨Rb, 4, none⟩ (.int .i64 ix)).setCell ⟨Rb, 5, none⟩ (.string X)).cell? ⟨Fb, 1, none⟩ = some (.int .i64 r) ∧ ((((((W.drew.setCell ⟨Rb, 0, none⟩ (.int .i64 g)).setCell ⟨Rb, 1, none⟩ (.int .i64 r)).setCell ⟨Rb, 2, none⟩ (.string lb)).setCell ⟨Rb, 3, none⟩ (.int .i64 n)).setCell ⟨Rb, 4, none⟩ (.int .i64 ix)).setCell ⟨Rb, 5, none⟩ (.string X)).cell? ⟨Fb, 2, none⟩ = some (.string lb) ∧ ((((((W.drew.setCell ⟨Rb, 0, none⟩ (.int .i64 g)).setCell ⟨Rb, 1, none⟩ (.int .i64 r)).setCell ⟨Rb, 2, none⟩ (.string lb)).setCell ⟨Rb, 3, none⟩ (.int .i64 n)).setCell ⟨Rb, 4, none⟩ (.int .i64 ix)).setCell ⟨Rb, 5, none⟩ (.string X)).cell? ⟨Fb, 3, none⟩ = some (.int .i64 n) ∧ ((((((W.drew.setCell ⟨Rb, 0, none⟩ (.int .i64 g)).setCell ⟨Rb, 1, none⟩ (.int .i64 r)).setCell ⟨Rb, 2, none⟩ (.string lb)).setCell ⟨Rb, 3, none⟩ (.int .i64 n)).setCell ⟨Rb, 4, none⟩ (.int .i64 ix)).setCell ⟨Rb, 5, none⟩ (.string X)).cell? ⟨Fb, 4, none⟩ = some (.int .i64 ix) ∧ ((((((W.drew.setCell ⟨Rb, 0, none⟩ (.int .i64 g)).setCell ⟨Rb, 1, none⟩ (.int .i64 r)).setCell ⟨Rb, 2, none⟩ (.string lb)).setCell ⟨Rb, 3, none⟩ (.int .i64 n)).setCell ⟨Rb, 4, none⟩ (.int .i64 ix)).setCell ⟨Rb, 5, none⟩ (.string X)).cell? ⟨Fb, 5, none⟩ = some (.string X)) ∧ ((((((W.drew.setCell ⟨Rb, 0, none⟩ (.int .i64 g)).setCell ⟨Rb, 1, none⟩ (.int .i64 r)).setCell ⟨Rb, 2, none⟩ (.string lb)).setCell ⟨Rb, 3, none⟩ (.int .i64 n)).setCell ⟨Rb, 4, none⟩ (.int .i64 ix)).setCell ⟨Rb, 5, none⟩ (.string X)).cell? ⟨Hb, 0, none⟩ = some (.bool bb) := ⟨⟨o6.cell hHeld.1.1 hne.1, o6.cell hHeld.1.2.1 hne.1, o6.cell hHeld.1.2.2.1 hne.1, o6.cell hHeld.1.2.2.2.1 hne.1, o6.cell hHeld.1.2.2.2.2.1 hne.1, o6.cell hHeld.1.2.2.2.2.2 hne.1⟩, o6.cell hHeld.2 hne.2⟩
    refine take_op (i := 3) (d := 3) (OP := Op.assign (Operand.tmp 16)) (T := 4) (v := ?vzf6) rfl rfl rfl rfl (by kernel_rfl) (by kernel_rfl) (by kernel_rfl) (fun _ _ _ h => h) (by rfl) ?hzf6 hS2 ?rzf6
    case hzf6 => (intro w' hSw; (try dsimp only at hSw); go_simp <;> with_reducible rfl)
    try simp only [Act.put, List.setIfInBounds_toArray, List.set_cons_zero, List.set_cons_succ]
    refine wpAnyH_done (by kernel_rfl) ?_ _
    have HLL := hide hL
    clear hL hS2 hHeld u6 o6 ex6
    go_wp2
    refine noGoto_ret ?_
    exact HLL.out _ rfl rfl
  case hround =>
    rintro B k ⟨s, X⟩ W hB hx ⟨hk0, hi⟩ hSame hsz
    subst hk0
    obtain ⟨g, r, lb, n, ix⟩ := s
    obtain ⟨q1, q2, q3, q4⟩ := HA.out
    have hz := HZ.out
    have fF := (hi.block _ (by omega) (fun e => by have e' : wA.heap.size ≤ Fb := e; omega)).trans q2
    have hH := (hi.block _ (by omega) (fun e => by have e' : wA.heap.size ≤ Hb := e; omega)).trans q3
    clear hz
    dsimp only [encS, svT]
    have en1 : w.heap.size + 1 = Rb := by have := HZ.out; omega
    have en2 : Rb + 1 = Fb := by have := HZ.out; omega
    have en3 : Fb + 1 = Hb := by have := HZ.out; omega
    rw [en1, en2, en3]
    clear en1 en2 en3
    gi_wp2
    have hz := HZ.out
    obtain ⟨W1, hW1⟩ : ∃ W1, W1 = W.alloc (.cells #[.int .i64 g, .int .i64 r, .string lb, .int .i64 n, .int .i64 ix] 43) := ⟨_, rfl⟩
    have r1 := heap_alloc_new W (.cells #[.int .i64 g, .int .i64 r, .string lb, .int .i64 n, .int .i64 ix] 43)
    have b1 : Below W.heap.size W W1 := by rw [hW1]; exact (Below.refl _ W).alloc (Nat.le_refl _) _
    rw [← hW1] at r1 ⊢
    refine ⟨below_only b1, fun W2 ho2 => ?_⟩
    have on2 : Only (fun j => wA.heap.size ≤ j) wA W2 := (hi.next (below_only b1)).trans ho2 (fun j hj e => by have e' : j = wA.heap.size + 1 := e; show wA.heap.size ≤ j; omega)
    have r2 := (ho2.block _ (Array.getElem?_eq_some_iff.1 r1).1 (fun e => by have e' : W.heap.size = wA.heap.size + 1 := e; omega)).trans r1
    have fF2 := (on2.block _ (by omega) (fun e => by have e' : wA.heap.size ≤ Fb := e; omega)).trans q2
    have hH2 := (on2.block _ (by omega) (fun e => by have e' : wA.heap.size ≤ Hb := e; omega)).trans q3
    obtain ⟨Sb, hSb⟩ : ∃ q, q = W.heap.size := ⟨_, rfl⟩
    rw [← hSb] at r2 ⊢
    have HS : Hid (wA.heap.size ≤ Sb ∧ Sb < W2.heap.size ∧ B ≤ Sb) := hide ⟨by omega, (Array.getElem?_eq_some_iff.1 r2).1, by omega⟩
    have y0 : W2.cell? ⟨Sb, 0, none⟩ = some (.int .i64 g) := (cell_of_row _ _ 0 _ 43 (0, 0) r2).trans rfl
    have y1 : W2.cell? ⟨Sb, 1, none⟩ = some (.int .i64 r) := (cell_of_row _ _ 1 _ 43 (0, 0) r2).trans rfl
    have y2 : W2.cell? ⟨Sb, 2, none⟩ = some (.string lb) := (cell_of_row _ _ 2 _ 43 (0, 0) r2).trans rfl
    have y3 : W2.cell? ⟨Sb, 3, none⟩ = some (.int .i64 n) := (cell_of_row _ _ 3 _ 43 (0, 0) r2).trans rfl
    have y4 : W2.cell? ⟨Sb, 4, none⟩ = some (.int .i64 ix) := (cell_of_row _ _ 4 _ 43 (0, 0) r2).trans rfl
    have hT := tell123 (g, r, lb, n, ix) X W2
    dsimp only [svT, ev] at hT
    have HX := hide (And.intro hx (And.intro on2 (And.intro fF2 hH2)))
    have after : ∀ W3, Below W2.heap.size W2 W3 → (W3.heap[Fb]? = some (.cells #[.int .i64 0, .int .i64 0, .string ⟨#[]⟩, .int .i64 0, .int .i64 0, .string ⟨#[]⟩] 53 (0, 0)) ∧ W3.heap[Hb]? = some (.cells #[.bool false] 4 (0, 0)) ∧ Only (fun j => j = Fb ∨ j = Hb ∨ wA.heap.size ≤ j) wA W3) := fun W3 h3 => ⟨(h3.block _ (Array.getElem?_eq_some_iff.1 fF2).1).trans fF2, (h3.block _ (Array.getElem?_eq_some_iff.1 hH2).1).trans hH2, (on2.next (below_only h3)).mono (fun j _ e => .inr (.inr e))⟩
    have HAF := hide after
    clear fF hH q1 q2 q3 q4 hi r1 b1 hW1 ho2 on2 r2 fF2 hH2 hSb hsz hSame hx after HIT HK HA FIN hz
    have step : ∀ W3, Below W2.heap.size W2 W3 → ∃ (_ : True), (W3.cell? ⟨Fb, 0, none⟩ = some (.int .i64 0) ∧ W3.cell? ⟨Fb, 1, none⟩ = some (.int .i64 0) ∧ W3.cell? ⟨Fb, 2, none⟩ = some (.string ⟨#[]⟩) ∧ W3.cell? ⟨Fb, 3, none⟩ = some (.int .i64 0) ∧ W3.cell? ⟨Fb, 4, none⟩ = some (.int .i64 0) ∧ W3.cell? ⟨Fb, 5, none⟩ = some (.string ⟨#[]⟩) ∧ (∀ k, W3.frozen? ⟨Fb, k, none⟩ = false) ∧ ((((((W3.setCell ⟨Fb, 0, none⟩ (.int .i64 g)).setCell ⟨Fb, 1, none⟩ (.int .i64 r)).setCell ⟨Fb, 2, none⟩ (.string lb)).setCell ⟨Fb, 3, none⟩ (.int .i64 n)).setCell ⟨Fb, 4, none⟩ (.int .i64 ix)).setCell ⟨Fb, 5, none⟩ (.string X)).cell? ⟨Hb, 0, none⟩ = some (.bool false) ∧ ((((((W3.setCell ⟨Fb, 0, none⟩ (.int .i64 g)).setCell ⟨Fb, 1, none⟩ (.int .i64 r)).setCell ⟨Fb, 2, none⟩ (.string lb)).setCell ⟨Fb, 3, none⟩ (.int .i64 n)).setCell ⟨Fb, 4, none⟩ (.int .i64 ix)).setCell ⟨Fb, 5, none⟩ (.string X)).frozen? ⟨Hb, 0, none⟩ = false) ∧ Hid (Only (fun j => (j = Fb ∨ j = Hb) ∨ B ≤ j) W2 (((((((W3.setCell ⟨Fb, 0, none⟩ (.int .i64 g)).setCell ⟨Fb, 1, none⟩ (.int .i64 r)).setCell ⟨Fb, 2, none⟩ (.string lb)).setCell ⟨Fb, 3, none⟩ (.int .i64 n)).setCell ⟨Fb, 4, none⟩ (.int .i64 ix)).setCell ⟨Fb, 5, none⟩ (.string X)).setCell ⟨Hb, 0, none⟩ (.bool true)) ∧ Only (fun j => j = Fb ∨ j = Hb ∨ wA.heap.size ≤ j) wA (((((((W3.setCell ⟨Fb, 0, none⟩ (.int .i64 g)).setCell ⟨Fb, 1, none⟩ (.int .i64 r)).setCell ⟨Fb, 2, none⟩ (.string lb)).setCell ⟨Fb, 3, none⟩ (.int .i64 n)).setCell ⟨Fb, 4, none⟩ (.int .i64 ix)).setCell ⟨Fb, 5, none⟩ (.string X)).setCell ⟨Hb, 0, none⟩ (.bool true)) ∧ (((((((W3.setCell ⟨Fb, 0, none⟩ (.int .i64 g)).setCell ⟨Fb, 1, none⟩ (.int .i64 r)).setCell ⟨Fb, 2, none⟩ (.string lb)).setCell ⟨Fb, 3, none⟩ (.int .i64 n)).setCell ⟨Fb, 4, none⟩ (.int .i64 ix)).setCell ⟨Fb, 5, none⟩ (.string X)).setCell ⟨Hb, 0, none⟩ (.bool true)).heap[Fb]? = some (.cells (encE ((g, r, lb, n, ix), X)).toArray 53 (0, 0)) ∧ (((((((W3.setCell ⟨Fb, 0, none⟩ (.int .i64 g)).setCell ⟨Fb, 1, none⟩ (.int .i64 r)).setCell ⟨Fb, 2, none⟩ (.string lb)).setCell ⟨Fb, 3, none⟩ (.int .i64 n)).setCell ⟨Fb, 4, none⟩ (.int .i64 ix)).setCell ⟨Fb, 5, none⟩ (.string X)).setCell ⟨Hb, 0, none⟩ (.bool true)).heap[Hb]? = some (.cells #[.bool true] 4 (0, 0))) := fun W3 h3 => by
      obtain ⟨k1, k2, k3⟩ := HAF.out W3 h3
      have hz := HZ.out
      obtain ⟨u6, o6⟩ := set6 (.int .i64 g) (.int .i64 r) (.string lb) (.int .i64 n) (.int .i64 ix) (.string X) k1
      have k2' := (o6.block _ (Array.getElem?_eq_some_iff.1 k2).1 (fun e => by have e' : Hb = Fb := e; omega)).trans k2
      obtain ⟨u7, o7⟩ := set_one (i := 0) (.bool true) k2'
      refine ⟨trivial, ⟨(cell_of_row _ _ 0 _ 53 (0, 0) k1).trans rfl, (cell_of_row _ _ 1 _ 53 (0, 0) k1).trans rfl, (cell_of_row _ _ 2 _ 53 (0, 0) k1).trans rfl, (cell_of_row _ _ 3 _ 53 (0, 0) k1).trans rfl, (cell_of_row _ _ 4 _ 53 (0, 0) k1).trans rfl, (cell_of_row _ _ 5 _ 53 (0, 0) k1).trans rfl, fun k => frozen_of_row _ _ k _ 53 k1, (cell_of_row _ _ 0 _ 4 (0, 0) k2').trans rfl, frozen_of_row _ _ 0 _ 4 k2'⟩, hide ⟨((below_only h3).next (o6.mono (fun j _ e => .inl (.inl e)))).next (o7.mono (fun j _ e => .inl (.inr e))), (k3.next (o6.mono (fun j _ e => .inl e))).next (o7.mono (fun j _ e => .inr (.inl e))), (o7.block _ (Array.getElem?_eq_some_iff.1 u6).1 (fun e => by have e' : Fb = Hb := e; omega)).trans u6, by simpa using u7⟩⟩
    have HST := hide step
    clear step
    have hne3 : ¬ Hb = Fb := by have := HZ.out; omega
    have hne4 : ¬ Fb = Hb := by have := HZ.out; omega
    gi_wp2_with (refine ⟨trivial, CallsIn.inRound _ (callsIn_wide.2 (Calls.mono hT ?_))⟩; rintro e W3 ⟨rfl, b3⟩; obtain ⟨-, ⟨c0, c1, c2, c3, c4, c5, fz, -, -⟩, H9⟩ := HST.out W3 b3; have f0 := fz 0; have f1 := fz 1; have f2 := fz 2; have f3 := fz 3; have f4 := fz 4; have f5 := fz 5; have ch : W3.cell? ⟨Hb, 0, none⟩ = some (.bool false) := (cell_of_row _ _ 0 _ 4 (0, 0) (HAF.out W3 b3).2.1).trans rfl; have fh : W3.frozen? ⟨Hb, 0, none⟩ = false := frozen_of_row _ _ 0 _ 4 (HAF.out W3 b3).2.1; clear b3 fz; dsimp only)
    exact ⟨H9.out.1, rfl, ((g, r, lb, n, ix), X), HX.out.1, H9.out.2.1, H9.out.2.2.1, H9.out.2.2.2⟩
end Go.Proofs.YtkeldhohilmdcaaGreat.Qu
namespace Go.Proofs.YtkeldhohilmdcaaGreat.Qu
open Go.RowKit Go.Shelf
set_option linter.unusedSimpArgs false
attribute [local go_sem] Oper.semAt_some

theorem In.apart53 {w w' : World} {B : Nat} {cs : Array Value} {t : Pm.T} (hw : w.heap[B]? = some (.cells cs 53 (0, 0))) (ho : Only (fun j => j = B) w w') (h : Pm.In w t) : Pm.In w' t :=
  Pm.In.typed ho (fun j e o hj => by have e' : j = B := e; subst e'; rw [hw] at hj; cases hj; exact ⟨_, _, _, rfl, by decide⟩) h
theorem _root_.Go.Proofs.YtkeldhohilmdcaaGreat.Mg.apart53 {w w' : World} {B : Nat} {cs : Array Value} {t : Pm.T} (h : Mg w t) (hw : w.heap[B]? = some (.cells cs 53 (0, 0))) (ho : Only (fun j => j = B) w w') : Mg w' t := ⟨In.apart53 hw ho h.inn, h.srt, h.bal, h.few, h.key⟩
theorem first_node {t : Pm.T} {k v : ByteArray} {rest : List Kv} (hl : t.list = (k, v) :: rest) : t.first.key = k ∧ t.first.val = v ∧ t.first.isSome = true := by
  have hne : t ≠ .nil := fun e => by rw [e] at hl; cases hl
  obtain ⟨p, k', v', r, rest', hf, hl', -⟩ := Pm.T.first_spec hne
  rw [hl] at hl'
  cases hl'
  rw [hf]
  exact ⟨rfl, rfl, rfl⟩
theorem mg_take {w w' : World} {t t' : Pm.T} {k v : ByteArray} {rest : List Kv} (h : Mg w t) (hl : t.list = (k, v) :: rest) (ht : Pm.Takes w.heap.size k t t') (hi : Pm.In w' t') : Mg w' t' ∧ t'.list = rest := by
  have hd := ht.list h.srt
  have he : Pm.del k t.list = rest := by rw [hl]; exact Pm.del_same (a := []) (by simp)
  rw [he] at hd
  refine ⟨⟨hi, ?_, (ht.says h.srt h.bal h.inn.underP).bal, ?_, ?_⟩, hd⟩
  · rw [hd]
    have := h.srt
    rw [hl] at this
    exact (List.pairwise_cons.1 this).2
  · have := Pm.Takes.n ht
    have := h.few
    omega
  · intro x hx
    rw [hd] at hx
    exact h.key x (by rw [hl]; exact List.mem_cons_of_mem _ hx)
theorem takeP {w : World} {t : Pm.T} {pm : Option Addr} {k v : ByteArray} {rest : List Kv} (h : Mg w t) (hp : t.ptr = .pointer pm) (hl : t.list = (k, v) :: rest) : Calls Tryz.prog 103 #[.agg #[.pointer pm], .string k] w fun e w' => ∃ t' pt, t'.ptr = .pointer pt ∧ e = .returned (.agg #[.pointer pt]) ∧ Mg w' t' ∧ t'.list = rest ∧ Below w.heap.size w w' := by
  have := Pm.mTake_any t k w h.inn (by have := h.few; omega)
  unfold Pm.mv at this
  rw [hp] at this
  refine this.mono (fun e w' ⟨t', he, hi, ht, hb⟩ => ?_)
  obtain ⟨pt, hpt⟩ := t'.ptr_shape
  rw [hpt] at he
  exact ⟨t', pt, hpt, he, (mg_take h hl ht hi).1, (mg_take h hl ht hi).2, hb⟩
theorem mFirstP {w : World} {t : Pm.T} {pm : Option Addr} {k v : ByteArray} {rest : List Kv} (h : Mg w t) (hp : t.ptr = .pointer pm) (hl : t.list = (k, v) :: rest) : Calls Tryz.prog 117 #[.agg #[.pointer pm]] w fun e w' => e = .returned (.tuple #[.string k, .string v, .bool true]) ∧ Below w.heap.size w w' := by
  have := Pm.mFirst_any t w h.inn
  unfold Pm.mv at this
  rw [hp, (first_node hl).1, (first_node hl).2.1, (first_node hl).2.2] at this
  exact this
theorem qFirstP {w : World} {t : Pm.T} {pm : Option Addr} (h : Mg w t) (hp : t.ptr = .pointer pm) : Calls Tryz.prog 73 #[.agg #[.pointer pm]] w fun e w' => e = .returned (.tuple #[ev (firstE (elsL t.list)).1, .bool (firstE (elsL t.list)).2]) ∧ Below w.heap.size w w' := by
  have := qFirst_any t w h
  unfold Pm.mv at this
  rw [hp] at this
  exact this
theorem cells_of_enc {W : World} {B : Nat} {g r : Int} {lb : ByteArray} {n ix : Int} {X : ByteArray} (h : W.heap[B]? = some (.cells #[.int .i64 g, .int .i64 r, .string lb, .int .i64 n, .int .i64 ix, .string X] 53 (0, 0))) : W.cell? ⟨B, 0, none⟩ = some (.int .i64 g) ∧ W.cell? ⟨B, 1, none⟩ = some (.int .i64 r) ∧ W.cell? ⟨B, 2, none⟩ = some (.string lb) ∧ W.cell? ⟨B, 3, none⟩ = some (.int .i64 n) ∧ W.cell? ⟨B, 4, none⟩ = some (.int .i64 ix) ∧ W.cell? ⟨B, 5, none⟩ = some (.string X) :=
  ⟨(cell_of_row _ _ 0 _ 53 (0, 0) h).trans rfl, (cell_of_row _ _ 1 _ 53 (0, 0) h).trans rfl, (cell_of_row _ _ 2 _ 53 (0, 0) h).trans rfl, (cell_of_row _ _ 3 _ 53 (0, 0) h).trans rfl, (cell_of_row _ _ 4 _ 53 (0, 0) h).trans rfl, (cell_of_row _ _ 5 _ 53 (0, 0) h).trans rfl⟩
def PopE (w : World) (t : Pm.T) (e : Ending) (w' : World) : Prop := ∃ t' pt, t'.ptr = .pointer pt ∧ e = .returned (.tuple #[.agg #[.pointer pt], ev (firstE (elsL t.list)).1, .bool (firstE (elsL t.list)).2]) ∧ Mg w' t' ∧ (t'.list = if mayL t.list = true then t.list.tail else t.list) ∧ ((firstE (elsL t.list)).2 = false → t' = t) ∧ Below w.heap.size w w'
set_option maxHeartbeats 8000000 in
set_option maxRecDepth 100000 in
theorem qPop_any {w : World} {t : Pm.T} {pm : Option Addr} (h : Mg w t) (hp : t.ptr = .pointer pm) : Calls Tryz.prog 65 #[.agg #[.pointer pm]] w (PopE w t) := by
  obtain ⟨w0, hw0⟩ : ∃ q, q = ((w.alloc (.cells #[.pointer pm] 27)).alloc (.cells #[.pointer none] 27)).alloc (.cells #[.int .i64 0, .int .i64 0, .string ⟨#[]⟩, .int .i64 0, .int .i64 0, .string ⟨#[]⟩] 53) := ⟨_, rfl⟩
  obtain ⟨m0, m1, m2, b0⟩ := new4r w _ _ _ w0 hw0
  obtain ⟨Mb, hMb⟩ : ∃ q, q = w.heap.size := ⟨_, rfl⟩
  obtain ⟨Rb, hRb⟩ : ∃ q, q = w.heap.size + 1 := ⟨_, rfl⟩
  obtain ⟨Eb, hEb⟩ : ∃ q, q = w.heap.size + 1 + 1 := ⟨_, rfl⟩
  have s0 : w0.heap.size = w.heap.size + 3 := by rw [hw0]; simp
  rw [← hMb] at m0
  rw [← hRb] at m1
  rw [← hEb] at m2
  have HC : Hid (∀ W, Below w0.heap.size w0 W → W.cell? ⟨Mb, 0, none⟩ = some (.pointer pm) ∧ W.heap[Rb]? = some (.cells #[.pointer none] 27 (0, 0)) ∧ W.heap[Eb]? = some (.cells #[.int .i64 0, .int .i64 0, .string ⟨#[]⟩, .int .i64 0, .int .i64 0, .string ⟨#[]⟩] 53 (0, 0)) ∧ Below w.heap.size w W) := hide (fun W hW => ⟨cell_stays ((cell_of_row _ _ 0 _ 27 (0, 0) m0).trans rfl) hW, (hW.block _ (Array.getElem?_eq_some_iff.1 m1).1).trans m1, (hW.block _ (Array.getElem?_eq_some_iff.1 m2).1).trans m2, b0.trans (hW.mono b0.size)⟩)
  have HW0 := hide (And.intro hw0 (And.intro hEb (And.intro hRb hMb)))
  have hfst := fun W (hW : Below w0.heap.size w0 W) => qFirstP (h.below (b0.trans (hW.mono b0.size))) hp
  have HH := hide (And.intro h hp)
  obtain ⟨c0, -⟩ := HC.out w0 (Below.refl _ _)
  have HL0 : Hid (w0.heap.size = w.heap.size + 3 ∧ Mb = w.heap.size ∧ Rb = w.heap.size + 1 ∧ Eb = w.heap.size + 2) := hide ⟨s0, hMb, hRb, hEb⟩
  cases hb : (firstE (elsL t.list)).2 with
  | false =>
    have hz1 : (firstE (elsL t.list)).1 = zE := by
      revert hb
      cases elsL t.list with
      | nil => intro _; rfl
      | cons x l => intro hb; cases hb
    have hFE : firstE (elsL t.list) = (zE, false) := Prod.ext hz1 hb
    have hemp : (if mayL t.list = true then t.list.tail else t.list) = t.list := by
      by_cases hm : mayL t.list = true
      · rw [if_pos hm]
        cases hl : t.list with
        | nil => rfl
        | cons x l => rw [hl] at hb hm; rw [elsL, if_pos hm] at hb; cases hb
      · rw [if_neg hm]
    rw [hz1, hb] at hfst
    have HFE := hide (And.intro hFE hemp)
    clear h hp m0 m1 m2 b0 hw0 hMb hRb hEb s0 hb hz1 hFE hemp
    dsimp only [ev, zE] at hfst
    go_enter Tryz.func65, Tryz.ntmps65
    go_upto_region 1 with fail
    rw [← HW0.out.1, ← HW0.out.2.1, ← HW0.out.2.2.1, ← HW0.out.2.2.2]
    go_upto_region 3 with (go_at_call 73; refine (hfst _ (Below.refl _ _)).mono ?_; rintro e w1 ⟨rfl, b1⟩; have H1 := hide b1; clear b1; dsimp only)
    obtain ⟨w2, hw2⟩ : ∃ q, q = w1.alloc (.cells #[.int .i64 0, .int .i64 0, .string ⟨#[]⟩, .int .i64 0, .int .i64 0, .string ⟨#[]⟩] 53) := ⟨_, rfl⟩
    have b2 : Below w0.heap.size w0 w2 := H1.out.trans ((by rw [hw2]; exact (Below.refl _ w1).alloc (Nat.le_refl _) _ : Below w1.heap.size w1 w2).mono H1.out.size)
    rw [← hw2]
    obtain ⟨x0, r5, e5, bw5⟩ := HC.out w2 b2
    obtain ⟨z1, z2, z3, z4⟩ := HL0.out
    obtain ⟨u6, o6⟩ := set_one (i := 0) (.pointer pm) r5
    have e6 := (o6.block _ (Array.getElem?_eq_some_iff.1 e5).1 (fun e => by have e' : Eb = Rb := e; omega)).trans e5
    obtain ⟨u7, o7⟩ := set6 (.int .i64 0) (.int .i64 0) (.string ⟨#[]⟩) (.int .i64 0) (.int .i64 0) (.string ⟨#[]⟩) e6
    have u6' := (o7.block _ (Array.getElem?_eq_some_iff.1 u6).1 (fun e => by have e' : Rb = Eb := e; omega)).trans u6
    have q7 := Below.only bw5 o6 bw5.size (fun j e => by have e' : j = Rb := e; omega)
    have b7 := Below.only q7 o7 q7.size (fun j e => by have e' : j = Eb := e; omega)
    have HE := hide (And.intro u6' (And.intro u7 (And.intro b7 (HH.out.1.below b7))))
    have c1 : w2.cell? ⟨Rb, 0, none⟩ = some (.pointer none) := (cell_of_row _ _ 0 _ 27 (0, 0) r5).trans rfl
    have f1 : w2.frozen? ⟨Rb, 0, none⟩ = false := frozen_of_row _ _ 0 _ 27 r5
    obtain ⟨d0, d1, d2, d3, d4, d5⟩ := cells_of_enc e5
    have g0 := frozen_of_row w2 Eb 0 _ 53 e5
    have g1 := frozen_of_row w2 Eb 1 _ 53 e5
    have g2 := frozen_of_row w2 Eb 2 _ 53 e5
    have g3 := frozen_of_row w2 Eb 3 _ 53 e5
    have g4 := frozen_of_row w2 Eb 4 _ 53 e5
    have g5 := frozen_of_row w2 Eb 5 _ 53 e5
    have ne1 : ¬ Rb = Eb := by omega
    have ne2 : ¬ Eb = Rb := by omega
    clear u6 o6 u7 o7 e6 r5 e5 bw5 u6' q7 b7 z1 z2 z3 z4 b2 hw2 hfst c0
    go_wp2
    refine Pm.ret_rr_t Rb Eb [.pointer pm] [.int .i64 0, .int .i64 0, .string ⟨#[]⟩, .int .i64 0, .int .i64 0, .string ⟨#[]⟩] rfl rfl rfl rfl Tryz.underlying27 rfl Tryz.underlying53 rfl T27 T53 (by simpa using HE.out.1) HE.out.2.1 rfl ?_
    exact ⟨t, pm, HH.out.2, by rw [HFE.out.1]; rfl, HE.out.2.2.2, HFE.out.2.symm, fun _ => rfl, HE.out.2.2.1⟩
  | true =>
    have hm : mayL t.list = true := by
      by_cases hm : mayL t.list = true
      · exact hm
      · rw [elsL, if_neg hm] at hb; cases hb
    obtain ⟨k, v, rest, hl⟩ : ∃ k v rest, t.list = (k, v) :: rest := by
      cases hl : t.list with
      | nil => rw [hl] at hb; cases hb
      | cons x l => exact ⟨x.1, x.2, l, rfl⟩
    have hFE : firstE (elsL t.list) = ((ofT k, v), true) := by rw [elsL, if_pos hm, hl]; rfl
    have hmf := fun W (hW : Below w0.heap.size w0 W) => mFirstP (h.below (b0.trans (hW.mono b0.size))) hp hl
    have htk := fun W (hW : Below w0.heap.size w0 W) => takeP (h.below (b0.trans (hW.mono b0.size))) hp hl
    have HLL : Hid (mayL t.list = true ∧ t.list = (k, v) :: rest) := hide ⟨hm, hl⟩
    obtain ⟨g, r, lb, n, ix, hof⟩ : ∃ g r lb n ix, ofT k = (g, r, lb, n, ix) := ⟨_, _, _, _, _, rfl⟩
    obtain ⟨X, hX⟩ : ∃ X, X = v := ⟨_, rfl⟩
    rw [hof, ← hX] at hFE
    rw [hFE] at hfst
    have HFE := hide hFE
    have HTK := hide htk
    clear h hp m0 m1 m2 b0 hw0 hMb hRb hEb s0 hb hFE hm hl hof hX htk
    dsimp only [ev] at hfst
    go_enter Tryz.func65, Tryz.ntmps65
    go_upto_region 1 with fail
    rw [← HW0.out.1, ← HW0.out.2.1, ← HW0.out.2.2.1, ← HW0.out.2.2.2]
    go_upto_region 4 with (go_at_call 73; refine (hfst _ (Below.refl _ _)).mono ?_; rintro e w1 ⟨rfl, b1⟩; have H1 := hide b1; clear b1; dsimp only)
    obtain ⟨Fb, hFb⟩ : ∃ q, q = w1.heap.size := ⟨_, rfl⟩
    obtain ⟨w2, hw2⟩ : ∃ q, q = w1.alloc (.cells #[.int .i64 g, .int .i64 r, .string lb, .int .i64 n, .int .i64 ix, .string X] 53) := ⟨_, rfl⟩
    have b12 : Below w1.heap.size w1 w2 := by rw [hw2]; exact (Below.refl _ w1).alloc (Nat.le_refl _) _
    have b2 : Below w0.heap.size w0 w2 := H1.out.trans (b12.mono H1.out.size)
    have r2 := heap_alloc_new w1 (.cells #[.int .i64 g, .int .i64 r, .string lb, .int .i64 n, .int .i64 ix, .string X] 53)
    rw [← hw2, ← hFb] at r2
    rw [← hw2, ← hFb]
    have x0 := (HC.out w2 b2).1
    have HZ : Hid (w0.heap.size = w.heap.size + 3 ∧ Mb = w.heap.size ∧ Rb = w.heap.size + 1 ∧ Eb = w.heap.size + 2 ∧ w0.heap.size ≤ Fb ∧ True) := hide ⟨HL0.out.1, HL0.out.2.1, HL0.out.2.2.1, HL0.out.2.2.2, by rw [hFb]; exact H1.out.size, trivial⟩
    have H2 := hide (And.intro b2 r2)
    clear hfst c0 hFb hw2 b12 b2 r2 H1
    go_upto_region 5 with (go_at_call 117; refine (hmf _ H2.out.1).mono ?_; rintro e w4 ⟨rfl, b4⟩; have H4 := hide (H2.out.1.trans (b4.mono H2.out.1.size)); have HB4 := hide b4; clear b4; dsimp only)
    have HF4 : Hid (∀ W, Below w4.heap.size w4 W → W.heap[Fb]? = some (.cells #[.int .i64 g, .int .i64 r, .string lb, .int .i64 n, .int .i64 ix, .string X] 53 (0, 0))) := hide (fun W hW => by
      have q := (HB4.out.block _ (Array.getElem?_eq_some_iff.1 H2.out.2).1).trans H2.out.2
      exact (hW.block _ (Array.getElem?_eq_some_iff.1 q).1).trans q)
    have HT4 : Hid (∀ W, Below w4.heap.size w4 W → Calls Tryz.prog 103 #[.agg #[.pointer pm], .string k] W fun e w' => ∃ t' pt, t'.ptr = .pointer pt ∧ e = .returned (.agg #[.pointer pt]) ∧ Mg w' t' ∧ t'.list = rest ∧ Below W.heap.size W w') := hide (fun W hW => HTK.out W (H4.out.trans (hW.mono H4.out.size)))
    clear hmf x0 HTK
    refine wp_region_held_drew (S := fun w' => w'.cell? ⟨Mb, 0, none⟩ = some (.pointer pm) ∧ w'.cell? ⟨Fb, 0, none⟩ = some (.int .i64 g) ∧ w'.cell? ⟨Fb, 1, none⟩ = some (.int .i64 r) ∧ w'.cell? ⟨Fb, 2, none⟩ = some (.string lb) ∧ w'.cell? ⟨Fb, 3, none⟩ = some (.int .i64 n) ∧ w'.cell? ⟨Fb, 4, none⟩ = some (.int .i64 ix) ∧ w'.cell? ⟨Fb, 5, none⟩ = some (.string X)) (by kernel_rfl) (by exact ⟨(HC.out _ ((H4.out).trans ((drew_below w4).mono H4.out.size))).1, cells_of_enc (HF4.out _ (drew_below w4))⟩) (fun hHeld => ?_)
    try dsimp only at hHeld
    have b4d := H4.out.trans ((drew_below w4).mono H4.out.size)
    have F4d := HF4.out _ (drew_below w4)
    have T4d := HT4.out _ (drew_below w4)
    generalize w4.drew = Wd at hHeld b4d F4d T4d ⊢
    refine take_op (i := 0) (d := 25) (OP := Op.load 27 (Operand.tmp 1)) (T := 27) (v := ?vzp1) rfl rfl rfl rfl (by kernel_rfl) (by kernel_rfl) (by kernel_rfl) (fun _ _ _ h => h) (by rfl) ?hzp1 hHeld ?rzp1
    case hzp1 => (intro w' hSw; (try dsimp only at hSw); go_simp <;> with_reducible rfl)
    try simp only [Act.put, List.setIfInBounds_toArray, List.set_cons_zero, List.set_cons_succ]
    refine take_op (i := 1) (d := 26) (OP := Op.move (Operand.tmp 7)) (T := 9) (v := ?vzp2) rfl rfl rfl rfl (by kernel_rfl) (by kernel_rfl) (by kernel_rfl) (fun _ _ _ h => h) (by rfl) ?hzp2 hHeld ?rzp2
    case hzp2 => (intro w' hSw; (try dsimp only at hSw); go_simp <;> with_reducible rfl)
    try simp only [Act.put, List.setIfInBounds_toArray, List.set_cons_zero, List.set_cons_succ]
    refine take_op (i := 3) (d := 28) (OP := Op.load 53 (Operand.tmp 5)) (T := 53) (v := ?vzp3) rfl rfl rfl rfl (by kernel_rfl) (by kernel_rfl) (by kernel_rfl) (fun _ _ _ h => h) (by rfl) ?hzp3 hHeld ?rzp3
    case hzp3 => (intro w' hSw; (try dsimp only at hSw); go_simp <;> with_reducible rfl)
    try simp only [Act.put, List.setIfInBounds_toArray, List.set_cons_zero, List.set_cons_succ]
    refine call_op (i := 2) (d := 27) (OP := Op.call { callee := Callee.value (Operand.func 103), args := #[Operand.tmp 25, Operand.tmp 26], argTypes := #[27, 9] }) (T := 27) (f := 103) (args := #[.agg #[.pointer pm], .string k]) rfl rfl rfl rfl (by kernel_rfl) (by rfl) (by go_simp) ?_
    refine T4d.mono ?_
    rintro e w5 ⟨t', pt, hpt, rfl, mg5, hl5, b5⟩
    have bb5 := b4d.trans (b5.mono b4d.size)
    have F5 := (b5.block _ (Array.getElem?_eq_some_iff.1 F4d).1).trans F4d
    have h5 : w5.cell? ⟨Mb, 0, none⟩ = some (.pointer pm) ∧ w5.cell? ⟨Fb, 0, none⟩ = some (.int .i64 g) ∧ w5.cell? ⟨Fb, 1, none⟩ = some (.int .i64 r) ∧ w5.cell? ⟨Fb, 2, none⟩ = some (.string lb) ∧ w5.cell? ⟨Fb, 3, none⟩ = some (.int .i64 n) ∧ w5.cell? ⟨Fb, 4, none⟩ = some (.int .i64 ix) ∧ w5.cell? ⟨Fb, 5, none⟩ = some (.string X) := ⟨(HC.out _ bb5).1, cells_of_enc F5⟩
    obtain ⟨-, r5, e5, bw5⟩ := HC.out _ bb5
    refine ⟨_, rfl, h5, ?_⟩
    try simp only [Act.put, List.setIfInBounds_toArray, List.set_cons_zero, List.set_cons_succ]
    obtain ⟨u6, o6⟩ := set_one (i := 0) (.pointer pt) r5
    obtain ⟨z1, z2, z3, z4, z5, z6⟩ := HZ.out
    have e6 := (o6.block _ (Array.getElem?_eq_some_iff.1 e5).1 (fun e => by have e' : Eb = Rb := e; omega)).trans e5
    obtain ⟨u7, o7⟩ := set6 (.int .i64 g) (.int .i64 r) (.string lb) (.int .i64 n) (.int .i64 ix) (.string X) e6
    obtain ⟨w6, hw6⟩ : ∃ q, q = w5.setCell ⟨Rb, 0, none⟩ (.pointer pt) := ⟨_, rfl⟩
    rw [← hw6] at u6 o6 e6 u7 o7
    obtain ⟨w7, hw7⟩ : ∃ q, q = ((((((w6.setCell ⟨Eb, 0, none⟩ (.int .i64 g)).setCell ⟨Eb, 1, none⟩ (.int .i64 r)).setCell ⟨Eb, 2, none⟩ (.string lb)).setCell ⟨Eb, 3, none⟩ (.int .i64 n)).setCell ⟨Eb, 4, none⟩ (.int .i64 ix)).setCell ⟨Eb, 5, none⟩ (.string X)) := ⟨_, rfl⟩
    rw [← hw7] at u7 o7
    have hb1 : Mb ≠ Rb := by omega
    have hb2 : Fb ≠ Rb := by omega
    have hb3 : Mb ≠ Eb := by omega
    have hb4 : Fb ≠ Eb := by omega
    have h6 : w6.cell? ⟨Mb, 0, none⟩ = some (.pointer pm) ∧ w6.cell? ⟨Fb, 0, none⟩ = some (.int .i64 g) ∧ w6.cell? ⟨Fb, 1, none⟩ = some (.int .i64 r) ∧ w6.cell? ⟨Fb, 2, none⟩ = some (.string lb) ∧ w6.cell? ⟨Fb, 3, none⟩ = some (.int .i64 n) ∧ w6.cell? ⟨Fb, 4, none⟩ = some (.int .i64 ix) ∧ w6.cell? ⟨Fb, 5, none⟩ = some (.string X) := ⟨o6.cell h5.1 hb1, o6.cell h5.2.1 hb2, o6.cell h5.2.2.1 hb2, o6.cell h5.2.2.2.1 hb2, o6.cell h5.2.2.2.2.1 hb2, o6.cell h5.2.2.2.2.2.1 hb2, o6.cell h5.2.2.2.2.2.2 hb2⟩
    have h7 : w7.cell? ⟨Mb, 0, none⟩ = some (.pointer pm) ∧ w7.cell? ⟨Fb, 0, none⟩ = some (.int .i64 g) ∧ w7.cell? ⟨Fb, 1, none⟩ = some (.int .i64 r) ∧ w7.cell? ⟨Fb, 2, none⟩ = some (.string lb) ∧ w7.cell? ⟨Fb, 3, none⟩ = some (.int .i64 n) ∧ w7.cell? ⟨Fb, 4, none⟩ = some (.int .i64 ix) ∧ w7.cell? ⟨Fb, 5, none⟩ = some (.string X) := ⟨o7.cell h6.1 hb3, o7.cell h6.2.1 hb4, o7.cell h6.2.2.1 hb4, o7.cell h6.2.2.2.1 hb4, o7.cell h6.2.2.2.2.1 hb4, o7.cell h6.2.2.2.2.2.1 hb4, o7.cell h6.2.2.2.2.2.2 hb4⟩
    refine skip_op (i := 4) (OP := Op.store 27 (Operand.tmp 2) (Operand.tmp 27)) (T := 0) (w' := w6) rfl rfl rfl rfl (by kernel_rfl) (by rfl) (by rw [hw6]; exact exec_st27 rfl rfl ((cell_of_row _ _ 0 _ 27 (0, 0) r5).trans rfl) (frozen_of_row _ _ 0 _ 27 r5)) ⟨h6, ?_⟩
    try simp only [Act.put, List.setIfInBounds_toArray, List.set_cons_zero, List.set_cons_succ]
    refine skip_op (i := 5) (OP := Op.store 53 (Operand.tmp 3) (Operand.tmp 28)) (T := 0) (w' := w7) rfl rfl rfl rfl (by kernel_rfl) (by rfl) (by rw [hw7]; exact exec_st53 rfl rfl e6) ⟨h7, ?_⟩
    try simp only [Act.put, List.setIfInBounds_toArray, List.set_cons_zero, List.set_cons_succ]
    refine take_op (i := 6) (d := 4) (OP := Op.assign (Operand.const (Value.bool true))) (T := 4) (v := ?vzp4) rfl rfl rfl rfl (by kernel_rfl) (by kernel_rfl) (by kernel_rfl) (fun _ _ _ h => h) (by rfl) ?hzp4 h7 ?rzp4
    case hzp4 => (intro w' hSw; (try dsimp only at hSw); go_simp <;> with_reducible rfl)
    try simp only [Act.put, List.setIfInBounds_toArray, List.set_cons_zero, List.set_cons_succ]
    refine wpAnyH_done (by kernel_rfl) ?_ _
    have u6' := (o7.block _ (Array.getElem?_eq_some_iff.1 u6).1 (fun e => by have e' : Rb = Eb := e; omega)).trans u6
    have b7 : Below w.heap.size w w7 := by
      have q := Below.only bw5 o6 bw5.size (fun j e => by have e' : j = Rb := e; omega)
      exact Below.only q o7 q.size (fun j e => by have e' : j = Eb := e; omega)
    have mg7 : Mg w7 t' := (mg5.aside r5 o6).apart53 e6 o7
    have HE := hide (And.intro u6' (And.intro u7 (And.intro b7 (And.intro mg7 (And.intro hl5 hpt)))))
    clear u6 o6 u7 o7 e6 r5 e5 h5 h6 h7 hHeld F5 F4d b7 mg7 mg5 hl5 u6' bw5 b5 bb5 z1 z2 z3 z4 z5 z6 hb1 hb2 hb3 hb4 hw6 hw7 T4d b4d
    go_wp2
    refine Pm.ret_rr_t Rb Eb [.pointer pt] [.int .i64 g, .int .i64 r, .string lb, .int .i64 n, .int .i64 ix, .string X] rfl rfl rfl rfl Tryz.underlying27 rfl Tryz.underlying53 rfl T27 T53 (by simpa using HE.out.1) HE.out.2.1 rfl ?_
    exact ⟨t', pt, HE.out.2.2.2.2.2, by rw [HFE.out]; rfl, HE.out.2.2.2.1, (by rw [if_pos HLL.out.1, HLL.out.2, HE.out.2.2.2.2.1]; rfl), (fun hh => (by rw [HFE.out] at hh; exact Bool.noConfusion hh)), HE.out.2.2.1⟩
end Go.Proofs.YtkeldhohilmdcaaGreat.Qu
namespace Go.Proofs.YtkeldhohilmdcaaGreat.Qu
open Go.RowKit Go.Shelf
set_option linter.unusedSimpArgs false
attribute [local go_sem] Oper.semAt_some

theorem lenQ {w : World} {t : Pm.T} {pt : Option Addr} (h : Mg w t) (hp : t.ptr = .pointer pt) : Calls Tryz.prog 17 #[.agg #[.pointer pt]] w fun e w' => e = .returned (.int .i64 (t.n : Nat)) ∧ Below w.heap.size w w' := by
  have := Pm.mLen_any t w h.inn
  unfold Pm.mv at this
  rw [hp] at this
  exact this
/-- How many are dropped. -/
def dropN (l : List Kv) (n : Int) : Nat := if mayL l = true then (max 0 (min n (l.length : Int))).toNat else 0
def DropE (w : World) (t : Pm.T) (n : Int) (e : Ending) (w' : World) : Prop := ∃ t' pt, t'.ptr = .pointer pt ∧ e = .returned (.tuple #[.agg #[.pointer pt], .int .i64 (dropN t.list n : Nat)]) ∧ Mg w' t' ∧ t'.list = t.list.drop (dropN t.list n) ∧ (mayL t.list = false → t' = t) ∧ Below w.heap.size w w'
set_option maxHeartbeats 8000000 in
set_option maxRecDepth 100000 in
theorem qDrop_any {w : World} {t : Pm.T} {pm : Option Addr} (n : Int) (h : Mg w t) (hp : t.ptr = .pointer pm) : Calls Tryz.prog 74 #[.agg #[.pointer pm], .int .i64 n] w (DropE w t n) := by
  have mixed : Tryz.prog.follows .mixedOrders = true := by kernel_rfl
  obtain ⟨w0, hw0⟩ : ∃ q, q = (w.alloc (.cells #[.pointer pm] 27)).alloc (.cells #[.pointer none] 27) := ⟨_, rfl⟩
  obtain ⟨m0, m1⟩ := new2 w (.cells #[.pointer pm] 27) (.cells #[.pointer none] 27)
  have b0 : Below w.heap.size w ((w.alloc (.cells #[.pointer pm] 27)).alloc (.cells #[.pointer none] 27)) := ((Below.refl _ w).alloc (Nat.le_refl _) _).alloc (by simp) _
  rw [← hw0] at m0 m1 b0
  obtain ⟨Mb, hMb⟩ : ∃ q, q = w.heap.size := ⟨_, rfl⟩
  obtain ⟨Rb, hRb⟩ : ∃ q, q = w.heap.size + 1 := ⟨_, rfl⟩
  rw [← hMb] at m0
  rw [← hRb] at m1
  have HC : Hid (∀ W, Below w0.heap.size w0 W → Boxd W Mb pm t ∧ W.heap[Rb]? = some (.cells #[.pointer none] 27 (0, 0)) ∧ Below w.heap.size w W) := hide (fun W hW => ⟨⟨(hW.block _ (Array.getElem?_eq_some_iff.1 m0).1).trans m0, hp, h.below (b0.trans (hW.mono b0.size))⟩, (hW.block _ (Array.getElem?_eq_some_iff.1 m1).1).trans m1, b0.trans (hW.mono b0.size)⟩)
  have HW0 := hide (And.intro hw0 (And.intro hRb hMb))
  have HZ : Hid (Mb = w.heap.size ∧ Rb = w.heap.size + 1) := hide ⟨hMb, hRb⟩
  have hmy := mayP h hp w0 b0
  have c0 := (HC.out w0 (Below.refl _ _)).1.cell
  have HH := hide (And.intro h hp)
  cases hm : mayL t.list with
  | false =>
    rw [hm] at hmy
    have HM := hide hm
    have hd0 : dropN t.list n = 0 := by unfold dropN; rw [hm]; rfl
    have HD := hide hd0
    clear h hp m0 m1 b0 hw0 hMb hRb hm hd0
    go_enter Tryz.func74, Tryz.ntmps74
    go_upto_region 1 with fail
    rw [← HW0.out.1, ← HW0.out.2.1, ← HW0.out.2.2]
    go_upto_region 2 with (go_at_call 70; refine hmy.mono ?_; rintro e w1 ⟨rfl, b1⟩; have H1 := hide b1; clear b1; dsimp only)
    obtain ⟨BX, r5, bw5⟩ := HC.out w1 H1.out
    obtain ⟨u6, o6⟩ := set_one (i := 0) (.pointer pm) r5
    have b6 := Below.only bw5 o6 bw5.size (fun j e => by have := HZ.out; have e' : j = Rb := e; omega)
    have HE := hide (And.intro u6 (And.intro b6 (HH.out.1.below b6)))
    have x0 := BX.cell
    have c1 : w1.cell? ⟨Rb, 0, none⟩ = some (.pointer none) := (cell_of_row _ _ 0 _ 27 (0, 0) r5).trans rfl
    have f1 : w1.frozen? ⟨Rb, 0, none⟩ = false := frozen_of_row _ _ 0 _ 27 r5
    clear BX r5 bw5 u6 o6 b6 c0 hmy
    go_wp2
    refine ret_row_tmp Rb [.pointer pm] rfl rfl rfl Tryz.underlying27 rfl T27 (by simpa using HE.out.1) rfl ?_
    exact ⟨t, pm, HH.out.2, by rw [HD.out]; rfl, HE.out.2.2, by rw [HD.out]; rfl, fun _ => rfl, HE.out.2.1⟩
  | true =>
    rw [hm] at hmy
    have HM := hide hm
    have hln : ∀ W, Below w0.heap.size w0 W → Calls Tryz.prog 17 #[.agg #[.pointer pm]] W fun e w' => e = .returned (.int .i64 (t.n : Nat)) ∧ Below W.heap.size W w' := fun W hW => lenQ (HC.out W hW).1.2.2 hp
    have hn4 := h.few
    have hd0 : (dropN t.list n : Int) = max 0 (min n (t.n : Int)) := by
      unfold dropN
      rw [if_pos hm, Pm.T.n_eq]
      omega
    have HD := hide (And.intro hd0 hn4)
    clear h hp m0 m1 b0 hw0 hMb hRb hm hd0
    go_enter Tryz.func74, Tryz.ntmps74
    go_upto_region 1 with fail
    rw [← HW0.out.1, ← HW0.out.2.1, ← HW0.out.2.2]
    go_upto_region 3 with (go_at_call 70; refine hmy.mono ?_; rintro e w1 ⟨rfl, b1⟩; have H1 := hide b1; clear b1; dsimp only)
    have x1 := (HC.out w1 H1.out).1.cell
    go_upto_region 4 with (go_at_call 17; refine (hln _ H1.out).mono ?_; rintro e w2 ⟨rfl, b2⟩; have H2 := hide (H1.out.trans (b2.mono H1.out.size)); clear b2; dsimp only)
    rw [← HD.out.1]
    obtain ⟨K, hK⟩ : ∃ K, K = dropN t.list n := ⟨_, rfl⟩
    have hKn : K ≤ t.n := by have := HD.out; omega
    have hK4 : K ≤ 400 := by have := HD.out; omega
    have HK := hide (And.intro hK hKn)
    rw [← hK]
    have x2 := (HC.out w2 H2.out).1.cell
    clear hK hKn hmy hln c0 x1
    go_quiet (fail)
    have HQ := hide (H2.out.trans ((below_drew w2 nq).mono H2.out.size))
    generalize w2.drewN nq = w3 at HQ ⊢
    clear x2 H1 H2
    go_wp2
    go_loopw [6, 7, 25] (fun v6 v7 v25 wr => ∃ (i : Nat) (tc : Pm.T) (pc : Option Addr), v6 = .func (.func 117) #[.agg #[.pointer pc]] #[] ∧ v7 = .func (.func 103) #[.agg #[.pointer pc]] #[] ∧ v25 = .int .i64 i ∧ i ≤ K ∧ Hid (Boxd wr Mb pc tc ∧ tc.list = t.list.drop i ∧ wr.heap[Rb]? = some (.cells #[.pointer none] 27 (0, 0)) ∧ Below w.heap.size w wr)) (fun _ _ v25 _ => K - (intOf v25).toNat)
    case atStart =>
      obtain ⟨q1, q2, q3⟩ := HC.out w3 HQ.out
      exact ⟨0, t, pm, rfl, rfl, rfl, Nat.zero_le _, hide ⟨q1, rfl, q2, q3⟩⟩
    case round =>
      obtain ⟨i, tc, pc, rfl, rfl, rfl, hi, HI⟩ := hrel
      by_cases hgo : i < K
      · have y1 : (i : Int) < (K : Int) := by omega
        have y2 : decide (i < K) = true := by simpa using hgo
        obtain ⟨k, v, rest, hl⟩ : ∃ k v rest, tc.list = (k, v) :: rest := by
          have hlen : 0 < tc.list.length := by
            rw [HI.out.2.1, List.length_drop, Pm.T.n_eq]
            have := HK.out.2
            omega
          cases hl : tc.list with
          | nil => rw [hl] at hlen; cases hlen
          | cons x l => exact ⟨x.1, x.2, l, rfl⟩
        have hmf := mFirstP HI.out.1.2.2 HI.out.1.2.1 hl
        have htk := fun W (hW : Below wr.heap.size wr W) => takeP (HI.out.1.2.2.below hW) HI.out.1.2.1 hl
        have HTK := hide htk
        have hrest : rest = t.list.drop (i + 1) := by
          have h1 := HI.out.2.1
          rw [hl] at h1
          rw [← List.drop_drop, ← h1]
          rfl
        have HR := hide hrest
        clear htk hl hrest
        go_upto_region 9 with (first
          | (go_at_call 117; refine hmf.mono ?_; rintro e w4 ⟨rfl, b4⟩; have H4 := hide b4; clear b4; dsimp only)
          | (go_at_call 103; refine (HTK.out _ H4.out).mono ?_; rintro e w5 ⟨t', pt, hpt, rfl, mg5, hl5, b5⟩; have bb5 := H4.out.trans (b5.mono H4.out.size); have BX5 := HI.out.1.below bb5; have c5 := BX5.cell; have f5 : w5.frozen? ⟨Mb, 0, none⟩ = false := frozen_of_row _ _ 0 _ 27 BX5.1; have H5 := hide (And.intro hpt (And.intro mg5 (And.intro hl5 (And.intro bb5 BX5)))); clear b5 hpt mg5 hl5 bb5 BX5; dsimp only))
        obtain ⟨hpt, mg5, hl5, bb5, BX5⟩ := H5.out
        obtain ⟨u6, o6⟩ := set_one (i := 0) (.pointer pt) BX5.1
        obtain ⟨w6, hw6⟩ : ∃ q, q = w5.setCell ⟨Mb, 0, none⟩ (.pointer pt) := ⟨_, rfl⟩
        rw [← hw6] at u6 o6
        rw [← hw6]
        have BX6 : Boxd w6 Mb pt t' := ⟨by simpa using u6, hpt, mg5.aside BX5.1 o6⟩
        have r6 := (o6.block _ (by have := (Array.getElem?_eq_some_iff.1 HI.out.2.2.1).1; have := bb5.size; omega) (fun e => by have := HZ.out; have e' : Rb = Mb := e; omega)).trans ((bb5.block _ (Array.getElem?_eq_some_iff.1 HI.out.2.2.1).1).trans HI.out.2.2.1)
        have bw5 := HI.out.2.2.2.trans (bb5.mono HI.out.2.2.2.size)
        have b6 := Below.only bw5 o6 bw5.size (fun j e => by have := HZ.out; have e' : j = Mb := e; omega)
        have H6 := hide (And.intro BX6 (And.intro (hl5.trans HR.out) (And.intro r6 b6)))
        have x6 := BX6.cell
        clear hmf HTK u6 o6 hw6 BX6 r6 bw5 b6 hpt mg5 hl5 bb5 BX5 H5 H4 c5 f5 HI
        go_quiet (fail)
        have HN := hide (below_drew w6 nq)
        generalize w6.drewN nq = w7 at HN ⊢
        clear x6
        go_wp2
        go_roundw
        case rel => exact ⟨i + 1, t', pt, rfl, rfl, by go_num, by omega, hide ⟨H6.out.1.below HN.out, H6.out.2.1, (HN.out.block _ (Array.getElem?_eq_some_iff.1 H6.out.2.2.1).1).trans H6.out.2.2.1, H6.out.2.2.2.trans (HN.out.mono H6.out.2.2.2.size)⟩⟩
        case measure => simp [intOf]; omega
      · obtain rfl : i = K := by omega
        have y1 : ¬ (i : Int) < (i : Int) := by omega
        have y2 : decide (i < i) = false := by simp
        obtain ⟨q1, q2, q3, q4⟩ := HI.out
        obtain ⟨u6, o6⟩ := set_one (i := 0) (.pointer pc) q3
        have b6 := Below.only q4 o6 q4.size (fun j e => by have := HZ.out; have e' : j = Rb := e; omega)
        have mg6 := q1.2.2.aside q3 o6
        have HE := hide (And.intro u6 (And.intro b6 (And.intro mg6 (And.intro q2 q1.2.1))))
        have x0 := q1.cell
        have c1 : wr.cell? ⟨Rb, 0, none⟩ = some (.pointer none) := (cell_of_row _ _ 0 _ 27 (0, 0) q3).trans rfl
        have f1 : wr.frozen? ⟨Rb, 0, none⟩ = false := frozen_of_row _ _ 0 _ 27 q3
        clear q1 q2 q3 q4 u6 o6 b6 mg6 HI hi hK4
        go_wp2
        refine ret_row_tmp Rb [.pointer pc] rfl rfl rfl Tryz.underlying27 rfl T27 (by simpa using HE.out.1) rfl ?_
        exact ⟨tc, pc, HE.out.2.2.2.2, by rw [← HK.out.1]; rfl, HE.out.2.2.1, by rw [← HK.out.1]; exact HE.out.2.2.2.1, (fun hh => (by rw [HM.out] at hh; exact Bool.noConfusion hh)), HE.out.2.1⟩
end Go.Proofs.YtkeldhohilmdcaaGreat.Qu
