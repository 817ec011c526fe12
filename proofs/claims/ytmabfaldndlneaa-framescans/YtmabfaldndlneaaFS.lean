/-
  THE WALK over the statement FrameScans.
-/
import Derived.Test.YtmabfaldndlneaaOneIff
import Derived.BigCall
import Derived.BigGuard
import Derived.BigGuardPart
import Derived.BigRegion
namespace Go.Proofs.Ytmabfaldndlneaa
open Go.RowKit Go.Shelf
set_option linter.unusedSimpArgs false

theorem conv_cat {w : World} {ao : Option Addr} {cap : Nat} {l : List Int} (hr : Rd w ao (l ++ [119])) : (convert 22 9 (.slice ao (l.length + 1) cap)).run Try.prog w = .ok (.string (strOfNums l ++ { data := #[119] })) w := by
  have := conv_rd (n := l.length + 1) (cap := cap) hr (by simp)
  rw [this]
  have e : strOfNums (l ++ [119]) = strOfNums l ++ { data := #[119] } := by
    apply ByteArray.ext
    simp [strOfNums]
  rw [e]
theorem add_byte (l : List Int) (u : World) (h : l.length ≤ 1048576) : (binOp .add 9 (.string (strOfNums l)) (.string { data := #[119] })).run Try.prog u = .ok (.string (strOfNums l ++ { data := #[119] })) u := by
  have hs := strOfNums_size l
  have h1 : ({ data := #[119] } : ByteArray).size = 1 := rfl
  have := run_string_add_sum (P := Try.prog) (w := u) (strOfNums l) { data := #[119] } (by rw [hs, h1]; omega)
  simpa [binOp] using this
theorem oper_call {P : Program} {o : Oper} {a : Act} {w : World} {K : Act → World → Prop} {Q : Exit → Act → World → Prop} {OP : Op} {T : TypeId} {f : FuncId} {args : Array Value} (ho : o.op = OP) (ht : o.type = T)
    (hy : (execOp a.eval { dst := none, op := OP, type := T, pos := "", after := #[], guard := none }).run P w = .ok (.enter f args) w) (hc : Calls P f args w fun e w' => ∃ v, e = .returned v ∧ K (a.put o.dst v) w') : o.wp P a w K Q := by
  unfold Oper.wp
  rw [exec_same a.eval o ho ht, hy]
  refine Calls.mono hc ?_
  rintro e w1 ⟨v, rfl, h⟩
  exact h
theorem fn_eq (w : World) (L : Nat) : (binOp .eql 32 (.func (.func 27) #[] #[.pointer (some ⟨L, 0, none⟩)]) .nilFunc).run Try.prog w = .ok (.bool false) w := by kernel_rfl

/-- What is left of the frames that were told, behind i rounds: the row's cells from 2 i on, and the bodies. -/
structure Lft (wr : World) (B gl : Nat) (F : List Fr) (xs : List Value) (i : Nat) : Prop where
  row : ∃ cur, wr.heap[gl]? = some (.cells cur 36 (0, 0)) ∧ 2 * F.length ≤ cur.size ∧ ∀ j, 2 * i ≤ j → j < 2 * F.length → cur[j]? = xs[j]?
  own : ∀ k f, i ≤ k → F[k]? = some f → ∃ ao c, xs[2 * k + 1]? = some (.slice ao f.body.length c) ∧ Own 5 wr B (.slice ao f.body.length c) f.body
theorem Fms.lft {w : World} {B : Nat} {gl n c : Nat} {F : List Fr} {xs : List Value} (h : Fms w B (.slice (some ⟨gl, 0, none⟩) n c) F xs) : Lft w B gl F xs 0 := by
  constructor
  · rcases h.row.2 with ⟨q, _⟩ | ⟨g, cp, cur, q, _, h3, h4, _, h6, h7⟩
    · simp at q
    · simp only [Value.slice.injEq, Option.some.injEq, Addr.mk.injEq] at q
      obtain ⟨⟨rfl, _, _⟩, _, rfl⟩ := q
      refine ⟨cur, h3, by omega, fun j _ hj => ?_⟩
      have := congrArg (fun l => l[j]?) h7
      simp only [List.getElem?_take] at this
      rw [if_pos (by omega)] at this
      rw [← this, Array.getElem?_toList]
  · intro k f _ hf
    obtain ⟨ao, c', _, h2, h3, _⟩ := h.it.get k f hf
    exact ⟨ao, c', h2, h3⟩
theorem Lft.cells {wr : World} {B gl : Nat} {F : List Fr} {xs : List Value} {i : Nat} (h : Lft wr B gl F xs i) {j : Nat} (hj : 2 * i ≤ j) (hj2 : j < 2 * F.length) : wr.cell? ⟨gl, j, none⟩ = xs[j]? ∧ wr.frozen? ⟨gl, j, none⟩ = false := by
  obtain ⟨cur, h1, h2, h3⟩ := h.row
  exact ⟨by rw [cell_of_row wr gl j cur 36 (0, 0) h1]; exact h3 j hj hj2, frozen_of_row wr gl j cur 36 h1⟩
theorem Lft.only {w w' : World} {B gl : Nat} {F : List Fr} {xs : List Value} {i : Nat} {D : Nat → Prop} (h : Lft w B gl F xs i) (ho : Only D w w') (hg : ¬ D gl) (hb : ∀ k u n, i ≤ k → xs[2 * k + 1]? = some u → u.ownBlock = some n → ¬ D n) : Lft w' B gl F xs i := by
  constructor
  · obtain ⟨cur, h1, h2, h3⟩ := h.row
    exact ⟨cur, (ho.block _ (Array.getElem?_eq_some_iff.1 h1).1 hg).trans h1, h2, h3⟩
  · intro k f hk hf
    obtain ⟨ao, c, h1, h2⟩ := h.own k f hk hf
    exact ⟨ao, c, h1, ho.own h2 (fun n hn => hb k _ n hk h1 hn)⟩
theorem Lft.next {w : World} {B gl : Nat} {F : List Fr} {xs : List Value} {i : Nat} (h : Lft w B gl F xs i) (v : Value) (hoff : ∀ k u n, xs[2 * k + 1]? = some u → u.ownBlock = some n → n ≠ gl) : Lft (w.setCell ⟨gl, i * 2 + 1, none⟩ v) B gl F xs (i + 1) := by
  constructor
  · obtain ⟨cur, h1, h2, h3⟩ := h.row
    refine ⟨cur.setIfInBounds (i * 2 + 1) v, by rw [heap_setCell_same _ _ _ _ 36 _ h1], by simpa using h2, fun j hj hj2 => ?_⟩
    rw [Array.getElem?_setIfInBounds_ne (by omega)]
    exact h3 j (by omega) hj2
  · intro k f hk hf
    obtain ⟨ao, c, h1, h2⟩ := h.own k f (by omega) hf
    exact ⟨ao, c, h1, (Only.ofGrown (grown_setCell w _ v)).own h2 (fun n hn e => by cases e; exact hoff k _ _ h1 hn rfl)⟩

theorem Lft.weak {w : World} {B gl : Nat} {F : List Fr} {xs : List Value} {i : Nat} (h : Lft w B gl F xs i) : Lft w B gl F xs (i + 1) := by
  constructor
  · obtain ⟨cur, h1, h2, h3⟩ := h.row
    exact ⟨cur, h1, h2, fun j hj hj2 => h3 j (by omega) hj2⟩
  · exact fun k f hk hf => h.own k f (by omega) hf
theorem Lft.set {w : World} {B gl : Nat} {F : List Fr} {xs : List Value} {i : Nat} (h : Lft w B gl F xs (i + 1)) (v : Value) (hoff : ∀ k u n, xs[2 * k + 1]? = some u → u.ownBlock = some n → n ≠ gl) : Lft (w.setCell ⟨gl, i * 2 + 1, none⟩ v) B gl F xs (i + 1) := by
  constructor
  · obtain ⟨cur, h1, h2, h3⟩ := h.row
    refine ⟨cur.setIfInBounds (i * 2 + 1) v, by rw [heap_setCell_same _ _ _ _ 36 _ h1], by simpa using h2, fun j hj hj2 => ?_⟩
    rw [Array.getElem?_setIfInBounds_ne (by omega)]
    exact h3 j (by omega) hj2
  · intro k f hk hf
    obtain ⟨ao, c, h1, h2⟩ := h.own k f (by omega) hf
    exact ⟨ao, c, h1, (Only.ofGrown (grown_setCell w _ v)).own h2 (fun n hn e => by cases e; exact hoff k _ _ h1 hn rfl)⟩
/-- One round: the body turned, its cell written anew. -/
theorem Lft.round {w w7 : World} {B gl : Nat} {F : List Fr} {xs : List Value} {i : Nat} {u : Value} (h : Lft w B gl F xs i) (ho : Only (fun n => u.ownBlock = some n) w w7) (hu : xs[2 * i + 1]? = some u)
    (hap : ∀ i j v v' n, i < j → xs[2 * i + 1]? = some v → xs[2 * j + 1]? = some v' → v.ownBlock = some n → v'.ownBlock ≠ some n) (hoff : ∀ k u n, xs[2 * k + 1]? = some u → u.ownBlock = some n → n ≠ gl) (v : Value) : Lft (w7.setCell ⟨gl, i * 2 + 1, none⟩ v) B gl F xs (i + 1) :=
  (h.weak.only ho (fun e => hoff i _ _ hu e rfl) (fun k u' n hk hu' hn e => hap i k u u' n (by omega) hu hu' e hn)).set v hoff

set_option maxHeartbeats 4000000 in
set_option maxRecDepth 100000 in
theorem scans_walk {w : World} {ao : Option Addr} {c : Nat} {b : List Int} (leave : Int) (h : Bs w ao c b) :
    Calls Try.prog 3 #[.slice ao b.length c, .int .i64 leave] w fun e w' => e = .returned (.bool true) ∧ Below w.heap.size w w' := by
  by_cases hbig : 60000 < b.length
  · have hd : decide ((60000 : Int) < (b.length : Int)) = true := by simp; omega
    have hd2 : decide (60000 < b.length) = true := by simpa using hbig
    go_enter Try.func3, Try.ntmps3
    go_wp2_with (go_at_call 5; refine (known_any _).mono ?_; rintro e w7 ⟨rfl, b7⟩)
    go_ret
    exact ⟨rfl, b7⟩
  · have hd : decide ((60000 : Int) < (b.length : Int)) = false := by simp; omega
    have hd2 : decide (60000 < b.length) = false := by simpa using hbig
    obtain ⟨i0, hi, hz0, hz1, hz2⟩ := info_parts Try.info5
    have H := hide h
    have hrd := h.rd
    have hnil := h.nil
    clear h
    obtain ⟨N, hN⟩ : ∃ N, N = (FL b).length := ⟨_, rfl⟩
    have HN := hide hN
    have hscan : ∀ w2 g c2, Own 5 w2 w.heap.size (.slice (some ⟨g, 0, none⟩) (b.length + 1) c2) (b ++ [119]) → Calls Try.prog 6 #[.slice (some ⟨g, 0, none⟩) b.length c2] w2 fun e w' => ∃ a3 c3 xs, e = .returned (.tuple #[.slice a3 N c3, .int .i64 (fend b 0 : Nat), .int .i64 (ends b : Nat)]) ∧ Hid (Fms w' w2.heap.size (.slice a3 N c3) (FL b) xs) ∧ Below w2.heap.size w2 w' := fun w2 g c2 ho => by
      have hc := ho.cap.1
      have hbs : Bs w2 (some ⟨g, 0, none⟩) c2 b := ⟨by have := ho.rd.take b.length; rwa [List.take_left] at this, by simp at hc; omega, by simp, H.out.u8⟩
      refine (scan_any hbs (fun a ha => (ho.blk a ha).2) (by omega)).mono ?_
      rintro e w' ⟨v, xs, rfl, hM, hb⟩
      obtain ⟨a3, c3, rfl, _, _⟩ := row_form hM.row
      rw [← hN] at hM ⊢
      exact ⟨a3, c3, xs, rfl, hide hM, hb⟩
    have hrscan : ∀ w3, Below w.heap.size w w3 → Calls Try.prog 7 #[.slice ao b.length c] w3 fun e w' => ∃ a4 c4 xs, e = .returned (.tuple #[.slice a4 N c4, .int .i64 (fend b 0 : Nat), .int .i64 (ends b : Nat)]) ∧ Hid (Fms w' w3.heap.size (.slice a4 N c4) (FL b) xs) ∧ Below w3.heap.size w3 w' := fun w3 hb3 => by
      refine (refScan_any (H.out.below hb3) (by omega)).mono ?_
      rintro e w' ⟨v, xs, rfl, hM, hb⟩
      obtain ⟨a4, c4, rfl, _, _⟩ := row_form hM.row
      rw [← hN] at hM ⊢
      exact ⟨a4, c4, xs, rfl, hide hM, hb⟩
    have hallc : ∀ w4 g c2, Own 5 w4 w.heap.size (.slice (some ⟨g, 0, none⟩) (b.length + 1) c2) (b ++ [119]) → Calls Try.prog 9 #[.slice (some ⟨g, 0, none⟩) b.length c2] w4 fun e w' => ∃ L, e = .returned (.func (.func 27) #[] #[.pointer (some ⟨L, 0, none⟩)]) ∧ Hid (∃ ao' c', BAt w' L ao' c' b ∧ w4.heap.size ≤ L ∧ (∀ a, ao' = some a → w4.heap.size ≤ a.block ∧ a.block < w'.heap.size)) ∧ Below w4.heap.size w4 w' := fun w4 g c2 ho => by
      have hc := ho.cap.1
      have hbs : Bs w4 (some ⟨g, 0, none⟩) c2 b := ⟨by have := ho.rd.take b.length; rwa [List.take_left] at this, by simp at hc; omega, by simp, H.out.u8⟩
      refine (all_any hbs (by omega)).mono ?_
      rintro e w' ⟨L, ao', c', rfl, h1, h2, h3, h4⟩
      exact ⟨L, rfl, hide ⟨ao', c', h1, h2, h3⟩, h4⟩
    have hNb : N ≤ 60000 := by have := frs_length b 0 (by omega); rw [hN, FL_length]; omega
    clear hN
    obtain ⟨en, hen⟩ : ∃ en, en = ends b := ⟨_, rfl⟩
    obtain ⟨fe, hfe⟩ : ∃ fe, fe = fend b 0 := ⟨_, rfl⟩
    simp only [← hen, ← hfe] at hscan hrscan
    have HEN := hide hen
    clear hen hfe
    go_enter Try.func3, Try.ntmps3
    go_wp2_with (first
      | (at_builtin; refine wpList_append_rd (w := w) rfl (.const (.slice none 0 0)) (.tmp 22) 22 rfl w.heap.size 5 i0 Try.underlying22 hi hz0 hz1 hz2 _ [] rfl (Own.nil _ _ _) ao c b rfl hnil hrd (by simp; omega) (Nat.le_refl _) ?_; intro ao1 c1 w1 own1 g1 hn1; have own1' : Own 5 w1 w.heap.size (.slice ao1 b.length c1) b := (by simpa using own1); have b1 : Below w.heap.size w w1 := (Below.refl _ w).grown g1 (Nat.le_refl _) (fun j hj => by cases hj); have hs1 := b1.size; simp only [List.length_nil, Nat.zero_add])
      | (at_builtin; refine wpList_push (w := w1.alloc (.cells #[.int .u8 119] 5)) rfl (.tmp 23) (.tmp 24) 22 rfl w.heap.size 5 i0 Try.underlying22 hi hz0 hz1 hz2 _ b rfl (own1'.alloc _) ⟨w1.heap.size, 0, none⟩ 1 119 rfl (by rw [cell_of_row _ _ 0 _ 5 (0, 0) (heap_alloc_new w1 _)]; rfl) (by omega) (by simp; omega) ?_; intro ao2 c2 w2 own2 g2 hn2; have b2 : Below w.heap.size w w2 := (b1.alloc hs1 _).grown g2 (by simp; omega) (fun j hj => (World.ownsRow.lt own1' j hj).1); have hcap2 := own2.cap.1; have hs2 := b2.size; obtain ⟨g, cg, -, hv2, -⟩ := (show ∃ g cap cur, Value.slice ao2 (b.length + 1) c2 = .slice (some ⟨g, 0, none⟩) (b ++ [119]).length cap ∧ w2.heap[g]? = some (.cells cur 5 (0, 0)) from (by rcases own2.2 with ⟨q, _⟩ | ⟨g, cap, cur, q, _, q2, _⟩; (· simp at q); exact ⟨g, cap, cur, q, q2⟩)); simp only [Value.slice.injEq] at hv2; obtain ⟨rfl, -, rfl⟩ := hv2; have hle : b.length ≤ c2 := (by simp at hcap2; omega); have hsc := hscan w2 g c2 own2))
    try simp only [Act.put, List.setIfInBounds_toArray, List.set_cons_zero, List.set_cons_succ]
    go_wp2_with (first
      | (refine wpList_value (OP := Op.slice 22 (.tmp 27) none (some (.tmp 29)) none) (T := 22) rfl rfl rfl (exec_slice_hi (ao := some ⟨g, 0, none⟩) (n := b.length + 1) (c := c2) (j := b.length) (k := .i64) rfl rfl hle (by intro h; cases h)) ?_; simp only [Act.put, List.setIfInBounds_toArray, List.set_cons_zero, List.set_cons_succ])
      | (go_at_call 6; refine hsc.mono ?_; rintro e w3 ⟨a3, c3, xs, rfl, HM3, b3⟩; have b03 := b2.trans (b3.mono hs2); have hrs := hrscan w3 b03; dsimp only)
      | (go_at_call 7; refine hrs.mono ?_; rintro e wB ⟨a4, c4, ys, rfl, HM4, b4⟩; have b24 := b3.trans (b4.mono b3.size); have hal := hallc wB g c2 (own2.below b24); dsimp only)
      | (go_at_call 8; refine (num_any _ _).mono ?_; rintro e w' ⟨rfl, rfl⟩; dsimp only)
      | (refine wpList_value (OP := Op.slice 22 (.tmp 57) none (some (.tmp 59)) none) (T := 22) rfl rfl rfl (exec_slice_hi (ao := some ⟨g, 0, none⟩) (n := b.length + 1) (c := c2) (j := b.length) (k := .i64) rfl rfl hle (by intro h; cases h)) ?_; simp only [Act.put, List.setIfInBounds_toArray, List.set_cons_zero, List.set_cons_succ])
      | (go_at_call 9; refine hal.mono ?_; rintro e w5 ⟨L, rfl, HA, b5⟩; have hfe := fn_eq w5 L; dsimp only))
    have HB := hide (And.intro b2 (And.intro b3 (And.intro b4 (And.intro b5 (And.intro b03 (And.intro own2 HA.out))))))
    have HF := hide (And.intro HM3.out HM4.out)
    clear hscan hrscan hallc hsc hrs hal b2 b3 b4 b5 b03 b24 own2 own1' own1 HA HM3 HM4 b1 g1 g2 hcap2 hrd hnil
    go_loopw [13] (fun iv wr => ∃ i : Nat, i ≤ N ∧ iv = .int .i64 i ∧ Only (fun j => w2.heap.size ≤ j ∧ j < w3.heap.size) w5 wr ∧ (∀ gl, a3 = some ⟨gl, 0, none⟩ → Lft wr w2.heap.size gl (FL b) xs i)) (fun iv _ => N - (intOf iv).toNat)
    case atStart =>
      obtain ⟨b2, b3, b4, b5, _⟩ := HB.out
      refine ⟨0, Nat.zero_le _, rfl, Only.refl _ _, fun gl hgl => ?_⟩
      subst hgl
      have b35 := b4.trans (b5.mono b4.size)
      exact HF.out.1.lft.only (Only.ofBelow b35) (fun d => d.elim) (fun _ _ _ _ _ _ d => d.elim)
    case round =>
      obtain ⟨i, hiN, rfl, hon, hLf⟩ := hrel
      by_cases hlt : i < N
      · have hiF : i < (FL b).length := by rw [← HN.out]; exact hlt
        obtain ⟨f, hf⟩ : ∃ f, (FL b)[i]? = some f := ⟨_, List.getElem?_eq_getElem hiF⟩
        obtain ⟨a3', c3', hv3, ha3, -⟩ := row_form HF.out.1.row
        simp only [Value.slice.injEq] at hv3
        obtain ⟨e31, -, e33⟩ := hv3
        subst e31 e33
        cases a3 with
        | none =>
          exfalso
          rcases HF.out.1.row.2 with ⟨_, q⟩ | ⟨_, _, _, q, _⟩
          · omega
          · simp at q
        | some a3 =>
        obtain ⟨gl, rfl⟩ := ha3 _ rfl
        have hL := hLf gl rfl
        obtain ⟨-, -, -, b5, -⟩ := HB.out
        obtain ⟨ao', c', hx1, hown⟩ := hL.own i f (Nat.le_refl _) hf
        obtain ⟨ao2, c2', hx0, -, -, -⟩ := HF.out.1.it.get i f hf
        have k0 := hL.cells (j := 2 * i) (by omega) (by omega)
        have k1 := hL.cells (j := 2 * i + 1) (by omega) (by omega)
        rw [hx0, Nat.mul_comm] at k0
        rw [hx1, Nat.mul_comm] at k1
        have hfm := (HF.out.2.below b5).only hon (fun j hj _ hX => by have := hX.2; omega)
        obtain ⟨gw, aw, cw, hgw, v0, v1, vrd⟩ := hfm.seen.1.item i f hf
        subst hgw
        have hS1 : wr.drew.cell? ⟨gl, i * 2, none⟩ = some (.int .i64 f.kind) ∧ wr.drew.cell? ⟨gl, i * 2 + 1, none⟩ = some (.slice ao' f.body.length c') ∧ wr.drew.cell? ⟨gw, i * 2, none⟩ = some (.int .i64 f.kind) ∧ wr.drew.cell? ⟨gw, i * 2 + 1, none⟩ = some (.slice aw f.body.length cw) := ⟨k0.1, k1.1, v0, v1⟩
        have hsame := same_yes f.kind ao' aw c' cw f.body wr.drew (hown.rd) vrd
        have hdi : decide (i < N) = true := by simpa using hlt
        have hdi2 : decide ((i : Int) < (N : Int)) = true := by simpa using hlt
        have hz : (i : Int) < (N : Int) := by omega
        have HR := hide (And.intro hL (And.intro hon (And.intro hx1 (And.intro hf (And.intro hown (And.intro k0.2 k1.2))))))
        have hsl : f.body.length ≤ 60000 := by
          have hx : ∃ x, (frs b 0)[i]? = some x ∧ x.2 = f := by simpa [FL] using hf
          obtain ⟨x, hx, rfl⟩ := hx
          obtain ⟨_, _, m3, m4⟩ := frs_mem 0 x (List.mem_of_getElem? hx)
          have := next_le m3
          rw [← m4] at this
          omega
        clear hL hon hx1 hf hown k0 k1 v0 v1 vrd hfm hx0 hLf b5 ha3
        go_wp2
        refine wp_region_held_drew (S := (fun w' => w'.cell? ⟨gl, i * 2, none⟩ = some (.int .i64 f.kind) ∧ w'.cell? ⟨gl, i * 2 + 1, none⟩ = some (.slice ao' f.body.length c') ∧ w'.cell? ⟨gw, i * 2, none⟩ = some (.int .i64 f.kind) ∧ w'.cell? ⟨gw, i * 2 + 1, none⟩ = some (.slice aw f.body.length cw))) (by kernel_rfl) (by exact hS1) (fun hHeld => ?_)
        try dsimp only at hHeld
        refine take_op (i := 0) (d := 70) (OP := Op.move (Operand.tmp 6)) (T := 24) (v := ?vq1x) rfl rfl rfl rfl (by kernel_rfl) (by kernel_rfl) (by kernel_rfl) (fun _ _ _ h => h) (by rfl) ?hq1x hHeld ?rq1x
        case hq1x => (intro w' hSw; (try dsimp only at hSw); go_simp <;> with_reducible rfl)
        try simp only [Act.put, List.setIfInBounds_toArray, List.set_cons_zero, List.set_cons_succ]
        refine take_op (i := 1) (d := 71) (OP := Op.move (Operand.tmp 13)) (T := 3) (v := ?vq2x) rfl rfl rfl rfl (by kernel_rfl) (by kernel_rfl) (by kernel_rfl) (fun _ _ _ h => h) (by rfl) ?hq2x hHeld ?rq2x
        case hq2x => (intro w' hSw; (try dsimp only at hSw); go_simp <;> with_reducible rfl)
        try simp only [Act.put, List.setIfInBounds_toArray, List.set_cons_zero, List.set_cons_succ]
        refine take_op (i := 2) (d := 72) (OP := Op.indexAddr 24 (Operand.tmp 70) (Operand.tmp 71)) (T := 0) (v := ?vq3x) rfl rfl rfl rfl (by kernel_rfl) (by kernel_rfl) (by kernel_rfl) (fun _ _ _ h => h) (by rfl) ?hq3x hHeld ?rq3x
        case hq3x => (intro w' hSw; (try dsimp only at hSw); go_simp <;> with_reducible rfl)
        try simp only [Act.put, List.setIfInBounds_toArray, List.set_cons_zero, List.set_cons_succ]
        refine take_op (i := 3) (d := 73) (OP := Op.load 36 (Operand.tmp 72)) (T := 36) (v := ?vq4x) rfl rfl rfl rfl (by kernel_rfl) (by kernel_rfl) (by kernel_rfl) (fun _ _ _ h => h) (by rfl) ?hq4x hHeld ?rq4x
        case hq4x => (intro w' hSw; (try dsimp only at hSw); go_simp <;> with_reducible rfl)
        try simp only [Act.put, List.setIfInBounds_toArray, List.set_cons_zero, List.set_cons_succ]
        refine take_op (i := 4) (d := 74) (OP := Op.move (Operand.tmp 9)) (T := 24) (v := ?vq5x) rfl rfl rfl rfl (by kernel_rfl) (by kernel_rfl) (by kernel_rfl) (fun _ _ _ h => h) (by rfl) ?hq5x hHeld ?rq5x
        case hq5x => (intro w' hSw; (try dsimp only at hSw); go_simp <;> with_reducible rfl)
        try simp only [Act.put, List.setIfInBounds_toArray, List.set_cons_zero, List.set_cons_succ]
        refine take_op (i := 5) (d := 75) (OP := Op.move (Operand.tmp 13)) (T := 3) (v := ?vq6x) rfl rfl rfl rfl (by kernel_rfl) (by kernel_rfl) (by kernel_rfl) (fun _ _ _ h => h) (by rfl) ?hq6x hHeld ?rq6x
        case hq6x => (intro w' hSw; (try dsimp only at hSw); go_simp <;> with_reducible rfl)
        try simp only [Act.put, List.setIfInBounds_toArray, List.set_cons_zero, List.set_cons_succ]
        refine take_op (i := 6) (d := 76) (OP := Op.indexAddr 24 (Operand.tmp 74) (Operand.tmp 75)) (T := 0) (v := ?vq7x) rfl rfl rfl rfl (by kernel_rfl) (by kernel_rfl) (by kernel_rfl) (fun _ _ _ h => h) (by rfl) ?hq7x hHeld ?rq7x
        case hq7x => (intro w' hSw; (try dsimp only at hSw); go_simp <;> with_reducible rfl)
        try simp only [Act.put, List.setIfInBounds_toArray, List.set_cons_zero, List.set_cons_succ]
        refine take_op (i := 7) (d := 77) (OP := Op.load 36 (Operand.tmp 76)) (T := 36) (v := ?vq8x) rfl rfl rfl rfl (by kernel_rfl) (by kernel_rfl) (by kernel_rfl) (fun _ _ _ h => h) (by rfl) ?hq8x hHeld ?rq8x
        case hq8x => (intro w' hSw; (try dsimp only at hSw); go_simp <;> with_reducible rfl)
        try simp only [Act.put, List.setIfInBounds_toArray, List.set_cons_zero, List.set_cons_succ]
        refine call_op (i := 8) (d := 78) (OP := Op.call { callee := Callee.value (Operand.func 10), args := #[Operand.tmp 73, Operand.tmp 77], argTypes := #[36, 36] }) (T := 4) (f := 10) (args := #[frv f.kind ao' f.body.length c', frv f.kind aw f.body.length cw]) rfl rfl rfl rfl (by kernel_rfl) (by rfl) (by go_simp) ?_
        refine (hsame).mono ?_
        rintro e wS ⟨rfl, bS⟩
        have hS2 : wS.cell? ⟨gl, i * 2, none⟩ = some (.int .i64 f.kind) ∧ wS.cell? ⟨gl, i * 2 + 1, none⟩ = some (.slice ao' f.body.length c') ∧ wS.cell? ⟨gw, i * 2, none⟩ = some (.int .i64 f.kind) ∧ wS.cell? ⟨gw, i * 2 + 1, none⟩ = some (.slice aw f.body.length cw) := ⟨(bS.cell (World.block_lt_of_cell? _ _ hHeld.1)).trans hHeld.1, (bS.cell (World.block_lt_of_cell? _ _ hHeld.2.1)).trans hHeld.2.1, (bS.cell (World.block_lt_of_cell? _ _ hHeld.2.2.1)).trans hHeld.2.2.1, (bS.cell (World.block_lt_of_cell? _ _ hHeld.2.2.2)).trans hHeld.2.2.2⟩
        refine ⟨_, rfl, hS2, ?_⟩
        replace hHeld := hS2
        try simp only [Act.put, List.setIfInBounds_toArray, List.set_cons_zero, List.set_cons_succ]
        refine take_op (i := 9) (d := 79) (OP := Op.unOp UnOp.not 4 (Operand.tmp 78)) (T := 4) (v := ?vq10x) rfl rfl rfl rfl (by kernel_rfl) (by kernel_rfl) (by kernel_rfl) (fun _ _ _ h => h) (by rfl) ?hq10x hHeld ?rq10x
        case hq10x => (intro w' hSw; (try dsimp only at hSw); go_simp <;> with_reducible rfl)
        try simp only [Act.put, List.setIfInBounds_toArray, List.set_cons_zero, List.set_cons_succ]
        refine wpAnyH_done (by kernel_rfl) ?_ _
        obtain ⟨hL, hon, hx1, hf, hown, -, -⟩ := HR.out
        have bS' : Below wr.heap.size wr wS := below_undrew0 bS
        have hvb : ∀ n, Value.ownBlock (.slice ao' f.body.length c') = some n → w2.heap.size ≤ n ∧ n < w3.heap.size := fun n hn => HF.out.1.it.body hx1 hn
        have hglX := HF.out.1.lo gl rfl
        have hglY := (World.ownsRow.lt HF.out.1.row gl rfl).2
        have hgne : Value.ownBlock (.slice ao' f.body.length c') ≠ some gl := fun e => HF.out.1.off i _ _ hx1 e rfl
        have hfmO := hide (And.intro HF.out.1.it.apart HF.out.1.off)
        have LS := hL.only (Only.ofBelow bS') (fun d => d.elim) (fun _ _ _ _ _ _ d => d.elim)
        obtain ⟨cur, r1, r2, r3⟩ := LS.row
        have r3' : cur[i * 2 + 1]? = some (.slice ao' f.body.length c') := by rw [Nat.mul_comm]; exact (r3 _ (by omega) (by omega)).trans hx1
        have hgS := (Array.getElem?_eq_some_iff.1 r1).1
        have onS := hon.trans (Only.ofBelow bS') (fun _ _ d => d.elim)
        have HS := hide (And.intro LS (And.intro onS (And.intro hx1 (And.intro (hown.below bS') (And.intro r1 r3')))))
        clear HR hL hon hx1 hf hown bS bS' LS r1 r2 r3 r3' onS hS1 hS2 hHeld hsame
        go_wp2
        go_loopw [14] (fun kv wk => ∃ (j : Nat) (l' : List Int), j ≤ f.body.length ∧ kv = .int .i64 j ∧ l'.length = f.body.length ∧ Own 5 wk w2.heap.size (.slice ao' f.body.length c') l' ∧ Only (fun n => Value.ownBlock (.slice ao' f.body.length c') = some n) wS wk) (fun kv _ => f.body.length - (intOf kv).toNat)
        case atStart => exact ⟨0, f.body, Nat.zero_le _, rfl, rfl, HS.out.2.2.2.1, Only.refl _ _⟩
        case round =>
          obtain ⟨j, l', hj, rfl, hl', ho', honk⟩ := hrel
          have rk := (honk.block gl hgS hgne).trans HS.out.2.2.2.2.1
          have ck := (cell_of_row _ gl (i * 2 + 1) cur 36 (0, 0) rk).trans HS.out.2.2.2.2.2
          have fk := frozen_of_row _ gl (i * 2 + 1) cur 36 rk
          by_cases hltj : j < f.body.length
          · obtain ⟨gg, hgg, hc, hfz, -, -, hst⟩ := ho'.store (k := j) (by omega)
            subst hgg
            have hki2 : (j : Int) < (f.body.length : Int) := by omega
            have hdn : decide (j < f.body.length) = true := by simpa using hltj
            have hst' := hide (hst 90)
            have HK := hide honk
            clear hst ho' honk rk
            go_wp2
            go_roundw
            case rel => exact ⟨j + 1, l'.set j 90, by omega, by go_num, by simpa using hl', hst'.out.1, HK.out.trans (Only.ofGrown hst'.out.2) (fun i _ hi => by simpa [Value.ownBlock] using hi)⟩
            case measure => simp [intOf]; omega
          · obtain rfl : j = f.body.length := by omega
            have hdn : decide (f.body.length < f.body.length) = false := by simp
            have hbw2 : w2.heap.size ≤ wr.heap.size := by have := honk.size; omega
            have rd3 : Rd (wr.alloc (.cells #[.int .u8 1, .int .u8 2, .int .u8 3] 5)) (some ⟨wr.heap.size, 0, none⟩) [1, 2, 3] := by
              refine ⟨by simp, fun a ha j u hj => ?_⟩
              cases ha
              rw [add_lit, cell_of_row _ _ (0 + j) _ 5 (0, 0) (heap_alloc_new wr _)]
              match j, hj with
              | 0, hj => simpa [u8s] using hj
              | 1, hj => simpa [u8s] using hj
              | 2, hj => simpa [u8s] using hj
            have hown3 := ho'.alloc (.cells #[.int .u8 1, .int .u8 2, .int .u8 3] 5)
            have hon3 := honk.alloc (.cells #[.int .u8 1, .int .u8 2, .int .u8 3] 5)
            have hs3 : w2.heap.size ≤ (wr.alloc (.cells #[.int .u8 1, .int .u8 2, .int .u8 3] 5)).heap.size := by simp; omega
            have HW := hide (And.intro hon3 (And.intro hown3 (And.intro rd3 hs3)))
            clear hon3 hown3 rd3 hs3 ho' rk honk
            go_wp2_with (first
              | (at_builtin; refine wpList_append_rd (w := wr.alloc (.cells #[.int .u8 1, .int .u8 2, .int .u8 3] 5)) rfl (.tmp 103) (.tmp 104) 22 rfl w2.heap.size 5 i0 Try.underlying22 hi hz0 hz1 hz2 (.slice ao' f.body.length c') l' rfl HW.out.2.1 (some ⟨wr.heap.size, 0, none⟩) 3 [1, 2, 3] rfl (by simp) HW.out.2.2.1 (by rw [hl']; simp; omega) HW.out.2.2.2 ?_; intro ao7 c7 w7 own7 g7 hn7; have o7 := HW.out.1.trans (Only.ofGrown g7) (fun j _ e => e); have rk7 := (o7.block gl hgS hgne).trans HS.out.2.2.2.2.1; have ck7 := (cell_of_row _ gl (i * 2 + 1) cur 36 (0, 0) rk7).trans HS.out.2.2.2.2.2; have fk7 := frozen_of_row _ gl (i * 2 + 1) cur 36 rk7; have O7 := hide o7; clear o7 rk7 g7 own7 ck fk))
            go_roundw
            case rel => exact ⟨i + 1, by omega, by go_num, (HS.out.2.1.trans O7.out (fun j _ hj => hvb j hj)).setCell _ _ (fun _ => ⟨hglX, hglY⟩), fun gl' h => by cases h; exact HS.out.1.round O7.out HS.out.2.2.1 hfmO.out.1 (fun k u n hu hn e => by subst e; exact hfmO.out.2 k u _ hu hn rfl) _⟩
            case measure => simp [intOf]; omega
      · obtain rfl : i = N := by omega
        have hdn : decide (i < i) = false := by simp
        obtain ⟨b2, b3, b4, b5, b03, own2, hall⟩ := HB.out
        have hg2 := (World.ownsRow.lt own2 g rfl).2
        have hgw0 : w.heap.size ≤ g := (World.ownsRow.lt own2 g rfl).1
        have h23 : w2.heap.size ≤ w3.heap.size := b3.size
        have hgX : ¬ (w2.heap.size ≤ g ∧ g < w3.heap.size) := by omega
        have b25 := (b3.trans (b4.mono b3.size)).trans (b5.mono (b3.trans (b4.mono b3.size)).size)
        have ownR := hon.own (own2.below b25) (fun k hk => by cases hk; exact hgX)
        have fmsR := (HF.out.2.below b5).only hon (fun j hj _ hX => by have := hX.2; omega)
        have bR : Below w.heap.size w wr := Below.only (b2.trans (b25.mono hs2)) hon (b2.trans (b25.mono hs2)).size (fun j hj => by have := hj.1; omega)
        have hbsR : Bs wr (some ⟨g, 0, none⟩) c2 b := ⟨by have := ownR.rd.take b.length; rwa [List.take_left] at this, hle, by simp, H.out.u8⟩
        obtain ⟨aA, cA, hA1, hA2, hA3⟩ := hall
        have hAR := hA1.only hon (fun hX => by have h1 := b4.size; have h2 := hX.2; omega) (fun a ha hX => by have h1 := b4.size; have h2 := hX.2; have := (hA3 a ha).1; omega)
        have hone := one_any hbsR (by omega)
        have hiff := one_iff (b := b)
        have hgL : w2.heap.size ≤ L := by have := b3.size; have := b4.size; omega
        have hAb : ∀ a, aA = some a → w2.heap.size ≤ a.block ∧ a.block < wr.heap.size := fun a ha => by
          have h1 := b3.size
          have h2 := b4.size
          have h3 := hA3 a ha
          have h4 := hon.size
          omega
        by_cases hq : why b = 0 ∧ 9 + (fst b).body.length = b.length
        · have hone2 : Calls Try.prog 11 #[.slice (some ⟨g, 0, none⟩) b.length c2] wr fun e w' => ∃ a6 c6, e = .returned (.tuple #[frv (fst b).kind a6 (fst b).body.length c6, .int .i64 0]) ∧ Hid (Own 5 w' wr.heap.size (.slice a6 (fst b).body.length c6) (fst b).body) ∧ Below wr.heap.size wr w' := hone.mono (by
            rintro e w' ⟨hF | hF, hb⟩
            · exact (hF.1 hq).elim
            · obtain ⟨_, a6, c6, q1, q2⟩ := hF
              exact ⟨a6, c6, q1, hide q2, hb⟩)
          have hi1 : ((i : Int) == 1) = true := by have := (hiff.2 hq).1; rw [← HN.out] at this; simp [this]
          have he0 : ((en : Int) == 0) = true := by have := (hiff.2 hq).2; rw [← HEN.out] at this; simp [this]
          have hi2 : (0 : Int) < (i : Int) := by have := (hiff.2 hq).1; rw [← HN.out] at this; omega
          have hi3 : 0 < i := by omega
          have HQ := hide hq
          clear hq
          have HX := hide (And.intro ownR (And.intro fmsR (And.intro bR (And.intro hAR (And.intro hg2 (And.intro hgL hAb))))))
          clear hiff hone hAR hA1 hA2 hA3 hbsR bR fmsR ownR b25 hgX hg2 b2 b3 b4 b5 b03 own2 hLf hon hgL hAb HB HF
          go_wp2_with (first
            | (refine wpList_value (OP := Op.slice 22 (.tmp 109) none (some (.tmp 111)) none) (T := 22) rfl rfl rfl (exec_slice_hi (ao := some ⟨g, 0, none⟩) (n := b.length + 1) (c := c2) (j := b.length) (k := .i64) rfl rfl hle (by intro h; cases h)) ?_; simp only [Act.put, List.setIfInBounds_toArray, List.set_cons_zero, List.set_cons_succ])
            | (go_at_call 11; refine hone2.mono ?_; rintro e wO ⟨a6, c6, rfl, HO, bO⟩; dsimp only))
          obtain ⟨ownR, fmsR, bR, hAR, hg2, hgL, hAb⟩ := HX.out
          have hnew := heap_alloc_new wO (.cells #[.int .i64 (fst b).kind, .slice a6 (fst b).body.length c6] 36)
          have bW := bO.alloc bO.size (.cells #[.int .i64 (fst b).kind, .slice a6 (fst b).body.length c6] 36)
          generalize hWO : wO.alloc (.cells #[.int .i64 (fst b).kind, .slice a6 (fst b).body.length c6] 36) = WO at hnew bW
          have hWsz : WO.heap.size = wO.heap.size + 1 := by rw [← hWO]; simp
          obtain ⟨n0, n1, _, _⟩ := blk2 hnew
          have ownW := ownR.below bW
          have bWW : Below w.heap.size w WO := bR.trans (bW.mono bR.size)
          have hcv1 := conv_cat (cap := c2) ownW.rd
          have hcv2 := conv_rd (n := b.length) (cap := c) (H.out.below bWW).rd rfl
          have hadd := add_byte b WO (by omega)
          have hWs := bW.size
          have hadd2 := strOfNums_size b
          have hadd3 : ¬ (9223372036854775807 < b.length + ({ data := #[119] } : ByteArray).size) := by show ¬ (_ < b.length + 1); omega
          have hadd4 : ({ data := #[119] } : ByteArray).size = 1 := rfl
          have hadd5 : ¬ (9223372036854775807 < b.length + 1) := by omega
          have HT0 := hide (And.intro ownW (And.intro (fmsR.below bW) (And.intro bWW (And.intro (hAR.below bW) (And.intro hg2 (And.intro hgL (fun a ha => And.intro (hAb a ha).1 (Nat.lt_of_lt_of_le (hAb a ha).2 hWs) : ∀ a, aA = some a → w2.heap.size ≤ a.block ∧ a.block < WO.heap.size)))))))
          clear ownR fmsR bR hAR hg2 hgL hAb bW hnew ownW bWW HX
          obtain ⟨gw, aw, cw, hgw, v0, v1, vrd⟩ := HT0.out.2.1.seen.1.item 0 _ (one_FL HQ.out)
          subst hgw
          have v0' : WO.cell? ⟨gw, 0, none⟩ = some (.int .i64 (fst b).kind) := v0
          have v1' : WO.cell? ⟨gw, 1, none⟩ = some (.slice aw (fst b).body.length cw) := v1
          have hrdO : Rd WO a6 (fst b).body := by rw [← hWO]; exact (HO.out.alloc _).rd
          have hsame := same_yes (fst b).kind a6 aw c6 cw (fst b).body WO.drew hrdO vrd
          have hS1 : WO.drew.cell? ⟨wO.heap.size, 0, none⟩ = some (.int .i64 (fst b).kind) ∧ WO.drew.cell? ⟨wO.heap.size, 1, none⟩ = some (.slice a6 (fst b).body.length c6) ∧ WO.drew.cell? ⟨gw, 0, none⟩ = some (.int .i64 (fst b).kind) ∧ WO.drew.cell? ⟨gw, 1, none⟩ = some (.slice aw (fst b).body.length cw) := ⟨n0, n1, v0', v1'⟩
          clear v0 v1 v0' v1' n0 n1 hrdO vrd
          rw [hcv1]
          go_wp2
          refine wp_region_held_drew (S := (fun w' => w'.cell? ⟨wO.heap.size, 0, none⟩ = some (.int .i64 (fst b).kind) ∧ w'.cell? ⟨wO.heap.size, 1, none⟩ = some (.slice a6 (fst b).body.length c6) ∧ w'.cell? ⟨gw, 0, none⟩ = some (.int .i64 (fst b).kind) ∧ w'.cell? ⟨gw, 1, none⟩ = some (.slice aw (fst b).body.length cw))) (by kernel_rfl) (by exact hS1) (fun hHeld => ?_)
          try dsimp only at hHeld
          refine take_op (i := 0) (d := 129) (OP := Op.load 36 (Operand.tmp 15)) (T := 36) (v := ?vq11x) rfl rfl rfl rfl (by kernel_rfl) (by kernel_rfl) (by kernel_rfl) (fun _ _ _ h => h) (by rfl) ?hq11x hHeld ?rq11x
          case hq11x => (intro w' hSw; (try dsimp only at hSw); go_simp <;> with_reducible rfl)
          try simp only [Act.put, List.setIfInBounds_toArray, List.set_cons_zero, List.set_cons_succ]
          refine take_op (i := 1) (d := 130) (OP := Op.move (Operand.tmp 9)) (T := 24) (v := ?vq12x) rfl rfl rfl rfl (by kernel_rfl) (by kernel_rfl) (by kernel_rfl) (fun _ _ _ h => h) (by rfl) ?hq12x hHeld ?rq12x
          case hq12x => (intro w' hSw; (try dsimp only at hSw); go_simp <;> with_reducible rfl)
          try simp only [Act.put, List.setIfInBounds_toArray, List.set_cons_zero, List.set_cons_succ]
          refine take_op (i := 2) (d := 131) (OP := Op.indexAddr 24 (Operand.tmp 130) (Operand.const (Value.int IntKind.i64 0))) (T := 0) (v := ?vq13x) rfl rfl rfl rfl (by kernel_rfl) (by kernel_rfl) (by kernel_rfl) (fun _ _ _ h => h) (by rfl) ?hq13x hHeld ?rq13x
          case hq13x => (intro w' hSw; (try dsimp only at hSw); go_simp <;> with_reducible rfl)
          try simp only [Act.put, List.setIfInBounds_toArray, List.set_cons_zero, List.set_cons_succ]
          refine take_op (i := 3) (d := 132) (OP := Op.load 36 (Operand.tmp 131)) (T := 36) (v := ?vq14x) rfl rfl rfl rfl (by kernel_rfl) (by kernel_rfl) (by kernel_rfl) (fun _ _ _ h => h) (by rfl) ?hq14x hHeld ?rq14x
          case hq14x => (intro w' hSw; (try dsimp only at hSw); go_simp <;> with_reducible rfl)
          try simp only [Act.put, List.setIfInBounds_toArray, List.set_cons_zero, List.set_cons_succ]
          refine call_op (i := 4) (d := 133) (OP := Op.call { callee := Callee.value (Operand.func 10), args := #[Operand.tmp 129, Operand.tmp 132], argTypes := #[36, 36] }) (T := 4) (f := 10) (args := #[frv (fst b).kind a6 (fst b).body.length c6, frv (fst b).kind aw (fst b).body.length cw]) rfl rfl rfl rfl (by kernel_rfl) (by rfl) (by go_simp) ?_
          refine (hsame).mono ?_
          rintro e wS ⟨rfl, bS⟩
          have hS2 : wS.cell? ⟨wO.heap.size, 0, none⟩ = some (.int .i64 (fst b).kind) ∧ wS.cell? ⟨wO.heap.size, 1, none⟩ = some (.slice a6 (fst b).body.length c6) ∧ wS.cell? ⟨gw, 0, none⟩ = some (.int .i64 (fst b).kind) ∧ wS.cell? ⟨gw, 1, none⟩ = some (.slice aw (fst b).body.length cw) := ⟨(bS.cell (World.block_lt_of_cell? _ _ hHeld.1)).trans hHeld.1, (bS.cell (World.block_lt_of_cell? _ _ hHeld.2.1)).trans hHeld.2.1, (bS.cell (World.block_lt_of_cell? _ _ hHeld.2.2.1)).trans hHeld.2.2.1, (bS.cell (World.block_lt_of_cell? _ _ hHeld.2.2.2)).trans hHeld.2.2.2⟩
          refine ⟨_, rfl, hS2, ?_⟩
          replace hHeld := hS2
          try simp only [Act.put, List.setIfInBounds_toArray, List.set_cons_zero, List.set_cons_succ]
          refine take_op (i := 5) (d := 134) (OP := Op.unOp UnOp.not 4 (Operand.tmp 133)) (T := 4) (v := ?vq16x) rfl rfl rfl rfl (by kernel_rfl) (by kernel_rfl) (by kernel_rfl) (fun _ _ _ h => h) (by rfl) ?hq16x hHeld ?rq16x
          case hq16x => (intro w' hSw; (try dsimp only at hSw); go_simp <;> with_reducible rfl)
          try simp only [Act.put, List.setIfInBounds_toArray, List.set_cons_zero, List.set_cons_succ]
          refine take_op (i := 6) (d := 135) (OP := Op.move (Operand.tmp 134)) (T := 4) (v := ?vq17x) rfl rfl rfl rfl (by kernel_rfl) (by kernel_rfl) (by kernel_rfl) (fun _ _ _ h => h) (by rfl) ?hq17x hHeld ?rq17x
          case hq17x => (intro w' hSw; (try dsimp only at hSw); go_simp <;> with_reducible rfl)
          try simp only [Act.put, List.setIfInBounds_toArray, List.set_cons_zero, List.set_cons_succ]
          refine take_op (i := 7) (d := 136) (OP := Op.move (Operand.tmp 16)) (T := 25) (v := ?vq18x) rfl rfl rfl rfl (by kernel_rfl) (by kernel_rfl) (by kernel_rfl) (fun _ _ _ h => h) (by rfl) ?hq18x hHeld ?rq18x
          case hq18x => (intro w' hSw; (try dsimp only at hSw); go_simp <;> with_reducible rfl)
          try simp only [Act.put, List.setIfInBounds_toArray, List.set_cons_zero, List.set_cons_succ]
          refine call_op (i := 8) (d := 137) (OP := Op.call { callee := Callee.value (Operand.func 8), args := #[Operand.tmp 136], argTypes := #[25] }) (T := 3) (f := 8) (args := #[.int .i64 0]) rfl rfl rfl rfl (by kernel_rfl) (by rfl) (by go_simp) ?_
          refine (num_any 0 wS).mono ?_
          rintro e wS' ⟨rfl, hwS⟩
          subst hwS
          refine ⟨_, rfl, hS2, ?_⟩
          replace hHeld := hS2
          try simp only [Act.put, List.setIfInBounds_toArray, List.set_cons_zero, List.set_cons_succ]
          refine take_op (i := 9) (d := 138) (OP := Op.binOp BinOp.neq 3 (Operand.tmp 137) (Operand.const (Value.int IntKind.i64 0)) 3) (T := 4) (v := ?vq20x) rfl rfl rfl rfl (by kernel_rfl) (by kernel_rfl) (by kernel_rfl) (fun _ _ _ h => h) (by rfl) ?hq20x hHeld ?rq20x
          case hq20x => (intro w' hSw; (try dsimp only at hSw); go_simp <;> with_reducible rfl)
          try simp only [Act.put, List.setIfInBounds_toArray, List.set_cons_zero, List.set_cons_succ]
          refine take_op (i := 10) (d := 139) (OP := Op.pick (Operand.tmp 135) (Operand.const (Value.bool true)) (Operand.tmp 138)) (T := 4) (v := ?vq21x) rfl rfl rfl rfl (by kernel_rfl) (by kernel_rfl) (by kernel_rfl) (fun _ _ _ h => h) (by rfl) ?hq21x hHeld ?rq21x
          case hq21x => (intro w' hSw; (try dsimp only at hSw); go_simp <;> with_reducible rfl)
          try simp only [Act.put, List.setIfInBounds_toArray, List.set_cons_zero, List.set_cons_succ]
          refine wpAnyH_done (by kernel_rfl) ?_ _
          obtain ⟨ownW, fmW, bWW, hAW, hg2, hgL, hAb⟩ := HT0.out
          have bS' : Below WO.heap.size WO wS := below_undrew0 bS
          have hSs := bS'.size
          have HT := hide (And.intro (ownW.below bS') (And.intro (fmW.below bS') (And.intro (bWW.trans (bS'.mono bWW.size)) (And.intro (hAW.below bS') (And.intro hg2 (And.intro hgL (fun a ha => And.intro (hAb a ha).1 (Nat.lt_of_lt_of_le (hAb a ha).2 hSs) : ∀ a, aA = some a → w2.heap.size ≤ a.block ∧ a.block < wS.heap.size)))))))
          clear ownW fmW bWW hAW hg2 hgL hAb bS bS' hS1 hS2 hHeld hsame HT0 hcv1 hcv2 hadd hadd2 hadd3 hadd4 hadd5
          go_wp2
          go_loopw [17] (fun kv wk => ∃ (j : Nat) (l' : List Int), j ≤ b.length + 1 ∧ kv = .int .i64 j ∧ l'.length = b.length + 1 ∧ Own 5 wk w.heap.size (.slice (some ⟨g, 0, none⟩) (b.length + 1) c2) l' ∧ Only (fun n => n = g) wS wk) (fun kv _ => b.length + 1 - (intOf kv).toNat)
          case atStart => exact ⟨0, b ++ [119], Nat.zero_le _, rfl, by simp, HT.out.1, Only.refl _ _⟩
          case round =>
            obtain ⟨j, l', hj, rfl, hl', ho', honk⟩ := hrel
            by_cases hltj : j < b.length + 1
            · obtain ⟨gg, hgg, hc, hfz, -, -, hst⟩ := ho'.store (k := j) (by omega)
              obtain rfl : g = gg := by simpa using hgg
              have hki2 : (j : Int) < (b.length : Int) + 1 := by omega
              have hdn9 : decide (j < b.length + 1) = true := by simpa using hltj
              have hst' := hide (hst 102)
              have HK := hide honk
              clear hst ho' honk hgg
              go_wp2
              go_roundw
              case rel => exact ⟨j + 1, l'.set j 102, by omega, by go_num, by simpa using hl', hst'.out.1, HK.out.trans (Only.ofGrown hst'.out.2) (fun i _ hi => by simpa using hi.symm)⟩
              case measure => simp [intOf]; omega
            · obtain rfl : j = b.length + 1 := by omega
              have hdn9 : decide (b.length + 1 < b.length + 1) = false := by simp
              obtain ⟨_, fmT, bT, hAT, hgT, hLT, hAT2⟩ := HT.out
              have hB9 := hAT.only honk (by omega) (fun a ha => by have := (hAT2 a ha).1; omega)
              have hS9 := (fmT.only honk (fun j hj _ e => by omega)).seen.1
              have hau : ∀ a, aA = some a → a.block < wr.heap.size := fun a ha => by have := (hAT2 a ha).2; have := honk.size; omega
              have bW : Below w.heap.size w wr := Below.only bT honk bT.size (by intro j e; omega)
              have hov : ∀ (lv : Int) (W' : World), Below wr.heap.size wr W' → Calls Try.prog 12 #[.func (.func 27) #[] #[.pointer (some ⟨L, 0, none⟩)], .slice (some ⟨gw, 0, none⟩) i c4, .int .i64 lv] W' fun e w' => e = .returned (.bool true) ∧ Below W'.heap.size W' w' := fun lv W' hW => by
                have := over_yes (cw := c4) lv (hB9.below hW) (fun a ha => by have := hau a ha; have := hW.size; omega) (by omega) (hS9.below hW)
                rwa [← HN.out] at this
              have hov1 := hov leave wr (Below.refl _ _)
              have HW9 := hide bW
              clear hB9 hS9 fmT bT hAT ho' honk bW hau hAT2
              go_wp2_with (first
                | (go_at_call 12; refine hov1.mono ?_; rintro e w8 ⟨rfl, b8⟩; have hov2 := hov 0 w8 b8; clear hov1; dsimp only)
                | (go_at_call 12; refine hov2.mono ?_; rintro e w9 ⟨rfl, b9⟩; dsimp only)
                | (go_at_call 5; refine (known_any _).mono ?_; rintro e w10 ⟨rfl, b10⟩; dsimp only))
              go_ret
              have c1 := HW9.out.trans (b8.mono HW9.out.size)
              have c2' := c1.trans (b9.mono c1.size)
              exact ⟨rfl, c2'.trans (b10.mono c2'.size)⟩
        · have hone2 : Calls Try.prog 11 #[.slice (some ⟨g, 0, none⟩) b.length c2] wr fun e w' => e = .returned (.tuple #[frv 0 none 0 0, .int .i64 4]) ∧ Below wr.heap.size wr w' := hone.mono (by
            rintro e w' ⟨hF | hF, hb⟩
            · exact ⟨hF.2, hb⟩
            · exact (hq hF.1).elim)
          have hno : ¬ (i = 1 ∧ en = 0) := fun h => hq (hiff.1 (by rw [← HN.out, ← HEN.out]; exact h))
          have HQ := hide hno
          clear hq hno
          have HX := hide (And.intro ownR (And.intro fmsR (And.intro bR (And.intro hAR (And.intro hg2 (And.intro hgL hAb))))))
          clear hiff hone hAR hA1 hA2 hA3 hbsR bR fmsR ownR b25 hgX hg2 b2 b3 b4 b5 b03 own2 hLf hon hgL hAb HB HF
          go_wp2_with (first
            | (refine wpList_value (OP := Op.slice 22 (.tmp 109) none (some (.tmp 111)) none) (T := 22) rfl rfl rfl (exec_slice_hi (ao := some ⟨g, 0, none⟩) (n := b.length + 1) (c := c2) (j := b.length) (k := .i64) rfl rfl hle (by intro h; cases h)) ?_; simp only [Act.put, List.setIfInBounds_toArray, List.set_cons_zero, List.set_cons_succ])
            | (go_at_call 11; refine hone2.mono ?_; rintro e wO ⟨rfl, bO⟩; dsimp only))
          obtain ⟨ownR, fmsR, bR, hAR, hg2, hgL, hAb⟩ := HX.out
          have hnew := heap_alloc_new wO (.cells #[.int .i64 0, .slice none 0 0] 36)
          have bW := bO.alloc bO.size (.cells #[.int .i64 0, .slice none 0 0] 36)
          generalize hWO : wO.alloc (.cells #[.int .i64 0, .slice none 0 0] 36) = WO at hnew bW
          have hWsz : WO.heap.size = wO.heap.size + 1 := by rw [← hWO]; simp
          obtain ⟨n0, n1, _, _⟩ := blk2 hnew
          have ownW := ownR.below bW
          have bWW : Below w.heap.size w WO := bR.trans (bW.mono bR.size)
          have hcv1 := conv_cat (cap := c2) ownW.rd
          have hcv2 := conv_rd (n := b.length) (cap := c) (H.out.below bWW).rd rfl
          have hadd := add_byte b WO (by omega)
          have hWs := bW.size
          have hadd2 := strOfNums_size b
          have hadd3 : ¬ (9223372036854775807 < b.length + ({ data := #[119] } : ByteArray).size) := by show ¬ (_ < b.length + 1); omega
          have hadd4 : ({ data := #[119] } : ByteArray).size = 1 := rfl
          have hadd5 : ¬ (9223372036854775807 < b.length + 1) := by omega
          have HT0 := hide (And.intro ownW (And.intro (fmsR.below bW) (And.intro bWW (And.intro (hAR.below bW) (And.intro hg2 (And.intro hgL (fun a ha => And.intro (hAb a ha).1 (Nat.lt_of_lt_of_le (hAb a ha).2 hWs) : ∀ a, aA = some a → w2.heap.size ≤ a.block ∧ a.block < WO.heap.size)))))))
          clear ownR fmsR bR hAR hg2 hgL hAb bW hnew ownW bWW HX
          have HT := HT0
          by_cases h1 : i = 1
          · have hi1 : ((i : Int) == 1) = true := by simp [h1]
            have he0 : ((en : Int) == 0) = false := by
              have : ¬ en = 0 := fun e => HQ.out ⟨h1, e⟩
              simpa using this
            clear h1
            rw [hcv1]
            go_wp2_with (go_at_call 8; refine (num_any _ _).mono ?_; rintro e w' ⟨rfl, rfl⟩; dsimp only)
            go_wp2
            go_loopw [17] (fun kv wk => ∃ (j : Nat) (l' : List Int), j ≤ b.length + 1 ∧ kv = .int .i64 j ∧ l'.length = b.length + 1 ∧ Own 5 wk w.heap.size (.slice (some ⟨g, 0, none⟩) (b.length + 1) c2) l' ∧ Only (fun n => n = g) WO wk) (fun kv _ => b.length + 1 - (intOf kv).toNat)
            case atStart => exact ⟨0, b ++ [119], Nat.zero_le _, rfl, by simp, HT.out.1, Only.refl _ _⟩
            case round =>
              obtain ⟨j, l', hj, rfl, hl', ho', honk⟩ := hrel
              by_cases hltj : j < b.length + 1
              · obtain ⟨gg, hgg, hc, hfz, -, -, hst⟩ := ho'.store (k := j) (by omega)
                obtain rfl : g = gg := by simpa using hgg
                have hki2 : (j : Int) < (b.length : Int) + 1 := by omega
                have hdn9 : decide (j < b.length + 1) = true := by simpa using hltj
                have hst' := hide (hst 102)
                have HK := hide honk
                clear hst ho' honk hgg
                go_wp2
                go_roundw
                case rel => exact ⟨j + 1, l'.set j 102, by omega, by go_num, by simpa using hl', hst'.out.1, HK.out.trans (Only.ofGrown hst'.out.2) (fun i _ hi => by simpa using hi.symm)⟩
                case measure => simp [intOf]; omega
              · obtain rfl : j = b.length + 1 := by omega
                have hdn9 : decide (b.length + 1 < b.length + 1) = false := by simp
                obtain ⟨_, fmT, bT, hAT, hgT, hLT, hAT2⟩ := HT.out
                have hB9 := hAT.only honk (by omega) (fun a ha => by have := (hAT2 a ha).1; omega)
                have hS9 := (fmT.only honk (fun j hj _ e => by omega)).seen.1
                have hau : ∀ a, aA = some a → a.block < wr.heap.size := fun a ha => by have := (hAT2 a ha).2; have := honk.size; omega
                have bW : Below w.heap.size w wr := Below.only bT honk bT.size (by intro j e; omega)
                have hov : ∀ (lv : Int) (W' : World), Below wr.heap.size wr W' → Calls Try.prog 12 #[.func (.func 27) #[] #[.pointer (some ⟨L, 0, none⟩)], .slice a4 i c4, .int .i64 lv] W' fun e w' => e = .returned (.bool true) ∧ Below W'.heap.size W' w' := fun lv W' hW => by
                  have := over_yes (cw := c4) lv (hB9.below hW) (fun a ha => by have := hau a ha; have := hW.size; omega) (by omega) (hS9.below hW)
                  rwa [← HN.out] at this
                have hov1 := hov leave wr (Below.refl _ _)
                have HW9 := hide bW
                clear hB9 hS9 fmT bT hAT ho' honk bW hau hAT2
                go_wp2_with (first
                  | (go_at_call 12; refine hov1.mono ?_; rintro e w8 ⟨rfl, b8⟩; have hov2 := hov 0 w8 b8; clear hov1; dsimp only)
                  | (go_at_call 12; refine hov2.mono ?_; rintro e w9 ⟨rfl, b9⟩; dsimp only)
                  | (go_at_call 5; refine (known_any _).mono ?_; rintro e w10 ⟨rfl, b10⟩; dsimp only))
                go_ret
                have c1 := HW9.out.trans (b8.mono HW9.out.size)
                have c2' := c1.trans (b9.mono c1.size)
                exact ⟨rfl, c2'.trans (b10.mono c2'.size)⟩
          · have hi1 : ((i : Int) == 1) = false := by
              simp only [beq_eq_false_iff_ne, ne_eq]; omega
            clear h1
            rw [hcv1]
            go_wp2_with (go_at_call 8; refine (num_any _ _).mono ?_; rintro e w' ⟨rfl, rfl⟩; dsimp only)
            go_wp2
            go_loopw [17] (fun kv wk => ∃ (j : Nat) (l' : List Int), j ≤ b.length + 1 ∧ kv = .int .i64 j ∧ l'.length = b.length + 1 ∧ Own 5 wk w.heap.size (.slice (some ⟨g, 0, none⟩) (b.length + 1) c2) l' ∧ Only (fun n => n = g) WO wk) (fun kv _ => b.length + 1 - (intOf kv).toNat)
            case atStart => exact ⟨0, b ++ [119], Nat.zero_le _, rfl, by simp, HT.out.1, Only.refl _ _⟩
            case round =>
              obtain ⟨j, l', hj, rfl, hl', ho', honk⟩ := hrel
              by_cases hltj : j < b.length + 1
              · obtain ⟨gg, hgg, hc, hfz, -, -, hst⟩ := ho'.store (k := j) (by omega)
                obtain rfl : g = gg := by simpa using hgg
                have hki2 : (j : Int) < (b.length : Int) + 1 := by omega
                have hdn9 : decide (j < b.length + 1) = true := by simpa using hltj
                have hst' := hide (hst 102)
                have HK := hide honk
                clear hst ho' honk hgg
                go_wp2
                go_roundw
                case rel => exact ⟨j + 1, l'.set j 102, by omega, by go_num, by simpa using hl', hst'.out.1, HK.out.trans (Only.ofGrown hst'.out.2) (fun i _ hi => by simpa using hi.symm)⟩
                case measure => simp [intOf]; omega
              · obtain rfl : j = b.length + 1 := by omega
                have hdn9 : decide (b.length + 1 < b.length + 1) = false := by simp
                obtain ⟨_, fmT, bT, hAT, hgT, hLT, hAT2⟩ := HT.out
                have hB9 := hAT.only honk (by omega) (fun a ha => by have := (hAT2 a ha).1; omega)
                have hS9 := (fmT.only honk (fun j hj _ e => by omega)).seen.1
                have hau : ∀ a, aA = some a → a.block < wr.heap.size := fun a ha => by have := (hAT2 a ha).2; have := honk.size; omega
                have bW : Below w.heap.size w wr := Below.only bT honk bT.size (by intro j e; omega)
                have hov : ∀ (lv : Int) (W' : World), Below wr.heap.size wr W' → Calls Try.prog 12 #[.func (.func 27) #[] #[.pointer (some ⟨L, 0, none⟩)], .slice a4 i c4, .int .i64 lv] W' fun e w' => e = .returned (.bool true) ∧ Below W'.heap.size W' w' := fun lv W' hW => by
                  have := over_yes (cw := c4) lv (hB9.below hW) (fun a ha => by have := hau a ha; have := hW.size; omega) (by omega) (hS9.below hW)
                  rwa [← HN.out] at this
                have hov1 := hov leave wr (Below.refl _ _)
                have HW9 := hide bW
                clear hB9 hS9 fmT bT hAT ho' honk bW hau hAT2
                go_wp2_with (first
                  | (go_at_call 12; refine hov1.mono ?_; rintro e w8 ⟨rfl, b8⟩; have hov2 := hov 0 w8 b8; clear hov1; dsimp only)
                  | (go_at_call 12; refine hov2.mono ?_; rintro e w9 ⟨rfl, b9⟩; dsimp only)
                  | (go_at_call 5; refine (known_any _).mono ?_; rintro e w10 ⟨rfl, b10⟩; dsimp only))
                go_ret
                have c1 := HW9.out.trans (b8.mono HW9.out.size)
                have c2' := c1.trans (b9.mono c1.size)
                exact ⟨rfl, c2'.trans (b10.mono c2'.size)⟩
end Go.Proofs.Ytmabfaldndlneaa
