/-
  register: All (49), what it goes over (108).
  TEXTS HELD AGAINST EACH OTHER: plainly (cmpB, cmpP), and what the program's and the document's functions answer.
  register: what is gathered over All (86, 88), Elements (43), Texts (44).
  register: what is gathered over All (86, 88).
  MAPS, as the program has them: Take, Split, Join, Make.
-/
import Derived.Test.YtkkpdgfllnbigaaGreatMg12
import Derived.Test.YtkkpdgfllnbigaaGreatMg9
import Derived.Test.YtkkpdgfllnbigaaGreatMg7
import Derived.Test.YtkkpdgfllnbigaaGreatMg6
namespace Go.Proofs.YtkkpdgfllnbigaaGreat
open Go.RowKit Go.Shelf
set_option linter.unusedSimpArgs false
attribute [local go_sem] Oper.semAt_some

/-- The elements that a map has. -/
def elsM (l : List Kv) : List El := l.map fun x => (ofT x.1, x.2)
/-- The elements that are gone over. -/
def elsL (l : List Kv) : List El := if mayL l = true then elsM l else []
def encS (x : El) : Array Value := #[svT x.1, .string x.2]
def KA (t : Pm.T) (L : Nat) : Nat → Prop := fun j => j = L ∨ t.blk j
theorem enters146 : Enters Tryz.prog 146 := enters_of Tryz.func146 (by kernel_rfl) rfl
theorem roundIn_in {l' m m' : Nat} {P : Program} {l : Nat} {f : FuncId} {tmps : Array Value} {assign body : Code} {w : World} {R : Ending → World → Prop}
    (h : RoundIn Fence.wide m P l f tmps assign body w R) : RoundIn (Fence.wide.inRound l') m' P l f tmps assign body w R := ⟨h.1, fun c cs _ => h.2 c cs (fun d hd => by cases hd)⟩
theorem ret_lv {fn : Func} {R : Ending → World → Prop} {a : Act} {w : World} (h : LeavesInM Fence.wide 6 Tryz.prog fn a.tmps R a.defers .returning w) : noPanic (bodyPostM Fence.wide 6 Tryz.prog fn R) .ret a w := h
theorem leave_unit {fn : Func} {tmps : Array Value} {R : Ending → World → Prop} {W : World} (h : fn.results = #[]) (hR : R (.returned (.tuple #[])) W) : LeavesInM Fence.wide 6 Tryz.prog fn tmps R [] .returning W := by
  refine leave_none (v := .tuple #[]) ?_ hR
  simp [results, h]

set_option maxHeartbeats 8000000 in
set_option maxRecDepth 100000 in
theorem iterAll (t : Pm.T) (L : Nat) (w : World) (ht : Pm.In w t) (hs : Pm.Srt t.list) (hk : ∀ x ∈ t.list, x.1.size ≤ 9223372036854775807) (hL : w.cell? ⟨L, 0, none⟩ = some t.ptr) :
    IterB 146 #[.pointer (some ⟨L, 0, none⟩)] (elsL t.list) encS (KA t L) w := by
  intro f D J Jx W hS hsz hDK hDlt hJB hJx hY hJ0
  have hKw : ∀ j, KA t L j → j < w.heap.size := fun j hj => by
    rcases hj with rfl | hj
    · exact World.block_lt_of_cell? w _ hL
    · exact ht.blk_lt hj
  have hcL : W.cell? ⟨L, 0, none⟩ = some t.ptr := hS.cell (.inl rfl) hL
  have iW : Pm.In W t := Pm.In.same ht (fun j hj => hS j (.inr hj))
  obtain ⟨W1, hW1⟩ : ∃ W1, W1 = W.alloc (.cells #[.func (.yield f) #[] #[]] 79) := ⟨_, rfl⟩
  have y1 := heap_alloc_new W (.cells #[.func (.yield f) #[] #[]] 79)
  rw [← hW1] at y1
  have b1 : Below W.heap.size W W1 := by rw [hW1]; exact (Below.refl _ W).alloc (Nat.le_refl _) _
  have hmay := rMay_any t W1 (Pm.In.below b1 iW) hs hk
  have hcL1 : W1.cell? ⟨L, 0, none⟩ = some t.ptr := cell_stays hcL b1
  obtain ⟨a, ha⟩ := t.ptr_shape
  obtain ⟨Yb, hYb⟩ : ∃ Yb, Yb = W.heap.size := ⟨_, rfl⟩
  by_cases hm : mayL t.list = true
  · rw [hm] at hmay
    rw [elsL, if_pos hm] at hY ⊢
    have hAll := Pm.mAll_any t
    have HT := hide (And.intro hm (And.intro hk hs))
    unfold Pm.mv at hmay hAll
    rw [ha] at hmay hcL1
    have hcLd := hcL1
    have HA := hide ha
    have HJ := hide (And.intro hS (And.intro hsz (And.intro hDK (And.intro hDlt (And.intro hJB (And.intro hJx (And.intro hY (And.intro hJ0 (And.intro hKw (And.intro iW (And.intro y1 (And.intro b1 ht))))))))))))
    simp only [ha] at hAll
    clear hS hsz hDK hDlt hJB hJx hY hJ0 hKw hcL iW y1 ht hs hk hL ha hm
    have HYb := hide hYb
    refine calls_marks Tryz.func146 rfl ?_
    simp only [Tryz.ntmps146, List.size_toArray, List.length_cons, List.length_nil, Nat.reduceAdd, Nat.reduceSub, Array.replicate_succ, Array.replicate_zero, List.push_toArray, List.append_toArray, List.nil_append, List.cons_append]
    go_upto_region 1 with fail
    rw [← hW1]
    clear hW1
    rw [← hYb]
    clear hYb
    have HB1 := hide b1
    clear b1
    go_wp2_with (first
      | (go_at_call 50; refine hmay.mono ?_; rintro e w2 ⟨rfl, b2⟩; have H2 := hide b2; have c2 := cell_stays hcL1 b2; clear b2; dsimp only)
      | (go_at_call 139; refine (hAll _).mono ?_; rintro e wA ⟨rfl, hwA⟩; have H3 := hide hwA; clear hwA; dsimp only))
    obtain ⟨hS, hsz, hDK, hDlt, hJB, hJx, hY, hJ0, hKw, iW, y1, b1, ht⟩ := HJ.out
    obtain ⟨hm, hk, hs⟩ := HT.out
    have ha := HA.out
    have hYb := HYb.out
    have sA : wA.heap.size = w2.heap.size + 3 := by rw [H3.out]; simp
    have bA : Below w2.heap.size w2 wA := by rw [H3.out]; exact (new3r w2 _ _ _).2.2.2
    have cLA : wA.cell? ⟨w2.heap.size + 2, 0, none⟩ = some (.string ⟨#[]⟩) := by rw [H3.out]; exact (cell_of_row _ _ 0 _ 9 (0, 0) (new3r w2 _ _ _).2.2.1).trans rfl
    have cMA : wA.cell? ⟨w2.heap.size + 1, 0, none⟩ = some t.ptr := by rw [H3.out, ha]; exact (cell_of_row _ _ 0 _ 27 (0, 0) (new3r w2 _ _ _).2.1).trans rfl
    have b2 : Below W.heap.size W w2 := b1.trans (H2.out.mono b1.size)
    have bWA : Below W.heap.size W wA := b2.trans (bA.mono b2.size)
    have iA : Pm.In wA t := Pm.In.below bWA iW
    have hit := Pm.iter_from t ⟨#[]⟩ (w2.heap.size + 2) (w2.heap.size + 1) wA iA cLA cMA
    rw [Pm.all_is hs] at hit
    have hW2 := b2.size
    have hKlt : ∀ j, Pm.KF t (w2.heap.size + 2) (w2.heap.size + 1) j → j < wA.heap.size := fun j hj => by
      rcases hj with rfl | rfl | hj
      · omega
      · omega
      · exact iA.blk_lt hj
    have hDne : ∀ j, D j → ¬ Pm.KF t (w2.heap.size + 2) (w2.heap.size + 1) j := fun j d hj => by
      have := hDlt j d
      rcases hj with rfl | rfl | hj
      · omega
      · omega
      · exact hDK j d (.inr hj)
    have yA : wA.heap[Yb]? = some (.cells #[.func (.yield f) #[] #[]] 79 (0, 0)) := by
      rw [← hYb] at y1
      have hlt := (Array.getElem?_eq_some_iff.1 y1).1
      have y2 := (H2.out.block _ hlt).trans y1
      exact (bA.block _ (Nat.lt_of_lt_of_le hlt H2.out.size)).trans y2
    have sAA : Pm.Same (KA t L) w wA := hS.below hKw hsz bWA
    have hYlt : Yb < w2.heap.size := by
      have h1 := (Array.getElem?_eq_some_iff.1 y1).1
      have := H2.out.size
      omega
    have HZ : Hid (wA.heap.size = w2.heap.size + 3 ∧ W.heap.size ≤ w2.heap.size ∧ Yb = W.heap.size ∧ Yb < w2.heap.size ∧ w.heap.size ≤ W.heap.size) := hide ⟨sA, hW2, hYb, hYlt, hsz⟩
    clear y1 b1 H2 H3 c2 sA bA cLA cMA b2 iA hW2 hYlt hcL1 hcLd HB1 hAll hmay HJ HT hYb
    have hDout : ∀ j, wA.heap.size ≤ j → j < wA.heap.size + 4 → ¬ (D j ∨ wA.heap.size + 4 ≤ j) := fun j h1 h2 d => d.elim (fun d => by have := hDlt _ d; have := HZ.out; omega) (fun d => by omega)
    refine Pm.range_it (Q := _) 202 enters202 _ t.list (fun x => #[.string x.1, .string x.2]) _ hit rfl (fun _ _ => rfl) hKlt (fun j => D j ∨ wA.heap.size + 4 ≤ j) (fun j d => d.elim (hDne j) (fun d hj => by have := hKlt j hj; omega)) (hDout _ (by omega) (by omega)) (hDout _ (by omega) (by omega)) (hDout _ (by omega) (by omega)) (hDout _ (by omega) (by omega))
      (fun k W' => J (wA.heap.size + 4) k W' ∧ Pm.Same (KA t L) w W' ∧ W'.heap[Yb]? = some (.cells #[.func (.yield f) #[] #[]] 79 (0, 0))) (fun cd W' => cd = .ret ∧ Jx (wA.heap.size + 4) W')
      (fun k A A' hi ho => ?hI) (fun c A A' hi ho => ⟨hi.1, hJx _ A A' (by have := HZ.out; omega) hi.2 (ho.mono (fun j _ e => by have e' : j = wA.heap.size + 1 := e; have := HZ.out; exact ⟨by omega, by omega⟩))⟩) ⟨hJ0 _ wA bWA (by omega), sAA, yA⟩ ?hround ?hdone ?hstop
    case hI =>
      have hlt := (Array.getElem?_eq_some_iff.1 hi.2.2).1
      exact ⟨hJB _ k A A' (by have := HZ.out; omega) hi.1 (ho.mono (fun j _ e => by have e' : j = wA.heap.size + 1 := e; have := HZ.out; exact ⟨by omega, by omega⟩)), hi.2.1.only hKw (by have := HZ.out; omega) ho (fun j e hj => by have e' : j = wA.heap.size + 1 := e; have := hKw j hj; have := HZ.out; omega), (ho.block _ hlt (by have := HZ.out; omega)).trans hi.2.2⟩
    case hdone =>
      rintro W' ⟨hj, -, -⟩ hlt hk0
      have o1 := only_putObj W' wA.heap.size (.deferred none)
      have hj' := hJB _ _ _ _ (by have := HZ.out; omega) hj (o1.mono (fun j _ e => by have e' : j = wA.heap.size := e; have := HZ.out; exact ⟨by omega, by omega⟩))
      have HX := hide (And.intro hk0 hj')
      have hB : W.heap.size ≤ wA.heap.size + 4 := by have := HZ.out; omega
      have HB := hide hB
      clear hit hKlt hDne hDout yA sAA bWA hS hsz hDK hDlt hJB hJx hY hJ0 hKw iW ht hm hk hs ha hj hj' o1 hB hk0
      go_wp2
      refine leave_mark (fn := Tryz.f146) HX.out.1 (leave_unit rfl ⟨⟨_, rfl⟩, _, HB.out, .inl ?_⟩)
      rw [elsM, List.length_map]
      exact HX.out.2
    case hstop =>
      rintro c W' ⟨rfl, hj⟩ hlt hk0
      have o1 := only_putObj W' wA.heap.size (.deferred none)
      have hj' := hJx _ _ _ (by have := HZ.out; omega) hj (o1.mono (fun j _ e => by have e' : j = wA.heap.size := e; have := HZ.out; exact ⟨by omega, by omega⟩))
      have HX := hide (And.intro hk0 hj')
      have hB : W.heap.size ≤ wA.heap.size + 4 := by have := HZ.out; omega
      have HB := hide hB
      clear hit hKlt hDne hDout yA sAA bWA hS hsz hDK hDlt hJB hJx hY hJ0 hKw iW ht hm hk hs ha hj hj' o1 hB hk0
      go_wp2
      exact leave_mark (fn := Tryz.f146) HX.out.1 (leave_unit rfl ⟨⟨_, rfl⟩, _, HB.out, .inr HX.out.2⟩)
    case hround =>
      rintro c ⟨k, x⟩ W' hx ⟨hj, hsm, hyy⟩ hSame hsz'
      have hks := hk _ (List.mem_of_getElem? hx)
      have hxe : (elsM t.list)[c]? = some (ofT k, x) := by rw [elsM, List.getElem?_map, hx]; rfl
      have hok : okV k = true := by
        rw [mayL, List.all_eq_true] at hm
        have := hm _ (List.mem_of_getElem? hx)
        simp only [okKv, Bool.and_eq_true] at this
        exact this.1
      clear hit hKlt hDne hDout yA sAA hSame hJ0 hx hk
      dsimp only
      gi_wp2
      refine ⟨Only.refl _ _, fun W2 ho2 => ?_⟩
      have hylt := (Array.getElem?_eq_some_iff.1 hyy).1
      have j2 := hJB _ c W' W2 (by have := HZ.out; omega) hj (ho2.mono (fun j _ e => by have e' : j = wA.heap.size + 1 := e; have := HZ.out; exact ⟨by omega, by omega⟩))
      have s2 : Pm.Same (KA t L) w W2 := hsm.only hKw (by have := HZ.out; omega) ho2 (fun j e hj => by have e' : j = wA.heap.size + 1 := e; have := hKw j hj; have := HZ.out; omega)
      have y2 : W2.heap[Yb]? = some (.cells #[.func (.yield f) #[] #[]] 79 (0, 0)) := (ho2.block _ hylt (by have := HZ.out; omega)).trans hyy
      have z2 : wA.heap.size + 4 ≤ W2.heap.size := Nat.le_trans hsz' ho2.size
      have h85 := ofKeyT_any k W2 hks
      rw [if_pos hok] at h85
      clear hok
      have yl : ∀ W3, Below W2.heap.size W2 W3 → W3.cell? ⟨Yb, 0, none⟩ = some (.func (.yield f) #[] #[]) ∧ YieldAt Fence.wide 4 Tryz.prog f #[svT (ofT k), .string x] W3 (fun e W5 => Only (fun j => D j ∨ wA.heap.size + 4 ≤ j) W2 W5 ∧ ((e = .returned (.bool true) ∧ J (wA.heap.size + 4) (c + 1) W5 ∧ Pm.Same (KA t L) w W5 ∧ W5.heap[Yb]? = some (.cells #[.func (.yield f) #[] #[]] 79 (0, 0))) ∨ (e = .returned (.bool false) ∧ Jx (wA.heap.size + 4) W5))) := fun W3 b3 => by
        have y3 := (b3.block _ (Array.getElem?_eq_some_iff.1 y2).1).trans y2
        have hz3 := b3.size
        have s3 : Pm.Same (KA t L) w W3 := s2.below hKw (by have := HZ.out; omega) b3
        refine ⟨(cell_of_row _ _ 0 _ 79 (0, 0) y3).trans rfl, (hY _ c _ W3 (by have := HZ.out; omega) hxe (hJB _ c W2 W3 (by have := HZ.out; omega) j2 (below_only b3)) s3 (by omega)).mono ?_⟩
        rintro e W5 ⟨ho, hh⟩
        refine ⟨(below_only b3).next ho, ?_⟩
        rcases hh with ⟨he, hj5⟩ | ⟨he, hj5⟩
        · exact .inl ⟨he, hj5, s3.only hKw (by have := HZ.out; omega) ho (fun j d hj => d.elim (fun d => hDK j d hj) (fun d => by have := hKw j hj; have := HZ.out; omega)), (ho.block _ (Array.getElem?_eq_some_iff.1 y3).1 (fun d => d.elim (fun d => by have := hDlt _ d; have := HZ.out; omega) (fun d => by have := HZ.out; omega))).trans y3⟩
        · exact .inr ⟨he, hj5⟩
      have HY := hide yl
      obtain ⟨s, hs'⟩ : ∃ s, s = ofT k := ⟨_, rfl⟩
      rw [← hs'] at h85 HY
      obtain ⟨sg, sr, slb, sn, sx⟩ := s
      dsimp only [svT] at h85 HY
      clear hs' yl j2 s2 y2 z2 hylt hj hsm hyy hsz' hks hxe ho2 hS hsz hDK hDlt hJB hJx hY hKw iW ht hm hs ha bWA
      gi_wp2_with (refine ⟨trivial, CallsIn.inRound _ (callsIn_wide.2 (Calls.mono h85 ?_))⟩; rintro e w4 ⟨rfl, b4⟩; obtain ⟨cy, hya⟩ := HY.out (w4.alloc (.cells #[.int .i64 sg, .int .i64 sr, .string slb, .int .i64 sn, .int .i64 sx] 43)) (b4.trans (((Below.refl _ w4).alloc (Nat.le_refl _) _).mono b4.size)); clear b4; obtain ⟨yfn, ytm, yas, ybo, hy, hR⟩ := hya; dsimp only)
      refine (roundIn_in hR).mono ?_
      rintro e W5 ⟨ho5, (⟨rfl, hj5⟩ | ⟨rfl, hj5⟩)⟩
      · have H5 := hide (And.intro ho5 hj5)
        clear ho5 hj5 hR hy cy
        gi_wp2
        exact H5.out
      · have H5 := hide (And.intro ho5 hj5)
        clear ho5 hj5 hR hy cy
        gi_wp2
        exact ⟨H5.out.1, rfl, H5.out.2⟩
  · have hm' : mayL t.list = false := by simpa using hm
    rw [hm'] at hmay
    rw [elsL, if_neg hm] at hY ⊢
    unfold Pm.mv at hmay
    rw [ha] at hmay hcL1
    have HJ := hide (And.intro b1 hJ0)
    clear hS hsz hDK hDlt hJB hJx hY hJ0 hKw hcL iW y1 b1 ht hs hk hL ha
    refine calls_marks Tryz.func146 rfl ?_
    simp only [Tryz.ntmps146, List.size_toArray, List.length_cons, List.length_nil, Nat.reduceAdd, Nat.reduceSub, Array.replicate_succ, Array.replicate_zero, List.push_toArray, List.append_toArray, List.nil_append, List.cons_append]
    go_upto_region 1 with fail
    rw [← hW1]
    clear hW1
    go_wp2_with (go_at_call 50; refine hmay.mono ?_; rintro e w2 ⟨rfl, b2⟩; have H2 := hide b2; clear b2; dsimp only)
    obtain ⟨b1, hJ0⟩ := HJ.out
    have b2 := b1.trans (H2.out.mono b1.size)
    refine ret_lv ?_
    dsimp only
    refine leave_unit rfl ?_
    exact ⟨⟨_, rfl⟩, w2.heap.size, b2.size, .inl (hJ0 _ w2 b2 (Nat.le_refl _))⟩
end Go.Proofs.YtkkpdgfllnbigaaGreat
namespace Go.Proofs.YtkkpdgfllnbigaaGreat
open Go.RowKit Go.Shelf
set_option linter.unusedSimpArgs false

/-- Behind this address lie the texts l. -/
def Rs (w : World) (ao : Option Addr) (l : List ByteArray) : Prop :=
  (ao = none → l = []) ∧ ∀ a, ao = some a → ∀ j s, l[j]? = some s → w.cell? (a.add j) = some (.string s)
theorem Rs.at {w : World} {ao : Option Addr} {l : List ByteArray} (h : Rs w ao l) {k : Nat} {s : ByteArray} (hs : l[k]? = some s) : ∃ ab off, ao = some ⟨ab, off, none⟩ ∧ w.cell? ⟨ab, off + k, none⟩ = some (.string s) := by
  cases ao with
  | none => have := h.1 rfl; subst this; simp at hs
  | some a =>
    obtain ⟨ab, off, sp⟩ := a
    have hl : 0 < l.length := by have := (List.getElem?_eq_some_iff.1 hs).1; omega
    have h0 := h.2 _ rfl 0 l[0] (List.getElem?_eq_getElem hl)
    simp only [Addr.add, if_true] at h0
    have e : sp = none := World.cell?_spot h0
    subst e
    have hk := h.2 _ rfl k s hs
    rw [add_lit] at hk
    exact ⟨ab, off, rfl, hk⟩
theorem Rs.only {C : Nat → Prop} {w w' : World} {ao : Option Addr} {l : List ByteArray} (hr : Rs w ao l) (h : Only C w w') (hC : ∀ a, ao = some a → ¬ C a.block) : Rs w' ao l :=
  ⟨hr.1, fun a ha j u hj => h.cell (hr.2 a ha j u hj) (by
    have : (a.add j).block = a.block := by unfold Addr.add; split <;> rfl
    rw [this]; exact hC a ha)⟩
theorem Rs.below {w w' : World} {ao : Option Addr} {l : List ByteArray} (h : Rs w ao l) (hb : Below w.heap.size w w') : Rs w' ao l := h.only (Only.ofBelow hb) (fun _ _ d => d.elim)
theorem Rs.drew {w : World} {ao : Option Addr} {l : List ByteArray} (h : Rs w ao l) : Rs w.drew ao l := h.below (Below.refl _ w).drew
theorem Rs.nil (w : World) (ao : Option Addr) : Rs w ao [] := ⟨fun _ => rfl, by simp⟩
theorem Rs.take {w : World} {ao : Option Addr} {l : List ByteArray} (h : Rs w ao l) (k : Nat) : Rs w ao (l.take k) :=
  ⟨fun ha => by rw [h.1 ha]; simp, fun a ha j u hj => h.2 a ha j u (by
    rw [List.getElem?_take] at hj
    split at hj
    · exact hj
    · cases hj)⟩

end Go.Proofs.YtkkpdgfllnbigaaGreat
namespace Go.Proofs.YtkkpdgfllnbigaaGreat
open Go.RowKit Go.Shelf
set_option linter.unusedSimpArgs false
attribute [local go_sem] Oper.semAt_some

def Ot (w : World) (B : Nat) (v : Value) (L : List ByteArray) : Prop := w.ownsRow B 9 1 v L.length (L.map Value.string)
theorem Ot.nil (w : World) (B : Nat) : Ot w B (.slice none 0 0) [] := World.ownsRow_nil _ _ _ _
theorem Ot.only {w w' : World} {B : Nat} {v : Value} {L : List ByteArray} {D : Nat → Prop} (h : Ot w B v L) (ho : Only D w w') (hv : ∀ k, v.ownBlock = some k → ¬ D k) : Ot w' B v L := ho.row h hv
theorem Ot.below {w w' : World} {B : Nat} {v : Value} {L : List ByteArray} (h : Ot w B v L) (hb : Below w.heap.size w w') : Ot w' B v L := h.only (Only.ofBelow hb) (fun _ _ d => d.elim)
theorem info9t : (Tryz.prog.info? 9).map (fun i => (i.zero, i.size, i.bytes)) = some (some (.string ⟨#[]⟩), 1, 16) := by kernel_rfl
theorem strs_one {l : List ByteArray} (v : Value) (h : v ∈ l.map Value.string) : v.oneCell' = true := by
  obtain ⟨s, -, rfl⟩ := List.mem_map.1 h; rfl
/-- One is laid behind. -/
theorem push_Oe {w : World} {B b : Nat} {v : Value} {p : List El} {y : El} (hown : Oe w B v p) (hcell : w.heap[b]? = some (.cells (encE y).toArray 53 (0, 0))) (hp : p.length + 1 ≤ 1000000) (hB : B ≤ w.heap.size) :
    ∃ a' c' w', (Builtin.append_ #[22, 22] 22 #[v, .slice (some ⟨b, 0, none⟩) 1 1]).run Tryz.prog w = .ok (.slice a' (p.length + 1) c') w' ∧ Oe w' B (.slice a' (p.length + 1) c') (p ++ [y]) ∧ Only (fun k => v.ownBlock = some k) w w' := by
  obtain ⟨i0, hi, hz0, hz1, hz2⟩ := info_of info77
  obtain ⟨v', w', hr, h2, h3, _⟩ := run_append_own (P := Tryz.prog) w B 22 22 53 i0 zeroE 6 64 Tryz.underlying22 hi hz0 hz1 hz2 rfl (by decide) v p.length (flatE p) hown ⟨b, 0, none⟩ 1 1 (encE y) (by simp [encE]) (fun j u hj => by rw [add_lit, cell_of_row _ _ (0 + j) (encE y).toArray 53 (0, 0) hcell, Nat.zero_add]; simpa using hj) (fun u hu => flatE_one [y] u (by simpa [flatE] using hu)) (by unfold maxLen; omega) (by omega) hB
  have hO : Oe w' B v' (p ++ [y]) := by
    unfold Oe
    rw [flatE_app, List.length_append, show flatE [y] = encE y by simp [flatE]]
    exact h2
  obtain ⟨a', c', hv, _, _⟩ := row_form hO
  subst hv
  rw [List.length_append] at hO hr
  exact ⟨a', c', w', hr, hO, Only.ofGrown h3⟩
theorem push_Ot {w : World} {B b : Nat} {v : Value} {p : List ByteArray} {y : ByteArray} (hown : Ot w B v p) (hcell : w.heap[b]? = some (.cells #[.string y] 9 (0, 0))) (hp : p.length + 1 ≤ 1000000) (hB : B ≤ w.heap.size) :
    ∃ a' c' w', (Builtin.append_ #[63, 63] 63 #[v, .slice (some ⟨b, 0, none⟩) 1 1]).run Tryz.prog w = .ok (.slice a' (p.length + 1) c') w' ∧ Ot w' B (.slice a' (p.length + 1) c') (p ++ [y]) ∧ Only (fun k => v.ownBlock = some k) w w' := by
  obtain ⟨i0, hi, hz0, hz1, hz2⟩ := info_of info9t
  obtain ⟨v', w', hr, h2, h3, _⟩ := run_append_own (P := Tryz.prog) w B 63 63 9 i0 (.string ⟨#[]⟩) 1 16 Tryz.underlying63 hi hz0 hz1 hz2 rfl (by decide) v p.length (p.map Value.string) hown ⟨b, 0, none⟩ 1 1 [.string y] (by simp) (fun j u hj => by rw [add_lit, cell_of_row _ _ (0 + j) #[.string y] 9 (0, 0) hcell, Nat.zero_add]; simpa using hj) (fun u hu => strs_one (l := [y]) u (by simpa using hu)) (by unfold maxLen; omega) (by omega) hB
  have hO : Ot w' B v' (p ++ [y]) := by
    unfold Ot
    rw [List.map_append, List.length_append]
    exact h2
  obtain ⟨a', c', hv, _, _⟩ := row_form hO
  subst hv
  rw [List.length_append] at hO hr
  exact ⟨a', c', w', hr, hO, Only.ofGrown h3⟩
theorem exec_bs53 {ev' : Operand → Value} {x : Operand} {T : TypeId} {w : World} {y : El} (hx : ev' x = ev y) : (execOp ev' { dst := none, op := .buildSlice 22 1 #[(0, x)], type := T, pos := "", after := #[], guard := none }).run Tryz.prog w = .ok (.value (.slice (some ⟨w.heap.size, 0, none⟩) 1 1)) (w.alloc (.cells (encE y).toArray 53)) := by
  unfold execOp
  simp only [hx]
  go_simp
  rfl
theorem exec_bs9 {ev' : Operand → Value} {x : Operand} {T : TypeId} {w : World} {y : ByteArray} (hx : ev' x = .string y) : (execOp ev' { dst := none, op := .buildSlice 63 1 #[(0, x)], type := T, pos := "", after := #[], guard := none }).run Tryz.prog w = .ok (.value (.slice (some ⟨w.heap.size, 0, none⟩) 1 1)) (w.alloc (.cells #[.string y] 9)) := by
  unfold execOp
  simp only [hx]
  go_simp
theorem exec_st22 {ev' : Operand → Value} {x y : Operand} {T : TypeId} {w : World} {B : Nat} {u : Value} {n c : Nat} {ad : Option Addr} (hx : ev' x = .pointer (some ⟨B, 0, none⟩)) (hy : ev' y = .slice ad n c) (h : w.cell? ⟨B, 0, none⟩ = some u) (hf : w.frozen? ⟨B, 0, none⟩ = false) : (execOp ev' { dst := none, op := .store 22 x y, type := T, pos := "", after := #[], guard := none }).run Tryz.prog w = .ok .skip (w.setCell ⟨B, 0, none⟩ (.slice ad n c)) := by
  unfold execOp
  simp only [hx, hy]
  go_simp
theorem exec_st63 {ev' : Operand → Value} {x y : Operand} {T : TypeId} {w : World} {B : Nat} {u : Value} {n c : Nat} {ad : Option Addr} (hx : ev' x = .pointer (some ⟨B, 0, none⟩)) (hy : ev' y = .slice ad n c) (h : w.cell? ⟨B, 0, none⟩ = some u) (hf : w.frozen? ⟨B, 0, none⟩ = false) : (execOp ev' { dst := none, op := .store 63 x y, type := T, pos := "", after := #[], guard := none }).run Tryz.prog w = .ok .skip (w.setCell ⟨B, 0, none⟩ (.slice ad n c)) := by
  unfold execOp
  simp only [hx, hy]
  go_simp
/-- A reading operation and a call come up together in a region that draws its order. -/
theorem load_call_op {P : Program} {md : Region.Mode} {ops : Array Oper} {Q : Exit → Act → World → Prop} {S : World → Prop} {i j : Nat} {oi oj : Oper} {di dj : Tmp} {OPi OPj : Op} {Ti Tj : TypeId} {f : FuncId} {args : Array Value} {u : Value} {fuel : Nat} {listed : Array Bool} {a : Act} {w : World}
    (hi : ops[i]? = some oi) (hdi : oi.dst = some di) (hoi : oi.op = OPi) (hti : oi.type = Ti) (hj : ops[j]? = some oj) (hdj : oj.dst = some dj) (hoj : oj.op = OPj) (htj : oj.type = Tj)
    (hr : Region.ready md ops listed = [i, j]) (hwi : Region.wanted oi (yielded ops a.tmps) = true) (hwj : Region.wanted oj (yielded ops a.tmps) = true)
    (hyi : (execOp a.eval { dst := none, op := OPi, type := Ti, pos := "", after := #[], guard := none }).run P w = .ok (.value u) w)
    (hyj : (execOp a.eval { dst := none, op := OPj, type := Tj, pos := "", after := #[], guard := none }).run P w = .ok (.enter f args) w)
    (hS : S w)
    (h1 : wpAnyH P md ops Q S fuel (listed.setIfInBounds i true) (a.put (some di) u) w) (h2 : Calls P f args w fun e w1 => ∃ v, e = .returned v ∧ S w1 ∧ wpAnyH P md ops Q S fuel (listed.setIfInBounds j true) (a.put (some dj) v) w1) : wpAnyH P md ops Q S (fuel + 1) listed a w := by
  refine wpAnyH_ready hr (by simp) (AllReadyH.cons hi (fun K hK => ?_) (AllReadyH.cons hj (fun K hK => ?_) AllReadyH.nil))
  · rw [if_pos hwi]
    unfold Oper.wp
    rw [exec_same a.eval oi hoi hti, hyi]
    show K (a.put oi.dst u) w
    rw [hdi]
    exact hK.out _ _ hS (fun _ => h1)
  · rw [if_pos hwj]
    unfold Oper.wp
    rw [exec_same a.eval oj hoj htj, hyj]
    refine Calls.mono h2 ?_
    rintro e w1 ⟨v, rfl, hS, hx⟩
    show K (a.put oj.dst v) w1
    rw [hdj]
    exact hK.out _ _ hS (fun _ => hx)
end Go.Proofs.YtkkpdgfllnbigaaGreat
namespace Go.Proofs.YtkkpdgfllnbigaaGreat
open Go.RowKit Go.Shelf
set_option linter.unusedSimpArgs false
attribute [local go_sem] Oper.semAt_some

/-- What stands between rounds. -/
structure GIE (wA : World) (Lb B : Nat) (p : List El) (W : World) : Prop where
  only : Only (fun j => j = Lb ∨ B ≤ j) wA W
  box : ∃ ao c, W.heap[Lb]? = some (.cells #[.slice ao p.length c] 22 (0, 0)) ∧ Oe W B (.slice ao p.length c) p
theorem GIE.own {wA : World} {Lb B : Nat} {p : List El} {W W' : World} (h : GIE wA Lb B p W) (hL : Lb < wA.heap.size) (_hB : wA.heap.size + 2 ≤ B) (ho : Only (fun j => wA.heap.size + 1 ≤ j ∧ j < B) W W') : GIE wA Lb B p W' := by
  obtain ⟨ao, c, hb, hO⟩ := h.box
  refine ⟨h.only.trans ho (fun j hj e => by have e' : wA.heap.size + 1 ≤ j ∧ j < B := e; omega), ao, c, (ho.block _ (Array.getElem?_eq_some_iff.1 hb).1 (fun e => by have e' : wA.heap.size + 1 ≤ Lb ∧ Lb < B := e; omega)).trans hb, hO.only ho (fun k hk e => by have := World.ownsRow.lt hO k hk; have e' : wA.heap.size + 1 ≤ k ∧ k < B := e; omega)⟩
theorem Ot.lift {w : World} {B B' : Nat} {v : Value} {L : List ByteArray} (h : Ot w B v L) (hB : B' ≤ B) : Ot w B' v L := by
  rcases h with ⟨h1, h2⟩
  refine ⟨h1, ?_⟩
  rcases h2 with h2 | ⟨g, cap, cur, e, hb, r⟩
  · exact .inl h2
  · exact .inr ⟨g, cap, cur, e, Nat.le_trans hB hb, r⟩
/-- What stands between rounds. -/
structure GIS (wA : World) (Lb B : Nat) (p : List ByteArray) (W : World) : Prop where
  only : Only (fun j => j = Lb ∨ B ≤ j) wA W
  box : ∃ ao c, W.heap[Lb]? = some (.cells #[.slice ao p.length c] 63 (0, 0)) ∧ Ot W B (.slice ao p.length c) p
theorem GIS.own {wA : World} {Lb B : Nat} {p : List ByteArray} {W W' : World} (h : GIS wA Lb B p W) (hL : Lb < wA.heap.size) (_hB : wA.heap.size + 2 ≤ B) (ho : Only (fun j => wA.heap.size + 1 ≤ j ∧ j < B) W W') : GIS wA Lb B p W' := by
  obtain ⟨ao, c, hb, hO⟩ := h.box
  refine ⟨h.only.trans ho (fun j hj e => by have e' : wA.heap.size + 1 ≤ j ∧ j < B := e; omega), ao, c, (ho.block _ (Array.getElem?_eq_some_iff.1 hb).1 (fun e => by have e' : wA.heap.size + 1 ≤ Lb ∧ Lb < B := e; omega)).trans hb, hO.only ho (fun k hk e => by have := World.ownsRow.lt hO k hk; have e' : wA.heap.size + 1 ≤ k ∧ k < B := e; omega)⟩
end Go.Proofs.YtkkpdgfllnbigaaGreat
namespace Go.Proofs.YtkkpdgfllnbigaaGreat.Pm
open Go.RowKit Go.Shelf
set_option linter.unusedSimpArgs false

set_option maxHeartbeats 1000000 in
theorem mTake_any (t : T) (k : ByteArray) (w : World) (h : In w t) (hn : t.n ≤ 700000) : Calls Tryz.prog 131 #[mv t, .string k] w fun e w' => ∃ t', e = .returned (mv t') ∧ In w' t' ∧ Takes w.heap.size k t t' ∧ Below w.heap.size w w' := by
  obtain ⟨hb, hc, hf⟩ := two_boxes w t.ptr
  have hB := (new2 w (.cells #[t.ptr] 27) (.cells #[.pointer none] 27)).2
  have hp := take_any t.n t k _ (Nat.le_refl _) (In.below hb h) hn
  have key : ∀ w1 t', Gives ((w.alloc (.cells #[t.ptr] 27)).alloc (.cells #[.pointer none] 27)) (.returned t'.ptr) w1 t' → Takes ((w.alloc (.cells #[t.ptr] 27)).alloc (.cells #[.pointer none] 27)).heap.size k t t' →
      w1.cell? ⟨w.heap.size + 1, 0, none⟩ = some (.pointer none) ∧ w1.frozen? ⟨w.heap.size + 1, 0, none⟩ = false ∧ Hid ((w1.setCell ⟨w.heap.size + 1, 0, none⟩ t'.ptr).heap[w.heap.size + 1]? = some (.cells #[t'.ptr] 27 (0, 0)) ∧ In (w1.setCell ⟨w.heap.size + 1, 0, none⟩ t'.ptr) t' ∧ Takes w.heap.size k t t' ∧ Below w.heap.size w (w1.setCell ⟨w.heap.size + 1, 0, none⟩ t'.ptr)) := fun w1 t' hg hp => by
    have hw1 := (hg.2.2.block (w.heap.size + 1) (by simp)).trans hB
    have hb1 := hb.trans (hg.2.2.mono hb.size)
    obtain ⟨o1, o2, o3⟩ := out_box (y := t'.ptr) hw1 (by omega) hb1
    refine ⟨by rw [cell_of_row _ _ 0 _ 27 (0, 0) hw1]; rfl, frozen_of_row _ _ 0 _ 27 hw1, hide ⟨o1, In.aside hw1 o3 hg.2.1, hp.mono hb.size, o2⟩⟩
  unfold mv
  obtain ⟨a, ha⟩ := t.ptr_shape
  rw [ha] at hp hb key ⊢
  have HK := hide key
  clear h ha hb hc hf key hB hn
  go_enter Tryz.func131, Tryz.ntmps131
  go_wp2_with (go_at_call 183; refine hp.mono ?_; rintro e w1 ⟨t', hg, hpp⟩; have he := hg.1; subst he; obtain ⟨q1, q2, HQ⟩ := HK.out w1 t' hg hpp; obtain ⟨b, hb⟩ := t'.ptr_shape; have HX := hide hb; rw [hb] at HQ ⊢; clear hb hg hpp)
  refine ret_row (w.heap.size + 1) [.pointer b] rfl rfl Tryz.underlying27 rfl Tryz.info27 HQ.out.1 rfl ?_
  exact ⟨t', by rw [HX.out], HQ.out.2.1, HQ.out.2.2.1, HQ.out.2.2.2⟩

/-- Two structs out of their blocks, and two values between them, are handed back. -/
theorem ret_rows4 {P : Program} {fn : Func} {p q s r : Tmp} {ty : TypeId} (b c : Nat) (cs ds : List Value) {R : Ending → World → Prop} {a : Act} {w : World} (h : fn.results = #[.cell p ty, .tmp q, .tmp s, .cell r ty]) (hp : a.tmps.getD p undef = .pointer (some ⟨b, 0, none⟩)) {v u : Value} (hq : a.tmps.getD q undef = v) (hs : a.tmps.getD s undef = u) (hr : a.tmps.getD r undef = .pointer (some ⟨c, 0, none⟩))
    {d : TypeDesc} (hu : P.underlying ty = some d) (hd : d.isRow = true) (hi : (P.info? ty).map (·.size) = some cs.length) (hi2 : (P.info? ty).map (·.size) = some ds.length) {t t2 : TypeId} {fr fr2 : Nat × Nat} (hc : w.heap[b]? = some (.cells cs.toArray t fr)) (hc2 : w.heap[c]? = some (.cells ds.toArray t2 fr2)) (hdef : a.defers = [])
    (hR : R (.returned (.tuple #[.agg cs.toArray, v, u, .agg ds.toArray])) w) : bodyPost P fn R .ret a w := by
  refine bodyPost_ret (v := .tuple #[.agg cs.toArray, v, u, .agg ds.toArray]) ?_ hdef hR
  have h1 := run_loadVar_mid (P := P) w b 0 ty cs _ (fun j v hv => by rw [cell_of_row w b (0 + j) cs.toArray t fr hc, Nat.zero_add]; simpa using hv) hu hd hi
  have h2 := run_loadVar_mid (P := P) w c 0 ty ds _ (fun j v hv => by rw [cell_of_row w c (0 + j) ds.toArray t2 fr2 hc2, Nat.zero_add]; simpa using hv) hu hd hi2
  have hp' : a.tmps[p]?.getD undef = .pointer (some ⟨b, 0, none⟩) := by simpa using hp
  have hr' : a.tmps[r]?.getD undef = .pointer (some ⟨c, 0, none⟩) := by simpa using hr
  have hq' : a.tmps[q]?.getD undef = v := by simpa using hq
  have hs' : a.tmps[s]?.getD undef = u := by simpa using hs
  simp [results, h, hp', hq', hs', hr', asAddr, Sem.run_bind, Result.andThen, h1, h2]

theorem new3 (w : World) (o1 o2 o3 : Obj) : (((w.alloc o1).alloc o2).alloc o3).heap[w.heap.size]? = some o1 ∧ (((w.alloc o1).alloc o2).alloc o3).heap[w.heap.size + 1]? = some o2 ∧ (((w.alloc o1).alloc o2).alloc o3).heap[w.heap.size + 1 + 1]? = some o3 ∧ Below w.heap.size w (((w.alloc o1).alloc o2).alloc o3) := by
  obtain ⟨h1, h2⟩ := new2 w o1 o2
  have s2 : ((w.alloc o1).alloc o2).heap.size = w.heap.size + 1 + 1 := by simp
  refine ⟨(Below.heap_alloc _ _ _ (by rw [s2]; omega)).trans h1, (Below.heap_alloc _ _ _ (by rw [s2]; omega)).trans h2, ?_, (((Below.refl _ w).alloc (Nat.le_refl _) _).alloc (by simp) _).alloc (by simp; omega) _⟩
  have := heap_alloc_new ((w.alloc o1).alloc o2) o3
  rw [s2] at this
  exact this

set_option maxHeartbeats 2000000 in
theorem mSplit_any (t : T) (k : ByteArray) (w : World) (h : In w t) (hn : t.n ≤ 700000) : Calls Tryz.prog 246 #[mv t, .string k] w fun e w' => ∃ a f b, e = .returned (.tuple #[mv a, .string f.val, .bool f.isSome, mv b]) ∧ Splits w.heap.size k t a f b ∧ In w' a ∧ In w' b ∧ Below w.heap.size w w' := by
  obtain ⟨m0, m1, m2, hb⟩ := new3 w (.cells #[t.ptr] 27) (.cells #[.pointer none] 27) (.cells #[.pointer none] 27)
  have hp := split_any k t _ (In.below hb h) hn
  have key : ∀ w1 a f b, Splits (((w.alloc (.cells #[t.ptr] 27)).alloc (.cells #[.pointer none] 27)).alloc (.cells #[.pointer none] 27)).heap.size k t a f b → In w1 a → In w1 f → In w1 b → Below (((w.alloc (.cells #[t.ptr] 27)).alloc (.cells #[.pointer none] 27)).alloc (.cells #[.pointer none] 27)).heap.size (((w.alloc (.cells #[t.ptr] 27)).alloc (.cells #[.pointer none] 27)).alloc (.cells #[.pointer none] 27)) w1 →
      w1.cell? ⟨w.heap.size + 1, 0, none⟩ = some (.pointer none) ∧ w1.frozen? ⟨w.heap.size + 1, 0, none⟩ = false ∧ (w1.setCell ⟨w.heap.size + 1, 0, none⟩ a.ptr).cell? ⟨w.heap.size + 1 + 1, 0, none⟩ = some (.pointer none) ∧ (w1.setCell ⟨w.heap.size + 1, 0, none⟩ a.ptr).frozen? ⟨w.heap.size + 1 + 1, 0, none⟩ = false ∧
      Hid (((w1.setCell ⟨w.heap.size + 1, 0, none⟩ a.ptr).setCell ⟨w.heap.size + 1 + 1, 0, none⟩ b.ptr).heap[w.heap.size + 1]? = some (.cells #[a.ptr] 27 (0, 0)) ∧ ((w1.setCell ⟨w.heap.size + 1, 0, none⟩ a.ptr).setCell ⟨w.heap.size + 1 + 1, 0, none⟩ b.ptr).heap[w.heap.size + 1 + 1]? = some (.cells #[b.ptr] 27 (0, 0)) ∧
        In ((w1.setCell ⟨w.heap.size + 1, 0, none⟩ a.ptr).setCell ⟨w.heap.size + 1 + 1, 0, none⟩ b.ptr) a ∧ In ((w1.setCell ⟨w.heap.size + 1, 0, none⟩ a.ptr).setCell ⟨w.heap.size + 1 + 1, 0, none⟩ b.ptr) b ∧ Splits w.heap.size k t a f b ∧ Below w.heap.size w ((w1.setCell ⟨w.heap.size + 1, 0, none⟩ a.ptr).setCell ⟨w.heap.size + 1 + 1, 0, none⟩ b.ptr)) ∧
      Calls Tryz.prog 120 #[f.ptr] w1 (fun e w' => e = .returned (.string f.val) ∧ w' = w1) := fun w1 a f b hs ia if_ ib hb1 => by
    have hw1 := (hb1.block (w.heap.size + 1) (by simp)).trans m1
    have hw2 := (hb1.block (w.heap.size + 1 + 1) (by simp)).trans m2
    have hbb := hb.trans (hb1.mono hb.size)
    obtain ⟨o1, o2, o3⟩ := out_box (y := a.ptr) hw1 (by omega) hbb
    have hw2' := (o3.block (w.heap.size + 1 + 1) (Array.getElem?_eq_some_iff.1 hw2).1 (by omega)).trans hw2
    obtain ⟨p1, p2, p3⟩ := out_box (y := b.ptr) hw2' (by omega) o2
    have o1' := (p3.block (w.heap.size + 1) (Array.getElem?_eq_some_iff.1 o1).1 (by omega)).trans o1
    exact ⟨by rw [cell_of_row _ _ 0 _ 27 (0, 0) hw1]; rfl, frozen_of_row _ _ 0 _ 27 hw1, by rw [cell_of_row _ _ 0 _ 27 (0, 0) hw2']; rfl, frozen_of_row _ _ 0 _ 27 hw2', hide ⟨o1', p1, In.aside hw2' p3 (In.aside hw1 o3 ia), In.aside hw2' p3 (In.aside hw1 o3 ib), hs.mono hb.size, p2⟩, value_any f w1 if_⟩
  unfold mv
  obtain ⟨x, hx⟩ := t.ptr_shape
  rw [hx] at hp hb key ⊢
  have HK := hide key
  clear h hx hb key hn m0 m1 m2
  go_enter Tryz.func246, Tryz.ntmps246
  go_wp2_with (first
    | (go_at_call 265; refine hp.mono ?_; rintro e w1 ⟨a, f, b, rfl, hs, ia, if_, ib, hb1⟩; obtain ⟨q1, q2, q3, q4, HQ, hv⟩ := HK.out w1 a f b hs ia if_ ib hb1; obtain ⟨xa, ha⟩ := a.ptr_shape; obtain ⟨xf, hf⟩ := f.ptr_shape; obtain ⟨xb, hb⟩ := b.ptr_shape; have hi := (isSome_ptr hf).2; rw [ha, hb] at HQ; rw [ha] at q3 q4; rw [hf] at hv; rw [ha, hf, hb]; have HX := hide (And.intro ha (And.intro hf hb)); clear ha hf hb hs ia if_ ib hb1)
    | (go_at_call 120; refine hv.mono ?_; rintro e w' ⟨rfl, hw⟩; replace hw := hw.symm; subst hw))
  refine ret_rows4 (w.heap.size + 1) (w.heap.size + 1 + 1) [.pointer xa] [.pointer xb] rfl rfl rfl rfl rfl Tryz.underlying27 rfl Tryz.info27 Tryz.info27 HQ.out.1 HQ.out.2.1 rfl ?_
  refine ⟨a, f, b, ?_, HQ.out.2.2.2.2.1, HQ.out.2.2.1, HQ.out.2.2.2.1, HQ.out.2.2.2.2.2⟩
  rw [HX.out.1, HX.out.2.2]
  simp [hi]

set_option maxHeartbeats 2000000 in
theorem mJoin_any (l r : T) (k : ByteArray) (v : ByteArray) (w : World) (hl : In w l) (hr : In w r) (hn : l.n + r.n ≤ 700000) : Calls Tryz.prog 247 #[mv l, .string k, .string v, mv r] w fun e w' => ∃ t, e = .returned (.tuple #[mv t, .int .i64 (if fitsB l k r then 0 else 2)]) ∧ (fitsB l k r = false → t = .nil) ∧ (fitsB l k r = true → Joined w.heap.size k v l r t) ∧ In w' t ∧ Below w.heap.size w w' := by
  obtain ⟨m0, m1, m2, hb⟩ := new3 w (.cells #[l.ptr] 27) (.cells #[r.ptr] 27) (.cells #[.pointer none] 27)
  have hf := fits_any l r k _ (In.below hb hl) (In.below hb hr)
  have hj := join_any k v 800000 l r _ (by omega) (by omega) (In.below hb hl) (In.below hb hr)
  have key : ∀ w1 t, Gives (((w.alloc (.cells #[l.ptr] 27)).alloc (.cells #[r.ptr] 27)).alloc (.cells #[.pointer none] 27)) (.returned t.ptr) w1 t → Joined (((w.alloc (.cells #[l.ptr] 27)).alloc (.cells #[r.ptr] 27)).alloc (.cells #[.pointer none] 27)).heap.size k v l r t →
      w1.cell? ⟨w.heap.size + 1 + 1, 0, none⟩ = some (.pointer none) ∧ w1.frozen? ⟨w.heap.size + 1 + 1, 0, none⟩ = false ∧ Hid ((w1.setCell ⟨w.heap.size + 1 + 1, 0, none⟩ t.ptr).heap[w.heap.size + 1 + 1]? = some (.cells #[t.ptr] 27 (0, 0)) ∧ In (w1.setCell ⟨w.heap.size + 1 + 1, 0, none⟩ t.ptr) t ∧ Joined w.heap.size k v l r t ∧ Below w.heap.size w (w1.setCell ⟨w.heap.size + 1 + 1, 0, none⟩ t.ptr)) := fun w1 t hg hp => by
    have hw1 := (hg.2.2.block (w.heap.size + 1 + 1) (by simp)).trans m2
    have hb1 := hb.trans (hg.2.2.mono hb.size)
    obtain ⟨o1, o2, o3⟩ := out_box (y := t.ptr) hw1 (by omega) hb1
    exact ⟨by rw [cell_of_row _ _ 0 _ 27 (0, 0) hw1]; rfl, frozen_of_row _ _ 0 _ 27 hw1, hide ⟨o1, In.aside hw1 o3 hg.2.1, hp.mono hb.size, o2⟩⟩
  unfold mv
  obtain ⟨x, hx⟩ := l.ptr_shape
  obtain ⟨y, hy⟩ := r.ptr_shape
  rw [hx, hy] at hf hj hb m2 ⊢
  rw [hx, hy] at key
  have HK := hide key
  clear hl hr hx hy key hn m0 m1
  generalize hF : fitsB l k r = F at *
  cases F with
  | false =>
    clear hj
    have HB := hide (And.intro hb m2)
    clear hb m2
    go_enter Tryz.func247, Tryz.ntmps247
    go_wp2_with (go_at_call 266; refine hf.mono ?_; rintro e w' ⟨rfl, rfl⟩)
    refine ret_row_tmp (w.heap.size + 1 + 1) [.pointer none] rfl rfl rfl Tryz.underlying27 rfl Tryz.info27 HB.out.2 rfl ?_
    exact ⟨.nil, rfl, rfl, trivial, HB.out.1⟩
  | true =>
    have HB := hide (And.intro hb m2)
    clear hb m2
    go_enter Tryz.func247, Tryz.ntmps247
    go_wp2_with (first
      | (go_at_call 266; refine hf.mono ?_; rintro e w' ⟨rfl, hw⟩; replace hw := hw.symm; subst hw)
      | (go_at_call 209; refine hj.mono ?_; rintro e w1 ⟨t, hg, hpp⟩; have he := hg.1; subst he; obtain ⟨q1, q2, HQ⟩ := HK.out w1 t hg hpp; obtain ⟨b, hb⟩ := t.ptr_shape; have HX := hide hb; rw [hb] at HQ ⊢; clear hb hg hpp))
    refine ret_row_tmp (w.heap.size + 1 + 1) [.pointer b] rfl rfl rfl Tryz.underlying27 rfl Tryz.info27 HQ.out.1 rfl ?_
    exact ⟨t, by rw [HX.out]; rfl, HQ.out.2.2.1, HQ.out.2.1, HQ.out.2.2.2⟩
end Go.Proofs.YtkkpdgfllnbigaaGreat.Pm
