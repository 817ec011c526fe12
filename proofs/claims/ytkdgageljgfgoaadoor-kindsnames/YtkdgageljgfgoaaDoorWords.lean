/-
  kinds: words, their iterators.
-/
import Derived.Test.YtkdgageljgfgoaaDoorIter9
namespace Go.Proofs.YtkdgageljgfgoaaDoor
open Go.RowKit Go.Shelf
set_option linter.unusedSimpArgs false
attribute [local go_sem] Oper.semAt_some

/-- Words, each with its number: the first one's is 1. -/
def countL (ws : List ByteArray) : List (Nat × ByteArray) := ws.mapIdx fun k s => (k + 1, s)
theorem countL_len (ws : List ByteArray) : (countL ws).length = ws.length := by simp [countL]
theorem countL_get {ws : List ByteArray} {k : Nat} {s : ByteArray} (h : ws[k]? = some s) : (countL ws)[k]? = some (k + 1, s) := by simp [countL, h]
def encW (x : Nat × ByteArray) : Array Value := #[.int .i64 (x.1 : Int), .string x.2]
def KW (L G : Nat) (j : Nat) : Prop := j = L ∨ j = G
/-- The words lie in G, the box L points at them. -/
structure WAt (w : World) (L G : Nat) (T : TypeId) (ws : List ByteArray) : Prop where
  box : w.heap[L]? = some (.cells #[.slice (some ⟨G, 0, none⟩) ws.length ws.length] 26 (0, 0))
  row : w.heap[G]? = some (.cells (ws.map Value.string).toArray T (0, 0))
theorem WAt.below {w w' : World} {L G : Nat} {T : TypeId} {ws : List ByteArray} (h : WAt w L G T ws) (hb : Below w.heap.size w w') : WAt w' L G T ws := ⟨(hb.block _ (Array.getElem?_eq_some_iff.1 h.box).1).trans h.box, (hb.block _ (Array.getElem?_eq_some_iff.1 h.row).1).trans h.row⟩
theorem WAt.same {w w' : World} {L G : Nat} {T : TypeId} {ws : List ByteArray} (h : WAt w L G T ws) (hb : Same (KW L G) w w') : WAt w' L G T ws := ⟨(hb L (.inl rfl)).trans h.box, (hb G (.inr rfl)).trans h.row⟩
theorem WAt.lt {w : World} {L G : Nat} {T : TypeId} {ws : List ByteArray} (h : WAt w L G T ws) : ∀ j, KW L G j → j < w.heap.size := by
  rintro j (rfl | rfl)
  · exact (Array.getElem?_eq_some_iff.1 h.box).1
  · exact (Array.getElem?_eq_some_iff.1 h.row).1
theorem WAt.at {w : World} {L G : Nat} {T : TypeId} {ws : List ByteArray} (h : WAt w L G T ws) {k : Nat} {s : ByteArray} (hs : ws[k]? = some s) : w.cell? ⟨G, k, none⟩ = some (.string s) := by
  rw [cell_of_row _ _ k _ T (0, 0) h.row]; simp [hs]
def wordB (ws : List ByteArray) (n : Int) : ByteArray := ((countL ws).find? fun x => decide ((x.1 : Int) = n)).elim ⟨#[]⟩ (fun x => x.2)
def ofWB (ws : List ByteArray) (t : ByteArray) : Int × Bool := ((countL ws).find? fun x => decide (x.2 = t)).elim (0, false) (fun x => ((x.1 : Int), true))
theorem find_first {α : Type} {p : α → Bool} {xs : List α} {k : Nat} {x : α} (h : ∀ j y, j < k → xs[j]? = some y → p y = false) (hx : xs[k]? = some x) (hp : p x = true) : xs.find? p = some x := by
  obtain ⟨hk, rfl⟩ := List.getElem?_eq_some_iff.1 hx
  rw [List.find?_eq_some_iff_getElem]
  exact ⟨hp, k, hk, rfl, fun j hj => by rw [h j _ hj (List.getElem?_eq_getElem (by omega))]; rfl⟩
theorem find_none {α : Type} {p : α → Bool} {xs : List α} (h : ∀ j y, j < xs.length → xs[j]? = some y → p y = false) : xs.find? p = none := by
  rw [List.find?_eq_none]
  intro x hx
  obtain ⟨j, hj, rfl⟩ := List.getElem_of_mem hx
  rw [h j _ hj (List.getElem?_eq_getElem hj)]; decide
/-- A text of its own is handed back, behind a range over a function. -/
theorem leave_str {fn : Func} {tmps : Array Value} {p : Tmp} (b : Nat) {x : ByteArray} {R : Ending → World → Prop} {W : World} (h : fn.results = #[.cell p 9]) (hp : tmps.getD p undef = .pointer (some ⟨b, 0, none⟩))
    (hc : W.cell? ⟨b, 0, none⟩ = some (.string x)) (hR : R (.returned (.string x)) W) : LeavesInM Fence.wide 6 Tryd.prog fn tmps R [] .returning W := by
  refine leave_none (v := .string x) ?_ hR
  rw [results_cell h, hp]
  have : (loadVar 9 ⟨b, 0, none⟩).run Tryd.prog W = .ok (.string x) W := by go_simp
  simp [asAddr, Result.andThen, this]
theorem heap_size_alloc9 (w : World) (o : Obj) : (w.alloc o).heap.size = w.heap.size + 1 := by simp

/-! kind -/
def kindWs : List ByteArray := [⟨#[99, 111, 117, 110, 116, 101, 114]⟩, ⟨#[115, 101, 116]⟩, ⟨#[114, 101, 103, 105, 115, 116, 101, 114]⟩, ⟨#[113, 117, 101, 117, 101]⟩, ⟨#[106, 111, 117, 114, 110, 97, 108]⟩, ⟨#[109, 97, 112]⟩]
theorem entersK_92 : Enters Tryd.prog 22 := enters_of Tryd.func22 (by kernel_rfl) rfl
set_option maxRecDepth 100000 in
set_option maxHeartbeats 1000000 in
theorem iterK {w : World} {L G : Nat} {T : TypeId} {ws : List ByteArray} (h : WAt w L G T ws) (hl : ws.length ≤ 1000) : Iter 22 #[.pointer (some ⟨L, 0, none⟩)] (countL ws) encW (KW L G) w := by
  intro f D J Jx W hS hs hDK hDlt hJB hY hJ
  have hW := h.same hS
  have hc1 : W.cell? ⟨L, 0, none⟩ = some (.slice (some ⟨G, 0, none⟩) ws.length ws.length) := (cell_of_row _ _ 0 _ 26 (0, 0) hW.box).trans rfl
  have hn : 1 ≤ 5 := by omega
  refine (callsIn_wide (n := 5)).1 ?_
  rw [countL_len]
  obtain ⟨N, hN⟩ : ∃ N, N = ws.length := ⟨_, rfl⟩
  rw [← hN] at hc1 hl ⊢
  have HH := hide (And.intro hN h)
  clear hN h hW
  show CallsIn Fence.wide 5 Tryd.prog 22 #[.func (.yield f) #[] #[], .pointer (some ⟨L, 0, none⟩)] W _
  refine callsIn_of_wp Tryd.func22 rfl trivial ?_ rfl
  simp only [Tryd.ntmps22, List.size_toArray, List.length_cons, List.length_nil, Nat.reduceAdd, Nat.reduceSub, Array.replicate_succ, Array.replicate_zero, List.push_toArray, List.append_toArray, List.nil_append, List.cons_append]
  gi_wp2
  gi_loopw [7] (fun i wr => ∃ k : Nat, k ≤ N ∧ i = .int .i64 k ∧ J k wr ∧ Same (KW L G) w wr ∧ W.heap.size ≤ wr.heap.size) (fun i _ => N - (intOf i).toNat)
  case atStart => exact ⟨0, Nat.zero_le _, rfl, hJ, hS, Nat.le_refl _⟩
  case round =>
    obtain ⟨k, hk, rfl, hJk, hSk, hszk⟩ := hrel
    by_cases hlt : k < N
    · have d1 : decide (k < N) = true := by simpa using hlt
      have d1' : (k : Int) < (N : Int) := by omega
      obtain ⟨s, hs'⟩ : ∃ s, ws[k]? = some s := ⟨_, List.getElem?_eq_getElem (by rw [← HH.out.1]; exact hlt)⟩
      have hck := (HH.out.2.same hSk).at hs'
      have hyk := hY k _ wr (countL_get hs') hJk hSk hszk
      dsimp only [encW] at hyk
      have hkk : (((k + 1 : Nat) : Int)) = (k : Int) + 1 := by omega
      rw [hkk] at hyk
      have HK := hide (And.intro hJk (And.intro hSk hszk))
      clear hJk hSk hszk hs' hJ hS hkk
      obtain ⟨fn, tmps, assign, body, hy, hR⟩ := hyk
      gi_wp2
      refine hR.mono ?_
      rintro e W5 ⟨hon, (⟨rfl, hJ5⟩ | ⟨rfl, hJx5⟩)⟩
      · have hS5 := HK.out.2.1.only HH.out.2.lt (Nat.le_trans hs HK.out.2.2) hon hDK
        have HJ5 := hide (And.intro hJ5 (And.intro hS5 (Nat.le_trans HK.out.2.2 hon.size)))
        clear hJ5 hS5 hR hy
        gi_wp2
        go_roundw
        case rel => exact ⟨k + 1, by omega, by go_num, HJ5.out.1, HJ5.out.2.1, HJ5.out.2.2⟩
        case measure => simp [intOf]; omega
      · gi_wp2
        refine bodyPost_ret (results_none rfl _ _ _) rfl ?_
        exact ⟨⟨_, rfl⟩, .inr hJx5⟩
    · obtain rfl : k = N := by omega
      have d1 : decide (k < k) = false := by simp
      have HJ := hide hJk
      clear hJk hSk
      gi_wp2
      go_end0
      exact ⟨⟨_, rfl⟩, .inl HJ.out⟩

theorem Tryd.infoK_F110 : (Tryd.prog.info? 36).map (·.size) = some 6 := by kernel_rfl
set_option maxRecDepth 100000 in
theorem wordsK (w : World) : Calls Tryd.prog 9 #[] w fun e w' => e = .returned (.agg (kindWs.map Value.string).toArray) ∧ Below w.heap.size w w' := by
  have hb : Below w.heap.size w (w.alloc (.cells (kindWs.map Value.string).toArray 36)) := (Below.refl _ w).alloc (Nat.le_refl _) _
  have hn := heap_alloc_new w (.cells (kindWs.map Value.string).toArray 36)
  have HB := hide (And.intro hb hn)
  clear hb hn
  go_enter Tryd.func9, Tryd.ntmps9
  go_wp2
  refine ret_row w.heap.size (kindWs.map Value.string) rfl rfl Tryd.underlying36 rfl (Tryd.infoK_F110) HB.out.2 rfl ?_
  exact ⟨rfl, HB.out.1⟩
theorem countedK (v : Value) (ao : Option Addr) (m c : Nat) (hv : v = .slice ao m c) (w : World) : Calls Tryd.prog 10 #[v] w fun e w' => e = .returned (.func (.func 22) #[] #[.pointer (some ⟨w.heap.size, 0, none⟩)]) ∧ w' = w.alloc (.cells #[v] 26) := by
  subst hv
  go_enter Tryd.func10, Tryd.ntmps10
  go_wp2
  go_ret
  exact ⟨rfl, rfl⟩
def ItK (w : World) (e : Ending) (w' : World) : Prop := ∃ L G, e = .returned (.func (.func 22) #[] #[.pointer (some ⟨L, 0, none⟩)]) ∧ WAt w' L G 36 kindWs ∧ w.heap.size ≤ L ∧ w.heap.size ≤ G ∧ Below w.heap.size w w'
set_option maxRecDepth 100000 in
theorem allK (w : World) : Calls Tryd.prog 4 #[] w (ItK w) := by
  have k68 := wordsK w
  have k69 := fun (W : World) => countedK (.slice (some ⟨W.heap.size, 0, none⟩) 6 6) (some ⟨W.heap.size, 0, none⟩) 6 6 rfl (W.alloc (.cells (kindWs.map Value.string).toArray 36))
  have fin : ∀ W : World, Below w.heap.size w W → ItK w (.returned (.func (.func 22) #[] #[.pointer (some ⟨W.heap.size + 1, 0, none⟩)])) ((W.alloc (.cells (kindWs.map Value.string).toArray 36)).alloc (.cells #[.slice (some ⟨W.heap.size, 0, none⟩) 6 6] 26)) := fun W hW => by
    obtain ⟨m0, m1, b⟩ := new2b W (.cells (kindWs.map Value.string).toArray 36) (.cells #[.slice (some ⟨W.heap.size, 0, none⟩) 6 6] 26)
    have := hW.size
    exact ⟨W.heap.size + 1, W.heap.size, rfl, ⟨m1, m0⟩, by omega, by omega, hW.trans (b.mono hW.size)⟩
  replace fin := hide fin
  simp only [heap_size_alloc9] at k69
  simp only [kindWs, List.map_cons, List.map_nil] at k68 k69
  go_enter Tryd.func4, Tryd.ntmps4
  go_wp2_with (first
    | (go_at_call 9; refine k68.mono ?_; rintro e w1 ⟨rfl, b1⟩; have H1 := hide b1; clear b1)
    | (go_at_call 10; refine (k69 w1).mono ?_; rintro e w2 ⟨rfl, hw2⟩; have H2 := hide hw2; clear hw2))
  go_ret
  rw [H2.out]
  exact fin.out w1 H1.out

set_option maxHeartbeats 2000000 in
set_option maxRecDepth 100000 in
theorem wordK {w : World} {L G : Nat} {T : TypeId} {ws : List ByteArray} (n : Int) (h : WAt w L G T ws) (hl : ws.length ≤ 1000) : Calls Tryd.prog 33 #[.func (.func 22) #[] #[.pointer (some ⟨L, 0, none⟩)], .int .i64 n] w fun e w' => e = .returned (.string (wordB ws n)) ∧ Below w.heap.size w w' := by
  obtain ⟨wA, hwA⟩ : ∃ wA, wA = (w.alloc (.cells #[.int .i64 n] 25)).alloc (.cells #[.string ⟨#[]⟩] 9) := ⟨_, rfl⟩
  obtain ⟨m0, m1, hb⟩ := new2b w (.cells #[.int .i64 n] 25) (.cells #[.string ⟨#[]⟩] 9)
  rw [← hwA] at m0 m1 hb
  have hsA : wA.heap.size = w.heap.size + 2 := by rw [hwA]; simp
  have hA := h.below hb
  have hit := iterK hA hl
  have hKw : ∀ j, KW L G j → j < w.heap.size := h.lt
  have HW := hide hwA
  obtain ⟨R, hR⟩ : ∃ R, R = wordB ws n := ⟨_, rfl⟩
  rw [← hR]
  have HR := hide hR
  clear hwA h hR
  have hret : ∀ (x : ByteArray) (W : World) (fn : Func) (tmps : Array Value), fn.results = #[.cell 4 9] → tmps.getD 4 undef = .pointer (some ⟨w.heap.size + 1, 0, none⟩) → W.heap[wA.heap.size]? = some (.deferred (some [])) → W.heap[w.heap.size + 1]? = some (.cells #[.string x] 9 (0, 0)) → Below w.heap.size w W → R = x →
      LeavesInM Fence.wide 6 Tryd.prog fn tmps (fun e w' => e = .returned (.string R) ∧ Below w.heap.size w w') ({ target := .collected wA.heap.size, args := #[] } :: []) .returning W := fun x W fn tmps hres hp hKk hTt hbl hx => by
    have ho := only_putObj W wA.heap.size (.deferred none)
    exact leave_mark hKk (leave_str (w.heap.size + 1) (x := x) hres hp (ho.cell (by rw [cell_of_row _ _ 0 _ 9 (0, 0) hTt]; rfl) (by simp only; omega)) ⟨by rw [hx], Below.only hbl ho hbl.size (by intro j e; omega)⟩)
  refine calls_marks Tryd.func33 rfl ?_
  simp only [Tryd.ntmps33, List.size_toArray, List.length_cons, List.length_nil, Nat.reduceAdd, Nat.reduceSub, Array.replicate_succ, Array.replicate_zero, List.push_toArray, List.append_toArray, List.nil_append, List.cons_append]
  go_wp2
  rw [← HW.out]
  refine range_it 22 entersK_92 _ (countL ws) encW _ hit rfl (fun _ _ => rfl) (fun j hj => Nat.lt_of_lt_of_le (hKw j hj) hb.size) (fun j => j = w.heap.size + 1) (fun j e hj => by have := hKw j hj; omega) (by intro j e; omega)
    (fun k W => Below w.heap.size w W ∧ W.heap[w.heap.size]? = some (.cells #[.int .i64 n] 25 (0, 0)) ∧ W.heap[w.heap.size + 1]? = some (.cells #[.string ⟨#[]⟩] 9 (0, 0)) ∧ ∀ j y, j < k → (countL ws)[j]? = some y → decide ((y.1 : Int) = n) = false)
    (fun cd W => cd = .ret ∧ Below w.heap.size w W ∧ W.heap[w.heap.size + 1]? = some (.cells #[.string R] 9 (0, 0)))
    (fun k W W' hi ho => ⟨Below.only hi.1 ho hi.1.size (fun j e => by omega), (ho.block _ (Array.getElem?_eq_some_iff.1 hi.2.1).1 (by omega)).trans hi.2.1, (ho.block _ (Array.getElem?_eq_some_iff.1 hi.2.2.1).1 (by omega)).trans hi.2.2.1, hi.2.2.2⟩)
    (fun cd W W' hi ho => ⟨hi.1, Below.only hi.2.1 ho hi.2.1.size (fun j e => by omega), (ho.block _ (Array.getElem?_eq_some_iff.1 hi.2.2).1 (by omega)).trans hi.2.2⟩) ⟨hb, m0, m1, fun j y hj => by omega⟩ ?hround ?hdone ?hstop
  case hdone =>
    rintro W ⟨hbW, hcn, hcW, hno⟩ hlt hk
    have r1 : W.cell? ⟨w.heap.size + 1, 0, none⟩ = some (.string ⟨#[]⟩) := (cell_of_row _ _ 0 _ 9 (0, 0) hcW).trans rfl
    have z1 : W.frozen? ⟨w.heap.size + 1, 0, none⟩ = false := frozen_of_row _ _ 0 _ 9 hcW
    have hRn : R = ⟨#[]⟩ := by rw [HR.out]; unfold wordB; rw [find_none hno]; rfl
    have HX := hide (And.intro hk (And.intro hbW (And.intro hcW hRn)))
    clear hit hKw hk hbW hcn hcW hno hA m0 m1 hRn
    go_wp2
    obtain ⟨hk, i2, i1, hy⟩ := HX.out
    have ho := Only.ofGrown (grown_setCell W ⟨w.heap.size + 1, 0, none⟩ (.string ⟨#[]⟩))
    refine hret ⟨#[]⟩ _ Tryd.f33 _ rfl rfl ((ho.block _ (Array.getElem?_eq_some_iff.1 hk).1 (fun e => by have e' : w.heap.size + 1 = wA.heap.size := (by injection e); omega)).trans hk) ?_ (Below.only i2 ho i2.size (fun j e => by have e' : w.heap.size + 1 = j := (by injection e); omega)) hy
    rw [heap_setCell_same _ _ _ _ 9 _ i1]; rfl
  case hstop =>
    rintro cd W ⟨rfl, hbl, hTt⟩ hls hKk
    have HX := hide (And.intro hKk (And.intro hTt hbl))
    clear hKk hTt hbl hit hKw
    go_wp2
    exact hret R _ Tryd.f33 _ rfl rfl HX.out.1 HX.out.2.1 HX.out.2.2 rfl
  case hround =>
    rintro k ⟨xn, xs⟩ W hx ⟨hbW, hcn, hcW, hno⟩ hSame hsz
    clear hSame hit hKw
    dsimp only [encW]
    gi_wp2
    refine ⟨Only.refl _ _, fun W2 ho2 => ?_⟩
    have cn := (ho2.block _ (Array.getElem?_eq_some_iff.1 hcn).1 (by omega)).trans hcn
    have c2 := (ho2.block _ (Array.getElem?_eq_some_iff.1 hcW).1 (by omega)).trans hcW
    have rn : W2.cell? ⟨w.heap.size, 0, none⟩ = some (.int .i64 n) := (cell_of_row _ _ 0 _ 25 (0, 0) cn).trans rfl
    have r1 : W2.cell? ⟨w.heap.size + 1, 0, none⟩ = some (.string ⟨#[]⟩) := (cell_of_row _ _ 0 _ 9 (0, 0) c2).trans rfl
    have r2 := frozen_of_row _ _ 0 _ 9 c2
    obtain ⟨s1, s2⟩ := set_one (i := 0) (.string xs) c2
    have HB := hide (Below.only hbW ho2 hbW.size (fun j e => by omega))
    have HS := hide (And.intro s1 s2)
    have HC := hide (And.intro cn c2)
    by_cases hxn : (xn : Int) = n
    · have e1 : ((xn : Int) == n) = true := by simpa using hxn
      have hRx : R = xs := by rw [HR.out]; unfold wordB; rw [find_first hno hx (by simpa using hxn)]; rfl
      have HX := hide hRx
      clear hcW hbW hcn c2 cn s1 s2 hRx hno hx hxn
      gi_wp2
      exact ⟨HS.out.2, rfl, Below.only HB.out HS.out.2 HB.out.size (fun j e => by omega), by rw [HX.out]; simpa using HS.out.1⟩
    · have e1 : ((xn : Int) == n) = false := by simpa using hxn
      have hnx : ∀ j y, j < k + 1 → (countL ws)[j]? = some y → decide ((y.1 : Int) = n) = false := fun j y hj hy => by
        by_cases hjk : j = k
        · subst hjk
          rw [hx] at hy
          cases hy
          simpa using hxn
        · exact hno j y (by omega) hy
      have HX := hide hnx
      clear hcW hbW hcn c2 cn s1 s2 hnx hno hx hxn
      gi_wp2
      exact ⟨Only.refl _ _, HB.out, HC.out.1, HC.out.2, HX.out⟩
theorem WordK (n : Int) (w : World) : Calls Tryd.prog 19 #[.int .i64 n] w fun e w' => e = .returned (.string (wordB kindWs n)) ∧ Below w.heap.size w w' := by
  have k40 := allK w
  go_enter Tryd.func19, Tryd.ntmps19
  go_wp2_with (first
    | (go_at_call 4; refine k40.mono ?_; rintro e w1 ⟨L, G, rfl, hw, -, -, b1⟩; have k52 := wordK n hw (by decide); have H1 := hide b1; clear b1 hw)
    | (go_at_call 33; refine k52.mono ?_; rintro e w2 ⟨rfl, b2⟩; have H2 := hide b2; clear b2))
  go_ret
  exact ⟨rfl, H1.out.trans (H2.out.mono H1.out.size)⟩

/-! do -/
def doWs : List ByteArray := [⟨#[97, 100, 100]⟩, ⟨#[105, 110, 115, 101, 114, 116]⟩, ⟨#[114, 101, 109, 111, 118, 101]⟩, ⟨#[119, 114, 105, 116, 101]⟩, ⟨#[112, 117, 115, 104]⟩, ⟨#[112, 111, 112]⟩, ⟨#[97, 112, 112, 101, 110, 100]⟩]
theorem entersD_93 : Enters Tryd.prog 76 := enters_of Tryd.func76 (by kernel_rfl) rfl
set_option maxRecDepth 100000 in
set_option maxHeartbeats 1000000 in
theorem iterD {w : World} {L G : Nat} {T : TypeId} {ws : List ByteArray} (h : WAt w L G T ws) (hl : ws.length ≤ 1000) : Iter 76 #[.pointer (some ⟨L, 0, none⟩)] (countL ws) encW (KW L G) w := by
  intro f D J Jx W hS hs hDK hDlt hJB hY hJ
  have hW := h.same hS
  have hc1 : W.cell? ⟨L, 0, none⟩ = some (.slice (some ⟨G, 0, none⟩) ws.length ws.length) := (cell_of_row _ _ 0 _ 26 (0, 0) hW.box).trans rfl
  have hn : 1 ≤ 5 := by omega
  refine (callsIn_wide (n := 5)).1 ?_
  rw [countL_len]
  obtain ⟨N, hN⟩ : ∃ N, N = ws.length := ⟨_, rfl⟩
  rw [← hN] at hc1 hl ⊢
  have HH := hide (And.intro hN h)
  clear hN h hW
  show CallsIn Fence.wide 5 Tryd.prog 76 #[.func (.yield f) #[] #[], .pointer (some ⟨L, 0, none⟩)] W _
  refine callsIn_of_wp Tryd.func76 rfl trivial ?_ rfl
  simp only [Tryd.ntmps76, List.size_toArray, List.length_cons, List.length_nil, Nat.reduceAdd, Nat.reduceSub, Array.replicate_succ, Array.replicate_zero, List.push_toArray, List.append_toArray, List.nil_append, List.cons_append]
  gi_wp2
  gi_loopw [7] (fun i wr => ∃ k : Nat, k ≤ N ∧ i = .int .i64 k ∧ J k wr ∧ Same (KW L G) w wr ∧ W.heap.size ≤ wr.heap.size) (fun i _ => N - (intOf i).toNat)
  case atStart => exact ⟨0, Nat.zero_le _, rfl, hJ, hS, Nat.le_refl _⟩
  case round =>
    obtain ⟨k, hk, rfl, hJk, hSk, hszk⟩ := hrel
    by_cases hlt : k < N
    · have d1 : decide (k < N) = true := by simpa using hlt
      have d1' : (k : Int) < (N : Int) := by omega
      obtain ⟨s, hs'⟩ : ∃ s, ws[k]? = some s := ⟨_, List.getElem?_eq_getElem (by rw [← HH.out.1]; exact hlt)⟩
      have hck := (HH.out.2.same hSk).at hs'
      have hyk := hY k _ wr (countL_get hs') hJk hSk hszk
      dsimp only [encW] at hyk
      have hkk : (((k + 1 : Nat) : Int)) = (k : Int) + 1 := by omega
      rw [hkk] at hyk
      have HK := hide (And.intro hJk (And.intro hSk hszk))
      clear hJk hSk hszk hs' hJ hS hkk
      obtain ⟨fn, tmps, assign, body, hy, hR⟩ := hyk
      gi_wp2
      refine hR.mono ?_
      rintro e W5 ⟨hon, (⟨rfl, hJ5⟩ | ⟨rfl, hJx5⟩)⟩
      · have hS5 := HK.out.2.1.only HH.out.2.lt (Nat.le_trans hs HK.out.2.2) hon hDK
        have HJ5 := hide (And.intro hJ5 (And.intro hS5 (Nat.le_trans HK.out.2.2 hon.size)))
        clear hJ5 hS5 hR hy
        gi_wp2
        go_roundw
        case rel => exact ⟨k + 1, by omega, by go_num, HJ5.out.1, HJ5.out.2.1, HJ5.out.2.2⟩
        case measure => simp [intOf]; omega
      · gi_wp2
        refine bodyPost_ret (results_none rfl _ _ _) rfl ?_
        exact ⟨⟨_, rfl⟩, .inr hJx5⟩
    · obtain rfl : k = N := by omega
      have d1 : decide (k < k) = false := by simp
      have HJ := hide hJk
      clear hJk hSk
      gi_wp2
      go_end0
      exact ⟨⟨_, rfl⟩, .inl HJ.out⟩

theorem Tryd.infoD_F110 : (Tryd.prog.info? 98).map (·.size) = some 7 := by kernel_rfl
set_option maxRecDepth 100000 in
theorem wordsD (w : World) : Calls Tryd.prog 54 #[] w fun e w' => e = .returned (.agg (doWs.map Value.string).toArray) ∧ Below w.heap.size w w' := by
  have hb : Below w.heap.size w (w.alloc (.cells (doWs.map Value.string).toArray 98)) := (Below.refl _ w).alloc (Nat.le_refl _) _
  have hn := heap_alloc_new w (.cells (doWs.map Value.string).toArray 98)
  have HB := hide (And.intro hb hn)
  clear hb hn
  go_enter Tryd.func54, Tryd.ntmps54
  go_wp2
  refine ret_row w.heap.size (doWs.map Value.string) rfl rfl Tryd.underlying98 rfl (Tryd.infoD_F110) HB.out.2 rfl ?_
  exact ⟨rfl, HB.out.1⟩
theorem countedD (v : Value) (ao : Option Addr) (m c : Nat) (hv : v = .slice ao m c) (w : World) : Calls Tryd.prog 55 #[v] w fun e w' => e = .returned (.func (.func 76) #[] #[.pointer (some ⟨w.heap.size, 0, none⟩)]) ∧ w' = w.alloc (.cells #[v] 26) := by
  subst hv
  go_enter Tryd.func55, Tryd.ntmps55
  go_wp2
  go_ret
  exact ⟨rfl, rfl⟩
def ItD (w : World) (e : Ending) (w' : World) : Prop := ∃ L G, e = .returned (.func (.func 76) #[] #[.pointer (some ⟨L, 0, none⟩)]) ∧ WAt w' L G 98 doWs ∧ w.heap.size ≤ L ∧ w.heap.size ≤ G ∧ Below w.heap.size w w'
set_option maxRecDepth 100000 in
theorem allD (w : World) : Calls Tryd.prog 35 #[] w (ItD w) := by
  have k68 := wordsD w
  have k69 := fun (W : World) => countedD (.slice (some ⟨W.heap.size, 0, none⟩) 7 7) (some ⟨W.heap.size, 0, none⟩) 7 7 rfl (W.alloc (.cells (doWs.map Value.string).toArray 98))
  have fin : ∀ W : World, Below w.heap.size w W → ItD w (.returned (.func (.func 76) #[] #[.pointer (some ⟨W.heap.size + 1, 0, none⟩)])) ((W.alloc (.cells (doWs.map Value.string).toArray 98)).alloc (.cells #[.slice (some ⟨W.heap.size, 0, none⟩) 7 7] 26)) := fun W hW => by
    obtain ⟨m0, m1, b⟩ := new2b W (.cells (doWs.map Value.string).toArray 98) (.cells #[.slice (some ⟨W.heap.size, 0, none⟩) 7 7] 26)
    have := hW.size
    exact ⟨W.heap.size + 1, W.heap.size, rfl, ⟨m1, m0⟩, by omega, by omega, hW.trans (b.mono hW.size)⟩
  replace fin := hide fin
  simp only [heap_size_alloc9] at k69
  simp only [doWs, List.map_cons, List.map_nil] at k68 k69
  go_enter Tryd.func35, Tryd.ntmps35
  go_wp2_with (first
    | (go_at_call 54; refine k68.mono ?_; rintro e w1 ⟨rfl, b1⟩; have H1 := hide b1; clear b1)
    | (go_at_call 55; refine (k69 w1).mono ?_; rintro e w2 ⟨rfl, hw2⟩; have H2 := hide hw2; clear hw2))
  go_ret
  rw [H2.out]
  exact fin.out w1 H1.out

set_option maxHeartbeats 2000000 in
set_option maxRecDepth 100000 in
theorem wordD {w : World} {L G : Nat} {T : TypeId} {ws : List ByteArray} (n : Int) (h : WAt w L G T ws) (hl : ws.length ≤ 1000) : Calls Tryd.prog 34 #[.func (.func 76) #[] #[.pointer (some ⟨L, 0, none⟩)], .int .i64 n] w fun e w' => e = .returned (.string (wordB ws n)) ∧ Below w.heap.size w w' := by
  obtain ⟨wA, hwA⟩ : ∃ wA, wA = (w.alloc (.cells #[.int .i64 n] 48)).alloc (.cells #[.string ⟨#[]⟩] 9) := ⟨_, rfl⟩
  obtain ⟨m0, m1, hb⟩ := new2b w (.cells #[.int .i64 n] 48) (.cells #[.string ⟨#[]⟩] 9)
  rw [← hwA] at m0 m1 hb
  have hsA : wA.heap.size = w.heap.size + 2 := by rw [hwA]; simp
  have hA := h.below hb
  have hit := iterD hA hl
  have hKw : ∀ j, KW L G j → j < w.heap.size := h.lt
  have HW := hide hwA
  obtain ⟨R, hR⟩ : ∃ R, R = wordB ws n := ⟨_, rfl⟩
  rw [← hR]
  have HR := hide hR
  clear hwA h hR
  have hret : ∀ (x : ByteArray) (W : World) (fn : Func) (tmps : Array Value), fn.results = #[.cell 4 9] → tmps.getD 4 undef = .pointer (some ⟨w.heap.size + 1, 0, none⟩) → W.heap[wA.heap.size]? = some (.deferred (some [])) → W.heap[w.heap.size + 1]? = some (.cells #[.string x] 9 (0, 0)) → Below w.heap.size w W → R = x →
      LeavesInM Fence.wide 6 Tryd.prog fn tmps (fun e w' => e = .returned (.string R) ∧ Below w.heap.size w w') ({ target := .collected wA.heap.size, args := #[] } :: []) .returning W := fun x W fn tmps hres hp hKk hTt hbl hx => by
    have ho := only_putObj W wA.heap.size (.deferred none)
    exact leave_mark hKk (leave_str (w.heap.size + 1) (x := x) hres hp (ho.cell (by rw [cell_of_row _ _ 0 _ 9 (0, 0) hTt]; rfl) (by simp only; omega)) ⟨by rw [hx], Below.only hbl ho hbl.size (by intro j e; omega)⟩)
  refine calls_marks Tryd.func34 rfl ?_
  simp only [Tryd.ntmps34, List.size_toArray, List.length_cons, List.length_nil, Nat.reduceAdd, Nat.reduceSub, Array.replicate_succ, Array.replicate_zero, List.push_toArray, List.append_toArray, List.nil_append, List.cons_append]
  go_wp2
  rw [← HW.out]
  refine range_it 76 entersD_93 _ (countL ws) encW _ hit rfl (fun _ _ => rfl) (fun j hj => Nat.lt_of_lt_of_le (hKw j hj) hb.size) (fun j => j = w.heap.size + 1) (fun j e hj => by have := hKw j hj; omega) (by intro j e; omega)
    (fun k W => Below w.heap.size w W ∧ W.heap[w.heap.size]? = some (.cells #[.int .i64 n] 48 (0, 0)) ∧ W.heap[w.heap.size + 1]? = some (.cells #[.string ⟨#[]⟩] 9 (0, 0)) ∧ ∀ j y, j < k → (countL ws)[j]? = some y → decide ((y.1 : Int) = n) = false)
    (fun cd W => cd = .ret ∧ Below w.heap.size w W ∧ W.heap[w.heap.size + 1]? = some (.cells #[.string R] 9 (0, 0)))
    (fun k W W' hi ho => ⟨Below.only hi.1 ho hi.1.size (fun j e => by omega), (ho.block _ (Array.getElem?_eq_some_iff.1 hi.2.1).1 (by omega)).trans hi.2.1, (ho.block _ (Array.getElem?_eq_some_iff.1 hi.2.2.1).1 (by omega)).trans hi.2.2.1, hi.2.2.2⟩)
    (fun cd W W' hi ho => ⟨hi.1, Below.only hi.2.1 ho hi.2.1.size (fun j e => by omega), (ho.block _ (Array.getElem?_eq_some_iff.1 hi.2.2).1 (by omega)).trans hi.2.2⟩) ⟨hb, m0, m1, fun j y hj => by omega⟩ ?hround ?hdone ?hstop
  case hdone =>
    rintro W ⟨hbW, hcn, hcW, hno⟩ hlt hk
    have r1 : W.cell? ⟨w.heap.size + 1, 0, none⟩ = some (.string ⟨#[]⟩) := (cell_of_row _ _ 0 _ 9 (0, 0) hcW).trans rfl
    have z1 : W.frozen? ⟨w.heap.size + 1, 0, none⟩ = false := frozen_of_row _ _ 0 _ 9 hcW
    have hRn : R = ⟨#[]⟩ := by rw [HR.out]; unfold wordB; rw [find_none hno]; rfl
    have HX := hide (And.intro hk (And.intro hbW (And.intro hcW hRn)))
    clear hit hKw hk hbW hcn hcW hno hA m0 m1 hRn
    go_wp2
    obtain ⟨hk, i2, i1, hy⟩ := HX.out
    have ho := Only.ofGrown (grown_setCell W ⟨w.heap.size + 1, 0, none⟩ (.string ⟨#[]⟩))
    refine hret ⟨#[]⟩ _ Tryd.f34 _ rfl rfl ((ho.block _ (Array.getElem?_eq_some_iff.1 hk).1 (fun e => by have e' : w.heap.size + 1 = wA.heap.size := (by injection e); omega)).trans hk) ?_ (Below.only i2 ho i2.size (fun j e => by have e' : w.heap.size + 1 = j := (by injection e); omega)) hy
    rw [heap_setCell_same _ _ _ _ 9 _ i1]; rfl
  case hstop =>
    rintro cd W ⟨rfl, hbl, hTt⟩ hls hKk
    have HX := hide (And.intro hKk (And.intro hTt hbl))
    clear hKk hTt hbl hit hKw
    go_wp2
    exact hret R _ Tryd.f34 _ rfl rfl HX.out.1 HX.out.2.1 HX.out.2.2 rfl
  case hround =>
    rintro k ⟨xn, xs⟩ W hx ⟨hbW, hcn, hcW, hno⟩ hSame hsz
    clear hSame hit hKw
    dsimp only [encW]
    gi_wp2
    refine ⟨Only.refl _ _, fun W2 ho2 => ?_⟩
    have cn := (ho2.block _ (Array.getElem?_eq_some_iff.1 hcn).1 (by omega)).trans hcn
    have c2 := (ho2.block _ (Array.getElem?_eq_some_iff.1 hcW).1 (by omega)).trans hcW
    have rn : W2.cell? ⟨w.heap.size, 0, none⟩ = some (.int .i64 n) := (cell_of_row _ _ 0 _ 48 (0, 0) cn).trans rfl
    have r1 : W2.cell? ⟨w.heap.size + 1, 0, none⟩ = some (.string ⟨#[]⟩) := (cell_of_row _ _ 0 _ 9 (0, 0) c2).trans rfl
    have r2 := frozen_of_row _ _ 0 _ 9 c2
    obtain ⟨s1, s2⟩ := set_one (i := 0) (.string xs) c2
    have HB := hide (Below.only hbW ho2 hbW.size (fun j e => by omega))
    have HS := hide (And.intro s1 s2)
    have HC := hide (And.intro cn c2)
    by_cases hxn : (xn : Int) = n
    · have e1 : ((xn : Int) == n) = true := by simpa using hxn
      have hRx : R = xs := by rw [HR.out]; unfold wordB; rw [find_first hno hx (by simpa using hxn)]; rfl
      have HX := hide hRx
      clear hcW hbW hcn c2 cn s1 s2 hRx hno hx hxn
      gi_wp2
      exact ⟨HS.out.2, rfl, Below.only HB.out HS.out.2 HB.out.size (fun j e => by omega), by rw [HX.out]; simpa using HS.out.1⟩
    · have e1 : ((xn : Int) == n) = false := by simpa using hxn
      have hnx : ∀ j y, j < k + 1 → (countL ws)[j]? = some y → decide ((y.1 : Int) = n) = false := fun j y hj hy => by
        by_cases hjk : j = k
        · subst hjk
          rw [hx] at hy
          cases hy
          simpa using hxn
        · exact hno j y (by omega) hy
      have HX := hide hnx
      clear hcW hbW hcn c2 cn s1 s2 hnx hno hx hxn
      gi_wp2
      exact ⟨Only.refl _ _, HB.out, HC.out.1, HC.out.2, HX.out⟩
theorem WordD (n : Int) (w : World) : Calls Tryd.prog 20 #[.int .i64 n] w fun e w' => e = .returned (.string (wordB doWs n)) ∧ Below w.heap.size w w' := by
  have k40 := allD w
  go_enter Tryd.func20, Tryd.ntmps20
  go_wp2_with (first
    | (go_at_call 35; refine k40.mono ?_; rintro e w1 ⟨L, G, rfl, hw, -, -, b1⟩; have k52 := wordD n hw (by decide); have H1 := hide b1; clear b1 hw)
    | (go_at_call 34; refine k52.mono ?_; rintro e w2 ⟨rfl, b2⟩; have H2 := hide b2; clear b2))
  go_ret
  exact ⟨rfl, H1.out.trans (H2.out.mono H1.out.size)⟩
end Go.Proofs.YtkdgageljgfgoaaDoor
