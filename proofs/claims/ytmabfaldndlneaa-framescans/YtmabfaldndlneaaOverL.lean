/-
  WALKS over the statement's own going over.
-/
import Derived.Test.YtmabfaldndlneaaRefS
namespace Go.Proofs.Ytmabfaldndlneaa
open Go.RowKit Go.Shelf
set_option linter.unusedSimpArgs false
attribute [local go_sem] Oper.semAt_some

/-- Frames that are read, as a slice says them. -/
structure Seen (w : World) (a : Option Addr) (F : List Fr) : Prop where
  item : ∀ (k : Nat) (f : Fr), F[k]? = some f → ∃ g ao c, a = some ⟨g, 0, none⟩ ∧ w.cell? ⟨g, k * 2, none⟩ = some (.int .i64 f.kind) ∧ w.cell? ⟨g, k * 2 + 1, none⟩ = some (.slice ao f.body.length c) ∧ Rd w ao f.body
theorem Fms.seen {w : World} {B : Nat} {a : Option Addr} {n c : Nat} {F : List Fr} {xs : List Value} (h : Fms w B (.slice a n c) F xs) : Seen w a F ∧ n = F.length := by
  obtain ⟨a', c', hv, ha, _⟩ := row_form h.row
  cases hv
  refine ⟨⟨fun k f hf => ?_⟩, rfl⟩
  obtain ⟨ao, c2, h1, h2, h3, _⟩ := h.it.get k f hf
  have hk : k < F.length := (List.getElem?_eq_some_iff.1 hf).1
  cases a with
  | none =>
    exfalso
    rcases h.row.2 with ⟨_, q⟩ | ⟨_, _, _, q, _⟩
    · omega
    · simp at q
  | some a =>
    obtain ⟨g, rfl⟩ := ha _ rfl
    have j1 := World.ownsRow.cells h.row (g := g) rfl _ _ h1
    have j2 := World.ownsRow.cells h.row (g := g) rfl _ _ h2
    rw [add_lit, Nat.zero_add, Nat.mul_comm] at j1 j2
    exact ⟨g, ao, c2, rfl, j1, j2, h3.rd⟩
theorem Seen.below {w w' : World} {a : Option Addr} {F : List Fr} (h : Seen w a F) (k : Below w.heap.size w w') : Seen w' a F := by
  refine ⟨fun i x hx => ?_⟩
  obtain ⟨g, ao, c, h1, h2, h3, h4⟩ := h.item i x hx
  exact ⟨g, ao, c, h1, (k.cell (World.block_lt_of_cell? _ _ h2)).trans h2, (k.cell (World.block_lt_of_cell? _ _ h3)).trans h3, h4.below k⟩

/-- Behind k rounds. -/
def OvI (w : World) (v : Value) (leave : Int) (b : List Int) (x : Bool) (k : Nat) (W : World) : Prop :=
  W.heap[w.heap.size]? = some (.cells #[v] 24 (0, 0)) ∧ W.heap[w.heap.size + 1]? = some (.cells #[.int .i64 leave] 3 (0, 0)) ∧ W.heap[w.heap.size + 1 + 1]? = some (.cells #[.bool x] 4 (0, 0)) ∧
  W.heap[w.heap.size + 1 + 1 + 1]? = some (.cells #[.int .i64 (k : Int)] 3 (0, 0)) ∧ W.heap[w.heap.size + 1 + 1 + 1 + 1]? = some (.cells #[.int .i64 (place (frs b 0) k : Nat)] 3 (0, 0)) ∧ Below w.heap.size w W
theorem OvI.size {w W : World} {v : Value} {leave : Int} {b : List Int} {x : Bool} {k : Nat} (h : OvI w v leave b x k W) : w.heap.size + 5 ≤ W.heap.size := by
  have := (Array.getElem?_eq_some_iff.1 h.2.2.2.2.1).1; omega
theorem OvI.only {w W W' : World} {v : Value} {leave : Int} {b : List Int} {x : Bool} {k : Nat} {D : Nat → Prop} (h : OvI w v leave b x k W) (hD : ∀ j, D j → w.heap.size + 5 ≤ j) (ho : Only D W W') : OvI w v leave b x k W' := by
  have hs := h.size
  obtain ⟨h1, h2, h3, h4, h5, h6⟩ := h
  have nd : ∀ j, j < w.heap.size + 5 → ¬ D j := fun j hj e => by have := hD j e; omega
  exact ⟨(ho.block _ (by omega) (nd _ (by omega))).trans h1, (ho.block _ (by omega) (nd _ (by omega))).trans h2, (ho.block _ (by omega) (nd _ (by omega))).trans h3, (ho.block _ (by omega) (nd _ (by omega))).trans h4, (ho.block _ (by omega) (nd _ (by omega))).trans h5, Below.only h6 ho h6.size (fun j e => by have := hD j e; omega)⟩
theorem OvI.below {w W W' : World} {v : Value} {leave : Int} {b : List Int} {x : Bool} {k : Nat} (h : OvI w v leave b x k W) (hb : Below W.heap.size W W') : OvI w v leave b x k W' := h.only (D := fun _ => False) (fun _ e => e.elim) (Only.ofBelow hb)
/-- The boxes, whatever the count, the place and the answer are. -/
def OvB (w : World) (v : Value) (leave : Int) (r : Bool) (i p : Int) (W : World) : Prop :=
  W.heap[w.heap.size]? = some (.cells #[v] 24 (0, 0)) ∧ W.heap[w.heap.size + 1]? = some (.cells #[.int .i64 leave] 3 (0, 0)) ∧ W.heap[w.heap.size + 1 + 1]? = some (.cells #[.bool r] 4 (0, 0)) ∧
  W.heap[w.heap.size + 1 + 1 + 1]? = some (.cells #[.int .i64 i] 3 (0, 0)) ∧ W.heap[w.heap.size + 1 + 1 + 1 + 1]? = some (.cells #[.int .i64 p] 3 (0, 0)) ∧ Below w.heap.size w W
section
variable {w W W' : World} {v : Value} {leave : Int} {r : Bool} {i p : Int}
theorem OvB.size (h : OvB w v leave r i p W) : w.heap.size + 5 ≤ W.heap.size := by
  have := (Array.getElem?_eq_some_iff.1 h.2.2.2.2.1).1; omega
theorem OvB.only {D : Nat → Prop} (h : OvB w v leave r i p W) (hD : ∀ j, D j → w.heap.size + 5 ≤ j) (ho : Only D W W') : OvB w v leave r i p W' := by
  have hs := h.size
  obtain ⟨h1, h2, h3, h4, h5, h6⟩ := h
  have nd : ∀ j, j < w.heap.size + 5 → ¬ D j := fun j hj e => by have := hD j e; omega
  exact ⟨(ho.block _ (by omega) (nd _ (by omega))).trans h1, (ho.block _ (by omega) (nd _ (by omega))).trans h2, (ho.block _ (by omega) (nd _ (by omega))).trans h3, (ho.block _ (by omega) (nd _ (by omega))).trans h4, (ho.block _ (by omega) (nd _ (by omega))).trans h5, Below.only h6 ho h6.size (fun j e => by have := hD j e; omega)⟩
theorem OvB.setP (h : OvB w v leave r i p W) (q : Int) : OvB w v leave r i q (W.setCell ⟨w.heap.size + 1 + 1 + 1 + 1, 0, none⟩ (.int .i64 q)) := by
  obtain ⟨h1, h2, h3, h4, h5, h6⟩ := h
  refine ⟨(heap_setCell_other _ _ _ _ (by simp; omega)).trans h1, (heap_setCell_other _ _ _ _ (by simp)).trans h2, (heap_setCell_other _ _ _ _ (by simp)).trans h3, (heap_setCell_other _ _ _ _ (by simp)).trans h4, one_set h5, ?_⟩
  exact Below.only h6 (Only.ofGrown (grown_setCell W _ _)) h6.size (fun j e => by cases e; simp only; omega)
theorem OvB.setI (h : OvB w v leave r i p W) (q : Int) : OvB w v leave r q p (W.setCell ⟨w.heap.size + 1 + 1 + 1, 0, none⟩ (.int .i64 q)) := by
  obtain ⟨h1, h2, h3, h4, h5, h6⟩ := h
  refine ⟨(heap_setCell_other _ _ _ _ (by simp; omega)).trans h1, (heap_setCell_other _ _ _ _ (by simp)).trans h2, (heap_setCell_other _ _ _ _ (by simp)).trans h3, one_set h4, (heap_setCell_other _ _ _ _ (by simp)).trans h5, ?_⟩
  exact Below.only h6 (Only.ofGrown (grown_setCell W _ _)) h6.size (fun j e => by cases e; simp only; omega)
end
def OvD (n : Nat) : Nat → Prop := fun j => j = n + 2 ∨ j = n + 3 ∨ j = n + 4
/-- The boxes. -/
abbrev ovW (w : World) (v : Value) (leave : Int) : World := ((((w.alloc (.cells #[v] 24)).alloc (.cells #[.int .i64 leave] 3)).alloc (.cells #[.bool false] 4)).alloc (.cells #[.int .i64 0] 3)).alloc (.cells #[.int .i64 0] 3)
theorem ovW_I (w : World) (v : Value) (leave : Int) (b : List Int) : OvI w v leave b false 0 (ovW w v leave) ∧ (ovW w v leave).heap.size = w.heap.size + 5 := by
  have nw : ∀ (W : World) (o : Obj) (j : Nat) (p : Obj), W.heap[j]? = some p → (W.alloc o).heap[j]? = some p := fun W o j p hp => by
    rw [Below.heap_alloc _ _ _ (Array.getElem?_eq_some_iff.1 hp).1]; exact hp
  have s1 : (w.alloc (.cells #[v] 24)).heap.size = w.heap.size + 1 := by simp
  have s2 : ((w.alloc (.cells #[v] 24)).alloc (.cells #[.int .i64 leave] 3)).heap.size = w.heap.size + 2 := by simp
  have s3 : (((w.alloc (.cells #[v] 24)).alloc (.cells #[.int .i64 leave] 3)).alloc (.cells #[.bool false] 4)).heap.size = w.heap.size + 3 := by simp
  have s4 : ((((w.alloc (.cells #[v] 24)).alloc (.cells #[.int .i64 leave] 3)).alloc (.cells #[.bool false] 4)).alloc (.cells #[.int .i64 0] 3)).heap.size = w.heap.size + 4 := by simp
  have e1 := heap_alloc_new w (.cells #[v] 24)
  have e2 := heap_alloc_new (w.alloc (.cells #[v] 24)) (.cells #[.int .i64 leave] 3)
  have e3 := heap_alloc_new ((w.alloc (.cells #[v] 24)).alloc (.cells #[.int .i64 leave] 3)) (.cells #[.bool false] 4)
  have e4 := heap_alloc_new (((w.alloc (.cells #[v] 24)).alloc (.cells #[.int .i64 leave] 3)).alloc (.cells #[.bool false] 4)) (.cells #[.int .i64 0] 3)
  have e5 := heap_alloc_new ((((w.alloc (.cells #[v] 24)).alloc (.cells #[.int .i64 leave] 3)).alloc (.cells #[.bool false] 4)).alloc (.cells #[.int .i64 0] 3)) (.cells #[.int .i64 0] 3)
  rw [s1] at e2
  rw [s2] at e3
  rw [s3] at e4
  rw [s4] at e5
  refine ⟨⟨nw _ _ _ _ (nw _ _ _ _ (nw _ _ _ _ (nw _ _ _ _ e1))), nw _ _ _ _ (nw _ _ _ _ (nw _ _ _ _ e2)), nw _ _ _ _ (nw _ _ _ _ e3), nw _ _ _ _ e4, e5, ?_⟩, by simp⟩
  exact (((((Below.refl _ w).alloc (Nat.le_refl _) _).alloc (by simp) _).alloc (by simp; omega) _).alloc (by simp; omega) _).alloc (by simp; omega) _

set_option maxHeartbeats 1000000 in
set_option maxRecDepth 100000 in
theorem over_yes {w : World} {L : Nat} {ao : Option Addr} {c : Nat} {b : List Int} {a : Option Addr} {cw : Nat} (leave : Int) (hB : BAt w L ao c b) (hau : ∀ a, ao = some a → a.block < w.heap.size) (hlen : b.length ≤ 1000000) (hS : Seen w a (FL b)) :
    Calls Try.prog 12 #[.func (.func 27) #[] #[.pointer (some ⟨L, 0, none⟩)], .slice a (FL b).length cw, .int .i64 leave] w fun e w' => e = .returned (.bool true) ∧ Below w.heap.size w w' := by
  obtain ⟨hI0, hsz0⟩ := ovW_I w (.slice a (FL b).length cw) leave b
  have hfl := frs_length b 0 (by omega)
  have hLl : L < w.heap.size := World.block_lt_of_cell? _ _ hB.box
  have hnL := FL_length b
  obtain ⟨N, hN⟩ : ∃ N, N = (FL b).length := ⟨_, rfl⟩
  rw [← hN] at hI0 hsz0 hnL ⊢
  clear hN
  have HNL := hide hnL
  clear hnL
  refine calls_marks Try.func12 rfl ?_
  simp only [Try.ntmps12, List.size_toArray, List.length_cons, List.length_nil, Nat.reduceAdd, Nat.reduceSub, Array.replicate_succ, Array.replicate_zero, List.push_toArray, List.append_toArray, List.nil_append, List.cons_append]
  go_wp2
  have hB1 := hB.below hI0.2.2.2.2.2
  have HS := hide hS
  generalize hWe : ovW w (.slice a N cw) leave = W1 at hI0 hsz0 hB1
  rw [show (((((w.alloc (.cells #[.slice a N cw] 24)).alloc (.cells #[.int .i64 leave] 3)).alloc (.cells #[.bool false] 4)).alloc (.cells #[.int .i64 0] 3)).alloc (.cells #[.int .i64 0] 3)) = W1 from hWe]
  clear hWe hS hB
  have hret : ∀ (W : World) (fn : Func) (tmps : Array Value), fn.results = #[.cell 6 4] → tmps.getD 6 undef = .pointer (some ⟨w.heap.size + 1 + 1, 0, none⟩) → W.heap[w.heap.size + 5]? = some (.deferred (some [])) → W.heap[w.heap.size + 1 + 1]? = some (.cells #[.bool true] 4 (0, 0)) → Below w.heap.size w W →
      LeavesInM Fence.wide 6 Try.prog fn tmps (fun e w' => e = .returned (.bool true) ∧ Below w.heap.size w w') ({ target := .collected (w.heap.size + 5), args := #[] } :: []) .returning W := fun W fn tmps hres hp hK hT hbl => by
    have ho := only_putObj W (w.heap.size + 5) (.deferred none)
    exact leave_mark hK (leave_cell (w.heap.size + 1 + 1) (x := true) hres hp (ho.cell (blk1 hT).1 (by simp only; omega)) ⟨rfl, Below.only hbl ho hbl.size (by intro j e; omega)⟩)
  refine range_frs (Q := _) L ao c b rfl rfl hB1 (by omega) (OvD w.heap.size) (by unfold OvD; omega) (fun a ha => by have := hau a ha; unfold OvD; omega) (by unfold OvD; omega) (by unfold OvD; omega) (fun a ha => by have := hau a ha; omega)
    (OvI w (.slice a N cw) leave b false) (fun cd W => cd = .ret ∧ W.heap[w.heap.size + 1 + 1]? = some (.cells #[.bool true] 4 (0, 0)) ∧ Below w.heap.size w W)
    (fun k W W' hi ho => hi.only (by intro j e; omega) ho) (fun cd W W' hi ho => ⟨hi.1, (ho.block _ (Array.getElem?_eq_some_iff.1 hi.2.1).1 (by omega)).trans hi.2.1, Below.only hi.2.2 ho hi.2.2.size (by intro j e; omega)⟩) hI0 ?hround ?hdone ?hstop
  case hdone =>
    intro W hi hls hK
    rw [hsz0] at hK
    obtain ⟨i1, i2, i3, i4, i5, i6⟩ := hi
    rw [← HNL.out] at i4
    obtain ⟨p1, _, _⟩ := blk1 i1
    obtain ⟨p3, z3, _⟩ := blk1 i3
    obtain ⟨p4, _, _⟩ := blk1 i4
    have HX := hide (And.intro hK (And.intro i3 i6))
    clear hK i1 i2 i3 i4 i5 i6 hI0
    go_wp2
    try rw [hsz0]
    obtain ⟨hK, i3, i6⟩ := HX.out
    have ho := Only.ofGrown (grown_setCell W ⟨w.heap.size + 1 + 1, 0, none⟩ (.bool true))
    refine hret _ Try.f12 _ rfl rfl ((ho.block _ (Array.getElem?_eq_some_iff.1 hK).1 (fun e => by have e' : w.heap.size + 1 + 1 = w.heap.size + 5 := (by injection e); omega)).trans hK) (one_set i3) (Below.only i6 ho i6.size (fun j e => by have e' : w.heap.size + 1 + 1 = j := (by injection e); omega))
  case hstop =>
    rintro cd W ⟨rfl, hT, hbl⟩ hls hK
    rw [hsz0] at hK
    have HX := hide (And.intro hK (And.intro hT hbl))
    clear hK hT hbl hI0
    go_wp2
    try rw [hsz0]
    exact hret _ Try.f12 _ rfl rfl HX.out.1 HX.out.2.1 HX.out.2.2
  case hround =>
    intro k x ao' c' W0 W hx hi hbW0 hH hls
    rw [hsz0] at hls
    have hxl := (List.getElem?_eq_some_iff.1 hx).1
    have hnL := HNL.out
    have hki : (k : Int) < (N : Int) := by omega
    have hdk : decide ((N : Int) ≤ (k : Int)) = false := by simp; omega
    have hdk2 : decide (N ≤ k) = false := by simp; omega
    have hkn : k < N := by omega
    clear hnL
    obtain ⟨m1, m2, m3, m4⟩ := frs_mem 0 x (List.mem_of_getElem? hx)
    have hnx := next_le m3
    rw [← m4] at hnx
    have hpl := place_at hx
    have hp1 : place (frs b 0) (k + 1) = x.1 + 9 + x.2.body.length := by simp [place, hx]
    have hFx : (FL b)[k]? = some x.2 := by simp [FL, hx]
    have hbX : Below W.heap.size W (W.alloc (.cells #[.int .i64 x.2.kind, .slice ao' x.2.body.length c'] 36)) := (Below.refl _ W).alloc (Nat.le_refl _) _
    have hsW := hbW0.size
    have hiX := (hi.below hbW0).below hbX
    have hoX := hH.own.below hbX
    have hnF := heap_alloc_new W (.cells #[.int .i64 x.2.kind, .slice ao' x.2.body.length c'] 36)
    have hsX : (W.alloc (.cells #[.int .i64 x.2.kind, .slice ao' x.2.body.length c'] 36)).heap.size = W.heap.size + 1 := by simp
    unfold OvI at hiX
    rw [← hpl] at hiX
    have HPL := hide (And.intro hpl hp1)
    clear m1 m2 m3 m4 hpl hp1
    gi_wp2
    refine ⟨(Only.refl _ W).alloc _, fun W2 ho2 => ?_⟩
    rw [hsz0] at ho2 ⊢
    have hs2 := ho2.size
    obtain ⟨i1, i2, i3, i4, i5, i6⟩ := hiX
    have b2 := (ho2.block w.heap.size (by omega) (by omega)).trans i1
    have b3 := (ho2.block (w.heap.size + 1) (by omega) (by omega)).trans i2
    have b4 := (ho2.block (w.heap.size + 1 + 1) (by omega) (by omega)).trans i3
    have b5 := (ho2.block (w.heap.size + 1 + 1 + 1) (by omega) (by omega)).trans i4
    have b6 := (ho2.block (w.heap.size + 1 + 1 + 1 + 1) (by omega) (by omega)).trans i5
    have bF := (ho2.block W.heap.size (by omega) (by omega)).trans hnF
    have hB2 : Below w.heap.size w W2 := Below.only i6 ho2 (by omega) (by intro j e; omega)
    have own2 : Own 5 W2 W0.heap.size (.slice ao' x.2.body.length c') x.2.body := ho2.own hoX (fun j hj e => by have := (own_new hoX j hj).1; omega)
    obtain ⟨g, aw, cw', ha, s1, s2, srd⟩ := (HS.out.below hB2).item k x.2 hFx
    subst ha
    obtain ⟨f0, f1, _, _⟩ := blk2 bF
    have hS5 : W2.drew.cell? ⟨w.heap.size + 1 + 1 + 1, 0, none⟩ = some (.int .i64 (k : Int)) ∧ W2.drew.cell? ⟨w.heap.size, 0, none⟩ = some (.slice (some ⟨g, 0, none⟩) N cw) ∧ W2.drew.cell? ⟨w.heap.size + 1 + 1 + 1 + 1, 0, none⟩ = some (.int .i64 (x.1 : Int)) ∧ W2.drew.cell? ⟨W.heap.size, 0, none⟩ = some (.int .i64 x.2.kind) ∧ W2.drew.cell? ⟨W.heap.size, 1, none⟩ = some (.slice ao' x.2.body.length c') ∧ W2.drew.cell? ⟨g, k * 2, none⟩ = some (.int .i64 x.2.kind) ∧ W2.drew.cell? ⟨g, k * 2 + 1, none⟩ = some (.slice aw x.2.body.length cw') := ⟨(blk1 b5).1, (blk1 b2).1, (blk1 b6).1, f0, f1, s1, s2⟩
    have hsame := same_yes x.2.kind ao' aw c' cw' x.2.body W2.drew own2.rd srd
    have hownW : ∀ j, Value.ownBlock (.slice ao' x.2.body.length c') = some j → W0.heap.size ≤ j ∧ j < W.heap.size := own_new hH.own
    have HW2 := hide (And.intro b2 (And.intro b3 (And.intro b4 (And.intro b5 (And.intro b6 (And.intro bF (And.intro hB2 own2)))))))
    clear i1 i2 i3 i4 i5 i6 b2 b3 b4 b5 b6 bF hB2 own2 hoX hnF hi hbX hbW0 hH f0 f1 s1 s2 srd hI0 hB1 ho2
    gi_wp2
    refine region_in (S := (fun w' => w'.cell? ⟨w.heap.size + 1 + 1 + 1, 0, none⟩ = some (.int .i64 (k : Int)) ∧ w'.cell? ⟨w.heap.size, 0, none⟩ = some (.slice (some ⟨g, 0, none⟩) N cw) ∧ w'.cell? ⟨w.heap.size + 1 + 1 + 1 + 1, 0, none⟩ = some (.int .i64 (x.1 : Int)) ∧ w'.cell? ⟨W.heap.size, 0, none⟩ = some (.int .i64 x.2.kind) ∧ w'.cell? ⟨W.heap.size, 1, none⟩ = some (.slice ao' x.2.body.length c') ∧ w'.cell? ⟨g, k * 2, none⟩ = some (.int .i64 x.2.kind) ∧ w'.cell? ⟨g, k * 2 + 1, none⟩ = some (.slice aw x.2.body.length cw'))) (by kernel_rfl) (by kernel_rfl) (fun _ _ h => h) (by exact hS5) (fun hHeld => ?_)
    try dsimp only at hHeld
    refine take_op (i := 0) (d := 15) (OP := Op.load 3 (Operand.tmp 7)) (T := 3) (v := ?vq1x) rfl rfl rfl rfl (by kernel_rfl) (by kernel_rfl) (by kernel_rfl) (fun _ _ _ h => h) (by rfl) ?hq1x hHeld ?rq1x
    case hq1x => (intro w' hSw; (try dsimp only at hSw); go_simp <;> with_reducible rfl)
    try simp only [Act.put, List.setIfInBounds_toArray, List.set_cons_zero, List.set_cons_succ]
    refine take_op (i := 1) (d := 16) (OP := Op.load 24 (Operand.tmp 4)) (T := 24) (v := ?vq2x) rfl rfl rfl rfl (by kernel_rfl) (by kernel_rfl) (by kernel_rfl) (fun _ _ _ h => h) (by rfl) ?hq2x hHeld ?rq2x
    case hq2x => (intro w' hSw; (try dsimp only at hSw); go_simp <;> with_reducible rfl)
    try simp only [Act.put, List.setIfInBounds_toArray, List.set_cons_zero, List.set_cons_succ]
    refine take_op (i := 2) (d := 17) (OP := Op.call { callee := Callee.builtin Builtin.len, args := #[Operand.tmp 16], argTypes := #[24] }) (T := 3) (v := ?vq3x) rfl rfl rfl rfl (by kernel_rfl) (by kernel_rfl) (by kernel_rfl) (fun _ _ _ h => h) (by rfl) ?hq3x hHeld ?rq3x
    case hq3x => (intro w' hSw; (try dsimp only at hSw); go_simp <;> with_reducible rfl)
    try simp only [Act.put, List.setIfInBounds_toArray, List.set_cons_zero, List.set_cons_succ]
    refine take_op (i := 3) (d := 18) (OP := Op.binOp BinOp.geq 3 (Operand.tmp 15) (Operand.tmp 17) 3) (T := 4) (v := ?vq4x) rfl rfl rfl rfl (by kernel_rfl) (by kernel_rfl) (by kernel_rfl) (fun _ _ _ h => h) (by rfl) ?hq4x hHeld ?rq4x
    case hq4x => (intro w' hSw; (try dsimp only at hSw); go_simp <;> with_reducible rfl)
    try simp only [Act.put, List.setIfInBounds_toArray, List.set_cons_zero, List.set_cons_succ]
    refine take_op (i := 4) (d := 19) (OP := Op.move (Operand.tmp 18)) (T := 4) (v := ?vq5x) rfl rfl rfl rfl (by kernel_rfl) (by kernel_rfl) (by kernel_rfl) (fun _ _ _ h => h) (by rfl) ?hq5x hHeld ?rq5x
    case hq5x => (intro w' hSw; (try dsimp only at hSw); go_simp <;> with_reducible rfl)
    try simp only [Act.put, List.setIfInBounds_toArray, List.set_cons_zero, List.set_cons_succ]
    refine take_op (i := 5) (d := 20) (OP := Op.move (Operand.tmp 9)) (T := 3) (v := ?vq6x) rfl rfl rfl rfl (by kernel_rfl) (by kernel_rfl) (by kernel_rfl) (fun _ _ _ h => h) (by rfl) ?hq6x hHeld ?rq6x
    case hq6x => (intro w' hSw; (try dsimp only at hSw); go_simp <;> with_reducible rfl)
    try simp only [Act.put, List.setIfInBounds_toArray, List.set_cons_zero, List.set_cons_succ]
    refine take_op (i := 6) (d := 21) (OP := Op.load 3 (Operand.tmp 8)) (T := 3) (v := ?vq7x) rfl rfl rfl rfl (by kernel_rfl) (by kernel_rfl) (by kernel_rfl) (fun _ _ _ h => h) (by rfl) ?hq7x hHeld ?rq7x
    case hq7x => (intro w' hSw; (try dsimp only at hSw); go_simp <;> with_reducible rfl)
    try simp only [Act.put, List.setIfInBounds_toArray, List.set_cons_zero, List.set_cons_succ]
    refine take_op (i := 7) (d := 22) (OP := Op.binOp BinOp.neq 3 (Operand.tmp 20) (Operand.tmp 21) 3) (T := 4) (v := ?vq8x) rfl rfl rfl rfl (by kernel_rfl) (by kernel_rfl) (by kernel_rfl) (fun _ _ _ h => h) (by rfl) ?hq8x hHeld ?rq8x
    case hq8x => (intro w' hSw; (try dsimp only at hSw); go_simp <;> with_reducible rfl)
    try simp only [Act.put, List.setIfInBounds_toArray, List.set_cons_zero, List.set_cons_succ]
    refine take_op (i := 8) (d := 23) (OP := Op.pick (Operand.tmp 19) (Operand.const (Value.bool true)) (Operand.tmp 22)) (T := 4) (v := ?vq9x) rfl rfl rfl rfl (by kernel_rfl) (by kernel_rfl) (by kernel_rfl) (fun _ _ _ h => h) (by rfl) ?hq9x hHeld ?rq9x
    case hq9x => (intro w' hSw; (try dsimp only at hSw); go_simp <;> with_reducible rfl)
    try simp only [Act.put, List.setIfInBounds_toArray, List.set_cons_zero, List.set_cons_succ]
    refine take_op (i := 9) (d := 24) (OP := Op.move (Operand.tmp 23)) (T := 4) (v := ?vq10x) rfl rfl rfl rfl (by kernel_rfl) (by kernel_rfl) (by kernel_rfl) (fun _ _ _ h => h) (by rfl) ?hq10x hHeld ?rq10x
    case hq10x => (intro w' hSw; (try dsimp only at hSw); go_simp <;> with_reducible rfl)
    try simp only [Act.put, List.setIfInBounds_toArray, List.set_cons_zero, List.set_cons_succ]
    refine take_op (i := 10) (d := 25) (OP := Op.load 36 (Operand.tmp 10)) (T := 36) (v := ?vq11x) rfl rfl rfl rfl (by kernel_rfl) (by kernel_rfl) (by kernel_rfl) (fun _ _ _ h => h) (by rfl) ?hq11x hHeld ?rq11x
    case hq11x => (intro w' hSw; (try dsimp only at hSw); go_simp <;> with_reducible rfl)
    try simp only [Act.put, List.setIfInBounds_toArray, List.set_cons_zero, List.set_cons_succ]
    refine take_op (i := 11) (d := 26) (OP := Op.load 24 (Operand.tmp 4)) (T := 24) (v := ?vq12x) rfl rfl rfl rfl (by kernel_rfl) (by kernel_rfl) (by kernel_rfl) (fun _ _ _ h => h) (by rfl) ?hq12x hHeld ?rq12x
    case hq12x => (intro w' hSw; (try dsimp only at hSw); go_simp <;> with_reducible rfl)
    try simp only [Act.put, List.setIfInBounds_toArray, List.set_cons_zero, List.set_cons_succ]
    refine take_op (i := 12) (d := 27) (OP := Op.load 3 (Operand.tmp 7)) (T := 3) (v := ?vq13x) rfl rfl rfl rfl (by kernel_rfl) (by kernel_rfl) (by kernel_rfl) (fun _ _ _ h => h) (by rfl) ?hq13x hHeld ?rq13x
    case hq13x => (intro w' hSw; (try dsimp only at hSw); go_simp <;> with_reducible rfl)
    try simp only [Act.put, List.setIfInBounds_toArray, List.set_cons_zero, List.set_cons_succ]
    refine take_op (i := 13) (d := 28) (OP := Op.indexAddr 24 (Operand.tmp 26) (Operand.tmp 27)) (T := 0) (v := ?vq14x) rfl rfl rfl rfl (by kernel_rfl) (by kernel_rfl) (by kernel_rfl) (fun _ _ _ h => h) (by rfl) ?hq14x hHeld ?rq14x
    case hq14x => (intro w' hSw; (try dsimp only at hSw); go_simp <;> with_reducible rfl)
    try simp only [Act.put, List.setIfInBounds_toArray, List.set_cons_zero, List.set_cons_succ]
    refine take_op (i := 14) (d := 29) (OP := Op.load 36 (Operand.tmp 28)) (T := 36) (v := ?vq15x) rfl rfl rfl rfl (by kernel_rfl) (by kernel_rfl) (by kernel_rfl) (fun _ _ _ h => h) (by rfl) ?hq15x hHeld ?rq15x
    case hq15x => (intro w' hSw; (try dsimp only at hSw); go_simp <;> with_reducible rfl)
    try simp only [Act.put, List.setIfInBounds_toArray, List.set_cons_zero, List.set_cons_succ]
    refine call_op (i := 15) (d := 30) (OP := Op.call { callee := Callee.value (Operand.func 10), args := #[Operand.tmp 25, Operand.tmp 29], argTypes := #[36, 36] }) (T := 4) (f := 10) (args := #[frv x.2.kind ao' x.2.body.length c', frv x.2.kind aw x.2.body.length cw']) rfl rfl rfl rfl (by kernel_rfl) (by rfl) (by go_simp) ?_
    refine (hsame).mono ?_
    rintro e W3 ⟨rfl, b3⟩
    have hS3 : W3.cell? ⟨w.heap.size + 1 + 1 + 1, 0, none⟩ = some (.int .i64 (k : Int)) ∧ W3.cell? ⟨w.heap.size, 0, none⟩ = some (.slice (some ⟨g, 0, none⟩) N cw) ∧ W3.cell? ⟨w.heap.size + 1 + 1 + 1 + 1, 0, none⟩ = some (.int .i64 (x.1 : Int)) ∧ W3.cell? ⟨W.heap.size, 0, none⟩ = some (.int .i64 x.2.kind) ∧ W3.cell? ⟨W.heap.size, 1, none⟩ = some (.slice ao' x.2.body.length c') ∧ W3.cell? ⟨g, k * 2, none⟩ = some (.int .i64 x.2.kind) ∧ W3.cell? ⟨g, k * 2 + 1, none⟩ = some (.slice aw x.2.body.length cw') := ⟨(b3.cell (World.block_lt_of_cell? _ _ hHeld.1)).trans hHeld.1, (b3.cell (World.block_lt_of_cell? _ _ hHeld.2.1)).trans hHeld.2.1, (b3.cell (World.block_lt_of_cell? _ _ hHeld.2.2.1)).trans hHeld.2.2.1, (b3.cell (World.block_lt_of_cell? _ _ hHeld.2.2.2.1)).trans hHeld.2.2.2.1, (b3.cell (World.block_lt_of_cell? _ _ hHeld.2.2.2.2.1)).trans hHeld.2.2.2.2.1, (b3.cell (World.block_lt_of_cell? _ _ hHeld.2.2.2.2.2.1)).trans hHeld.2.2.2.2.2.1, (b3.cell (World.block_lt_of_cell? _ _ hHeld.2.2.2.2.2.2)).trans hHeld.2.2.2.2.2.2⟩
    refine ⟨_, rfl, hS3, ?_⟩
    replace hHeld := hS3
    try simp only [Act.put, List.setIfInBounds_toArray, List.set_cons_zero, List.set_cons_succ]
    refine take_op (i := 16) (d := 31) (OP := Op.unOp UnOp.not 4 (Operand.tmp 30)) (T := 4) (v := ?vq17x) rfl rfl rfl rfl (by kernel_rfl) (by kernel_rfl) (by kernel_rfl) (fun _ _ _ h => h) (by rfl) ?hq17x hHeld ?rq17x
    case hq17x => (intro w' hSw; (try dsimp only at hSw); go_simp <;> with_reducible rfl)
    try simp only [Act.put, List.setIfInBounds_toArray, List.set_cons_zero, List.set_cons_succ]
    refine take_op (i := 17) (d := 32) (OP := Op.pick (Operand.tmp 24) (Operand.const (Value.bool true)) (Operand.tmp 31)) (T := 4) (v := ?vq18x) rfl rfl rfl rfl (by kernel_rfl) (by kernel_rfl) (by kernel_rfl) (fun _ _ _ h => h) (by rfl) ?hq18x hHeld ?rq18x
    case hq18x => (intro w' hSw; (try dsimp only at hSw); go_simp <;> with_reducible rfl)
    try simp only [Act.put, List.setIfInBounds_toArray, List.set_cons_zero, List.set_cons_succ]
    refine wpAnyH_done (by kernel_rfl) ?_ _
    obtain ⟨e1, e2, e3, e4, e5, eF, eB, own2⟩ := HW2.out
    have b23 : Below W2.heap.size W2 W3 := below_undrew0 b3
    have hO2 : OvB w (.slice (some ⟨g, 0, none⟩) N cw) leave false (k : Int) (x.1 : Int) W2 := ⟨e1, e2, e3, e4, e5, eB⟩
    have hO3 := hO2.only (D := fun _ => False) (fun _ e => e.elim) (Only.ofBelow b23)
    have hF3 := (b23.block W.heap.size (Array.getElem?_eq_some_iff.1 eF).1).trans eF
    have own3 := own2.below b23
    have hO4 := hO3.setP ((x.1 : Int) + 9 + (x.2.body.length : Int))
    have o34 := Only.ofGrown (grown_setCell W3 ⟨w.heap.size + 1 + 1 + 1 + 1, 0, none⟩ (.int .i64 ((x.1 : Int) + 9 + (x.2.body.length : Int))))
    have hF4 : (W3.setCell ⟨w.heap.size + 1 + 1 + 1 + 1, 0, none⟩ (.int .i64 ((x.1 : Int) + 9 + (x.2.body.length : Int)))).heap[W.heap.size]? = some (.cells #[.int .i64 x.2.kind, .slice ao' x.2.body.length c'] 36 (0, 0)) := (heap_setCell_other _ _ _ _ (by simp; omega)).trans hF3
    have own4 : Own 5 (W3.setCell ⟨w.heap.size + 1 + 1 + 1 + 1, 0, none⟩ (.int .i64 ((x.1 : Int) + 9 + (x.2.body.length : Int)))) W0.heap.size (.slice ao' x.2.body.length c') x.2.body := o34.own own3 (fun j hj e => by have := (hownW j hj).1; have e' : w.heap.size + 1 + 1 + 1 + 1 = j := (by injection e); omega)
    obtain ⟨p1, _, _⟩ := blk1 hO3.2.2.2.2.1
    obtain ⟨_, z1, _⟩ := blk1 hO3.2.2.2.2.1
    obtain ⟨_, q1, _, _⟩ := blk2 hF3
    have hnF5 : ¬ (W.heap.size = w.heap.size + 1 + 1 + 1 + 1) := by omega
    have hxb : (x.1 : Int) + 9 + (x.2.body.length : Int) ≤ 1000000 := by omega
    have o24 : Only (Turns (OvD w.heap.size) W0.heap.size ao' x.2.body.length c') W2 (W3.setCell ⟨w.heap.size + 1 + 1 + 1 + 1, 0, none⟩ (.int .i64 ((x.1 : Int) + 9 + (x.2.body.length : Int)))) := ((Only.ofBelow b23).mono (fun _ _ d => d.elim)).trans o34 (fun j _ e => by cases e; exact .inl ⟨.inr (.inr rfl), by simp only; omega⟩)
    have HO4 := hide (And.intro hO4 (And.intro hF4 (And.intro own4 o24)))
    generalize hW4 : W3.setCell ⟨w.heap.size + 1 + 1 + 1 + 1, 0, none⟩ (.int .i64 ((x.1 : Int) + 9 + (x.2.body.length : Int))) = W4 at HO4
    clear hO2 hO3 hO4 hF3 hF4 own2 own3 own4 o34 o24 eF eB e1 e2 e3 e4 e5 hHeld hS5 hS3 hsame b3 b23
    gi_wp2
    gi_loopw [11] (fun i wr => ∃ (j : Nat) (l' : List Int), j ≤ x.2.body.length ∧ i = .int .i64 j ∧ l'.length = x.2.body.length ∧ Own 5 wr W0.heap.size (.slice ao' x.2.body.length c') l' ∧ Only (fun j => Value.ownBlock (.slice ao' x.2.body.length c') = some j) W4 wr) (fun i _ => x.2.body.length - (intOf i).toNat)
    case atStart => exact ⟨0, x.2.body, Nat.zero_le _, rfl, rfl, HO4.out.2.2.1, Only.refl _ _⟩
    case round =>
      obtain ⟨j, l', hj, rfl, hl', ho', hon⟩ := hrel
      have hOr := HO4.out.1.only (fun j hj => by have := (hownW j hj).1; omega) hon
      have hFr := (hon.block W.heap.size (Array.getElem?_eq_some_iff.1 HO4.out.2.1).1 (fun e => by have := (hownW _ e).2; omega)).trans HO4.out.2.1
      obtain ⟨_, q2, _, _⟩ := blk2 hFr
      by_cases hlt : j < x.2.body.length
      · obtain ⟨gg, hgg, hc, hf, _, _, hst⟩ := ho'.store (k := j) (by omega)
        subst hgg
        have hki2 : (j : Int) < (x.2.body.length : Int) := by omega
        have hdn : decide (j < x.2.body.length) = true := by simpa using hlt
        have hst' := hide (hst 85)
        have HN := hide hon
        clear hst ho' hOr hFr hon
        gi_wp2
        go_roundw
        case rel => exact ⟨j + 1, l'.set j 85, by omega, by go_num, by simpa using hl', hst'.out.1, HN.out.trans (Only.ofGrown hst'.out.2) (fun i _ hi => by simpa [Value.ownBlock] using hi)⟩
        case measure => simp [intOf]; omega
      · obtain rfl : j = x.2.body.length := by omega
        have hdn : decide (x.2.body.length < x.2.body.length) = false := by simp
        obtain ⟨_, z4, _⟩ := blk1 hOr.2.2.2.1
        obtain ⟨y4, _, _⟩ := blk1 hOr.2.2.2.1
        obtain ⟨y2, _, _⟩ := blk1 hOr.2.1
        obtain ⟨y3, z3, _⟩ := blk1 hOr.2.2.1
        have hO6 := hOr.setI ((k : Int) + 1)
        have o6 := Only.ofGrown (grown_setCell wr ⟨w.heap.size + 1 + 1 + 1, 0, none⟩ (.int .i64 ((k : Int) + 1)))
        have o26 : Only (Turns (OvD w.heap.size) W0.heap.size ao' x.2.body.length c') W2 (wr.setCell ⟨w.heap.size + 1 + 1 + 1, 0, none⟩ (.int .i64 ((k : Int) + 1))) := (HO4.out.2.2.2.trans hon (fun j _ e => .inr e)).trans o6 (fun j _ e => by cases e; exact .inl ⟨.inr (.inl rfl), by simp only; omega⟩)
        have HE := hide (And.intro hO6 o26)
        clear hO6 o26 o6 hon ho' hFr HO4
        by_cases hlv : (k : Int) + 1 = leave
        · have hlb : ((k : Int) + 1 == leave) = true := by simpa using hlv
          have HL := hide hlv
          clear hlv
          gi_wp2
          obtain ⟨hO6, o26⟩ := HE.out
          have o7 := Only.ofGrown (grown_setCell (wr.setCell ⟨w.heap.size + 1 + 1 + 1, 0, none⟩ (.int .i64 ((k : Int) + 1))) ⟨w.heap.size + 1 + 1, 0, none⟩ (.bool true))
          exact ⟨o26.trans o7 (fun j _ e => by cases e; exact .inl ⟨.inl rfl, by simp only; omega⟩), rfl, one_set hO6.2.2.1, Below.only hO6.2.2.2.2.2 o7 hO6.2.2.2.2.2.size (fun j e => by cases e; simp only; omega)⟩
        · have hlb : ((k : Int) + 1 == leave) = false := by simpa using hlv
          gi_wp2
          obtain ⟨hO6, o26⟩ := HE.out
          refine ⟨o26, ?_⟩
          unfold OvI
          rw [HPL.out.2, show ((x.1 + 9 + x.2.body.length : Nat) : Int) = (x.1 : Int) + 9 + (x.2.body.length : Int) by omega, show ((k + 1 : Nat) : Int) = (k : Int) + 1 by omega]
          exact hO6
end Go.Proofs.Ytmabfaldndlneaa
