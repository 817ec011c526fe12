/-
  kinds: Show 48, with slices.SortFunc 52 and slices.Compact 64 over texts.
-/
import Derived.Test.YtkdgageljgfgoaaDoorSame9
import Derived.Lib.RowBridge
namespace Go.Proofs.YtkdgageljgfgoaaDoor
open Go.RowKit Go.Shelf Go.Sort
set_option linter.unusedSimpArgs false
attribute [local go_sem] Oper.semAt_some

theorem ordS_B : Rise.OrdS cmpB := ⟨ord_B.range, ord_B.anti, ord_B.eq, ord_B.trans⟩
/-- The texts that a set shows: each once, in order. -/
def setL (ts : List ByteArray) : List ByteArray := ts.foldl (fun l t => Rise.insU cmpB t l) []
/-- What a value shows. -/
def showL (k : Int) (l : List El) : List ByteArray := if k = 2 then setL (l.map Prod.snd) else l.map Prod.snd
def showV (k n : Int) (l : List El) : Int × List ByteArray × Int := if valB k n l = true then (n, showL k l, 0) else (0, [], 2)
/-- Texts in memory that is new from B on. -/
structure Nt (w : World) (B : Nat) (ao : Option Addr) (c : Nat) (l : List ByteArray) : Prop where
  rp : Rp w ao c l
  new : ∀ a, ao = some a → B ≤ a.block
def TxtE (w : World) (R : Int × List ByteArray × Int) (e : Ending) (w' : World) : Prop := ∃ a' c', e = .returned (.tuple #[.int .i64 R.1, .slice a' R.2.1.length c', .int .i64 R.2.2]) ∧ Nt w' w.heap.size a' c' R.2.1 ∧ Below w.heap.size w w'

/-- The slice value v owns the texts L, in a block from B on. -/
def Ot (w : World) (B : Nat) (v : Value) (L : List ByteArray) : Prop := w.ownsRow B 9 1 v L.length (L.map Value.string)
theorem Ot.nil (w : World) (B : Nat) : Ot w B (.slice none 0 0) [] := World.ownsRow_nil _ _ _ _
theorem Ot.alloc {w : World} {B : Nat} {v : Value} {L : List ByteArray} (h : Ot w B v L) (o : Obj) : Ot (w.alloc o) B v L := World.ownsRow.alloc h o
theorem Ot.shape {w : World} {B : Nat} {v : Value} {L : List ByteArray} (h : Ot w B v L) : (v = .slice none 0 0 ∧ L = []) ∨ ∃ g cap, v = .slice (some ⟨g, 0, none⟩) L.length cap ∧ B ≤ g ∧ g < w.heap.size ∧ L.length ≤ cap ∧ (∀ j, w.frozen? ⟨g, j, none⟩ = false) := by
  have hlt := World.ownsRow.lt h
  rcases h.2 with ⟨rfl, hn⟩ | ⟨g, cap, cur, rfl, hb, hg, hnc, rest⟩
  · exact .inl ⟨rfl, List.eq_nil_of_length_eq_zero hn⟩
  · exact .inr ⟨g, cap, rfl, hb, (hlt g rfl).2, hnc, fun j => frozen_of_row w g _ _ _ hg⟩
theorem Ot.cells {w : World} {B g n cap : Nat} {L : List ByteArray} (h : Ot w B (.slice (some ⟨g, 0, none⟩) n cap) L) {j : Nat} {s : ByteArray} (hj : L[j]? = some s) : w.cell? ⟨g, j, none⟩ = some (.string s) := by
  have := World.ownsRow.cells h (g := g) rfl j (.string s) (by simp [hj])
  rw [add_lit, Nat.zero_add] at this
  exact this
theorem info9t : (Tryd.prog.info? 9).map (fun i => (i.zero, i.size, i.bytes)) = some (some (.string ⟨#[]⟩), 1, 16) := by kernel_rfl
/-- One text more on what is owned. -/
theorem pushS {B G : Nat} {w w2 : World} {ao : Option Addr} {c : Nat} {p : List ByteArray} (y : ByteArray) (hG : w2.heap.size = G) (H : Hid (Below B w w2 ∧ Ot w2 B (.slice ao p.length c) p)) (hB : B ≤ w.heap.size) (hp : p.length ≤ 200000) {ops : Array Oper} {rest : List Oper} {o : Oper} {a : Act} {Q : Exit → Act → World → Prop} (hg : o.guard = none) (s t : Operand) (ho : o.op = .call { callee := .builtin .append, args := #[s, t], argTypes := #[26, 26] })
      (hs : a.eval s = .slice ao p.length c) (ht : a.eval t = .slice (some ⟨G, 0, none⟩) 1 1)
      (hk : ∀ ao' cap' w', Hid (Below B w w' ∧ Ot w' B (.slice ao' (p.length + 1) cap') (p ++ [y])) → wpList Tryd.prog ops Q rest (a.put o.dst (.slice ao' (p.length + 1) cap')) w') :
      wpList Tryd.prog ops Q (o :: rest) a (w2.alloc (.cells #[.string y] 9)) := by
  subst hG
  have hb2 := H.out.1
  have hO := H.out.2.alloc (.cells #[.string y] 9)
  have hbA : Below B w (w2.alloc (.cells #[.string y] 9)) := hb2.alloc (by have := hb2.size; omega) _
  have hcell := heap_alloc_new w2 (.cells #[.string y] 9)
  obtain ⟨i0, hi, hz0, hz1, hz2⟩ := info_of info9t
  refine wpList_append_own _ hg s t 26 ho B 9 i0 (.string ⟨#[]⟩) 1 16 Tryd.underlying26 hi hz0 hz1 hz2 rfl (by decide) _ _ _ hs hO ⟨w2.heap.size, 0, none⟩ 1 1 [.string y] ht (by simp) (fun j u hj => ?_) (fun u hu => by simp at hu; subst hu; rfl) (by unfold maxLen; omega) (by omega) (by simp; have := hb2.size; omega) ?_
  · rw [add_lit, cell_of_row _ _ (0 + j) #[.string y] 9 (0, 0) hcell, Nat.zero_add]; simpa using hj
  · intro v' w' hown' hgr _
    have hO' : Ot w' B v' (p ++ [y]) := by
      unfold Ot
      rw [List.map_append, List.length_append]
      exact hown'
    have hb : Below B w w' := hbA.grown hgr (by simp; have := hb2.size; omega) (fun k hk => by have := (World.ownsRow.lt hO k hk).1; omega)
    rcases hO'.shape with ⟨rfl, e⟩ | ⟨g, cap, rfl, _⟩
    · simp at e
    · rw [List.length_append] at hO' ⊢
      exact hk _ _ w' (hide ⟨hb, hO'⟩)

/-! What is sorted and compacted. -/
theorem compactUp_says {d : Array (List UInt8)} (hs : ∀ i j, i < j → j < d.size → Lib.compareBytes d[i]! d[j]! ≤ 0) (o : Rise.OrdS Lib.compareBytes) : ∀ m, m ≤ d.size → Rise.Up Lib.compareBytes id (Lib.compactUpTo d m) ∧ ∀ z, z ∈ Lib.compactUpTo d m ↔ ∃ j, j < m ∧ z = d[j]!
  | 0, _ => ⟨by simp [Lib.compactUpTo, Rise.Up], fun z => by simp [Lib.compactUpTo]⟩
  | m + 1, hm => by
    obtain ⟨i1, i2⟩ := compactUp_says hs o m (by omega)
    rw [Lib.compactUpTo_succ]
    by_cases hk : Lib.keeps d m = true
    · rw [if_pos hk]
      refine ⟨List.pairwise_append.2 ⟨i1, by simp, fun x hx y hy => ?_⟩, fun z => ?_⟩
      · have hyx : y = d[m]! := List.mem_singleton.1 hy
        subst hyx
        obtain ⟨j, hj, rfl⟩ := (i2 x).1 hx
        have hne : d[m]! ≠ d[m - 1]! := by
          have := of_decide_eq_true hk
          rcases this with h | h
          · omega
          · exact h
        have h1 : Lib.compareBytes d[m - 1]! d[m]! = -1 := by
          have h := hs (m - 1) m (by omega) (by omega)
          rcases o.range d[m - 1]! d[m]! with e | e | e
          · exact e
          · exact absurd (o.eq _ _ e).symm hne
          · omega
        by_cases hjm : j = m - 1
        · rw [hjm]; exact h1
        · have h := hs j (m - 1) (by omega) (by omega)
          rcases o.range d[j]! d[m - 1]! with e | e | e
          · exact o.trans _ _ _ e h1
          · rw [o.eq _ _ e]; exact h1
          · omega
      · rw [List.mem_append, i2, List.mem_singleton]
        constructor
        · rintro (⟨j, hj, rfl⟩ | rfl)
          · exact ⟨j, by omega, rfl⟩
          · exact ⟨m, by omega, rfl⟩
        · rintro ⟨j, hj, rfl⟩
          by_cases e : j = m
          · subst e; exact .inr rfl
          · exact .inl ⟨j, by omega, rfl⟩
    · rw [if_neg hk, List.append_nil]
      refine ⟨i1, fun z => (i2 z).trans ⟨fun ⟨j, hj, e⟩ => ⟨j, by omega, e⟩, ?_⟩⟩
      rintro ⟨j, hj, rfl⟩
      by_cases e : j = m
      · subst e
        have hk' : ¬ (j = 0 ∨ d[j]! ≠ d[j - 1]!) := fun h => hk (decide_eq_true h)
        rw [not_or, Classical.not_not] at hk'
        exact ⟨j - 1, by omega, hk'.2⟩
      · exact ⟨j, by omega, rfl⟩
theorem ordS_L : Rise.OrdS Lib.compareBytes := ⟨cb_range, cb_anti, cb_eq, cb_trans⟩
abbrev bytesOf (l : List UInt8) : ByteArray := ⟨l.toArray⟩
theorem set_is {ts : List ByteArray} {zs : List (List UInt8)} (hp : zs.Perm (ts.map (·.data.toList))) (hs : zs.Pairwise (fun x y => Lib.compareBytes x y ≤ 0)) : (Lib.compact zs).map bytesOf = setL ts := by
  have hs' : ∀ i j, i < j → j < zs.toArray.size → Lib.compareBytes zs.toArray[i]! zs.toArray[j]! ≤ 0 := by
    intro i j hij hj
    rw [getElem!_pos zs.toArray i (by omega), getElem!_pos zs.toArray j hj]
    exact List.pairwise_iff_getElem.1 hs i j (by simp at hj; omega) (by simpa using hj) hij
  obtain ⟨h1, h2⟩ := compactUp_says hs' ordS_L zs.toArray.size (Nat.le_refl _)
  obtain ⟨j1, j2⟩ := Rise.insU_all ordS_B ts [] List.Pairwise.nil
  refine Rise.Up.same (f := cmpB) (st := id) ordS_B ?_ j1 (fun z => ?_)
  · unfold Rise.Up
    rw [List.pairwise_map]
    exact h1
  · unfold setL
    rw [j2]
    simp only [List.not_mem_nil, or_false, List.mem_map]
    constructor
    · rintro ⟨x, hx, rfl⟩
      obtain ⟨j, hj, rfl⟩ := (h2 x).1 hx
      have : zs.toArray[j]! ∈ zs := by rw [getElem!_pos zs.toArray j hj]; simp
      obtain ⟨t, ht, e⟩ := List.mem_map.1 (hp.mem_iff.1 this)
      rw [← e]
      exact ht
    · intro hz
      have : z.data.toList ∈ zs := hp.mem_iff.2 (List.mem_map.2 ⟨z, hz, rfl⟩)
      obtain ⟨j, hj, e⟩ := List.getElem_of_mem this
      exact ⟨z.data.toList, (h2 _).2 ⟨j, by simpa using hj, by rw [getElem!_pos zs.toArray j (by simpa using hj)]; simpa using e.symm⟩, rfl⟩

theorem lt_L (x y : List UInt8) : ltOf Lib.compareBytes x y = true ↔ Lib.compareBytes x y = -1 := by
  have := cb_range x y
  unfold ltOf
  simp
  omega
theorem lt_Ln (x y : List UInt8) : ltOf Lib.compareBytes x y = false ↔ Lib.compareBytes x y ≠ -1 := by
  rw [Ne, ← lt_L]; simp
theorem swo_L : SWO (ltOf Lib.compareBytes) where
  irrefl x := by rw [lt_Ln, ordS_L.refl]; decide
  trans x y z h1 h2 := by rw [lt_L] at *; exact cb_trans _ _ _ h1 h2
  ntrans x y z h1 h2 := by
    rw [lt_Ln] at *
    intro h3
    rcases cb_range x y with h | h | h
    · exact h1 h
    · rw [cb_eq _ _ h] at h3; exact h2 h3
    · have : Lib.compareBytes y x = -1 := by rw [cb_anti, h]
      exact h2 (cb_trans _ _ _ this h3)
theorem only_sortedS (W : World) (G n : Nat) (d : Array (List UInt8)) (os : Array Obj) : Only (fun j => j = G) W (sortWorld encStr W G 0 n d os) := by
  have hheap : (sortWorld encStr W G 0 n d os).heap = W.heap.modify G (Sort.onCells (Sort.putCells encStr 0 d)) ++ os := rfl
  refine ⟨rfl, rfl, rfl, ?_, fun k hk hG => ?_⟩
  · rw [hheap]; simp
  · rw [hheap, Array.getElem?_append_left (by simpa using hk), Array.getElem?_modify, if_neg (fun e => hG e.symm)]
theorem only_putS (W : World) (G n : Nat) (d : Array (List UInt8)) : Only (fun j => j = G) W (putRow encStr (Sort.ahead W n) G 0 d) := by
  have hheap : (putRow encStr (Sort.ahead W n) G 0 d).heap = W.heap.modify G (Sort.onCells (Sort.putCells encStr 0 d)) := rfl
  refine ⟨rfl, rfl, rfl, ?_, fun k hk hG => ?_⟩
  · rw [hheap]; simp
  · rw [hheap, Array.getElem?_modify, if_neg (fun e => hG e.symm)]
/-- What a sort leaves in a row. -/
def SortsT (L : List ByteArray) (zs : List (List UInt8)) (W : World) (g : Nat) (w2 : World) : Prop := zs.length = L.length ∧ zs.Perm (L.map (·.data.toList)) ∧ zs.Pairwise (fun x y => Lib.compareBytes x y ≤ 0) ∧ Holds encStr w2 g 0 zs.toArray ∧ Only (fun j => j = g) W w2
theorem sortT_any {W : World} {B g cap : Nat} {L : List ByteArray} (h : Ot W B (.slice (some ⟨g, 0, none⟩) L.length cap) L) (hl : L.length ≤ 100000) : Calls Tryd.prog 28 #[.slice (some ⟨g, 0, none⟩) L.length cap, .func (.func 29) #[] #[]] W fun e w2 => e = .returned (.tuple #[]) ∧ ∃ zs, SortsT L zs W g w2 := by
  obtain ⟨hg, hfz⟩ : g < W.heap.size ∧ ∀ j, W.frozen? ⟨g, j, none⟩ = false := by
    rcases h.shape with ⟨e, _⟩ | ⟨g', cap', e, h1, h2, h3, h4⟩
    · cases e
    · cases e; exact ⟨h2, h4⟩
  have eg : ∀ args w, (callFunc 29 args).run Tryd.prog w = .ok (.enter 29 args) w := enters_of Tryd.func29 (by kernel_rfl) rfl
  have hH : Holds encStr W g 0 (L.map (·.data.toList)).toArray := by
    intro j hj
    have hj' : j < L.length := by simpa using hj
    refine ⟨?_, by rw [Nat.zero_add]; exact hfz j⟩
    rw [Nat.zero_add, h.cells (List.getElem?_eq_getElem hj'), getElem!_pos _ j hj]
    simp [encStr]
  have hc : CmpLays1 Tryd.prog 29 #[] encStr Lib.compareBytes g 0 (L.map (·.data.toList)).toArray.size W := fun m os dk hdk x y => by
    refine (cmp_any ⟨x.toArray⟩ ⟨y.toArray⟩ _).mono ?_
    rintro e w' ⟨he, hw⟩
    exact ⟨he, 0, #[], by rw [hw, Sort.grow_empty]; rfl⟩
  have hs := Tryd.slices_SortFunc encStr (fun _ => rfl) Lib.compareBytes swo_L 29 #[] g 0 cap (L.map (·.data.toList)).toArray W eg hc hH hg (by simp; omega)
  simp only [List.size_toArray, List.length_map] at hs
  refine hs.mono ?_
  rintro e w' ⟨he, d', n, os, hp, hso, rfl⟩
  have hsz : d'.size = L.length := by have := hp.1; simpa using this
  refine ⟨he, d'.toList, by simpa using hsz, ?_, ?_, ?_, only_sortedS W g n d' os⟩
  · have := hp.2.2
    rw [Array.extract_eq_self_of_le (by omega), Array.extract_eq_self_of_le (by simp)] at this
    simpa using this
  · rw [List.pairwise_iff_getElem]
    intro i j hi hj hij
    have h2 : j < L.length := by simpa [hsz] using hj
    have := hso i j (Nat.zero_le _) hij h2
    rw [getElem!_pos d' i (by omega), getElem!_pos d' j (by omega), lt_Ln] at this
    have h3 : Lib.compareBytes (d'[j]'(by omega)) (d'[i]'(by omega)) ≠ -1 := this
    have h4 := cb_anti (d'[i]'(by omega)) (d'[j]'(by omega))
    have h5 := cb_range (d'[j]'(by omega)) (d'[i]'(by omega))
    simp only [Array.getElem_toList]
    omega
  · have := holds_sortWorld encStr W g 0 n _ d' os hg hH (by simpa using hsz)
    simpa using this
theorem compactT_any {w : World} {g cap : Nat} {zs : List (List UInt8)} (h : Holds encStr w g 0 zs.toArray) (hl : zs.length ≤ 100000) (hc : zs.length ≤ cap) : Calls Tryd.prog 30 #[.slice (some ⟨g, 0, none⟩) zs.length cap] w fun e w' => e = .returned (.slice (some ⟨g, 0, none⟩) (Lib.compact zs).length cap) ∧ (∀ j s, ((Lib.compact zs).map bytesOf)[j]? = some s → w'.cell? ⟨g, j, none⟩ = some (.string s)) ∧ Only (fun j => j = g) w w' := by
  refine (Tryd.slices_Compact_string g 0 cap zs w h (by omega) hc).mono ?_
  rintro e w' ⟨he, q, rfl⟩
  refine ⟨he, fun j s hj => ?_, only_putS _ _ _ _⟩
  have hle := Lib.compact_length_le zs
  have hH := holds_putRow encStr (Sort.ahead w q) g 0 zs.toArray (Lib.compact zs ++ List.replicate (zs.length - (Lib.compact zs).length) []).toArray (holds_ahead encStr w q g 0 _ h) (by simp; omega)
  obtain ⟨x, hx, rfl⟩ : ∃ x, (Lib.compact zs)[j]? = some x ∧ bytesOf x = s := by simpa using hj
  have hjl := (List.getElem?_eq_some_iff.1 hx).1
  have := (hH j (by simp; omega)).1
  rw [Nat.zero_add] at this
  rw [this, getElem!_pos _ j (by simp; omega)]
  simp [List.getElem_append_left hjl]
  exact (List.getElem?_eq_some_iff.1 hx).2
end Go.Proofs.YtkdgageljgfgoaaDoor
