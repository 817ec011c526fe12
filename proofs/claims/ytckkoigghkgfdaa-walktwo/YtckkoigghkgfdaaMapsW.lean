/-
  maps 9: THE THREE MAPS THAT THE LAWS RUN TOGETHER.
-/
import Derived.Test.YtckkoigghkgfdaaMapsT
import Derived.Deep.CutBlock
import Derived.Deep.DeepCutAuto
namespace Go.Proofs.Ytckkoigghkgfdaa
open Go.RowKit Go.Shelf
set_option linter.unusedSimpArgs false

theorem ret_rrr {P : Program} {fn : Func} {p q r : Tmp} {ty : TypeId} (b c d : Nat) (x y z : Value) {R : Ending → World → Prop} {a : Act} {w : World} (h : fn.results = #[.cell p ty, .cell q ty, .cell r ty]) (hp : a.tmps.getD p undef = .pointer (some ⟨b, 0, none⟩)) (hq : a.tmps.getD q undef = .pointer (some ⟨c, 0, none⟩)) (hr : a.tmps.getD r undef = .pointer (some ⟨d, 0, none⟩))
    {D : TypeDesc} (hu : P.underlying ty = some D) (hd : D.isRow = true) (hi : (P.info? ty).map (·.size) = some 1) {t1 t2 t3 : TypeId} {f1 f2 f3 : Nat × Nat} (h1 : w.heap[b]? = some (.cells #[x] t1 f1)) (h2 : w.heap[c]? = some (.cells #[y] t2 f2)) (h3 : w.heap[d]? = some (.cells #[z] t3 f3)) (hdef : a.defers = [])
    (hR : R (.returned (.tuple #[.agg #[x], .agg #[y], .agg #[z]])) w) : bodyPost P fn R .ret a w := by
  refine bodyPost_ret (v := .tuple #[.agg #[x], .agg #[y], .agg #[z]]) ?_ hdef hR
  have g1 := run_loadVar_mid (P := P) w b 0 ty [x] _ (fun j v hv => by rw [cell_of_row w b (0 + j) #[x] t1 f1 h1, Nat.zero_add]; simpa using hv) hu hd hi
  have g2 := run_loadVar_mid (P := P) w c 0 ty [y] _ (fun j v hv => by rw [cell_of_row w c (0 + j) #[y] t2 f2 h2, Nat.zero_add]; simpa using hv) hu hd hi
  have g3 := run_loadVar_mid (P := P) w d 0 ty [z] _ (fun j v hv => by rw [cell_of_row w d (0 + j) #[z] t3 f3 h3, Nat.zero_add]; simpa using hv) hu hd hi
  have hp' : a.tmps[p]?.getD undef = .pointer (some ⟨b, 0, none⟩) := by simpa using hp
  have hq' : a.tmps[q]?.getD undef = .pointer (some ⟨c, 0, none⟩) := by simpa using hq
  have hr' : a.tmps[r]?.getD undef = .pointer (some ⟨d, 0, none⟩) := by simpa using hr
  simp [results, h, hp', hq', hr', asAddr, Sem.run_bind, Result.andThen, g1, g2, g3]
theorem new7 (w : World) (o0 o1 o2 o3 o4 o5 o6 : Obj) : ∃ w0, w0 = (((((((w.alloc o0).alloc o1).alloc o2).alloc o3).alloc o4).alloc o5).alloc o6) ∧ w0.heap[w.heap.size]? = some o0 ∧ w0.heap[w.heap.size + 1]? = some o1 ∧ w0.heap[w.heap.size + 1 + 1]? = some o2 ∧ w0.heap[w.heap.size + 1 + 1 + 1]? = some o3 ∧ w0.heap[w.heap.size + 1 + 1 + 1 + 1]? = some o4 ∧ w0.heap[w.heap.size + 1 + 1 + 1 + 1 + 1]? = some o5 ∧ w0.heap[w.heap.size + 1 + 1 + 1 + 1 + 1 + 1]? = some o6 ∧ Below w.heap.size w w0 := by
  refine ⟨_, rfl, ?_⟩
  obtain ⟨m0, m1, m2, m3, hb⟩ := new4 w o0 o1 o2 o3
  obtain ⟨n0, n1, n2, hc⟩ := new3 ((((w.alloc o0).alloc o1).alloc o2).alloc o3) o4 o5 o6
  have hs : ((((w.alloc o0).alloc o1).alloc o2).alloc o3).heap.size = w.heap.size + 1 + 1 + 1 + 1 := by simp
  rw [hs] at n0 n1 n2
  exact ⟨(hc.block _ (Array.getElem?_eq_some_iff.1 m0).1).trans m0, (hc.block _ (Array.getElem?_eq_some_iff.1 m1).1).trans m1, (hc.block _ (Array.getElem?_eq_some_iff.1 m2).1).trans m2, (hc.block _ (Array.getElem?_eq_some_iff.1 m3).1).trans m3, n0, n1, n2, hb.trans (hc.mono hb.size)⟩
def fvL : ByteArray → Int := fun k => (k.size : Nat)
/-- What stands while the three maps are made. -/
structure MI (w : World) (S : Array Value) (wr : World) (o a b : T) : Prop where
  x : wr.heap[w.heap.size]? = some (.cells S 25 (0, 0))
  r2 : wr.heap[w.heap.size + 1]? = some (.cells #[.pointer none] 29 (0, 0))
  r3 : wr.heap[w.heap.size + 1 + 1]? = some (.cells #[.pointer none] 29 (0, 0))
  r4 : wr.heap[w.heap.size + 1 + 1 + 1]? = some (.cells #[.pointer none] 29 (0, 0))
  b5 : wr.heap[w.heap.size + 1 + 1 + 1 + 1]? = some (.cells #[o.ptr] 29 (0, 0))
  b6 : wr.heap[w.heap.size + 1 + 1 + 1 + 1 + 1]? = some (.cells #[a.ptr] 29 (0, 0))
  b7 : wr.heap[w.heap.size + 1 + 1 + 1 + 1 + 1 + 1]? = some (.cells #[b.ptr] 29 (0, 0))
  io : In wr o
  ia : In wr a
  ib : In wr b
  bo : o.bal
  ba : a.bal
  bb : b.bal
  tO : ToldL fvL o.list
  tA : ToldL fvL a.list
  tB : ToldL fvL b.list
  below : Below w.heap.size w wr
theorem MI.grows {w : World} {S : Array Value} {wr W : World} {o a b : T} (h : MI w S wr o a b) (hb : Below wr.heap.size wr W) : MI w S W o a b := by
  have g : ∀ {j : Nat} {x : Obj}, wr.heap[j]? = some x → W.heap[j]? = some x := fun {j x} hj => (hb.block _ (Array.getElem?_eq_some_iff.1 hj).1).trans hj
  exact ⟨g h.x, g h.r2, g h.r3, g h.r4, g h.b5, g h.b6, g h.b7, In.below hb h.io, In.below hb h.ia, In.below hb h.ib, h.bo, h.ba, h.bb, h.tO, h.tA, h.tB, h.below.trans (hb.mono h.below.size)⟩
theorem MI.set5 {w : World} {S : Array Value} {wr : World} {o a b o' : T} {v : Value} (h : MI w S wr o a b) (hp : o'.ptr = v) (hi : In wr o') (hbal : o'.bal) (ht : ToldL fvL o'.list) : MI w S (wr.setCell ⟨w.heap.size + 1 + 1 + 1 + 1, 0, none⟩ v) o' a b ∧ Only (fun j => j = w.heap.size + 1 + 1 + 1 + 1) wr (wr.setCell ⟨w.heap.size + 1 + 1 + 1 + 1, 0, none⟩ v) := by
  obtain ⟨u, k⟩ := set_one (i := 0) v h.b5
  have g : ∀ {j : Nat} {x : Obj}, wr.heap[j]? = some x → j ≠ w.heap.size + 1 + 1 + 1 + 1 → (wr.setCell ⟨w.heap.size + 1 + 1 + 1 + 1, 0, none⟩ v).heap[j]? = some x := fun {j x} hj hne => (k.block _ (Array.getElem?_eq_some_iff.1 hj).1 hne).trans hj
  have f : ∀ {t : T}, In wr t → In (wr.setCell ⟨w.heap.size + 1 + 1 + 1 + 1, 0, none⟩ v) t := fun {t} h1 => In.aside h.b5 k h1
  exact ⟨⟨(g h.x (by omega)), (g h.r2 (by omega)), (g h.r3 (by omega)), (g h.r4 (by omega)), (by rw [hp]; simpa using u), (g h.b6 (by omega)), (g h.b7 (by omega)), f hi, f h.ia, f h.ib, hbal, h.ba, h.bb, ht, h.tA, h.tB, Below.only h.below k h.below.size (fun j e => by omega)⟩, k⟩
theorem MI.set6 {w : World} {S : Array Value} {wr : World} {o a b a' : T} {v : Value} (h : MI w S wr o a b) (hp : a'.ptr = v) (hi : In wr a') (hbal : a'.bal) (ht : ToldL fvL a'.list) : MI w S (wr.setCell ⟨w.heap.size + 1 + 1 + 1 + 1 + 1, 0, none⟩ v) o a' b ∧ Only (fun j => j = w.heap.size + 1 + 1 + 1 + 1 + 1) wr (wr.setCell ⟨w.heap.size + 1 + 1 + 1 + 1 + 1, 0, none⟩ v) := by
  obtain ⟨u, k⟩ := set_one (i := 0) v h.b6
  have g : ∀ {j : Nat} {x : Obj}, wr.heap[j]? = some x → j ≠ w.heap.size + 1 + 1 + 1 + 1 + 1 → (wr.setCell ⟨w.heap.size + 1 + 1 + 1 + 1 + 1, 0, none⟩ v).heap[j]? = some x := fun {j x} hj hne => (k.block _ (Array.getElem?_eq_some_iff.1 hj).1 hne).trans hj
  have f : ∀ {t : T}, In wr t → In (wr.setCell ⟨w.heap.size + 1 + 1 + 1 + 1 + 1, 0, none⟩ v) t := fun {t} h1 => In.aside h.b6 k h1
  exact ⟨⟨(g h.x (by omega)), (g h.r2 (by omega)), (g h.r3 (by omega)), (g h.r4 (by omega)), (g h.b5 (by omega)), (by rw [hp]; simpa using u), (g h.b7 (by omega)), f h.io, f hi, f h.ib, h.bo, hbal, h.bb, h.tO, ht, h.tB, Below.only h.below k h.below.size (fun j e => by omega)⟩, k⟩
theorem MI.set7 {w : World} {S : Array Value} {wr : World} {o a b b' : T} {v : Value} (h : MI w S wr o a b) (hp : b'.ptr = v) (hi : In wr b') (hbal : b'.bal) (ht : ToldL fvL b'.list) : MI w S (wr.setCell ⟨w.heap.size + 1 + 1 + 1 + 1 + 1 + 1, 0, none⟩ v) o a b' ∧ Only (fun j => j = w.heap.size + 1 + 1 + 1 + 1 + 1 + 1) wr (wr.setCell ⟨w.heap.size + 1 + 1 + 1 + 1 + 1 + 1, 0, none⟩ v) := by
  obtain ⟨u, k⟩ := set_one (i := 0) v h.b7
  have g : ∀ {j : Nat} {x : Obj}, wr.heap[j]? = some x → j ≠ w.heap.size + 1 + 1 + 1 + 1 + 1 + 1 → (wr.setCell ⟨w.heap.size + 1 + 1 + 1 + 1 + 1 + 1, 0, none⟩ v).heap[j]? = some x := fun {j x} hj hne => (k.block _ (Array.getElem?_eq_some_iff.1 hj).1 hne).trans hj
  have f : ∀ {t : T}, In wr t → In (wr.setCell ⟨w.heap.size + 1 + 1 + 1 + 1 + 1 + 1, 0, none⟩ v) t := fun {t} h1 => In.aside h.b7 k h1
  exact ⟨⟨(g h.x (by omega)), (g h.r2 (by omega)), (g h.r3 (by omega)), (g h.r4 (by omega)), (g h.b5 (by omega)), (g h.b6 (by omega)), (by rw [hp]; simpa using u), f h.io, f h.ia, f hi, h.bo, h.ba, hbal, h.tO, h.tA, ht, Below.only h.below k h.below.size (fun j e => by omega)⟩, k⟩
theorem MI.put5 {w : World} {S : Array Value} {wr W v1 : World} {o a b o' : T} {v : Value} {k : ByteArray} (h : MI w S wr o a b) (hW : Below wr.heap.size wr W) (hv : Below W.heap.size W v1) (ht : Puts W.heap.size k (k.size : Nat) o o') (hi : In v1 o') (hp : o'.ptr = v) : MI w S (v1.setCell ⟨w.heap.size + 1 + 1 + 1 + 1, 0, none⟩ v) o' a b ∧ Only (fun j => j = w.heap.size + 1 + 1 + 1 + 1) v1 (v1.setCell ⟨w.heap.size + 1 + 1 + 1 + 1, 0, none⟩ v) := by
  have h1 := (h.grows hW).grows hv
  have sy := ht.says h.tO.srt h.bo (In.underP (In.below hW h.io))
  exact h1.set5 hp hi sy.bal (by rw [ht.list h.tO.srt]; exact h.tO.put k)
theorem MI.put7 {w : World} {S : Array Value} {wr W v1 : World} {o a b b' : T} {v : Value} {k : ByteArray} (h : MI w S wr o a b) (hW : Below wr.heap.size wr W) (hv : Below W.heap.size W v1) (ht : Puts W.heap.size k (k.size : Nat) b b') (hi : In v1 b') (hp : b'.ptr = v) : MI w S (v1.setCell ⟨w.heap.size + 1 + 1 + 1 + 1 + 1 + 1, 0, none⟩ v) o a b' ∧ Only (fun j => j = w.heap.size + 1 + 1 + 1 + 1 + 1 + 1) v1 (v1.setCell ⟨w.heap.size + 1 + 1 + 1 + 1 + 1 + 1, 0, none⟩ v) := by
  have h1 := (h.grows hW).grows hv
  have sy := ht.says h.tB.srt h.bb (In.underP (In.below hW h.ib))
  exact h1.set7 hp hi sy.bal (by rw [ht.list h.tB.srt]; exact h.tB.put k)
theorem Cs.under {w w' : World} {v : Value} {l : List Value} (h : Cs w v l) (hb : Below w.heap.size w w') : Cs w' v l := h.below hb
set_option maxHeartbeats 16000000 in
set_option maxRecDepth 100000 in
theorem maps_any (ks pa pb : List ByteArray) (ta tb : List Int) (s0 s1 s2 s3 s4 : Value) (x y z : Bool) (w : World) (h0 : Cs w s0 (ks.map .string)) (h1 : Cs w s1 (pa.map .string)) (h2 : Cs w s2 (pb.map .string)) (h3 : Cs w s3 (ta.map (.int .i64))) (h4 : Cs w s4 (tb.map (.int .i64)))
    (l0 : ks.length ≤ 40) (l1 : pa.length ≤ 40) (l2 : pb.length ≤ 40) (l3 : ta.length ≤ 40) (l4 : tb.length ≤ 40) :
    Calls Try.prog 9 #[.agg #[s0, s1, s2, s3, s4, .bool x, .bool y, .bool z]] w fun e w' => ∃ o a b, e = .returned (.tuple #[mv o, mv a, mv b]) ∧ Trio (Told fvL) w' o a b ∧ (o.n ≤ 80 ∧ a.n ≤ 80 ∧ b.n ≤ 80) ∧ Below w.heap.size w w' := by
  obtain ⟨a0, c0, rfl, -⟩ := h0.ex
  obtain ⟨a1, c1, rfl, -⟩ := h1.ex
  obtain ⟨a2, c2, rfl, -⟩ := h2.ex
  obtain ⟨a3, c3, rfl, -⟩ := h3.ex
  obtain ⟨a4, c4, rfl, -⟩ := h4.ex
  simp only [List.length_map] at *
  obtain ⟨NK, hNK⟩ : ∃ N, N = ks.length := ⟨_, rfl⟩
  obtain ⟨n1, hn1⟩ : ∃ N, N = pa.length := ⟨_, rfl⟩
  obtain ⟨n2, hn2⟩ : ∃ N, N = pb.length := ⟨_, rfl⟩
  obtain ⟨n3, hn3⟩ : ∃ N, N = ta.length := ⟨_, rfl⟩
  obtain ⟨n4, hn4⟩ : ∃ N, N = tb.length := ⟨_, rfl⟩
  rw [← hNK] at h0 l0
  rw [← hn1] at h1 l1
  rw [← hn2] at h2 l2
  rw [← hn3] at h3 l3
  rw [← hn4] at h4 l4
  rw [← hNK, ← hn1, ← hn2, ← hn3, ← hn4]
  obtain ⟨w0, hw0, m0, m1, m2, m3, m4, m5, m6, hb⟩ := new7 w (.cells #[.slice a0 NK c0, .slice a1 n1 c1, .slice a2 n2 c2, .slice a3 n3 c3, .slice a4 n4 c4, .bool x, .bool y, .bool z] 25) (.cells #[.pointer none] 29) (.cells #[.pointer none] 29) (.cells #[.pointer none] 29) (.cells #[.pointer none] 29) (.cells #[.pointer none] 29) (.cells #[.pointer none] 29)
  have i0 : MI w #[.slice a0 NK c0, .slice a1 n1 c1, .slice a2 n2 c2, .slice a3 n3 c3, .slice a4 n4 c4, .bool x, .bool y, .bool z] w0 .nil .nil .nil := ⟨m0, m1, m2, m3, m4, m5, m6, trivial, trivial, trivial, trivial, trivial, trivial, ToldL.none _, ToldL.none _, ToldL.none _, hb⟩
  subst hw0
  have HI := hide i0
  have HC := hide (And.intro h0 (And.intro h1 (And.intro h2 (And.intro h3 h4))))
  have HN := hide (And.intro hNK (And.intro hn1 (And.intro hn2 (And.intro hn3 hn4))))
  clear m0 m1 m2 m3 m4 m5 m6 hb i0 h0 h1 h2 h3 h4 hNK hn1 hn2 hn3 hn4
  go_enter Try.func9, Try.ntmps9
  go_wp2
  go_loopw [8] (fun v8 wr => ∃ (i : Nat) (o : T), i ≤ NK ∧ v8 = .int .i64 i ∧ Hid (o.n ≤ i) ∧ Hid (MI w #[.slice a0 NK c0, .slice a1 n1 c1, .slice a2 n2 c2, .slice a3 n3 c3, .slice a4 n4 c4, .bool x, .bool y, .bool z] wr o .nil .nil)) (fun v8 _ => NK - (intOf v8).toNat)
  case atStart => exact ⟨0, .nil, by omega, rfl, hide (by simp [T.n]), HI⟩
  case round =>
    obtain ⟨i, o, hi, rfl, HO, HL⟩ := hrel
    have cx0 : wr.cell? ⟨w.heap.size, 0, none⟩ = some (.slice a0 NK c0) := (cell_of_row _ _ 0 _ 25 (0, 0) HL.out.x).trans rfl
    by_cases hiK : i < NK
    · have y1 : (i : Int) < (NK : Int) := by omega
      have hlt : i < ks.length := by rw [← HN.out.1]; omega
      obtain ⟨k, hkk⟩ : ∃ k, ks[i]? = some k := ⟨ks[i], List.getElem?_eq_getElem hlt⟩
      obtain ⟨pb', pf', pc', e1, cpw⟩ := csAt HC.out.1 (j := i) (u := .string k) (by rw [List.getElem?_map, hkk]; rfl)
      simp only [Value.slice.injEq] at e1
      obtain ⟨rfl, -, rfl⟩ := e1
      have cp := cell_stays cpw HL.out.below
      have hpb := World.block_lt_of_cell? w _ cpw
      simp only at hpb
      obtain ⟨ad, ha⟩ := o.ptr_shape
      have hfew := HO.out
      have mp : ∀ W, Below wr.heap.size wr W → Calls Try.prog 25 #[.agg #[.pointer ad], .string k, .int .i64 (k.size : Nat)] W fun e w' => ∃ t', e = .returned (mv t') ∧ In w' t' ∧ Puts W.heap.size k (k.size : Nat) o t' ∧ Below W.heap.size W w' := fun W hW => by
        have := mPut_any o k (k.size : Nat) W (In.below hW HL.out.io) (by omega)
        rw [mv_ptr ha] at this
        exact this
      have hbx : wr.heap[w.heap.size + 1 + 1 + 1 + 1]? = some (.cells #[.pointer ad] 29 (0, 0)) := by rw [HL.out.b5, ha]
      have c14d : wr.drew.cell? ⟨w.heap.size + 1 + 1 + 1 + 1, 0, none⟩ = some (.pointer ad) := (cell_of_row wr.drew _ 0 _ 29 (0, 0) hbx).trans rfl
      have q0 : wr.cell? ⟨w.heap.size, 0, none⟩ = some (.slice (some ⟨pb', pf', none⟩) NK c0) ∧ wr.cell? ⟨pb', pf' + i, none⟩ = some (.string k) ∧ Hid (Below w.heap.size w wr) := ⟨cx0, cp, hide HL.out.below⟩
      clear cpw hkk hfew
      go_upto_region 5 with (fail)
      have qd : wr.drew.cell? ⟨w.heap.size, 0, none⟩ = some (.slice (some ⟨pb', pf', none⟩) NK c0) ∧ wr.drew.cell? ⟨pb', pf' + i, none⟩ = some (.string k) ∧ Hid (Below w.heap.size w wr.drew) := ⟨q0.1, q0.2.1, hide (q0.2.2.out.trans ((drew_below wr).mono q0.2.2.out.size))⟩
      refine wp_region_held_drew (S := (fun w' => w'.cell? ⟨w.heap.size, 0, none⟩ = some (.slice (some ⟨pb', pf', none⟩) NK c0) ∧ w'.cell? ⟨pb', pf' + i, none⟩ = some (.string k) ∧ Hid (Below w.heap.size w w'))) (by kernel_rfl) qd (fun hHeld => ?_)
      try dsimp only at hHeld
      refine take_op (i := 1) (d := 18) (OP := Op.fieldAddr 25 (Operand.tmp 1) 0) (T := 0) (v := ?vzz1) rfl rfl rfl rfl (by kernel_rfl) (by kernel_rfl) (by kernel_rfl) (fun _ _ _ h => h) (by rfl) ?hzz1 hHeld ?rzz1
      case hzz1 => (intro w' hSw; (try dsimp only at hSw); go_simp <;> with_reducible rfl)
      try simp only [Act.put, List.setIfInBounds_toArray, List.set_cons_zero, List.set_cons_succ]
      refine take_op (i := 2) (d := 19) (OP := Op.load 22 (Operand.tmp 18)) (T := 22) (v := ?vzz2) rfl rfl rfl rfl (by kernel_rfl) (by kernel_rfl) (by kernel_rfl) (fun _ _ _ h => h) (by rfl) ?hzz2 hHeld ?rzz2
      case hzz2 => (intro w' hSw; (try dsimp only at hSw); go_simp <;> with_reducible rfl)
      try simp only [Act.put, List.setIfInBounds_toArray, List.set_cons_zero, List.set_cons_succ]
      refine take_op (i := 3) (d := 20) (OP := Op.move (Operand.tmp 8)) (T := 3) (v := ?vzz3) rfl rfl rfl rfl (by kernel_rfl) (by kernel_rfl) (by kernel_rfl) (fun _ _ _ h => h) (by rfl) ?hzz3 hHeld ?rzz3
      case hzz3 => (intro w' hSw; (try dsimp only at hSw); go_simp <;> with_reducible rfl)
      try simp only [Act.put, List.setIfInBounds_toArray, List.set_cons_zero, List.set_cons_succ]
      refine take_op (i := 4) (d := 21) (OP := Op.indexAddr 22 (Operand.tmp 19) (Operand.tmp 20)) (T := 0) (v := ?vzz4) rfl rfl rfl rfl (by kernel_rfl) (by kernel_rfl) (by kernel_rfl) (fun _ _ _ h => h) (by rfl) ?hzz4 hHeld ?rzz4
      case hzz4 => (intro w' hSw; (try dsimp only at hSw); go_simp <;> with_reducible rfl)
      try simp only [Act.put, List.setIfInBounds_toArray, List.set_cons_zero, List.set_cons_succ]
      refine take_op (i := 5) (d := 22) (OP := Op.load 9 (Operand.tmp 21)) (T := 9) (v := ?vzz5) rfl rfl rfl rfl (by kernel_rfl) (by kernel_rfl) (by kernel_rfl) (fun _ _ _ h => h) (by rfl) ?hzz5 hHeld ?rzz5
      case hzz5 => (intro w' hSw; (try dsimp only at hSw); go_simp <;> with_reducible rfl)
      try simp only [Act.put, List.setIfInBounds_toArray, List.set_cons_zero, List.set_cons_succ]
      refine take_op (i := 6) (d := 23) (OP := Op.fieldAddr 25 (Operand.tmp 1) 0) (T := 0) (v := ?vzz6) rfl rfl rfl rfl (by kernel_rfl) (by kernel_rfl) (by kernel_rfl) (fun _ _ _ h => h) (by rfl) ?hzz6 hHeld ?rzz6
      case hzz6 => (intro w' hSw; (try dsimp only at hSw); go_simp <;> with_reducible rfl)
      try simp only [Act.put, List.setIfInBounds_toArray, List.set_cons_zero, List.set_cons_succ]
      refine take_op (i := 7) (d := 24) (OP := Op.load 22 (Operand.tmp 23)) (T := 22) (v := ?vzz7) rfl rfl rfl rfl (by kernel_rfl) (by kernel_rfl) (by kernel_rfl) (fun _ _ _ h => h) (by rfl) ?hzz7 hHeld ?rzz7
      case hzz7 => (intro w' hSw; (try dsimp only at hSw); go_simp <;> with_reducible rfl)
      try simp only [Act.put, List.setIfInBounds_toArray, List.set_cons_zero, List.set_cons_succ]
      refine take_op (i := 8) (d := 25) (OP := Op.move (Operand.tmp 8)) (T := 3) (v := ?vzz8) rfl rfl rfl rfl (by kernel_rfl) (by kernel_rfl) (by kernel_rfl) (fun _ _ _ h => h) (by rfl) ?hzz8 hHeld ?rzz8
      case hzz8 => (intro w' hSw; (try dsimp only at hSw); go_simp <;> with_reducible rfl)
      try simp only [Act.put, List.setIfInBounds_toArray, List.set_cons_zero, List.set_cons_succ]
      refine take_op (i := 9) (d := 26) (OP := Op.indexAddr 22 (Operand.tmp 24) (Operand.tmp 25)) (T := 0) (v := ?vzz9) rfl rfl rfl rfl (by kernel_rfl) (by kernel_rfl) (by kernel_rfl) (fun _ _ _ h => h) (by rfl) ?hzz9 hHeld ?rzz9
      case hzz9 => (intro w' hSw; (try dsimp only at hSw); go_simp <;> with_reducible rfl)
      try simp only [Act.put, List.setIfInBounds_toArray, List.set_cons_zero, List.set_cons_succ]
      refine take_op (i := 10) (d := 27) (OP := Op.load 9 (Operand.tmp 26)) (T := 9) (v := ?vzz10) rfl rfl rfl rfl (by kernel_rfl) (by kernel_rfl) (by kernel_rfl) (fun _ _ _ h => h) (by rfl) ?hzz10 hHeld ?rzz10
      case hzz10 => (intro w' hSw; (try dsimp only at hSw); go_simp <;> with_reducible rfl)
      try simp only [Act.put, List.setIfInBounds_toArray, List.set_cons_zero, List.set_cons_succ]
      refine take_op (i := 11) (d := 28) (OP := Op.call { callee := Callee.builtin Builtin.len, args := #[Operand.tmp 27], argTypes := #[9] }) (T := 3) (v := ?vzz11) rfl rfl rfl rfl (by kernel_rfl) (by kernel_rfl) (by kernel_rfl) (fun _ _ _ h => h) (by rfl) ?hzz11 hHeld ?rzz11
      case hzz11 => (intro w' hSw; (try dsimp only at hSw); go_simp <;> with_reducible rfl)
      try simp only [Act.put, List.setIfInBounds_toArray, List.set_cons_zero, List.set_cons_succ]
      refine alone_op (i := 0) (d := 17) (OP := Op.load 29 (Operand.tmp 5)) (T := 29) (v := .agg #[.pointer ad]) rfl rfl rfl rfl (by kernel_rfl) (by rfl) (by go_simp) qd ?_
      try simp only [Act.put, List.setIfInBounds_toArray, List.set_cons_zero, List.set_cons_succ]
      refine call_op (i := 12) (d := 29) (OP := Op.call { callee := Callee.value (Operand.func 25), args := #[Operand.tmp 17, Operand.tmp 22, Operand.tmp 28], argTypes := #[29, 9, 3] }) (T := 29) (f := 25) (args := #[.agg #[.pointer ad], .string k, .int .i64 (k.size : Nat)]) rfl rfl rfl rfl (by kernel_rfl) (by rfl) (by go_simp) ?_
      refine (mp _ (drew_below wr)).mono ?_
      rintro e v1 ⟨t', he, i1, ht, b1⟩
      obtain ⟨a', ha'⟩ := t'.ptr_shape
      have he' : e = .returned (.agg #[.pointer a']) := by rw [he, mv_ptr ha']
      subst he'
      clear he
      have bk1 : Below wr.heap.size wr v1 := (drew_below wr).trans (b1.mono (drew_below wr).size)
      have qv1 : v1.cell? ⟨w.heap.size, 0, none⟩ = some (.slice (some ⟨pb', pf', none⟩) NK c0) ∧ v1.cell? ⟨pb', pf' + i, none⟩ = some (.string k) ∧ Hid (Below w.heap.size w v1) := ⟨cell_stays qd.1 b1, cell_stays qd.2.1 b1, hide (qd.2.2.out.trans (b1.mono qd.2.2.out.size))⟩
      refine ⟨_, rfl, qv1, ?_⟩
      replace hHeld := qv1
      try simp only [Act.put, List.setIfInBounds_toArray, List.set_cons_zero, List.set_cons_succ]
      have h2 : v1.heap[w.heap.size + 1 + 1 + 1 + 1]? = some (.cells #[.pointer ad] 29 (0, 0)) := (bk1.block _ (Array.getElem?_eq_some_iff.1 hbx).1).trans hbx
      have c2 : v1.cell? ⟨w.heap.size + 1 + 1 + 1 + 1, 0, none⟩ = some (.pointer ad) := (cell_of_row _ _ 0 _ 29 (0, 0) h2).trans rfl
      have f2 : v1.frozen? ⟨w.heap.size + 1 + 1 + 1 + 1, 0, none⟩ = false := frozen_of_row _ _ 0 _ 29 h2
      obtain ⟨hI, o3⟩ := HL.out.put5 (drew_below wr) b1 ht i1 ha'
      have HI3 := hide hI
      have HPN := hide ht.n
      have q3 : (v1.setCell ⟨w.heap.size + 1 + 1 + 1 + 1, 0, none⟩ (.pointer a')).cell? ⟨w.heap.size, 0, none⟩ = some (.slice (some ⟨pb', pf', none⟩) NK c0) ∧ (v1.setCell ⟨w.heap.size + 1 + 1 + 1 + 1, 0, none⟩ (.pointer a')).cell? ⟨pb', pf' + i, none⟩ = some (.string k) ∧ Hid (Below w.heap.size w (v1.setCell ⟨w.heap.size + 1 + 1 + 1 + 1, 0, none⟩ (.pointer a'))) := ⟨o3.cell qv1.1 (fun e => by simp only at e; omega), o3.cell qv1.2.1 (fun e => by simp only at e; omega), hide hI.below⟩
      obtain ⟨v3, hv3⟩ : ∃ v3, v3 = v1.setCell ⟨w.heap.size + 1 + 1 + 1 + 1, 0, none⟩ (.pointer a') := ⟨_, rfl⟩
      rw [← hv3] at HI3 q3
      refine skip_op (i := 13) (OP := Op.store 29 (Operand.tmp 5) (Operand.tmp 29)) (T := 0) (w' := v3) rfl rfl rfl rfl (by kernel_rfl) (by rfl) (by rw [hv3]; go_simp) ⟨q3, ?_⟩
      try simp only [Act.put, List.setIfInBounds_toArray, List.set_cons_zero, List.set_cons_succ]
      replace hHeld := q3
      clear hv3
      refine wpAnyH_done (by kernel_rfl) ?_ _
      clear hI q3 hHeld h2 c2 f2 o3 mp qv1 bk1 b1 i1 ht c14d q0 qd hbx cp
      go_wp2
      go_roundw
      case rel => exact ⟨i + 1, t', by omega, by go_num, hide (by have := HO.out; have := HPN.out; omega), HI3⟩
      case measure => simp [intOf]; omega
    · have ei : i = NK := by omega
      subst ei
      have y1 : decide ((i : Int) < (i : Int)) = false := by simp
      clear HI hiK
      obtain ⟨po, hpo⟩ := o.ptr_shape
      have hb5 : wr.heap[w.heap.size + 1 + 1 + 1 + 1]? = some (.cells #[.pointer po] 29 (0, 0)) := by rw [HL.out.b5, hpo]
      have q0 : wr.cell? ⟨w.heap.size + 1 + 1 + 1 + 1, 0, none⟩ = some (.pointer po) ∧ Hid (Below w.heap.size w wr) := ⟨(cell_of_row _ _ 0 _ 29 (0, 0) hb5).trans rfl, hide HL.out.below⟩
      have HD := HL.out.grows (drew_below wr)
      obtain ⟨S6, k6⟩ := HD.set6 hpo HD.io HD.bo HD.tO
      have e6 : wr.drew.cell? ⟨w.heap.size + 1 + 1 + 1 + 1 + 1, 0, none⟩ = some (.pointer none) := (cell_of_row _ _ 0 _ 29 (0, 0) HD.b6).trans rfl
      have g6 : wr.drew.frozen? ⟨w.heap.size + 1 + 1 + 1 + 1 + 1, 0, none⟩ = false := frozen_of_row _ _ 0 _ 29 HD.b6
      obtain ⟨w6, hw6⟩ : ∃ w6, w6 = wr.drew.setCell ⟨w.heap.size + 1 + 1 + 1 + 1 + 1, 0, none⟩ (.pointer po) := ⟨_, rfl⟩
      rw [← hw6] at S6 k6
      obtain ⟨S7, k7⟩ := S6.set7 hpo S6.io S6.bo S6.tO
      have e7 : w6.cell? ⟨w.heap.size + 1 + 1 + 1 + 1 + 1 + 1, 0, none⟩ = some (.pointer none) := (cell_of_row _ _ 0 _ 29 (0, 0) S6.b7).trans rfl
      have g7 : w6.frozen? ⟨w.heap.size + 1 + 1 + 1 + 1 + 1 + 1, 0, none⟩ = false := frozen_of_row _ _ 0 _ 29 S6.b7
      obtain ⟨w7, hw7⟩ : ∃ w7, w7 = w6.setCell ⟨w.heap.size + 1 + 1 + 1 + 1 + 1 + 1, 0, none⟩ (.pointer po) := ⟨_, rfl⟩
      rw [← hw7] at S7 k7
      have q6 : w6.cell? ⟨w.heap.size + 1 + 1 + 1 + 1, 0, none⟩ = some (.pointer po) ∧ Hid (Below w.heap.size w w6) := ⟨k6.cell (show wr.drew.cell? _ = _ from q0.1) (fun e => by simp only at e; omega), hide S6.below⟩
      have q7 : w7.cell? ⟨w.heap.size + 1 + 1 + 1 + 1, 0, none⟩ = some (.pointer po) ∧ Hid (Below w.heap.size w w7) := ⟨k7.cell q6.1 (fun e => by simp only at e; omega), hide S7.below⟩
      have HM := hide S7
      have HPO := hide hpo
      clear HD S6 S7 k6 k7 HL hb5
      go_upto_region 6 with (fail)
      have qd : wr.drew.cell? ⟨w.heap.size + 1 + 1 + 1 + 1, 0, none⟩ = some (.pointer po) ∧ Hid (Below w.heap.size w wr.drew) := ⟨q0.1, hide (q0.2.out.trans ((drew_below wr).mono q0.2.out.size))⟩
      refine wp_region_held_drew (S := (fun w' => w'.cell? ⟨w.heap.size + 1 + 1 + 1 + 1, 0, none⟩ = some (.pointer po) ∧ Hid (Below w.heap.size w w'))) (by kernel_rfl) qd (fun hHeld => ?_)
      try dsimp only at hHeld
      refine take_op (i := 0) (d := 30) (OP := Op.load 29 (Operand.tmp 5)) (T := 29) (v := ?vzz12) rfl rfl rfl rfl (by kernel_rfl) (by kernel_rfl) (by kernel_rfl) (fun _ _ _ h => h) (by rfl) ?hzz12 hHeld ?rzz12
      case hzz12 => (intro w' hSw; (try dsimp only at hSw); go_simp <;> with_reducible rfl)
      try simp only [Act.put, List.setIfInBounds_toArray, List.set_cons_zero, List.set_cons_succ]
      refine take_op (i := 1) (d := 31) (OP := Op.load 29 (Operand.tmp 5)) (T := 29) (v := ?vzz13) rfl rfl rfl rfl (by kernel_rfl) (by kernel_rfl) (by kernel_rfl) (fun _ _ _ h => h) (by rfl) ?hzz13 hHeld ?rzz13
      case hzz13 => (intro w' hSw; (try dsimp only at hSw); go_simp <;> with_reducible rfl)
      try simp only [Act.put, List.setIfInBounds_toArray, List.set_cons_zero, List.set_cons_succ]
      refine skip_op (i := 2) (OP := Op.store 29 (Operand.tmp 6) (Operand.tmp 30)) (T := 0) (w' := w6) rfl rfl rfl rfl (by kernel_rfl) (by rfl) (by rw [hw6]; go_simp) ⟨q6, ?_⟩
      try simp only [Act.put, List.setIfInBounds_toArray, List.set_cons_zero, List.set_cons_succ]
      replace hHeld := q6
      clear hw6
      refine skip_op (i := 3) (OP := Op.store 29 (Operand.tmp 7) (Operand.tmp 31)) (T := 0) (w' := w7) rfl rfl rfl rfl (by kernel_rfl) (by rfl) (by rw [hw7]; go_simp) ⟨q7, ?_⟩
      try simp only [Act.put, List.setIfInBounds_toArray, List.set_cons_zero, List.set_cons_succ]
      replace hHeld := q7
      clear hw7
      refine wpAnyH_done (by kernel_rfl) ?_ _
      clear hHeld q0 qd q6 q7 e6 g6 e7 g7 hpo cx0 y1
      obtain ⟨i0, hi0⟩ : ∃ i0, i0 = i := ⟨_, rfl⟩
      subst hi0
      have cx5 : w7.cell? ⟨w.heap.size, 5, none⟩ = some (.bool x) := (cell_of_row _ _ 5 _ 25 (0, 0) HM.out.x).trans rfl
      go_upto_if 33 with (fail)
      clear cx5
      go_cut [9] (fun _ wc => ∃ b : T, Hid (b.n ≤ i0) ∧ Hid (MI w #[.slice a0 i0 c0, .slice a1 n1 c1, .slice a2 n2 c2, .slice a3 n3 c3, .slice a4 n4 c4, .bool x, .bool y, .bool z] wc o o b))
      case first =>
        as_aux_lemma =>
          have cx0 : w7.cell? ⟨w.heap.size, 0, none⟩ = some (.slice a0 i0 c0) := (cell_of_row _ _ 0 _ 25 (0, 0) HM.out.x).trans rfl
          cases x
          · go_wp2
            go_meet
            exact ⟨o, HO, HM⟩
          · have hb7 : w7.heap[w.heap.size + 1 + 1 + 1 + 1 + 1 + 1]? = some (.cells #[.pointer po] 29 (0, 0)) := by rw [HM.out.b7, HPO.out]
            have e7 : w7.cell? ⟨w.heap.size + 1 + 1 + 1 + 1 + 1 + 1, 0, none⟩ = some (.pointer po) := (cell_of_row _ _ 0 _ 29 (0, 0) hb7).trans rfl
            have g7 : w7.frozen? ⟨w.heap.size + 1 + 1 + 1 + 1 + 1 + 1, 0, none⟩ = false := frozen_of_row _ _ 0 _ 29 hb7
            obtain ⟨S8, k8⟩ := HM.out.set7 (b' := .nil) rfl trivial trivial (ToldL.none _)
            have H8 := hide S8
            have cx0' := k8.cell cx0 (fun e => by simp only at e; omega)
            clear S8 k8 hb7
            go_wp2
            go_loopw [9] (fun v9 wr => ∃ (m : Int) (b : T), -1 ≤ m ∧ m < i0 ∧ v9 = .int .i64 m ∧ Hid ((b.n : Int) + m + 1 ≤ i0) ∧ Hid (MI w #[.slice a0 i0 c0, .slice a1 n1 c1, .slice a2 n2 c2, .slice a3 n3 c3, .slice a4 n4 c4, .bool true, .bool y, .bool z] wr o o b)) (fun v9 _ => (intOf v9 + 1).toNat)
            case atStart => exact ⟨(i0 : Int) - 1, .nil, by omega, by omega, by go_num, hide (by simp [T.n]), H8⟩
            case round =>
              clear cx0 cx0' e7 g7
              obtain ⟨m, b, hm1, hm2, rfl, HBM, HL⟩ := hrel
              have cx0 : wr.cell? ⟨w.heap.size, 0, none⟩ = some (.slice a0 i0 c0) := (cell_of_row _ _ 0 _ 25 (0, 0) HL.out.x).trans rfl
              by_cases hm0 : 0 ≤ m
              · obtain ⟨i, rfl⟩ : ∃ i : Nat, m = (i : Int) := ⟨m.toNat, by omega⟩
                have hii : i < i0 := by omega
                have hlt : i < ks.length := by rw [← HN.out.1]; exact hii
                obtain ⟨k, hkk⟩ : ∃ k, ks[i]? = some k := ⟨ks[i], List.getElem?_eq_getElem hlt⟩
                obtain ⟨pb', pf', pc', e1, cpw⟩ := csAt HC.out.1 (j := i) (u := .string k) (by rw [List.getElem?_map, hkk]; rfl)
                simp only [Value.slice.injEq] at e1
                obtain ⟨rfl, -, rfl⟩ := e1
                have cp := cell_stays cpw HL.out.below
                have hpb := World.block_lt_of_cell? w _ cpw
                simp only at hpb
                obtain ⟨ad, ha⟩ := b.ptr_shape
                have hfew := HBM.out
                have mp : ∀ W, Below wr.heap.size wr W → Calls Try.prog 25 #[.agg #[.pointer ad], .string k, .int .i64 (k.size : Nat)] W fun e w' => ∃ t', e = .returned (mv t') ∧ In w' t' ∧ Puts W.heap.size k (k.size : Nat) b t' ∧ Below W.heap.size W w' := fun W hW => by
                  have := mPut_any b k (k.size : Nat) W (In.below hW HL.out.ib) (by omega)
                  rw [mv_ptr ha] at this
                  exact this
                have hbx : wr.heap[w.heap.size + 1 + 1 + 1 + 1 + 1 + 1]? = some (.cells #[.pointer ad] 29 (0, 0)) := by rw [HL.out.b7, ha]
                have c14d : wr.drew.cell? ⟨w.heap.size + 1 + 1 + 1 + 1 + 1 + 1, 0, none⟩ = some (.pointer ad) := (cell_of_row wr.drew _ 0 _ 29 (0, 0) hbx).trans rfl
                have q0 : wr.cell? ⟨w.heap.size, 0, none⟩ = some (.slice (some ⟨pb', pf', none⟩) i0 c0) ∧ wr.cell? ⟨pb', pf' + i, none⟩ = some (.string k) ∧ Hid (Below w.heap.size w wr) := ⟨cx0, cp, hide HL.out.below⟩
                clear cpw hkk hfew
                go_upto_region 12 with (fail)
                have qd : wr.drew.cell? ⟨w.heap.size, 0, none⟩ = some (.slice (some ⟨pb', pf', none⟩) i0 c0) ∧ wr.drew.cell? ⟨pb', pf' + i, none⟩ = some (.string k) ∧ Hid (Below w.heap.size w wr.drew) := ⟨q0.1, q0.2.1, hide (q0.2.2.out.trans ((drew_below wr).mono q0.2.2.out.size))⟩
                refine wp_region_held_drew (S := (fun w' => w'.cell? ⟨w.heap.size, 0, none⟩ = some (.slice (some ⟨pb', pf', none⟩) i0 c0) ∧ w'.cell? ⟨pb', pf' + i, none⟩ = some (.string k) ∧ Hid (Below w.heap.size w w'))) (by kernel_rfl) qd (fun hHeld => ?_)
                try dsimp only at hHeld
                refine take_op (i := 1) (d := 44) (OP := Op.fieldAddr 25 (Operand.tmp 1) 0) (T := 0) (v := ?vzz14) rfl rfl rfl rfl (by kernel_rfl) (by kernel_rfl) (by kernel_rfl) (fun _ _ _ h => h) (by rfl) ?hzz14 hHeld ?rzz14
                case hzz14 => (intro w' hSw; (try dsimp only at hSw); go_simp <;> with_reducible rfl)
                try simp only [Act.put, List.setIfInBounds_toArray, List.set_cons_zero, List.set_cons_succ]
                refine take_op (i := 2) (d := 45) (OP := Op.load 22 (Operand.tmp 44)) (T := 22) (v := ?vzz15) rfl rfl rfl rfl (by kernel_rfl) (by kernel_rfl) (by kernel_rfl) (fun _ _ _ h => h) (by rfl) ?hzz15 hHeld ?rzz15
                case hzz15 => (intro w' hSw; (try dsimp only at hSw); go_simp <;> with_reducible rfl)
                try simp only [Act.put, List.setIfInBounds_toArray, List.set_cons_zero, List.set_cons_succ]
                refine take_op (i := 3) (d := 46) (OP := Op.move (Operand.tmp 9)) (T := 3) (v := ?vzz16) rfl rfl rfl rfl (by kernel_rfl) (by kernel_rfl) (by kernel_rfl) (fun _ _ _ h => h) (by rfl) ?hzz16 hHeld ?rzz16
                case hzz16 => (intro w' hSw; (try dsimp only at hSw); go_simp <;> with_reducible rfl)
                try simp only [Act.put, List.setIfInBounds_toArray, List.set_cons_zero, List.set_cons_succ]
                refine take_op (i := 4) (d := 47) (OP := Op.indexAddr 22 (Operand.tmp 45) (Operand.tmp 46)) (T := 0) (v := ?vzz17) rfl rfl rfl rfl (by kernel_rfl) (by kernel_rfl) (by kernel_rfl) (fun _ _ _ h => h) (by rfl) ?hzz17 hHeld ?rzz17
                case hzz17 => (intro w' hSw; (try dsimp only at hSw); go_simp <;> with_reducible rfl)
                try simp only [Act.put, List.setIfInBounds_toArray, List.set_cons_zero, List.set_cons_succ]
                refine take_op (i := 5) (d := 48) (OP := Op.load 9 (Operand.tmp 47)) (T := 9) (v := ?vzz18) rfl rfl rfl rfl (by kernel_rfl) (by kernel_rfl) (by kernel_rfl) (fun _ _ _ h => h) (by rfl) ?hzz18 hHeld ?rzz18
                case hzz18 => (intro w' hSw; (try dsimp only at hSw); go_simp <;> with_reducible rfl)
                try simp only [Act.put, List.setIfInBounds_toArray, List.set_cons_zero, List.set_cons_succ]
                refine take_op (i := 6) (d := 49) (OP := Op.fieldAddr 25 (Operand.tmp 1) 0) (T := 0) (v := ?vzz19) rfl rfl rfl rfl (by kernel_rfl) (by kernel_rfl) (by kernel_rfl) (fun _ _ _ h => h) (by rfl) ?hzz19 hHeld ?rzz19
                case hzz19 => (intro w' hSw; (try dsimp only at hSw); go_simp <;> with_reducible rfl)
                try simp only [Act.put, List.setIfInBounds_toArray, List.set_cons_zero, List.set_cons_succ]
                refine take_op (i := 7) (d := 50) (OP := Op.load 22 (Operand.tmp 49)) (T := 22) (v := ?vzz20) rfl rfl rfl rfl (by kernel_rfl) (by kernel_rfl) (by kernel_rfl) (fun _ _ _ h => h) (by rfl) ?hzz20 hHeld ?rzz20
                case hzz20 => (intro w' hSw; (try dsimp only at hSw); go_simp <;> with_reducible rfl)
                try simp only [Act.put, List.setIfInBounds_toArray, List.set_cons_zero, List.set_cons_succ]
                refine take_op (i := 8) (d := 51) (OP := Op.move (Operand.tmp 9)) (T := 3) (v := ?vzz21) rfl rfl rfl rfl (by kernel_rfl) (by kernel_rfl) (by kernel_rfl) (fun _ _ _ h => h) (by rfl) ?hzz21 hHeld ?rzz21
                case hzz21 => (intro w' hSw; (try dsimp only at hSw); go_simp <;> with_reducible rfl)
                try simp only [Act.put, List.setIfInBounds_toArray, List.set_cons_zero, List.set_cons_succ]
                refine take_op (i := 9) (d := 52) (OP := Op.indexAddr 22 (Operand.tmp 50) (Operand.tmp 51)) (T := 0) (v := ?vzz22) rfl rfl rfl rfl (by kernel_rfl) (by kernel_rfl) (by kernel_rfl) (fun _ _ _ h => h) (by rfl) ?hzz22 hHeld ?rzz22
                case hzz22 => (intro w' hSw; (try dsimp only at hSw); go_simp <;> with_reducible rfl)
                try simp only [Act.put, List.setIfInBounds_toArray, List.set_cons_zero, List.set_cons_succ]
                refine take_op (i := 10) (d := 53) (OP := Op.load 9 (Operand.tmp 52)) (T := 9) (v := ?vzz23) rfl rfl rfl rfl (by kernel_rfl) (by kernel_rfl) (by kernel_rfl) (fun _ _ _ h => h) (by rfl) ?hzz23 hHeld ?rzz23
                case hzz23 => (intro w' hSw; (try dsimp only at hSw); go_simp <;> with_reducible rfl)
                try simp only [Act.put, List.setIfInBounds_toArray, List.set_cons_zero, List.set_cons_succ]
                refine take_op (i := 11) (d := 54) (OP := Op.call { callee := Callee.builtin Builtin.len, args := #[Operand.tmp 53], argTypes := #[9] }) (T := 3) (v := ?vzz24) rfl rfl rfl rfl (by kernel_rfl) (by kernel_rfl) (by kernel_rfl) (fun _ _ _ h => h) (by rfl) ?hzz24 hHeld ?rzz24
                case hzz24 => (intro w' hSw; (try dsimp only at hSw); go_simp <;> with_reducible rfl)
                try simp only [Act.put, List.setIfInBounds_toArray, List.set_cons_zero, List.set_cons_succ]
                refine alone_op (i := 0) (d := 43) (OP := Op.load 29 (Operand.tmp 7)) (T := 29) (v := .agg #[.pointer ad]) rfl rfl rfl rfl (by kernel_rfl) (by rfl) (by go_simp) qd ?_
                try simp only [Act.put, List.setIfInBounds_toArray, List.set_cons_zero, List.set_cons_succ]
                refine call_op (i := 12) (d := 55) (OP := Op.call { callee := Callee.value (Operand.func 25), args := #[Operand.tmp 43, Operand.tmp 48, Operand.tmp 54], argTypes := #[29, 9, 3] }) (T := 29) (f := 25) (args := #[.agg #[.pointer ad], .string k, .int .i64 (k.size : Nat)]) rfl rfl rfl rfl (by kernel_rfl) (by rfl) (by go_simp) ?_
                refine (mp _ (drew_below wr)).mono ?_
                rintro e v1 ⟨t', he, i1, ht, b1⟩
                obtain ⟨a', ha'⟩ := t'.ptr_shape
                have he' : e = .returned (.agg #[.pointer a']) := by rw [he, mv_ptr ha']
                subst he'
                clear he
                have bk1 : Below wr.heap.size wr v1 := (drew_below wr).trans (b1.mono (drew_below wr).size)
                have qv1 : v1.cell? ⟨w.heap.size, 0, none⟩ = some (.slice (some ⟨pb', pf', none⟩) i0 c0) ∧ v1.cell? ⟨pb', pf' + i, none⟩ = some (.string k) ∧ Hid (Below w.heap.size w v1) := ⟨cell_stays qd.1 b1, cell_stays qd.2.1 b1, hide (qd.2.2.out.trans (b1.mono qd.2.2.out.size))⟩
                refine ⟨_, rfl, qv1, ?_⟩
                replace hHeld := qv1
                try simp only [Act.put, List.setIfInBounds_toArray, List.set_cons_zero, List.set_cons_succ]
                have h2 : v1.heap[w.heap.size + 1 + 1 + 1 + 1 + 1 + 1]? = some (.cells #[.pointer ad] 29 (0, 0)) := (bk1.block _ (Array.getElem?_eq_some_iff.1 hbx).1).trans hbx
                have c2 : v1.cell? ⟨w.heap.size + 1 + 1 + 1 + 1 + 1 + 1, 0, none⟩ = some (.pointer ad) := (cell_of_row _ _ 0 _ 29 (0, 0) h2).trans rfl
                have f2 : v1.frozen? ⟨w.heap.size + 1 + 1 + 1 + 1 + 1 + 1, 0, none⟩ = false := frozen_of_row _ _ 0 _ 29 h2
                obtain ⟨hI, o3⟩ := HL.out.put7 (drew_below wr) b1 ht i1 ha'
                have HI3 := hide hI
                have HPN := hide ht.n
                have q3 : (v1.setCell ⟨w.heap.size + 1 + 1 + 1 + 1 + 1 + 1, 0, none⟩ (.pointer a')).cell? ⟨w.heap.size, 0, none⟩ = some (.slice (some ⟨pb', pf', none⟩) i0 c0) ∧ (v1.setCell ⟨w.heap.size + 1 + 1 + 1 + 1 + 1 + 1, 0, none⟩ (.pointer a')).cell? ⟨pb', pf' + i, none⟩ = some (.string k) ∧ Hid (Below w.heap.size w (v1.setCell ⟨w.heap.size + 1 + 1 + 1 + 1 + 1 + 1, 0, none⟩ (.pointer a'))) := ⟨o3.cell qv1.1 (fun e => by simp only at e; omega), o3.cell qv1.2.1 (fun e => by simp only at e; omega), hide hI.below⟩
                obtain ⟨v3, hv3⟩ : ∃ v3, v3 = v1.setCell ⟨w.heap.size + 1 + 1 + 1 + 1 + 1 + 1, 0, none⟩ (.pointer a') := ⟨_, rfl⟩
                rw [← hv3] at HI3 q3
                refine skip_op (i := 13) (OP := Op.store 29 (Operand.tmp 7) (Operand.tmp 55)) (T := 0) (w' := v3) rfl rfl rfl rfl (by kernel_rfl) (by rfl) (by rw [hv3]; go_simp) ⟨q3, ?_⟩
                try simp only [Act.put, List.setIfInBounds_toArray, List.set_cons_zero, List.set_cons_succ]
                replace hHeld := q3
                clear hv3
                refine wpAnyH_done (by kernel_rfl) ?_ _
                clear hI q3 hHeld h2 c2 f2 o3 mp qv1 bk1 b1 i1 ht c14d q0 qd hbx cp
                go_wp2
                go_roundw
                case rel => exact ⟨(i : Int) - 1, t', by omega, by omega, by go_num, hide (by have := HBM.out; have := HPN.out; omega), HI3⟩
                case measure => simp [intOf]
              · have em : m = -1 := by omega
                subst em
                have y9 : decide ((0 : Int) ≤ -1) = false := by decide
                go_wp2
                go_meet
                exact ⟨b, hide (by have := HBM.out; omega), HL⟩
      case rest =>
      obtain ⟨b, HBN, HM1⟩ := hcut
      clear HM
      have cx6 : wc.cell? ⟨w.heap.size, 6, none⟩ = some (.bool y) := (cell_of_row _ _ 6 _ 25 (0, 0) HM1.out.x).trans rfl
      go_upto_if 58 with (fail)
      clear cx6
      go_cut [66] (fun _ wc => ∃ a : T, Hid (a.n ≤ 80) ∧ Hid (MI w #[.slice a0 i0 c0, .slice a1 n1 c1, .slice a2 n2 c2, .slice a3 n3 c3, .slice a4 n4 c4, .bool x, .bool y, .bool z] wc o a b))
      case first =>
        as_aux_lemma =>
          have hono := HO.out
          cases y
          · have cx0 : wc.cell? ⟨w.heap.size, 0, none⟩ = some (.slice a0 i0 c0) := (cell_of_row _ _ 0 _ 25 (0, 0) HM1.out.x).trans rfl
            have cx1 : wc.cell? ⟨w.heap.size, 1, none⟩ = some (.slice a1 n1 c1) := (cell_of_row _ _ 1 _ 25 (0, 0) HM1.out.x).trans rfl
            have cx3 : wc.cell? ⟨w.heap.size, 3, none⟩ = some (.slice a3 n3 c3) := (cell_of_row _ _ 3 _ 25 (0, 0) HM1.out.x).trans rfl
            have hb6 : wc.heap[w.heap.size + 1 + 1 + 1 + 1 + 1]? = some (.cells #[.pointer po] 29 (0, 0)) := by rw [HM1.out.b6, HPO.out]
            have e6 : wc.cell? ⟨w.heap.size + 1 + 1 + 1 + 1 + 1, 0, none⟩ = some (.pointer po) := (cell_of_row _ _ 0 _ 29 (0, 0) hb6).trans rfl
            have ch := change_any o pa ks ta (.slice a1 n1 c1) (.slice a3 n3 c3) (.slice a0 i0 c0) wc HM1.out.io HM1.out.bo HM1.out.tO.srt (by omega) (HC.out.2.1.under HM1.out.below) (HC.out.2.2.2.1.under HM1.out.below) (HC.out.1.under HM1.out.below) (by have := HN.out; omega) (by have := HN.out; omega)
            rw [mv_ptr HPO.out] at ch
            go_wp2_with (go_at_call 26; refine ch.mono ?_; rintro e v1 ⟨t', he, it, hbal, hsrt, hl, hn, b1⟩; obtain ⟨pt, hpt⟩ := t'.ptr_shape; rw [mv_ptr hpt] at he; subst he; have G1 := HM1.out.grows b1; have f6 : v1.frozen? ⟨w.heap.size + 1 + 1 + 1 + 1 + 1, 0, none⟩ = false := frozen_of_row _ _ 0 _ 29 G1.b6; have e61 := cell_stays e6 b1; have G2 := (G1.set6 hpt it hbal (by rw [hl]; exact (G1.tO.takes ks ta).puts pa)).1; have HR := hide (And.intro G2 (show t'.n ≤ 80 by have := HN.out; omega)); clear G1 G2 it hbal hsrt hl hn b1 hpt; dsimp only)
            go_meet
            exact ⟨t', hide HR.out.2, hide HR.out.1⟩
          · go_wp2
            go_meet
            exact ⟨o, hide (by omega), HM1⟩
      case rest =>
      obtain ⟨a, HAN, HM2⟩ := hcut
      clear HM1
      obtain ⟨pb1, hpb1⟩ := b.ptr_shape
      have cx0 : wc.cell? ⟨w.heap.size, 0, none⟩ = some (.slice a0 i0 c0) := (cell_of_row _ _ 0 _ 25 (0, 0) HM2.out.x).trans rfl
      have cx2 : wc.cell? ⟨w.heap.size, 2, none⟩ = some (.slice a2 n2 c2) := (cell_of_row _ _ 2 _ 25 (0, 0) HM2.out.x).trans rfl
      have cx4 : wc.cell? ⟨w.heap.size, 4, none⟩ = some (.slice a4 n4 c4) := (cell_of_row _ _ 4 _ 25 (0, 0) HM2.out.x).trans rfl
      have hb7 : wc.heap[w.heap.size + 1 + 1 + 1 + 1 + 1 + 1]? = some (.cells #[.pointer pb1] 29 (0, 0)) := by rw [HM2.out.b7, hpb1]
      have e7 : wc.cell? ⟨w.heap.size + 1 + 1 + 1 + 1 + 1 + 1, 0, none⟩ = some (.pointer pb1) := (cell_of_row _ _ 0 _ 29 (0, 0) hb7).trans rfl
      have ch := change_any b pb ks tb (.slice a2 n2 c2) (.slice a4 n4 c4) (.slice a0 i0 c0) wc HM2.out.ib HM2.out.bb HM2.out.tB.srt (by have := HBN.out; omega) (HC.out.2.2.1.under HM2.out.below) (HC.out.2.2.2.2.under HM2.out.below) (HC.out.1.under HM2.out.below) (by have := HN.out; omega) (by have := HN.out; omega)
      rw [mv_ptr hpb1] at ch
      clear hb7
      go_upto_if 76 with (go_at_call 26; refine ch.mono ?_; rintro e v1 ⟨t', he, it, hbal, hsrt, hl, hn, b1⟩; obtain ⟨pt, hpt⟩ := t'.ptr_shape; rw [mv_ptr hpt] at he; subst he; have G1 := HM2.out.grows b1; have f7 : v1.frozen? ⟨w.heap.size + 1 + 1 + 1 + 1 + 1 + 1, 0, none⟩ = false := frozen_of_row _ _ 0 _ 29 G1.b7; have e71 := cell_stays e7 b1; have G2 := (G1.set7 hpt it hbal (by rw [hl]; exact (G1.tB.takes ks tb).puts pb)).1; have cx7 : (v1.setCell ⟨w.heap.size + 1 + 1 + 1 + 1 + 1 + 1, 0, none⟩ (.pointer pt)).cell? ⟨w.heap.size, 7, none⟩ = some (.bool z) := (cell_of_row _ _ 7 _ 25 (0, 0) G2.x).trans rfl; have HR := hide (And.intro G2 (show t'.n ≤ 80 by have := HN.out; have := HBN.out; omega)); clear G1 G2 it hbal hsrt hl hn b1 hpt; dsimp only)
      obtain ⟨v2, hv2⟩ : ∃ v2, v2 = v1.setCell ⟨w.heap.size + 1 + 1 + 1 + 1 + 1 + 1, 0, none⟩ (.pointer pt) := ⟨_, rfl⟩
      rw [← hv2] at HR ⊢
      clear hv2 cx7 ch e7 e71 f7 cx0 cx2 cx4 hpb1 HM2
      go_cut [77] (fun _ wc => ∃ o' : T, Hid (o'.n ≤ 40) ∧ Hid (MI w #[.slice a0 i0 c0, .slice a1 n1 c1, .slice a2 n2 c2, .slice a3 n3 c3, .slice a4 n4 c4, .bool x, .bool y, .bool z] wc o' a t'))
      case first =>
        as_aux_lemma =>
          cases z
          · go_wp2
            go_meet
            exact ⟨o, hide (by have := HO.out; omega), hide HR.out.1⟩
          · have hb5 : v2.heap[w.heap.size + 1 + 1 + 1 + 1]? = some (.cells #[.pointer po] 29 (0, 0)) := by rw [HR.out.1.b5, HPO.out]
            have e5 : v2.cell? ⟨w.heap.size + 1 + 1 + 1 + 1, 0, none⟩ = some (.pointer po) := (cell_of_row _ _ 0 _ 29 (0, 0) hb5).trans rfl
            have g5 : v2.frozen? ⟨w.heap.size + 1 + 1 + 1 + 1, 0, none⟩ = false := frozen_of_row _ _ 0 _ 29 hb5
            have H8 := hide (HR.out.1.set5 (o' := .nil) rfl trivial trivial (ToldL.none _)).1
            clear hb5
            go_wp2
            go_meet
            exact ⟨.nil, hide (by simp [T.n]), H8⟩
      case rest =>
      obtain ⟨o', HON, HM3⟩ := hcut
      obtain ⟨wy, hwy⟩ : ∃ wy, wy = wc := ⟨_, rfl⟩
      subst hwy
      obtain ⟨p5, hp5⟩ := o'.ptr_shape
      obtain ⟨p6, hp6⟩ := a.ptr_shape
      obtain ⟨p7, hp7⟩ := t'.ptr_shape
      have D := HM3.out.grows (drew_below wy)
      have d5 := D.b5
      have d6 := D.b6
      have d7 := D.b7
      rw [hp5] at d5
      rw [hp6] at d6
      rw [hp7] at d7
      have q0 : wy.cell? ⟨w.heap.size + 1 + 1 + 1 + 1, 0, none⟩ = some (.pointer p5) ∧ wy.cell? ⟨w.heap.size + 1 + 1 + 1 + 1 + 1, 0, none⟩ = some (.pointer p6) ∧ wy.cell? ⟨w.heap.size + 1 + 1 + 1 + 1 + 1 + 1, 0, none⟩ = some (.pointer p7) ∧ Hid (Below w.heap.size w wy) := ⟨(cell_of_row _ _ 0 _ 29 (0, 0) d5).trans rfl, (cell_of_row _ _ 0 _ 29 (0, 0) d6).trans rfl, (cell_of_row _ _ 0 _ 29 (0, 0) d7).trans rfl, hide HM3.out.below⟩
      obtain ⟨s3, k3⟩ := set_one (i := 0) (.pointer p5) D.r2
      obtain ⟨u3, hu3⟩ : ∃ u3, u3 = wy.drew.setCell ⟨w.heap.size + 1, 0, none⟩ (.pointer p5) := ⟨_, rfl⟩
      rw [← hu3] at s3 k3
      have r3 := (k3.block _ (Array.getElem?_eq_some_iff.1 D.r3).1 (by omega)).trans D.r3
      have r4 := (k3.block _ (Array.getElem?_eq_some_iff.1 D.r4).1 (by omega)).trans D.r4
      obtain ⟨s4, k4⟩ := set_one (i := 0) (.pointer p6) r3
      obtain ⟨u4, hu4⟩ : ∃ u4, u4 = u3.setCell ⟨w.heap.size + 1 + 1, 0, none⟩ (.pointer p6) := ⟨_, rfl⟩
      rw [← hu4] at s4 k4
      have r4' := (k4.block _ (Array.getElem?_eq_some_iff.1 r4).1 (by omega)).trans r4
      have s3' := (k4.block _ (Array.getElem?_eq_some_iff.1 s3).1 (by omega)).trans s3
      obtain ⟨s5, k5⟩ := set_one (i := 0) (.pointer p7) r4'
      obtain ⟨u5, hu5⟩ : ∃ u5, u5 = u4.setCell ⟨w.heap.size + 1 + 1 + 1, 0, none⟩ (.pointer p7) := ⟨_, rfl⟩
      rw [← hu5] at s5 k5
      have s3'' := (k5.block _ (Array.getElem?_eq_some_iff.1 s3').1 (by omega)).trans s3'
      have s4' := (k5.block _ (Array.getElem?_eq_some_iff.1 s4).1 (by omega)).trans s4
      have x3 : wy.drew.cell? ⟨w.heap.size + 1, 0, none⟩ = some (.pointer none) := (cell_of_row _ _ 0 _ 29 (0, 0) D.r2).trans rfl
      have g3 : wy.drew.frozen? ⟨w.heap.size + 1, 0, none⟩ = false := frozen_of_row _ _ 0 _ 29 D.r2
      have x4 : u3.cell? ⟨w.heap.size + 1 + 1, 0, none⟩ = some (.pointer none) := (cell_of_row _ _ 0 _ 29 (0, 0) r3).trans rfl
      have g4 : u3.frozen? ⟨w.heap.size + 1 + 1, 0, none⟩ = false := frozen_of_row _ _ 0 _ 29 r3
      have x5 : u4.cell? ⟨w.heap.size + 1 + 1 + 1, 0, none⟩ = some (.pointer none) := (cell_of_row _ _ 0 _ 29 (0, 0) r4').trans rfl
      have g5 : u4.frozen? ⟨w.heap.size + 1 + 1 + 1, 0, none⟩ = false := frozen_of_row _ _ 0 _ 29 r4'
      have l3 : Below w.heap.size w u3 := Below.only D.below k3 D.below.size (fun j e => by omega)
      have l4 : Below w.heap.size w u4 := Below.only l3 k4 l3.size (fun j e => by omega)
      have l5 : Below w.heap.size w u5 := Below.only l4 k5 l4.size (fun j e => by omega)
      have fo : ∀ {t : T}, In wy.drew t → In u5 t := fun h => In.aside r4' k5 (In.aside r3 k4 (In.aside D.r2 k3 h))
      have qq3 : u3.cell? ⟨w.heap.size + 1 + 1 + 1 + 1, 0, none⟩ = some (.pointer p5) ∧ u3.cell? ⟨w.heap.size + 1 + 1 + 1 + 1 + 1, 0, none⟩ = some (.pointer p6) ∧ u3.cell? ⟨w.heap.size + 1 + 1 + 1 + 1 + 1 + 1, 0, none⟩ = some (.pointer p7) ∧ Hid (Below w.heap.size w u3) := ⟨k3.cell (show wy.drew.cell? _ = _ from q0.1) (fun e => by simp only at e; omega), k3.cell (show wy.drew.cell? _ = _ from q0.2.1) (fun e => by simp only at e; omega), k3.cell (show wy.drew.cell? _ = _ from q0.2.2.1) (fun e => by simp only at e; omega), hide l3⟩
      have qq4 : u4.cell? ⟨w.heap.size + 1 + 1 + 1 + 1, 0, none⟩ = some (.pointer p5) ∧ u4.cell? ⟨w.heap.size + 1 + 1 + 1 + 1 + 1, 0, none⟩ = some (.pointer p6) ∧ u4.cell? ⟨w.heap.size + 1 + 1 + 1 + 1 + 1 + 1, 0, none⟩ = some (.pointer p7) ∧ Hid (Below w.heap.size w u4) := ⟨k4.cell qq3.1 (fun e => by simp only at e; omega), k4.cell qq3.2.1 (fun e => by simp only at e; omega), k4.cell qq3.2.2.1 (fun e => by simp only at e; omega), hide l4⟩
      have qq5 : u5.cell? ⟨w.heap.size + 1 + 1 + 1 + 1, 0, none⟩ = some (.pointer p5) ∧ u5.cell? ⟨w.heap.size + 1 + 1 + 1 + 1 + 1, 0, none⟩ = some (.pointer p6) ∧ u5.cell? ⟨w.heap.size + 1 + 1 + 1 + 1 + 1 + 1, 0, none⟩ = some (.pointer p7) ∧ Hid (Below w.heap.size w u5) := ⟨k5.cell qq4.1 (fun e => by simp only at e; omega), k5.cell qq4.2.1 (fun e => by simp only at e; omega), k5.cell qq4.2.2.1 (fun e => by simp only at e; omega), hide l5⟩
      have HT : Hid (u5.heap[w.heap.size + 1]? = some (.cells #[.pointer p5] 29 (0, 0)) ∧ (u5.heap[w.heap.size + 1 + 1]? = some (.cells #[.pointer p6] 29 (0, 0)) ∧ u5.heap[w.heap.size + 1 + 1 + 1]? = some (.cells #[.pointer p7] 29 (0, 0)) ∧ Trio (Told fvL) u5 o' a t' ∧ Below w.heap.size w u5) ∧ o'.ptr = .pointer p5 ∧ a.ptr = .pointer p6 ∧ t'.ptr = .pointer p7) :=
        hide ⟨by simpa using s3'', ⟨by simpa using s4', by simpa using s5, ⟨fo D.io, fo D.ia, fo D.ib, D.tO.srt, D.tA.srt, D.tB.srt, D.bo, D.ba, D.bb, D.tO.told, D.tA.told, D.tB.told, by have := HON.out; omega, by have := HAN.out; have := HR.out.2; omega⟩, l5⟩, hp5, hp6, hp7⟩
      clear D d5 d6 d7 s3 k3 r3 r4 s4 k4 r4' s3' s5 k5 s3'' s4' l3 l4 l5 fo hp5 hp6 hp7
      go_upto_region 18 with (fail)
      have qd : wy.drew.cell? ⟨w.heap.size + 1 + 1 + 1 + 1, 0, none⟩ = some (.pointer p5) ∧ wy.drew.cell? ⟨w.heap.size + 1 + 1 + 1 + 1 + 1, 0, none⟩ = some (.pointer p6) ∧ wy.drew.cell? ⟨w.heap.size + 1 + 1 + 1 + 1 + 1 + 1, 0, none⟩ = some (.pointer p7) ∧ Hid (Below w.heap.size w wy.drew) := ⟨q0.1, q0.2.1, q0.2.2.1, hide (q0.2.2.2.out.trans ((drew_below wy).mono q0.2.2.2.out.size))⟩
      refine wp_region_held_drew (S := (fun w' => w'.cell? ⟨w.heap.size + 1 + 1 + 1 + 1, 0, none⟩ = some (.pointer p5) ∧ w'.cell? ⟨w.heap.size + 1 + 1 + 1 + 1 + 1, 0, none⟩ = some (.pointer p6) ∧ w'.cell? ⟨w.heap.size + 1 + 1 + 1 + 1 + 1 + 1, 0, none⟩ = some (.pointer p7) ∧ Hid (Below w.heap.size w w'))) (by kernel_rfl) qd (fun hHeld => ?_)
      try dsimp only at hHeld
      refine take_op (i := 0) (d := 78) (OP := Op.load 29 (Operand.tmp 5)) (T := 29) (v := ?vzz25) rfl rfl rfl rfl (by kernel_rfl) (by kernel_rfl) (by kernel_rfl) (fun _ _ _ h => h) (by rfl) ?hzz25 hHeld ?rzz25
      case hzz25 => (intro w' hSw; (try dsimp only at hSw); go_simp <;> with_reducible rfl)
      try simp only [Act.put, List.setIfInBounds_toArray, List.set_cons_zero, List.set_cons_succ]
      refine take_op (i := 1) (d := 79) (OP := Op.load 29 (Operand.tmp 6)) (T := 29) (v := ?vzz26) rfl rfl rfl rfl (by kernel_rfl) (by kernel_rfl) (by kernel_rfl) (fun _ _ _ h => h) (by rfl) ?hzz26 hHeld ?rzz26
      case hzz26 => (intro w' hSw; (try dsimp only at hSw); go_simp <;> with_reducible rfl)
      try simp only [Act.put, List.setIfInBounds_toArray, List.set_cons_zero, List.set_cons_succ]
      refine take_op (i := 2) (d := 80) (OP := Op.load 29 (Operand.tmp 7)) (T := 29) (v := ?vzz27) rfl rfl rfl rfl (by kernel_rfl) (by kernel_rfl) (by kernel_rfl) (fun _ _ _ h => h) (by rfl) ?hzz27 hHeld ?rzz27
      case hzz27 => (intro w' hSw; (try dsimp only at hSw); go_simp <;> with_reducible rfl)
      try simp only [Act.put, List.setIfInBounds_toArray, List.set_cons_zero, List.set_cons_succ]
      refine skip_op (i := 3) (OP := Op.store 29 (Operand.tmp 2) (Operand.tmp 78)) (T := 0) (w' := u3) rfl rfl rfl rfl (by kernel_rfl) (by rfl) (by rw [hu3]; go_simp) ⟨qq3, ?_⟩
      try simp only [Act.put, List.setIfInBounds_toArray, List.set_cons_zero, List.set_cons_succ]
      replace hHeld := qq3
      clear hu3
      refine skip_op (i := 4) (OP := Op.store 29 (Operand.tmp 3) (Operand.tmp 79)) (T := 0) (w' := u4) rfl rfl rfl rfl (by kernel_rfl) (by rfl) (by rw [hu4]; go_simp) ⟨qq4, ?_⟩
      try simp only [Act.put, List.setIfInBounds_toArray, List.set_cons_zero, List.set_cons_succ]
      replace hHeld := qq4
      clear hu4
      refine skip_op (i := 5) (OP := Op.store 29 (Operand.tmp 4) (Operand.tmp 80)) (T := 0) (w' := u5) rfl rfl rfl rfl (by kernel_rfl) (by rfl) (by rw [hu5]; go_simp) ⟨qq5, ?_⟩
      try simp only [Act.put, List.setIfInBounds_toArray, List.set_cons_zero, List.set_cons_succ]
      replace hHeld := qq5
      clear hu5
      refine wpAnyH_done (by kernel_rfl) ?_ _
      go_wp2
      obtain ⟨t1, t2, t3⟩ := HT.out
      refine ret_rrr (w.heap.size + 1) (w.heap.size + 1 + 1) (w.heap.size + 1 + 1 + 1) (.pointer p5) (.pointer p6) (.pointer p7) rfl rfl rfl rfl Try.underlying29 rfl Try.info29 t1 t2.1 t2.2.1 rfl ?_
      exact ⟨o', a, t', by rw [mv_ptr t3.1, mv_ptr t3.2.1, mv_ptr t3.2.2], t2.2.2.1, ⟨by have := HON.out; omega, HAN.out, HR.out.2⟩, t2.2.2.2⟩
end Go.Proofs.Ytckkoigghkgfdaa
