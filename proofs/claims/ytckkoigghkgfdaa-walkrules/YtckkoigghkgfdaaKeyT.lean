/-
  ALL KEYS OF THREE MAPS; WHAT ELEMENTS SAY AND COUNT.
  WalkRules' region 22: calls in a row, and boxes that may be made at any time.
-/
import Derived.Test.YtckkoigghkgfdaaUnW
import Derived.Test.YtckkoigghkgfdaaKeys8
import Derived.Test.YtckkoigghkgfdaaOrders
namespace Go.Proofs.Ytckkoigghkgfdaa
open Go.RowKit Go.Shelf
set_option linter.unusedSimpArgs false

theorem Trio.swap {V : ByteArray → Int × Bool → Prop} {W : World} {o a b : T} (h : Trio V W o a b) : Trio V W o b a := ⟨h.io, h.ib, h.ia, h.so, h.sb, h.sa, h.bo, h.bb, h.ba, h.vo, h.vb, h.va, h.no, by have := h.nab; omega⟩
theorem bytes_ext {a b : ByteArray} (h : a.toList = b.toList) : a = b := by
  rw [ByteArray.toList_eq, ByteArray.toList_eq] at h
  obtain ⟨⟨a⟩⟩ := a
  obtain ⟨⟨b⟩⟩ := b
  simpa using h
theorem keys_three {o a b : T} {po pa pb : Option Addr} {W : World} (ho : o.ptr = .pointer po) (ha : a.ptr = .pointer pa) (hb : b.ptr = .pointer pb) (io : In W o) (ia : In W a) (ib : In W b) (no : o.n ≤ 1000) (na : a.n ≤ 1000) (nb : b.n ≤ 1000) :
    Calls Try.prog 11 #[.slice (some ⟨W.heap.size, 0, none⟩) 3 3] (W.alloc (.cells #[.pointer po, .pointer pa, .pointer pb] 29)) fun e w' => ∃ sv, e = .returned sv ∧ Cs w' sv ((o.keys ++ a.keys ++ b.keys).map .string) ∧ Below W.heap.size W w' := by
  have bw : Below W.heap.size W (W.alloc (.cells #[.pointer po, .pointer pa, .pointer pb] 29)) := (Below.refl _ W).alloc (Nat.le_refl _) _
  have hr := heap_alloc_new W (.cells #[.pointer po, .pointer pa, .pointer pb] 29)
  refine (keys_any [o, a, b] W.heap.size 0 3 (W.alloc (.cells #[.pointer po, .pointer pa, .pointer pb] 29)) (fun j t hj => ?_) (fun t ht => ?_) (by simp)).mono ?_
  · rw [cell_of_row _ _ _ _ 29 (0, 0) hr]
    match j, hj with
    | 0, hj => simp at hj; subst hj; simp [ho]
    | 1, hj => simp at hj; subst hj; simp [ha]
    | 2, hj => simp at hj; subst hj; simp [hb]
  · simp only [List.mem_cons, List.not_mem_nil, or_false] at ht
    rcases ht with rfl | rfl | rfl
    · exact ⟨In.below bw io, no⟩
    · exact ⟨In.below bw ia, na⟩
    · exact ⟨In.below bw ib, nb⟩
  · rintro e w' ⟨sv, he, hc, hb'⟩
    exact ⟨sv, he, by simpa [List.append_assoc] using hc, bw.trans (hb'.mono bw.size)⟩
theorem keeps_swap {fv : ByteArray → Int} {k : ByteArray} {p q r : Int × Bool} (hp : Told fv k p) (hq : Told fv k q) (hr : Told fv k r) : keeps p r q = keeps p q r ∧ Told fv k (keeps p q r) := by
  rcases hp with rfl | rfl <;> rcases hq with rfl | rfl <;> rcases hr with rfl | rfl <;> simp [keeps, Told]
theorem element_says {W : World} {o a b m n : T} {k : ByteArray} {ks1 ks2 : List ByteArray} (h : Trio (Told fvL) W o a b) (hm : RunSays (fun _ p q r => keeps p q r) o a b m ks1) (hn : RunSays (fun _ p q r => keeps p q r) o b a n ks2) : look k m.list = keeps (look k o.list) (look k a.list) (look k b.list) ∧ look k n.list = keeps (look k o.list) (look k a.list) (look k b.list) ∧ Told fvL k (keeps (look k o.list) (look k a.list) (look k b.list)) := by
  obtain ⟨h1, h2⟩ := keeps_swap (h.vo k) (h.va k) (h.vb k)
  exact ⟨hm.look k, by rw [hn.look k, h1], h2⟩
theorem element_counts {W : World} {o a b m n : T} {L : List ByteArray} {c : Nat} {ks1 ks2 : List ByteArray} (h : Trio (Told fvL) W o a b) (hm : RunSays (fun _ p q r => keeps p q r) o a b m ks1) (hn : RunSays (fun _ p q r => keeps p q r) o b a n ks2) (hL : L = o.keys ++ a.keys ++ b.keys) (hc : Counted (fun k => (keeps (look k o.list) (look k a.list) (look k b.list)).2) L c) : m.n = c ∧ n.n = c := by
  have hin : ∀ k, (keeps (look k o.list) (look k a.list) (look k b.list)).2 = true → k ∈ L := fun k hk => by
    have : (look k a.list).2 = true ∨ (look k b.list).2 = true := by
      unfold keeps at hk
      split at hk
      · rename_i h1; simp at h1; exact .inl h1.1
      · split at hk
        · rename_i h1; simp at h1; exact .inr h1.1
        · cases hk
    rw [hL]
    rcases this with h1 | h1
    · have := look_true.1 h1; simp only [List.mem_append]; exact .inl (.inr this)
    · have := look_true.1 h1; simp only [List.mem_append]; exact .inr this
  refine ⟨hc.n hm.srt (fun k => ?_), hc.n hn.srt (fun k => ?_)⟩
  · rw [(element_says (k := k) h hm hn).1]
    exact ⟨fun hk => ⟨hin k hk, hk⟩, fun hk => hk.2⟩
  · rw [(element_says (k := k) h hm hn).2.1]
    exact ⟨fun hk => ⟨hin k hk, hk⟩, fun hk => hk.2⟩
end Go.Proofs.Ytckkoigghkgfdaa
namespace Go.Proofs.Ytckkoigghkgfdaa
open Go.RowKit Go.Shelf
set_option linter.unusedSimpArgs false

/-- The region's operations. -/
def ops_regR : Array Oper := #[{ dst := some 87, op := Go.Op.load 29 (Go.Operand.tmp 5), type := 29, pos := "law.go:179", after := #[], guard := none }, { dst := some 88, op := Go.Op.move (Go.Operand.tmp 16), type := 22, pos := "law.go:179", after := #[], guard := none }, { dst := some 89, op := Go.Op.move (Go.Operand.tmp 17), type := 3, pos := "law.go:179", after := #[], guard := none }, { dst := some 90, op := Go.Op.indexAddr 22 (Go.Operand.tmp 88) (Go.Operand.tmp 89), type := 0, pos := "law.go:179", after := #[{ on := 1, ground := Go.Ground.data }, { on := 2, ground := Go.Ground.data }], guard := none }, { dst := some 91, op := Go.Op.load 9 (Go.Operand.tmp 90), type := 9, pos := "law.go:179", after := #[{ on := 3, ground := Go.Ground.data }], guard := none }, { dst := some 92, op := Go.Op.call { callee := Go.Callee.value (Go.Operand.func 12), args := #[Go.Operand.tmp 87, Go.Operand.tmp 91], argTypes := #[29, 9] }, type := 38, pos := "law.go:179", after := #[{ on := 0, ground := Go.Ground.data }, { on := 4, ground := Go.Ground.data }], guard := none }, { dst := some 93, op := Go.Op.load 29 (Go.Operand.tmp 6), type := 29, pos := "law.go:179", after := #[], guard := none }, { dst := some 94, op := Go.Op.move (Go.Operand.tmp 16), type := 22, pos := "law.go:179", after := #[], guard := none }, { dst := some 95, op := Go.Op.move (Go.Operand.tmp 17), type := 3, pos := "law.go:179", after := #[], guard := none }, { dst := some 96, op := Go.Op.indexAddr 22 (Go.Operand.tmp 94) (Go.Operand.tmp 95), type := 0, pos := "law.go:179", after := #[{ on := 7, ground := Go.Ground.data }, { on := 8, ground := Go.Ground.data }], guard := none }, { dst := some 97, op := Go.Op.load 9 (Go.Operand.tmp 96), type := 9, pos := "law.go:179", after := #[{ on := 9, ground := Go.Ground.data }], guard := none }, { dst := some 98, op := Go.Op.call { callee := Go.Callee.value (Go.Operand.func 12), args := #[Go.Operand.tmp 93, Go.Operand.tmp 97], argTypes := #[29, 9] }, type := 38, pos := "law.go:179", after := #[{ on := 6, ground := Go.Ground.data }, { on := 10, ground := Go.Ground.data }, { on := 5, ground := Go.Ground.chain }], guard := none }, { dst := some 99, op := Go.Op.load 29 (Go.Operand.tmp 7), type := 29, pos := "law.go:179", after := #[], guard := none }, { dst := some 100, op := Go.Op.move (Go.Operand.tmp 16), type := 22, pos := "law.go:179", after := #[], guard := none }, { dst := some 101, op := Go.Op.move (Go.Operand.tmp 17), type := 3, pos := "law.go:179", after := #[], guard := none }, { dst := some 102, op := Go.Op.indexAddr 22 (Go.Operand.tmp 100) (Go.Operand.tmp 101), type := 0, pos := "law.go:179", after := #[{ on := 13, ground := Go.Ground.data }, { on := 14, ground := Go.Ground.data }], guard := none }, { dst := some 103, op := Go.Op.load 9 (Go.Operand.tmp 102), type := 9, pos := "law.go:179", after := #[{ on := 15, ground := Go.Ground.data }], guard := none }, { dst := some 104, op := Go.Op.call { callee := Go.Callee.value (Go.Operand.func 12), args := #[Go.Operand.tmp 99, Go.Operand.tmp 103], argTypes := #[29, 9] }, type := 38, pos := "law.go:179", after := #[{ on := 12, ground := Go.Ground.data }, { on := 16, ground := Go.Ground.data }, { on := 11, ground := Go.Ground.chain }], guard := none }, { dst := some 18, op := Go.Op.alloc 38, type := 0, pos := "law.go:179", after := #[], guard := none }, { dst := some 19, op := Go.Op.alloc 38, type := 0, pos := "law.go:179", after := #[], guard := none }, { dst := some 20, op := Go.Op.alloc 38, type := 0, pos := "law.go:179", after := #[], guard := none }, { dst := none, op := Go.Op.store 38 (Go.Operand.tmp 18) (Go.Operand.tmp 92), type := 0, pos := "law.go:179", after := #[{ on := 18, ground := Go.Ground.data }, { on := 5, ground := Go.Ground.data }, { on := 17, ground := Go.Ground.chain }, { on := 0, ground := Go.Ground.phase }, { on := 1, ground := Go.Ground.phase }, { on := 2, ground := Go.Ground.phase }, { on := 3, ground := Go.Ground.phase }, { on := 4, ground := Go.Ground.phase }, { on := 5, ground := Go.Ground.phase }, { on := 6, ground := Go.Ground.textOnly Go.Departure.lateStores }, { on := 7, ground := Go.Ground.textOnly Go.Departure.lateStores }, { on := 8, ground := Go.Ground.textOnly Go.Departure.lateStores }, { on := 9, ground := Go.Ground.textOnly Go.Departure.lateStores }, { on := 10, ground := Go.Ground.textOnly Go.Departure.lateStores }, { on := 11, ground := Go.Ground.textOnly Go.Departure.lateStoresUnsure }, { on := 12, ground := Go.Ground.textOnly Go.Departure.lateStores }, { on := 13, ground := Go.Ground.textOnly Go.Departure.lateStores }, { on := 14, ground := Go.Ground.textOnly Go.Departure.lateStores }, { on := 15, ground := Go.Ground.textOnly Go.Departure.lateStores }, { on := 16, ground := Go.Ground.textOnly Go.Departure.lateStores }, { on := 17, ground := Go.Ground.textOnly Go.Departure.lateStoresUnsure }, { on := 18, ground := Go.Ground.phase }, { on := 19, ground := Go.Ground.phase }, { on := 20, ground := Go.Ground.phase }], guard := none }, { dst := none, op := Go.Op.store 38 (Go.Operand.tmp 19) (Go.Operand.tmp 98), type := 0, pos := "law.go:179", after := #[{ on := 19, ground := Go.Ground.data }, { on := 11, ground := Go.Ground.data }, { on := 21, ground := Go.Ground.chain }, { on := 0, ground := Go.Ground.phase }, { on := 1, ground := Go.Ground.phase }, { on := 2, ground := Go.Ground.phase }, { on := 3, ground := Go.Ground.phase }, { on := 4, ground := Go.Ground.phase }, { on := 5, ground := Go.Ground.phase }, { on := 6, ground := Go.Ground.phase }, { on := 7, ground := Go.Ground.phase }, { on := 8, ground := Go.Ground.phase }, { on := 9, ground := Go.Ground.phase }, { on := 10, ground := Go.Ground.phase }, { on := 11, ground := Go.Ground.phase }, { on := 12, ground := Go.Ground.textOnly Go.Departure.lateStores }, { on := 13, ground := Go.Ground.textOnly Go.Departure.lateStores }, { on := 14, ground := Go.Ground.textOnly Go.Departure.lateStores }, { on := 15, ground := Go.Ground.textOnly Go.Departure.lateStores }, { on := 16, ground := Go.Ground.textOnly Go.Departure.lateStores }, { on := 17, ground := Go.Ground.textOnly Go.Departure.lateStoresUnsure }, { on := 18, ground := Go.Ground.phase }, { on := 19, ground := Go.Ground.phase }, { on := 20, ground := Go.Ground.phase }, { on := 21, ground := Go.Ground.phase }], guard := none }, { dst := none, op := Go.Op.store 38 (Go.Operand.tmp 20) (Go.Operand.tmp 104), type := 0, pos := "law.go:179", after := #[{ on := 20, ground := Go.Ground.data }, { on := 17, ground := Go.Ground.data }, { on := 22, ground := Go.Ground.chain }, { on := 0, ground := Go.Ground.phase }, { on := 1, ground := Go.Ground.phase }, { on := 2, ground := Go.Ground.phase }, { on := 3, ground := Go.Ground.phase }, { on := 4, ground := Go.Ground.phase }, { on := 5, ground := Go.Ground.phase }, { on := 6, ground := Go.Ground.phase }, { on := 7, ground := Go.Ground.phase }, { on := 8, ground := Go.Ground.phase }, { on := 9, ground := Go.Ground.phase }, { on := 10, ground := Go.Ground.phase }, { on := 11, ground := Go.Ground.phase }, { on := 12, ground := Go.Ground.phase }, { on := 13, ground := Go.Ground.phase }, { on := 14, ground := Go.Ground.phase }, { on := 15, ground := Go.Ground.phase }, { on := 16, ground := Go.Ground.phase }, { on := 17, ground := Go.Ground.phase }, { on := 18, ground := Go.Ground.phase }, { on := 19, ground := Go.Ground.phase }, { on := 20, ground := Go.Ground.phase }, { on := 21, ground := Go.Ground.phase }, { on := 22, ground := Go.Ground.phase }], guard := none }]
set_option maxHeartbeats 4000000 in
theorem regR_any {Q : Exit → Act → World → Prop} {S : World → Prop} {a : Act} {w0 : World} {x5_0 x5_1 x11_0 x11_1 x17_0 x17_1 : Value} {C5 C11 C17 : Value → World → Prop}
    (e5_0 : a.eval (.tmp 87) = x5_0) (e5_1 : a.eval (.tmp 91) = x5_1) (e11_0 : a.eval (.tmp 93) = x11_0) (e11_1 : a.eval (.tmp 97) = x11_1) (e17_0 : a.eval (.tmp 99) = x17_0) (e17_1 : a.eval (.tmp 103) = x17_1)
    (hS : ∀ W, Below w0.heap.size w0 W → S W)
    (c5 : ∀ W, Below w0.heap.size w0 W → Calls Try.prog 12 #[x5_0, x5_1] W fun e w' => ∃ v, e = .returned v ∧ C5 v w' ∧ Below W.heap.size W w')
    (c11 : ∀ W, Below w0.heap.size w0 W → Calls Try.prog 12 #[x11_0, x11_1] W fun e w' => ∃ v, e = .returned v ∧ C11 v w' ∧ Below W.heap.size W w')
    (c17 : ∀ W, Below w0.heap.size w0 W → Calls Try.prog 12 #[x17_0, x17_1] W fun e w' => ∃ v, e = .returned v ∧ C17 v w' ∧ Below W.heap.size W w')
    (p5 : ∀ v W W', C5 v W → Below W.heap.size W W' → C5 v W') (p11 : ∀ v W W', C11 v W → Below W.heap.size W W' → C11 v W') (p17 : ∀ v W W', C17 v W → Below W.heap.size W W' → C17 v W')
    (fin : ∀ (v5 : Value) (v11 : Value) (v17 : Value) (B18 : Nat) (B19 : Nat) (B20 : Nat) (W : World), Below w0.heap.size w0 W → C5 v5 W → C11 v11 W → C17 v17 W → W.heap[B18]? = some (.cells #[.int .i64 0, .bool false] 38) → W.heap[B19]? = some (.cells #[.int .i64 0, .bool false] 38) → W.heap[B20]? = some (.cells #[.int .i64 0, .bool false] 38) → w0.heap.size ≤ B18 → w0.heap.size ≤ B19 → w0.heap.size ≤ B20 → B18 ≠ B19 → B18 ≠ B20 → B19 ≠ B20 → wpAnyH Try.prog .any ops_regR Q S 3 #[true, true, true, true, true, true, true, true, true, true, true, true, true, true, true, true, true, true, true, true, true, false, false, false] ((((((a.put (some 92) v5).put (some 98) v11).put (some 104) v17).put (some 18) (.pointer (some ⟨B18, 0, none⟩))).put (some 19) (.pointer (some ⟨B19, 0, none⟩))).put (some 20) (.pointer (some ⟨B20, 0, none⟩))) W) (W : World) (hW : Below w0.heap.size w0 W) :
    wpAnyH Try.prog .any ops_regR Q S 9 #[true, true, true, true, true, false, true, true, true, true, true, false, true, true, true, true, true, false, false, false, false, false, false, false] a W := by
  have zr : ∀ (W W' : World) (B : Nat) (o : Obj), W.heap[B]? = some o → Below W.heap.size W W' → W'.heap[B]? = some o := fun W W' B o h hb => (hb.block _ (Array.getElem?_eq_some_iff.1 h).1).trans h
  have zl : ∀ (W : World) (B : Nat) (o : Obj), W.heap[B]? = some o → B < W.heap.size := fun W B o h => (Array.getElem?_eq_some_iff.1 h).1
  have za : ∀ W : World, Below W.heap.size W (W.alloc (.cells #[.int .i64 0, .bool false] 38)) := fun W => (Below.refl _ W).alloc (Nat.le_refl _) _
  have h301_ : ∀ (v5 : Value) (v11 : Value) (v17 : Value) (B18 : Nat) (B19 : Nat) (W : World), Below w0.heap.size w0 W → C5 v5 W → C11 v11 W → C17 v17 W → W.heap[B18]? = some (.cells #[.int .i64 0, .bool false] 38) → W.heap[B19]? = some (.cells #[.int .i64 0, .bool false] 38) → w0.heap.size ≤ B18 → w0.heap.size ≤ B19 → B18 ≠ B19 → wpAnyH Try.prog .any ops_regR Q S 4 #[true, true, true, true, true, true, true, true, true, true, true, true, true, true, true, true, true, true, true, true, false, false, false, false] (((((a.put (some 92) v5).put (some 98) v11).put (some 104) v17).put (some 18) (.pointer (some ⟨B18, 0, none⟩))).put (some 19) (.pointer (some ⟨B19, 0, none⟩))) W := fun v5 v11 v17 B18 B19 W hb g5 g11 g17 r18 r19 l18 l19 n18_19 => by
    refine wpAnyH_ready (rs := [20]) (by kernel_rfl) (by simp) ?_
    refine AllReadyH.turn (d := 20) (OP := .alloc 38) (T := 0) (v := .pointer (some ⟨W.heap.size, 0, none⟩)) (w' := W.alloc (.cells #[.int .i64 0, .bool false] 38)) rfl rfl rfl rfl (by rfl) (by go_simp <;> rfl) (hS _ (hb.trans ((za W).mono hb.size))) ?_ ?_
    · exact fin v5 v11 v17 B18 B19 W.heap.size _ (hb.trans ((za W).mono hb.size)) (p5 _ _ _ g5 (za W)) (p11 _ _ _ g11 (za W)) (p17 _ _ _ g17 (za W)) (zr _ _ _ _ r18 (za W)) (zr _ _ _ _ r19 (za W)) (heap_alloc_new W _) l18 l19 hb.size n18_19 (fun e => by have := zl _ _ _ r18; omega) (fun e => by have := zl _ _ _ r19; omega)
    exact AllReadyH.nil
  have h302_ : ∀ (v5 : Value) (v11 : Value) (v17 : Value) (B18 : Nat) (B20 : Nat) (W : World), Below w0.heap.size w0 W → C5 v5 W → C11 v11 W → C17 v17 W → W.heap[B18]? = some (.cells #[.int .i64 0, .bool false] 38) → W.heap[B20]? = some (.cells #[.int .i64 0, .bool false] 38) → w0.heap.size ≤ B18 → w0.heap.size ≤ B20 → B18 ≠ B20 → wpAnyH Try.prog .any ops_regR Q S 4 #[true, true, true, true, true, true, true, true, true, true, true, true, true, true, true, true, true, true, true, false, true, false, false, false] (((((a.put (some 92) v5).put (some 98) v11).put (some 104) v17).put (some 18) (.pointer (some ⟨B18, 0, none⟩))).put (some 20) (.pointer (some ⟨B20, 0, none⟩))) W := fun v5 v11 v17 B18 B20 W hb g5 g11 g17 r18 r20 l18 l20 n18_20 => by
    refine wpAnyH_ready (rs := [19]) (by kernel_rfl) (by simp) ?_
    refine AllReadyH.turn (d := 19) (OP := .alloc 38) (T := 0) (v := .pointer (some ⟨W.heap.size, 0, none⟩)) (w' := W.alloc (.cells #[.int .i64 0, .bool false] 38)) rfl rfl rfl rfl (by rfl) (by go_simp <;> rfl) (hS _ (hb.trans ((za W).mono hb.size))) ?_ ?_
    · rw [put_comm (show 20 ≠ 19 by decide)]
      exact fin v5 v11 v17 B18 W.heap.size B20 _ (hb.trans ((za W).mono hb.size)) (p5 _ _ _ g5 (za W)) (p11 _ _ _ g11 (za W)) (p17 _ _ _ g17 (za W)) (zr _ _ _ _ r18 (za W)) (heap_alloc_new W _) (zr _ _ _ _ r20 (za W)) l18 hb.size l20 (fun e => by have := zl _ _ _ r18; omega) n18_20 (fun e => by have := zl _ _ _ r20; omega)
    exact AllReadyH.nil
  have h312_ : ∀ (v5 : Value) (v11 : Value) (v17 : Value) (B19 : Nat) (B20 : Nat) (W : World), Below w0.heap.size w0 W → C5 v5 W → C11 v11 W → C17 v17 W → W.heap[B19]? = some (.cells #[.int .i64 0, .bool false] 38) → W.heap[B20]? = some (.cells #[.int .i64 0, .bool false] 38) → w0.heap.size ≤ B19 → w0.heap.size ≤ B20 → B19 ≠ B20 → wpAnyH Try.prog .any ops_regR Q S 4 #[true, true, true, true, true, true, true, true, true, true, true, true, true, true, true, true, true, true, false, true, true, false, false, false] (((((a.put (some 92) v5).put (some 98) v11).put (some 104) v17).put (some 19) (.pointer (some ⟨B19, 0, none⟩))).put (some 20) (.pointer (some ⟨B20, 0, none⟩))) W := fun v5 v11 v17 B19 B20 W hb g5 g11 g17 r19 r20 l19 l20 n19_20 => by
    refine wpAnyH_ready (rs := [18]) (by kernel_rfl) (by simp) ?_
    refine AllReadyH.turn (d := 18) (OP := .alloc 38) (T := 0) (v := .pointer (some ⟨W.heap.size, 0, none⟩)) (w' := W.alloc (.cells #[.int .i64 0, .bool false] 38)) rfl rfl rfl rfl (by rfl) (by go_simp <;> rfl) (hS _ (hb.trans ((za W).mono hb.size))) ?_ ?_
    · rw [put_comm (show 20 ≠ 18 by decide), put_comm (show 19 ≠ 18 by decide)]
      exact fin v5 v11 v17 W.heap.size B19 B20 _ (hb.trans ((za W).mono hb.size)) (p5 _ _ _ g5 (za W)) (p11 _ _ _ g11 (za W)) (p17 _ _ _ g17 (za W)) (heap_alloc_new W _) (zr _ _ _ _ r19 (za W)) (zr _ _ _ _ r20 (za W)) hb.size l19 l20 (fun e => by have := zl _ _ _ r19; omega) (fun e => by have := zl _ _ _ r20; omega) n19_20
    exact AllReadyH.nil
  have h2012_ : ∀ (v5 : Value) (v11 : Value) (B18 : Nat) (B19 : Nat) (B20 : Nat) (W : World), Below w0.heap.size w0 W → C5 v5 W → C11 v11 W → W.heap[B18]? = some (.cells #[.int .i64 0, .bool false] 38) → W.heap[B19]? = some (.cells #[.int .i64 0, .bool false] 38) → W.heap[B20]? = some (.cells #[.int .i64 0, .bool false] 38) → w0.heap.size ≤ B18 → w0.heap.size ≤ B19 → w0.heap.size ≤ B20 → B18 ≠ B19 → B18 ≠ B20 → B19 ≠ B20 → wpAnyH Try.prog .any ops_regR Q S 4 #[true, true, true, true, true, true, true, true, true, true, true, true, true, true, true, true, true, false, true, true, true, false, false, false] (((((a.put (some 92) v5).put (some 98) v11).put (some 18) (.pointer (some ⟨B18, 0, none⟩))).put (some 19) (.pointer (some ⟨B19, 0, none⟩))).put (some 20) (.pointer (some ⟨B20, 0, none⟩))) W := fun v5 v11 B18 B19 B20 W hb g5 g11 r18 r19 r20 l18 l19 l20 n18_19 n18_20 n19_20 => by
    refine wpAnyH_ready (rs := [17]) (by kernel_rfl) (by simp) ?_
    refine AllReadyH.call (d := 104) (f := 12) (args := #[x17_0, x17_1]) (OP := .call { callee := .value (.func 12), args := #[.tmp 99, .tmp 103], argTypes := #[29, 9] }) (T := 38) rfl rfl rfl rfl (by rfl) (by have h0 := e17_0; have h1 := e17_1; simp [Act.eval, go_sem] at h0 h1; simp [execOp, resolve, invoke, go_sem, h0, h1]) ?_ ?_
    · refine (c17 W hb).mono ?_
      rintro e w' ⟨v17, rfl, g17, b'⟩
      have hb' := hb.trans (b'.mono hb.size)
      refine ⟨_, rfl, hS _ hb', ?_⟩
      rw [put_comm (show 20 ≠ 104 by decide), put_comm (show 19 ≠ 104 by decide), put_comm (show 18 ≠ 104 by decide)]
      exact fin v5 v11 v17 B18 B19 B20 w' hb' (p5 _ _ _ g5 b') (p11 _ _ _ g11 b') g17 (zr _ _ _ _ r18 b') (zr _ _ _ _ r19 b') (zr _ _ _ _ r20 b') l18 l19 l20 n18_19 n18_20 n19_20
    exact AllReadyH.nil
  have h30_ : ∀ (v5 : Value) (v11 : Value) (v17 : Value) (B18 : Nat) (W : World), Below w0.heap.size w0 W → C5 v5 W → C11 v11 W → C17 v17 W → W.heap[B18]? = some (.cells #[.int .i64 0, .bool false] 38) → w0.heap.size ≤ B18 → wpAnyH Try.prog .any ops_regR Q S 5 #[true, true, true, true, true, true, true, true, true, true, true, true, true, true, true, true, true, true, true, false, false, false, false, false] ((((a.put (some 92) v5).put (some 98) v11).put (some 104) v17).put (some 18) (.pointer (some ⟨B18, 0, none⟩))) W := fun v5 v11 v17 B18 W hb g5 g11 g17 r18 l18 => by
    refine wpAnyH_ready (rs := [19, 20]) (by kernel_rfl) (by simp) ?_
    refine AllReadyH.turn (d := 19) (OP := .alloc 38) (T := 0) (v := .pointer (some ⟨W.heap.size, 0, none⟩)) (w' := W.alloc (.cells #[.int .i64 0, .bool false] 38)) rfl rfl rfl rfl (by rfl) (by go_simp <;> rfl) (hS _ (hb.trans ((za W).mono hb.size))) ?_ ?_
    · exact h301_ v5 v11 v17 B18 W.heap.size _ (hb.trans ((za W).mono hb.size)) (p5 _ _ _ g5 (za W)) (p11 _ _ _ g11 (za W)) (p17 _ _ _ g17 (za W)) (zr _ _ _ _ r18 (za W)) (heap_alloc_new W _) l18 hb.size (fun e => by have := zl _ _ _ r18; omega)
    refine AllReadyH.turn (d := 20) (OP := .alloc 38) (T := 0) (v := .pointer (some ⟨W.heap.size, 0, none⟩)) (w' := W.alloc (.cells #[.int .i64 0, .bool false] 38)) rfl rfl rfl rfl (by rfl) (by go_simp <;> rfl) (hS _ (hb.trans ((za W).mono hb.size))) ?_ ?_
    · exact h302_ v5 v11 v17 B18 W.heap.size _ (hb.trans ((za W).mono hb.size)) (p5 _ _ _ g5 (za W)) (p11 _ _ _ g11 (za W)) (p17 _ _ _ g17 (za W)) (zr _ _ _ _ r18 (za W)) (heap_alloc_new W _) l18 hb.size (fun e => by have := zl _ _ _ r18; omega)
    exact AllReadyH.nil
  have h31_ : ∀ (v5 : Value) (v11 : Value) (v17 : Value) (B19 : Nat) (W : World), Below w0.heap.size w0 W → C5 v5 W → C11 v11 W → C17 v17 W → W.heap[B19]? = some (.cells #[.int .i64 0, .bool false] 38) → w0.heap.size ≤ B19 → wpAnyH Try.prog .any ops_regR Q S 5 #[true, true, true, true, true, true, true, true, true, true, true, true, true, true, true, true, true, true, false, true, false, false, false, false] ((((a.put (some 92) v5).put (some 98) v11).put (some 104) v17).put (some 19) (.pointer (some ⟨B19, 0, none⟩))) W := fun v5 v11 v17 B19 W hb g5 g11 g17 r19 l19 => by
    refine wpAnyH_ready (rs := [18, 20]) (by kernel_rfl) (by simp) ?_
    refine AllReadyH.turn (d := 18) (OP := .alloc 38) (T := 0) (v := .pointer (some ⟨W.heap.size, 0, none⟩)) (w' := W.alloc (.cells #[.int .i64 0, .bool false] 38)) rfl rfl rfl rfl (by rfl) (by go_simp <;> rfl) (hS _ (hb.trans ((za W).mono hb.size))) ?_ ?_
    · rw [put_comm (show 19 ≠ 18 by decide)]
      exact h301_ v5 v11 v17 W.heap.size B19 _ (hb.trans ((za W).mono hb.size)) (p5 _ _ _ g5 (za W)) (p11 _ _ _ g11 (za W)) (p17 _ _ _ g17 (za W)) (heap_alloc_new W _) (zr _ _ _ _ r19 (za W)) hb.size l19 (fun e => by have := zl _ _ _ r19; omega)
    refine AllReadyH.turn (d := 20) (OP := .alloc 38) (T := 0) (v := .pointer (some ⟨W.heap.size, 0, none⟩)) (w' := W.alloc (.cells #[.int .i64 0, .bool false] 38)) rfl rfl rfl rfl (by rfl) (by go_simp <;> rfl) (hS _ (hb.trans ((za W).mono hb.size))) ?_ ?_
    · exact h312_ v5 v11 v17 B19 W.heap.size _ (hb.trans ((za W).mono hb.size)) (p5 _ _ _ g5 (za W)) (p11 _ _ _ g11 (za W)) (p17 _ _ _ g17 (za W)) (zr _ _ _ _ r19 (za W)) (heap_alloc_new W _) l19 hb.size (fun e => by have := zl _ _ _ r19; omega)
    exact AllReadyH.nil
  have h32_ : ∀ (v5 : Value) (v11 : Value) (v17 : Value) (B20 : Nat) (W : World), Below w0.heap.size w0 W → C5 v5 W → C11 v11 W → C17 v17 W → W.heap[B20]? = some (.cells #[.int .i64 0, .bool false] 38) → w0.heap.size ≤ B20 → wpAnyH Try.prog .any ops_regR Q S 5 #[true, true, true, true, true, true, true, true, true, true, true, true, true, true, true, true, true, true, false, false, true, false, false, false] ((((a.put (some 92) v5).put (some 98) v11).put (some 104) v17).put (some 20) (.pointer (some ⟨B20, 0, none⟩))) W := fun v5 v11 v17 B20 W hb g5 g11 g17 r20 l20 => by
    refine wpAnyH_ready (rs := [18, 19]) (by kernel_rfl) (by simp) ?_
    refine AllReadyH.turn (d := 18) (OP := .alloc 38) (T := 0) (v := .pointer (some ⟨W.heap.size, 0, none⟩)) (w' := W.alloc (.cells #[.int .i64 0, .bool false] 38)) rfl rfl rfl rfl (by rfl) (by go_simp <;> rfl) (hS _ (hb.trans ((za W).mono hb.size))) ?_ ?_
    · rw [put_comm (show 20 ≠ 18 by decide)]
      exact h302_ v5 v11 v17 W.heap.size B20 _ (hb.trans ((za W).mono hb.size)) (p5 _ _ _ g5 (za W)) (p11 _ _ _ g11 (za W)) (p17 _ _ _ g17 (za W)) (heap_alloc_new W _) (zr _ _ _ _ r20 (za W)) hb.size l20 (fun e => by have := zl _ _ _ r20; omega)
    refine AllReadyH.turn (d := 19) (OP := .alloc 38) (T := 0) (v := .pointer (some ⟨W.heap.size, 0, none⟩)) (w' := W.alloc (.cells #[.int .i64 0, .bool false] 38)) rfl rfl rfl rfl (by rfl) (by go_simp <;> rfl) (hS _ (hb.trans ((za W).mono hb.size))) ?_ ?_
    · rw [put_comm (show 20 ≠ 19 by decide)]
      exact h312_ v5 v11 v17 W.heap.size B20 _ (hb.trans ((za W).mono hb.size)) (p5 _ _ _ g5 (za W)) (p11 _ _ _ g11 (za W)) (p17 _ _ _ g17 (za W)) (heap_alloc_new W _) (zr _ _ _ _ r20 (za W)) hb.size l20 (fun e => by have := zl _ _ _ r20; omega)
    exact AllReadyH.nil
  have h201_ : ∀ (v5 : Value) (v11 : Value) (B18 : Nat) (B19 : Nat) (W : World), Below w0.heap.size w0 W → C5 v5 W → C11 v11 W → W.heap[B18]? = some (.cells #[.int .i64 0, .bool false] 38) → W.heap[B19]? = some (.cells #[.int .i64 0, .bool false] 38) → w0.heap.size ≤ B18 → w0.heap.size ≤ B19 → B18 ≠ B19 → wpAnyH Try.prog .any ops_regR Q S 5 #[true, true, true, true, true, true, true, true, true, true, true, true, true, true, true, true, true, false, true, true, false, false, false, false] ((((a.put (some 92) v5).put (some 98) v11).put (some 18) (.pointer (some ⟨B18, 0, none⟩))).put (some 19) (.pointer (some ⟨B19, 0, none⟩))) W := fun v5 v11 B18 B19 W hb g5 g11 r18 r19 l18 l19 n18_19 => by
    refine wpAnyH_ready (rs := [17, 20]) (by kernel_rfl) (by simp) ?_
    refine AllReadyH.call (d := 104) (f := 12) (args := #[x17_0, x17_1]) (OP := .call { callee := .value (.func 12), args := #[.tmp 99, .tmp 103], argTypes := #[29, 9] }) (T := 38) rfl rfl rfl rfl (by rfl) (by have h0 := e17_0; have h1 := e17_1; simp [Act.eval, go_sem] at h0 h1; simp [execOp, resolve, invoke, go_sem, h0, h1]) ?_ ?_
    · refine (c17 W hb).mono ?_
      rintro e w' ⟨v17, rfl, g17, b'⟩
      have hb' := hb.trans (b'.mono hb.size)
      refine ⟨_, rfl, hS _ hb', ?_⟩
      rw [put_comm (show 19 ≠ 104 by decide), put_comm (show 18 ≠ 104 by decide)]
      exact h301_ v5 v11 v17 B18 B19 w' hb' (p5 _ _ _ g5 b') (p11 _ _ _ g11 b') g17 (zr _ _ _ _ r18 b') (zr _ _ _ _ r19 b') l18 l19 n18_19
    refine AllReadyH.turn (d := 20) (OP := .alloc 38) (T := 0) (v := .pointer (some ⟨W.heap.size, 0, none⟩)) (w' := W.alloc (.cells #[.int .i64 0, .bool false] 38)) rfl rfl rfl rfl (by rfl) (by go_simp <;> rfl) (hS _ (hb.trans ((za W).mono hb.size))) ?_ ?_
    · exact h2012_ v5 v11 B18 B19 W.heap.size _ (hb.trans ((za W).mono hb.size)) (p5 _ _ _ g5 (za W)) (p11 _ _ _ g11 (za W)) (zr _ _ _ _ r18 (za W)) (zr _ _ _ _ r19 (za W)) (heap_alloc_new W _) l18 l19 hb.size n18_19 (fun e => by have := zl _ _ _ r18; omega) (fun e => by have := zl _ _ _ r19; omega)
    exact AllReadyH.nil
  have h202_ : ∀ (v5 : Value) (v11 : Value) (B18 : Nat) (B20 : Nat) (W : World), Below w0.heap.size w0 W → C5 v5 W → C11 v11 W → W.heap[B18]? = some (.cells #[.int .i64 0, .bool false] 38) → W.heap[B20]? = some (.cells #[.int .i64 0, .bool false] 38) → w0.heap.size ≤ B18 → w0.heap.size ≤ B20 → B18 ≠ B20 → wpAnyH Try.prog .any ops_regR Q S 5 #[true, true, true, true, true, true, true, true, true, true, true, true, true, true, true, true, true, false, true, false, true, false, false, false] ((((a.put (some 92) v5).put (some 98) v11).put (some 18) (.pointer (some ⟨B18, 0, none⟩))).put (some 20) (.pointer (some ⟨B20, 0, none⟩))) W := fun v5 v11 B18 B20 W hb g5 g11 r18 r20 l18 l20 n18_20 => by
    refine wpAnyH_ready (rs := [17, 19]) (by kernel_rfl) (by simp) ?_
    refine AllReadyH.call (d := 104) (f := 12) (args := #[x17_0, x17_1]) (OP := .call { callee := .value (.func 12), args := #[.tmp 99, .tmp 103], argTypes := #[29, 9] }) (T := 38) rfl rfl rfl rfl (by rfl) (by have h0 := e17_0; have h1 := e17_1; simp [Act.eval, go_sem] at h0 h1; simp [execOp, resolve, invoke, go_sem, h0, h1]) ?_ ?_
    · refine (c17 W hb).mono ?_
      rintro e w' ⟨v17, rfl, g17, b'⟩
      have hb' := hb.trans (b'.mono hb.size)
      refine ⟨_, rfl, hS _ hb', ?_⟩
      rw [put_comm (show 20 ≠ 104 by decide), put_comm (show 18 ≠ 104 by decide)]
      exact h302_ v5 v11 v17 B18 B20 w' hb' (p5 _ _ _ g5 b') (p11 _ _ _ g11 b') g17 (zr _ _ _ _ r18 b') (zr _ _ _ _ r20 b') l18 l20 n18_20
    refine AllReadyH.turn (d := 19) (OP := .alloc 38) (T := 0) (v := .pointer (some ⟨W.heap.size, 0, none⟩)) (w' := W.alloc (.cells #[.int .i64 0, .bool false] 38)) rfl rfl rfl rfl (by rfl) (by go_simp <;> rfl) (hS _ (hb.trans ((za W).mono hb.size))) ?_ ?_
    · rw [put_comm (show 20 ≠ 19 by decide)]
      exact h2012_ v5 v11 B18 W.heap.size B20 _ (hb.trans ((za W).mono hb.size)) (p5 _ _ _ g5 (za W)) (p11 _ _ _ g11 (za W)) (zr _ _ _ _ r18 (za W)) (heap_alloc_new W _) (zr _ _ _ _ r20 (za W)) l18 hb.size l20 (fun e => by have := zl _ _ _ r18; omega) n18_20 (fun e => by have := zl _ _ _ r20; omega)
    exact AllReadyH.nil
  have h212_ : ∀ (v5 : Value) (v11 : Value) (B19 : Nat) (B20 : Nat) (W : World), Below w0.heap.size w0 W → C5 v5 W → C11 v11 W → W.heap[B19]? = some (.cells #[.int .i64 0, .bool false] 38) → W.heap[B20]? = some (.cells #[.int .i64 0, .bool false] 38) → w0.heap.size ≤ B19 → w0.heap.size ≤ B20 → B19 ≠ B20 → wpAnyH Try.prog .any ops_regR Q S 5 #[true, true, true, true, true, true, true, true, true, true, true, true, true, true, true, true, true, false, false, true, true, false, false, false] ((((a.put (some 92) v5).put (some 98) v11).put (some 19) (.pointer (some ⟨B19, 0, none⟩))).put (some 20) (.pointer (some ⟨B20, 0, none⟩))) W := fun v5 v11 B19 B20 W hb g5 g11 r19 r20 l19 l20 n19_20 => by
    refine wpAnyH_ready (rs := [17, 18]) (by kernel_rfl) (by simp) ?_
    refine AllReadyH.call (d := 104) (f := 12) (args := #[x17_0, x17_1]) (OP := .call { callee := .value (.func 12), args := #[.tmp 99, .tmp 103], argTypes := #[29, 9] }) (T := 38) rfl rfl rfl rfl (by rfl) (by have h0 := e17_0; have h1 := e17_1; simp [Act.eval, go_sem] at h0 h1; simp [execOp, resolve, invoke, go_sem, h0, h1]) ?_ ?_
    · refine (c17 W hb).mono ?_
      rintro e w' ⟨v17, rfl, g17, b'⟩
      have hb' := hb.trans (b'.mono hb.size)
      refine ⟨_, rfl, hS _ hb', ?_⟩
      rw [put_comm (show 20 ≠ 104 by decide), put_comm (show 19 ≠ 104 by decide)]
      exact h312_ v5 v11 v17 B19 B20 w' hb' (p5 _ _ _ g5 b') (p11 _ _ _ g11 b') g17 (zr _ _ _ _ r19 b') (zr _ _ _ _ r20 b') l19 l20 n19_20
    refine AllReadyH.turn (d := 18) (OP := .alloc 38) (T := 0) (v := .pointer (some ⟨W.heap.size, 0, none⟩)) (w' := W.alloc (.cells #[.int .i64 0, .bool false] 38)) rfl rfl rfl rfl (by rfl) (by go_simp <;> rfl) (hS _ (hb.trans ((za W).mono hb.size))) ?_ ?_
    · rw [put_comm (show 20 ≠ 18 by decide), put_comm (show 19 ≠ 18 by decide)]
      exact h2012_ v5 v11 W.heap.size B19 B20 _ (hb.trans ((za W).mono hb.size)) (p5 _ _ _ g5 (za W)) (p11 _ _ _ g11 (za W)) (heap_alloc_new W _) (zr _ _ _ _ r19 (za W)) (zr _ _ _ _ r20 (za W)) hb.size l19 l20 (fun e => by have := zl _ _ _ r19; omega) (fun e => by have := zl _ _ _ r20; omega) n19_20
    exact AllReadyH.nil
  have h1012_ : ∀ (v5 : Value) (B18 : Nat) (B19 : Nat) (B20 : Nat) (W : World), Below w0.heap.size w0 W → C5 v5 W → W.heap[B18]? = some (.cells #[.int .i64 0, .bool false] 38) → W.heap[B19]? = some (.cells #[.int .i64 0, .bool false] 38) → W.heap[B20]? = some (.cells #[.int .i64 0, .bool false] 38) → w0.heap.size ≤ B18 → w0.heap.size ≤ B19 → w0.heap.size ≤ B20 → B18 ≠ B19 → B18 ≠ B20 → B19 ≠ B20 → wpAnyH Try.prog .any ops_regR Q S 5 #[true, true, true, true, true, true, true, true, true, true, true, false, true, true, true, true, true, false, true, true, true, false, false, false] ((((a.put (some 92) v5).put (some 18) (.pointer (some ⟨B18, 0, none⟩))).put (some 19) (.pointer (some ⟨B19, 0, none⟩))).put (some 20) (.pointer (some ⟨B20, 0, none⟩))) W := fun v5 B18 B19 B20 W hb g5 r18 r19 r20 l18 l19 l20 n18_19 n18_20 n19_20 => by
    refine wpAnyH_ready (rs := [11]) (by kernel_rfl) (by simp) ?_
    refine AllReadyH.call (d := 98) (f := 12) (args := #[x11_0, x11_1]) (OP := .call { callee := .value (.func 12), args := #[.tmp 93, .tmp 97], argTypes := #[29, 9] }) (T := 38) rfl rfl rfl rfl (by rfl) (by have h0 := e11_0; have h1 := e11_1; simp [Act.eval, go_sem] at h0 h1; simp [execOp, resolve, invoke, go_sem, h0, h1]) ?_ ?_
    · refine (c11 W hb).mono ?_
      rintro e w' ⟨v11, rfl, g11, b'⟩
      have hb' := hb.trans (b'.mono hb.size)
      refine ⟨_, rfl, hS _ hb', ?_⟩
      rw [put_comm (show 20 ≠ 98 by decide), put_comm (show 19 ≠ 98 by decide), put_comm (show 18 ≠ 98 by decide)]
      exact h2012_ v5 v11 B18 B19 B20 w' hb' (p5 _ _ _ g5 b') g11 (zr _ _ _ _ r18 b') (zr _ _ _ _ r19 b') (zr _ _ _ _ r20 b') l18 l19 l20 n18_19 n18_20 n19_20
    exact AllReadyH.nil
  have h3_ : ∀ (v5 : Value) (v11 : Value) (v17 : Value) (W : World), Below w0.heap.size w0 W → C5 v5 W → C11 v11 W → C17 v17 W → wpAnyH Try.prog .any ops_regR Q S 6 #[true, true, true, true, true, true, true, true, true, true, true, true, true, true, true, true, true, true, false, false, false, false, false, false] (((a.put (some 92) v5).put (some 98) v11).put (some 104) v17) W := fun v5 v11 v17 W hb g5 g11 g17 => by
    refine wpAnyH_ready (rs := [18, 19, 20]) (by kernel_rfl) (by simp) ?_
    refine AllReadyH.turn (d := 18) (OP := .alloc 38) (T := 0) (v := .pointer (some ⟨W.heap.size, 0, none⟩)) (w' := W.alloc (.cells #[.int .i64 0, .bool false] 38)) rfl rfl rfl rfl (by rfl) (by go_simp <;> rfl) (hS _ (hb.trans ((za W).mono hb.size))) ?_ ?_
    · exact h30_ v5 v11 v17 W.heap.size _ (hb.trans ((za W).mono hb.size)) (p5 _ _ _ g5 (za W)) (p11 _ _ _ g11 (za W)) (p17 _ _ _ g17 (za W)) (heap_alloc_new W _) hb.size
    refine AllReadyH.turn (d := 19) (OP := .alloc 38) (T := 0) (v := .pointer (some ⟨W.heap.size, 0, none⟩)) (w' := W.alloc (.cells #[.int .i64 0, .bool false] 38)) rfl rfl rfl rfl (by rfl) (by go_simp <;> rfl) (hS _ (hb.trans ((za W).mono hb.size))) ?_ ?_
    · exact h31_ v5 v11 v17 W.heap.size _ (hb.trans ((za W).mono hb.size)) (p5 _ _ _ g5 (za W)) (p11 _ _ _ g11 (za W)) (p17 _ _ _ g17 (za W)) (heap_alloc_new W _) hb.size
    refine AllReadyH.turn (d := 20) (OP := .alloc 38) (T := 0) (v := .pointer (some ⟨W.heap.size, 0, none⟩)) (w' := W.alloc (.cells #[.int .i64 0, .bool false] 38)) rfl rfl rfl rfl (by rfl) (by go_simp <;> rfl) (hS _ (hb.trans ((za W).mono hb.size))) ?_ ?_
    · exact h32_ v5 v11 v17 W.heap.size _ (hb.trans ((za W).mono hb.size)) (p5 _ _ _ g5 (za W)) (p11 _ _ _ g11 (za W)) (p17 _ _ _ g17 (za W)) (heap_alloc_new W _) hb.size
    exact AllReadyH.nil
  have h20_ : ∀ (v5 : Value) (v11 : Value) (B18 : Nat) (W : World), Below w0.heap.size w0 W → C5 v5 W → C11 v11 W → W.heap[B18]? = some (.cells #[.int .i64 0, .bool false] 38) → w0.heap.size ≤ B18 → wpAnyH Try.prog .any ops_regR Q S 6 #[true, true, true, true, true, true, true, true, true, true, true, true, true, true, true, true, true, false, true, false, false, false, false, false] (((a.put (some 92) v5).put (some 98) v11).put (some 18) (.pointer (some ⟨B18, 0, none⟩))) W := fun v5 v11 B18 W hb g5 g11 r18 l18 => by
    refine wpAnyH_ready (rs := [17, 19, 20]) (by kernel_rfl) (by simp) ?_
    refine AllReadyH.call (d := 104) (f := 12) (args := #[x17_0, x17_1]) (OP := .call { callee := .value (.func 12), args := #[.tmp 99, .tmp 103], argTypes := #[29, 9] }) (T := 38) rfl rfl rfl rfl (by rfl) (by have h0 := e17_0; have h1 := e17_1; simp [Act.eval, go_sem] at h0 h1; simp [execOp, resolve, invoke, go_sem, h0, h1]) ?_ ?_
    · refine (c17 W hb).mono ?_
      rintro e w' ⟨v17, rfl, g17, b'⟩
      have hb' := hb.trans (b'.mono hb.size)
      refine ⟨_, rfl, hS _ hb', ?_⟩
      rw [put_comm (show 18 ≠ 104 by decide)]
      exact h30_ v5 v11 v17 B18 w' hb' (p5 _ _ _ g5 b') (p11 _ _ _ g11 b') g17 (zr _ _ _ _ r18 b') l18
    refine AllReadyH.turn (d := 19) (OP := .alloc 38) (T := 0) (v := .pointer (some ⟨W.heap.size, 0, none⟩)) (w' := W.alloc (.cells #[.int .i64 0, .bool false] 38)) rfl rfl rfl rfl (by rfl) (by go_simp <;> rfl) (hS _ (hb.trans ((za W).mono hb.size))) ?_ ?_
    · exact h201_ v5 v11 B18 W.heap.size _ (hb.trans ((za W).mono hb.size)) (p5 _ _ _ g5 (za W)) (p11 _ _ _ g11 (za W)) (zr _ _ _ _ r18 (za W)) (heap_alloc_new W _) l18 hb.size (fun e => by have := zl _ _ _ r18; omega)
    refine AllReadyH.turn (d := 20) (OP := .alloc 38) (T := 0) (v := .pointer (some ⟨W.heap.size, 0, none⟩)) (w' := W.alloc (.cells #[.int .i64 0, .bool false] 38)) rfl rfl rfl rfl (by rfl) (by go_simp <;> rfl) (hS _ (hb.trans ((za W).mono hb.size))) ?_ ?_
    · exact h202_ v5 v11 B18 W.heap.size _ (hb.trans ((za W).mono hb.size)) (p5 _ _ _ g5 (za W)) (p11 _ _ _ g11 (za W)) (zr _ _ _ _ r18 (za W)) (heap_alloc_new W _) l18 hb.size (fun e => by have := zl _ _ _ r18; omega)
    exact AllReadyH.nil
  have h21_ : ∀ (v5 : Value) (v11 : Value) (B19 : Nat) (W : World), Below w0.heap.size w0 W → C5 v5 W → C11 v11 W → W.heap[B19]? = some (.cells #[.int .i64 0, .bool false] 38) → w0.heap.size ≤ B19 → wpAnyH Try.prog .any ops_regR Q S 6 #[true, true, true, true, true, true, true, true, true, true, true, true, true, true, true, true, true, false, false, true, false, false, false, false] (((a.put (some 92) v5).put (some 98) v11).put (some 19) (.pointer (some ⟨B19, 0, none⟩))) W := fun v5 v11 B19 W hb g5 g11 r19 l19 => by
    refine wpAnyH_ready (rs := [17, 18, 20]) (by kernel_rfl) (by simp) ?_
    refine AllReadyH.call (d := 104) (f := 12) (args := #[x17_0, x17_1]) (OP := .call { callee := .value (.func 12), args := #[.tmp 99, .tmp 103], argTypes := #[29, 9] }) (T := 38) rfl rfl rfl rfl (by rfl) (by have h0 := e17_0; have h1 := e17_1; simp [Act.eval, go_sem] at h0 h1; simp [execOp, resolve, invoke, go_sem, h0, h1]) ?_ ?_
    · refine (c17 W hb).mono ?_
      rintro e w' ⟨v17, rfl, g17, b'⟩
      have hb' := hb.trans (b'.mono hb.size)
      refine ⟨_, rfl, hS _ hb', ?_⟩
      rw [put_comm (show 19 ≠ 104 by decide)]
      exact h31_ v5 v11 v17 B19 w' hb' (p5 _ _ _ g5 b') (p11 _ _ _ g11 b') g17 (zr _ _ _ _ r19 b') l19
    refine AllReadyH.turn (d := 18) (OP := .alloc 38) (T := 0) (v := .pointer (some ⟨W.heap.size, 0, none⟩)) (w' := W.alloc (.cells #[.int .i64 0, .bool false] 38)) rfl rfl rfl rfl (by rfl) (by go_simp <;> rfl) (hS _ (hb.trans ((za W).mono hb.size))) ?_ ?_
    · rw [put_comm (show 19 ≠ 18 by decide)]
      exact h201_ v5 v11 W.heap.size B19 _ (hb.trans ((za W).mono hb.size)) (p5 _ _ _ g5 (za W)) (p11 _ _ _ g11 (za W)) (heap_alloc_new W _) (zr _ _ _ _ r19 (za W)) hb.size l19 (fun e => by have := zl _ _ _ r19; omega)
    refine AllReadyH.turn (d := 20) (OP := .alloc 38) (T := 0) (v := .pointer (some ⟨W.heap.size, 0, none⟩)) (w' := W.alloc (.cells #[.int .i64 0, .bool false] 38)) rfl rfl rfl rfl (by rfl) (by go_simp <;> rfl) (hS _ (hb.trans ((za W).mono hb.size))) ?_ ?_
    · exact h212_ v5 v11 B19 W.heap.size _ (hb.trans ((za W).mono hb.size)) (p5 _ _ _ g5 (za W)) (p11 _ _ _ g11 (za W)) (zr _ _ _ _ r19 (za W)) (heap_alloc_new W _) l19 hb.size (fun e => by have := zl _ _ _ r19; omega)
    exact AllReadyH.nil
  have h22_ : ∀ (v5 : Value) (v11 : Value) (B20 : Nat) (W : World), Below w0.heap.size w0 W → C5 v5 W → C11 v11 W → W.heap[B20]? = some (.cells #[.int .i64 0, .bool false] 38) → w0.heap.size ≤ B20 → wpAnyH Try.prog .any ops_regR Q S 6 #[true, true, true, true, true, true, true, true, true, true, true, true, true, true, true, true, true, false, false, false, true, false, false, false] (((a.put (some 92) v5).put (some 98) v11).put (some 20) (.pointer (some ⟨B20, 0, none⟩))) W := fun v5 v11 B20 W hb g5 g11 r20 l20 => by
    refine wpAnyH_ready (rs := [17, 18, 19]) (by kernel_rfl) (by simp) ?_
    refine AllReadyH.call (d := 104) (f := 12) (args := #[x17_0, x17_1]) (OP := .call { callee := .value (.func 12), args := #[.tmp 99, .tmp 103], argTypes := #[29, 9] }) (T := 38) rfl rfl rfl rfl (by rfl) (by have h0 := e17_0; have h1 := e17_1; simp [Act.eval, go_sem] at h0 h1; simp [execOp, resolve, invoke, go_sem, h0, h1]) ?_ ?_
    · refine (c17 W hb).mono ?_
      rintro e w' ⟨v17, rfl, g17, b'⟩
      have hb' := hb.trans (b'.mono hb.size)
      refine ⟨_, rfl, hS _ hb', ?_⟩
      rw [put_comm (show 20 ≠ 104 by decide)]
      exact h32_ v5 v11 v17 B20 w' hb' (p5 _ _ _ g5 b') (p11 _ _ _ g11 b') g17 (zr _ _ _ _ r20 b') l20
    refine AllReadyH.turn (d := 18) (OP := .alloc 38) (T := 0) (v := .pointer (some ⟨W.heap.size, 0, none⟩)) (w' := W.alloc (.cells #[.int .i64 0, .bool false] 38)) rfl rfl rfl rfl (by rfl) (by go_simp <;> rfl) (hS _ (hb.trans ((za W).mono hb.size))) ?_ ?_
    · rw [put_comm (show 20 ≠ 18 by decide)]
      exact h202_ v5 v11 W.heap.size B20 _ (hb.trans ((za W).mono hb.size)) (p5 _ _ _ g5 (za W)) (p11 _ _ _ g11 (za W)) (heap_alloc_new W _) (zr _ _ _ _ r20 (za W)) hb.size l20 (fun e => by have := zl _ _ _ r20; omega)
    refine AllReadyH.turn (d := 19) (OP := .alloc 38) (T := 0) (v := .pointer (some ⟨W.heap.size, 0, none⟩)) (w' := W.alloc (.cells #[.int .i64 0, .bool false] 38)) rfl rfl rfl rfl (by rfl) (by go_simp <;> rfl) (hS _ (hb.trans ((za W).mono hb.size))) ?_ ?_
    · rw [put_comm (show 20 ≠ 19 by decide)]
      exact h212_ v5 v11 W.heap.size B20 _ (hb.trans ((za W).mono hb.size)) (p5 _ _ _ g5 (za W)) (p11 _ _ _ g11 (za W)) (heap_alloc_new W _) (zr _ _ _ _ r20 (za W)) hb.size l20 (fun e => by have := zl _ _ _ r20; omega)
    exact AllReadyH.nil
  have h101_ : ∀ (v5 : Value) (B18 : Nat) (B19 : Nat) (W : World), Below w0.heap.size w0 W → C5 v5 W → W.heap[B18]? = some (.cells #[.int .i64 0, .bool false] 38) → W.heap[B19]? = some (.cells #[.int .i64 0, .bool false] 38) → w0.heap.size ≤ B18 → w0.heap.size ≤ B19 → B18 ≠ B19 → wpAnyH Try.prog .any ops_regR Q S 6 #[true, true, true, true, true, true, true, true, true, true, true, false, true, true, true, true, true, false, true, true, false, false, false, false] (((a.put (some 92) v5).put (some 18) (.pointer (some ⟨B18, 0, none⟩))).put (some 19) (.pointer (some ⟨B19, 0, none⟩))) W := fun v5 B18 B19 W hb g5 r18 r19 l18 l19 n18_19 => by
    refine wpAnyH_ready (rs := [11, 20]) (by kernel_rfl) (by simp) ?_
    refine AllReadyH.call (d := 98) (f := 12) (args := #[x11_0, x11_1]) (OP := .call { callee := .value (.func 12), args := #[.tmp 93, .tmp 97], argTypes := #[29, 9] }) (T := 38) rfl rfl rfl rfl (by rfl) (by have h0 := e11_0; have h1 := e11_1; simp [Act.eval, go_sem] at h0 h1; simp [execOp, resolve, invoke, go_sem, h0, h1]) ?_ ?_
    · refine (c11 W hb).mono ?_
      rintro e w' ⟨v11, rfl, g11, b'⟩
      have hb' := hb.trans (b'.mono hb.size)
      refine ⟨_, rfl, hS _ hb', ?_⟩
      rw [put_comm (show 19 ≠ 98 by decide), put_comm (show 18 ≠ 98 by decide)]
      exact h201_ v5 v11 B18 B19 w' hb' (p5 _ _ _ g5 b') g11 (zr _ _ _ _ r18 b') (zr _ _ _ _ r19 b') l18 l19 n18_19
    refine AllReadyH.turn (d := 20) (OP := .alloc 38) (T := 0) (v := .pointer (some ⟨W.heap.size, 0, none⟩)) (w' := W.alloc (.cells #[.int .i64 0, .bool false] 38)) rfl rfl rfl rfl (by rfl) (by go_simp <;> rfl) (hS _ (hb.trans ((za W).mono hb.size))) ?_ ?_
    · exact h1012_ v5 B18 B19 W.heap.size _ (hb.trans ((za W).mono hb.size)) (p5 _ _ _ g5 (za W)) (zr _ _ _ _ r18 (za W)) (zr _ _ _ _ r19 (za W)) (heap_alloc_new W _) l18 l19 hb.size n18_19 (fun e => by have := zl _ _ _ r18; omega) (fun e => by have := zl _ _ _ r19; omega)
    exact AllReadyH.nil
  have h102_ : ∀ (v5 : Value) (B18 : Nat) (B20 : Nat) (W : World), Below w0.heap.size w0 W → C5 v5 W → W.heap[B18]? = some (.cells #[.int .i64 0, .bool false] 38) → W.heap[B20]? = some (.cells #[.int .i64 0, .bool false] 38) → w0.heap.size ≤ B18 → w0.heap.size ≤ B20 → B18 ≠ B20 → wpAnyH Try.prog .any ops_regR Q S 6 #[true, true, true, true, true, true, true, true, true, true, true, false, true, true, true, true, true, false, true, false, true, false, false, false] (((a.put (some 92) v5).put (some 18) (.pointer (some ⟨B18, 0, none⟩))).put (some 20) (.pointer (some ⟨B20, 0, none⟩))) W := fun v5 B18 B20 W hb g5 r18 r20 l18 l20 n18_20 => by
    refine wpAnyH_ready (rs := [11, 19]) (by kernel_rfl) (by simp) ?_
    refine AllReadyH.call (d := 98) (f := 12) (args := #[x11_0, x11_1]) (OP := .call { callee := .value (.func 12), args := #[.tmp 93, .tmp 97], argTypes := #[29, 9] }) (T := 38) rfl rfl rfl rfl (by rfl) (by have h0 := e11_0; have h1 := e11_1; simp [Act.eval, go_sem] at h0 h1; simp [execOp, resolve, invoke, go_sem, h0, h1]) ?_ ?_
    · refine (c11 W hb).mono ?_
      rintro e w' ⟨v11, rfl, g11, b'⟩
      have hb' := hb.trans (b'.mono hb.size)
      refine ⟨_, rfl, hS _ hb', ?_⟩
      rw [put_comm (show 20 ≠ 98 by decide), put_comm (show 18 ≠ 98 by decide)]
      exact h202_ v5 v11 B18 B20 w' hb' (p5 _ _ _ g5 b') g11 (zr _ _ _ _ r18 b') (zr _ _ _ _ r20 b') l18 l20 n18_20
    refine AllReadyH.turn (d := 19) (OP := .alloc 38) (T := 0) (v := .pointer (some ⟨W.heap.size, 0, none⟩)) (w' := W.alloc (.cells #[.int .i64 0, .bool false] 38)) rfl rfl rfl rfl (by rfl) (by go_simp <;> rfl) (hS _ (hb.trans ((za W).mono hb.size))) ?_ ?_
    · rw [put_comm (show 20 ≠ 19 by decide)]
      exact h1012_ v5 B18 W.heap.size B20 _ (hb.trans ((za W).mono hb.size)) (p5 _ _ _ g5 (za W)) (zr _ _ _ _ r18 (za W)) (heap_alloc_new W _) (zr _ _ _ _ r20 (za W)) l18 hb.size l20 (fun e => by have := zl _ _ _ r18; omega) n18_20 (fun e => by have := zl _ _ _ r20; omega)
    exact AllReadyH.nil
  have h112_ : ∀ (v5 : Value) (B19 : Nat) (B20 : Nat) (W : World), Below w0.heap.size w0 W → C5 v5 W → W.heap[B19]? = some (.cells #[.int .i64 0, .bool false] 38) → W.heap[B20]? = some (.cells #[.int .i64 0, .bool false] 38) → w0.heap.size ≤ B19 → w0.heap.size ≤ B20 → B19 ≠ B20 → wpAnyH Try.prog .any ops_regR Q S 6 #[true, true, true, true, true, true, true, true, true, true, true, false, true, true, true, true, true, false, false, true, true, false, false, false] (((a.put (some 92) v5).put (some 19) (.pointer (some ⟨B19, 0, none⟩))).put (some 20) (.pointer (some ⟨B20, 0, none⟩))) W := fun v5 B19 B20 W hb g5 r19 r20 l19 l20 n19_20 => by
    refine wpAnyH_ready (rs := [11, 18]) (by kernel_rfl) (by simp) ?_
    refine AllReadyH.call (d := 98) (f := 12) (args := #[x11_0, x11_1]) (OP := .call { callee := .value (.func 12), args := #[.tmp 93, .tmp 97], argTypes := #[29, 9] }) (T := 38) rfl rfl rfl rfl (by rfl) (by have h0 := e11_0; have h1 := e11_1; simp [Act.eval, go_sem] at h0 h1; simp [execOp, resolve, invoke, go_sem, h0, h1]) ?_ ?_
    · refine (c11 W hb).mono ?_
      rintro e w' ⟨v11, rfl, g11, b'⟩
      have hb' := hb.trans (b'.mono hb.size)
      refine ⟨_, rfl, hS _ hb', ?_⟩
      rw [put_comm (show 20 ≠ 98 by decide), put_comm (show 19 ≠ 98 by decide)]
      exact h212_ v5 v11 B19 B20 w' hb' (p5 _ _ _ g5 b') g11 (zr _ _ _ _ r19 b') (zr _ _ _ _ r20 b') l19 l20 n19_20
    refine AllReadyH.turn (d := 18) (OP := .alloc 38) (T := 0) (v := .pointer (some ⟨W.heap.size, 0, none⟩)) (w' := W.alloc (.cells #[.int .i64 0, .bool false] 38)) rfl rfl rfl rfl (by rfl) (by go_simp <;> rfl) (hS _ (hb.trans ((za W).mono hb.size))) ?_ ?_
    · rw [put_comm (show 20 ≠ 18 by decide), put_comm (show 19 ≠ 18 by decide)]
      exact h1012_ v5 W.heap.size B19 B20 _ (hb.trans ((za W).mono hb.size)) (p5 _ _ _ g5 (za W)) (heap_alloc_new W _) (zr _ _ _ _ r19 (za W)) (zr _ _ _ _ r20 (za W)) hb.size l19 l20 (fun e => by have := zl _ _ _ r19; omega) (fun e => by have := zl _ _ _ r20; omega) n19_20
    exact AllReadyH.nil
  have h0012_ : ∀ (B18 : Nat) (B19 : Nat) (B20 : Nat) (W : World), Below w0.heap.size w0 W → W.heap[B18]? = some (.cells #[.int .i64 0, .bool false] 38) → W.heap[B19]? = some (.cells #[.int .i64 0, .bool false] 38) → W.heap[B20]? = some (.cells #[.int .i64 0, .bool false] 38) → w0.heap.size ≤ B18 → w0.heap.size ≤ B19 → w0.heap.size ≤ B20 → B18 ≠ B19 → B18 ≠ B20 → B19 ≠ B20 → wpAnyH Try.prog .any ops_regR Q S 6 #[true, true, true, true, true, false, true, true, true, true, true, false, true, true, true, true, true, false, true, true, true, false, false, false] (((a.put (some 18) (.pointer (some ⟨B18, 0, none⟩))).put (some 19) (.pointer (some ⟨B19, 0, none⟩))).put (some 20) (.pointer (some ⟨B20, 0, none⟩))) W := fun B18 B19 B20 W hb r18 r19 r20 l18 l19 l20 n18_19 n18_20 n19_20 => by
    refine wpAnyH_ready (rs := [5]) (by kernel_rfl) (by simp) ?_
    refine AllReadyH.call (d := 92) (f := 12) (args := #[x5_0, x5_1]) (OP := .call { callee := .value (.func 12), args := #[.tmp 87, .tmp 91], argTypes := #[29, 9] }) (T := 38) rfl rfl rfl rfl (by rfl) (by have h0 := e5_0; have h1 := e5_1; simp [Act.eval, go_sem] at h0 h1; simp [execOp, resolve, invoke, go_sem, h0, h1]) ?_ ?_
    · refine (c5 W hb).mono ?_
      rintro e w' ⟨v5, rfl, g5, b'⟩
      have hb' := hb.trans (b'.mono hb.size)
      refine ⟨_, rfl, hS _ hb', ?_⟩
      rw [put_comm (show 20 ≠ 92 by decide), put_comm (show 19 ≠ 92 by decide), put_comm (show 18 ≠ 92 by decide)]
      exact h1012_ v5 B18 B19 B20 w' hb' g5 (zr _ _ _ _ r18 b') (zr _ _ _ _ r19 b') (zr _ _ _ _ r20 b') l18 l19 l20 n18_19 n18_20 n19_20
    exact AllReadyH.nil
  have h2_ : ∀ (v5 : Value) (v11 : Value) (W : World), Below w0.heap.size w0 W → C5 v5 W → C11 v11 W → wpAnyH Try.prog .any ops_regR Q S 7 #[true, true, true, true, true, true, true, true, true, true, true, true, true, true, true, true, true, false, false, false, false, false, false, false] ((a.put (some 92) v5).put (some 98) v11) W := fun v5 v11 W hb g5 g11 => by
    refine wpAnyH_ready (rs := [17, 18, 19, 20]) (by kernel_rfl) (by simp) ?_
    refine AllReadyH.call (d := 104) (f := 12) (args := #[x17_0, x17_1]) (OP := .call { callee := .value (.func 12), args := #[.tmp 99, .tmp 103], argTypes := #[29, 9] }) (T := 38) rfl rfl rfl rfl (by rfl) (by have h0 := e17_0; have h1 := e17_1; simp [Act.eval, go_sem] at h0 h1; simp [execOp, resolve, invoke, go_sem, h0, h1]) ?_ ?_
    · refine (c17 W hb).mono ?_
      rintro e w' ⟨v17, rfl, g17, b'⟩
      have hb' := hb.trans (b'.mono hb.size)
      refine ⟨_, rfl, hS _ hb', ?_⟩
      exact h3_ v5 v11 v17 w' hb' (p5 _ _ _ g5 b') (p11 _ _ _ g11 b') g17
    refine AllReadyH.turn (d := 18) (OP := .alloc 38) (T := 0) (v := .pointer (some ⟨W.heap.size, 0, none⟩)) (w' := W.alloc (.cells #[.int .i64 0, .bool false] 38)) rfl rfl rfl rfl (by rfl) (by go_simp <;> rfl) (hS _ (hb.trans ((za W).mono hb.size))) ?_ ?_
    · exact h20_ v5 v11 W.heap.size _ (hb.trans ((za W).mono hb.size)) (p5 _ _ _ g5 (za W)) (p11 _ _ _ g11 (za W)) (heap_alloc_new W _) hb.size
    refine AllReadyH.turn (d := 19) (OP := .alloc 38) (T := 0) (v := .pointer (some ⟨W.heap.size, 0, none⟩)) (w' := W.alloc (.cells #[.int .i64 0, .bool false] 38)) rfl rfl rfl rfl (by rfl) (by go_simp <;> rfl) (hS _ (hb.trans ((za W).mono hb.size))) ?_ ?_
    · exact h21_ v5 v11 W.heap.size _ (hb.trans ((za W).mono hb.size)) (p5 _ _ _ g5 (za W)) (p11 _ _ _ g11 (za W)) (heap_alloc_new W _) hb.size
    refine AllReadyH.turn (d := 20) (OP := .alloc 38) (T := 0) (v := .pointer (some ⟨W.heap.size, 0, none⟩)) (w' := W.alloc (.cells #[.int .i64 0, .bool false] 38)) rfl rfl rfl rfl (by rfl) (by go_simp <;> rfl) (hS _ (hb.trans ((za W).mono hb.size))) ?_ ?_
    · exact h22_ v5 v11 W.heap.size _ (hb.trans ((za W).mono hb.size)) (p5 _ _ _ g5 (za W)) (p11 _ _ _ g11 (za W)) (heap_alloc_new W _) hb.size
    exact AllReadyH.nil
  have h10_ : ∀ (v5 : Value) (B18 : Nat) (W : World), Below w0.heap.size w0 W → C5 v5 W → W.heap[B18]? = some (.cells #[.int .i64 0, .bool false] 38) → w0.heap.size ≤ B18 → wpAnyH Try.prog .any ops_regR Q S 7 #[true, true, true, true, true, true, true, true, true, true, true, false, true, true, true, true, true, false, true, false, false, false, false, false] ((a.put (some 92) v5).put (some 18) (.pointer (some ⟨B18, 0, none⟩))) W := fun v5 B18 W hb g5 r18 l18 => by
    refine wpAnyH_ready (rs := [11, 19, 20]) (by kernel_rfl) (by simp) ?_
    refine AllReadyH.call (d := 98) (f := 12) (args := #[x11_0, x11_1]) (OP := .call { callee := .value (.func 12), args := #[.tmp 93, .tmp 97], argTypes := #[29, 9] }) (T := 38) rfl rfl rfl rfl (by rfl) (by have h0 := e11_0; have h1 := e11_1; simp [Act.eval, go_sem] at h0 h1; simp [execOp, resolve, invoke, go_sem, h0, h1]) ?_ ?_
    · refine (c11 W hb).mono ?_
      rintro e w' ⟨v11, rfl, g11, b'⟩
      have hb' := hb.trans (b'.mono hb.size)
      refine ⟨_, rfl, hS _ hb', ?_⟩
      rw [put_comm (show 18 ≠ 98 by decide)]
      exact h20_ v5 v11 B18 w' hb' (p5 _ _ _ g5 b') g11 (zr _ _ _ _ r18 b') l18
    refine AllReadyH.turn (d := 19) (OP := .alloc 38) (T := 0) (v := .pointer (some ⟨W.heap.size, 0, none⟩)) (w' := W.alloc (.cells #[.int .i64 0, .bool false] 38)) rfl rfl rfl rfl (by rfl) (by go_simp <;> rfl) (hS _ (hb.trans ((za W).mono hb.size))) ?_ ?_
    · exact h101_ v5 B18 W.heap.size _ (hb.trans ((za W).mono hb.size)) (p5 _ _ _ g5 (za W)) (zr _ _ _ _ r18 (za W)) (heap_alloc_new W _) l18 hb.size (fun e => by have := zl _ _ _ r18; omega)
    refine AllReadyH.turn (d := 20) (OP := .alloc 38) (T := 0) (v := .pointer (some ⟨W.heap.size, 0, none⟩)) (w' := W.alloc (.cells #[.int .i64 0, .bool false] 38)) rfl rfl rfl rfl (by rfl) (by go_simp <;> rfl) (hS _ (hb.trans ((za W).mono hb.size))) ?_ ?_
    · exact h102_ v5 B18 W.heap.size _ (hb.trans ((za W).mono hb.size)) (p5 _ _ _ g5 (za W)) (zr _ _ _ _ r18 (za W)) (heap_alloc_new W _) l18 hb.size (fun e => by have := zl _ _ _ r18; omega)
    exact AllReadyH.nil
  have h11_ : ∀ (v5 : Value) (B19 : Nat) (W : World), Below w0.heap.size w0 W → C5 v5 W → W.heap[B19]? = some (.cells #[.int .i64 0, .bool false] 38) → w0.heap.size ≤ B19 → wpAnyH Try.prog .any ops_regR Q S 7 #[true, true, true, true, true, true, true, true, true, true, true, false, true, true, true, true, true, false, false, true, false, false, false, false] ((a.put (some 92) v5).put (some 19) (.pointer (some ⟨B19, 0, none⟩))) W := fun v5 B19 W hb g5 r19 l19 => by
    refine wpAnyH_ready (rs := [11, 18, 20]) (by kernel_rfl) (by simp) ?_
    refine AllReadyH.call (d := 98) (f := 12) (args := #[x11_0, x11_1]) (OP := .call { callee := .value (.func 12), args := #[.tmp 93, .tmp 97], argTypes := #[29, 9] }) (T := 38) rfl rfl rfl rfl (by rfl) (by have h0 := e11_0; have h1 := e11_1; simp [Act.eval, go_sem] at h0 h1; simp [execOp, resolve, invoke, go_sem, h0, h1]) ?_ ?_
    · refine (c11 W hb).mono ?_
      rintro e w' ⟨v11, rfl, g11, b'⟩
      have hb' := hb.trans (b'.mono hb.size)
      refine ⟨_, rfl, hS _ hb', ?_⟩
      rw [put_comm (show 19 ≠ 98 by decide)]
      exact h21_ v5 v11 B19 w' hb' (p5 _ _ _ g5 b') g11 (zr _ _ _ _ r19 b') l19
    refine AllReadyH.turn (d := 18) (OP := .alloc 38) (T := 0) (v := .pointer (some ⟨W.heap.size, 0, none⟩)) (w' := W.alloc (.cells #[.int .i64 0, .bool false] 38)) rfl rfl rfl rfl (by rfl) (by go_simp <;> rfl) (hS _ (hb.trans ((za W).mono hb.size))) ?_ ?_
    · rw [put_comm (show 19 ≠ 18 by decide)]
      exact h101_ v5 W.heap.size B19 _ (hb.trans ((za W).mono hb.size)) (p5 _ _ _ g5 (za W)) (heap_alloc_new W _) (zr _ _ _ _ r19 (za W)) hb.size l19 (fun e => by have := zl _ _ _ r19; omega)
    refine AllReadyH.turn (d := 20) (OP := .alloc 38) (T := 0) (v := .pointer (some ⟨W.heap.size, 0, none⟩)) (w' := W.alloc (.cells #[.int .i64 0, .bool false] 38)) rfl rfl rfl rfl (by rfl) (by go_simp <;> rfl) (hS _ (hb.trans ((za W).mono hb.size))) ?_ ?_
    · exact h112_ v5 B19 W.heap.size _ (hb.trans ((za W).mono hb.size)) (p5 _ _ _ g5 (za W)) (zr _ _ _ _ r19 (za W)) (heap_alloc_new W _) l19 hb.size (fun e => by have := zl _ _ _ r19; omega)
    exact AllReadyH.nil
  have h12_ : ∀ (v5 : Value) (B20 : Nat) (W : World), Below w0.heap.size w0 W → C5 v5 W → W.heap[B20]? = some (.cells #[.int .i64 0, .bool false] 38) → w0.heap.size ≤ B20 → wpAnyH Try.prog .any ops_regR Q S 7 #[true, true, true, true, true, true, true, true, true, true, true, false, true, true, true, true, true, false, false, false, true, false, false, false] ((a.put (some 92) v5).put (some 20) (.pointer (some ⟨B20, 0, none⟩))) W := fun v5 B20 W hb g5 r20 l20 => by
    refine wpAnyH_ready (rs := [11, 18, 19]) (by kernel_rfl) (by simp) ?_
    refine AllReadyH.call (d := 98) (f := 12) (args := #[x11_0, x11_1]) (OP := .call { callee := .value (.func 12), args := #[.tmp 93, .tmp 97], argTypes := #[29, 9] }) (T := 38) rfl rfl rfl rfl (by rfl) (by have h0 := e11_0; have h1 := e11_1; simp [Act.eval, go_sem] at h0 h1; simp [execOp, resolve, invoke, go_sem, h0, h1]) ?_ ?_
    · refine (c11 W hb).mono ?_
      rintro e w' ⟨v11, rfl, g11, b'⟩
      have hb' := hb.trans (b'.mono hb.size)
      refine ⟨_, rfl, hS _ hb', ?_⟩
      rw [put_comm (show 20 ≠ 98 by decide)]
      exact h22_ v5 v11 B20 w' hb' (p5 _ _ _ g5 b') g11 (zr _ _ _ _ r20 b') l20
    refine AllReadyH.turn (d := 18) (OP := .alloc 38) (T := 0) (v := .pointer (some ⟨W.heap.size, 0, none⟩)) (w' := W.alloc (.cells #[.int .i64 0, .bool false] 38)) rfl rfl rfl rfl (by rfl) (by go_simp <;> rfl) (hS _ (hb.trans ((za W).mono hb.size))) ?_ ?_
    · rw [put_comm (show 20 ≠ 18 by decide)]
      exact h102_ v5 W.heap.size B20 _ (hb.trans ((za W).mono hb.size)) (p5 _ _ _ g5 (za W)) (heap_alloc_new W _) (zr _ _ _ _ r20 (za W)) hb.size l20 (fun e => by have := zl _ _ _ r20; omega)
    refine AllReadyH.turn (d := 19) (OP := .alloc 38) (T := 0) (v := .pointer (some ⟨W.heap.size, 0, none⟩)) (w' := W.alloc (.cells #[.int .i64 0, .bool false] 38)) rfl rfl rfl rfl (by rfl) (by go_simp <;> rfl) (hS _ (hb.trans ((za W).mono hb.size))) ?_ ?_
    · rw [put_comm (show 20 ≠ 19 by decide)]
      exact h112_ v5 W.heap.size B20 _ (hb.trans ((za W).mono hb.size)) (p5 _ _ _ g5 (za W)) (heap_alloc_new W _) (zr _ _ _ _ r20 (za W)) hb.size l20 (fun e => by have := zl _ _ _ r20; omega)
    exact AllReadyH.nil
  have h001_ : ∀ (B18 : Nat) (B19 : Nat) (W : World), Below w0.heap.size w0 W → W.heap[B18]? = some (.cells #[.int .i64 0, .bool false] 38) → W.heap[B19]? = some (.cells #[.int .i64 0, .bool false] 38) → w0.heap.size ≤ B18 → w0.heap.size ≤ B19 → B18 ≠ B19 → wpAnyH Try.prog .any ops_regR Q S 7 #[true, true, true, true, true, false, true, true, true, true, true, false, true, true, true, true, true, false, true, true, false, false, false, false] ((a.put (some 18) (.pointer (some ⟨B18, 0, none⟩))).put (some 19) (.pointer (some ⟨B19, 0, none⟩))) W := fun B18 B19 W hb r18 r19 l18 l19 n18_19 => by
    refine wpAnyH_ready (rs := [5, 20]) (by kernel_rfl) (by simp) ?_
    refine AllReadyH.call (d := 92) (f := 12) (args := #[x5_0, x5_1]) (OP := .call { callee := .value (.func 12), args := #[.tmp 87, .tmp 91], argTypes := #[29, 9] }) (T := 38) rfl rfl rfl rfl (by rfl) (by have h0 := e5_0; have h1 := e5_1; simp [Act.eval, go_sem] at h0 h1; simp [execOp, resolve, invoke, go_sem, h0, h1]) ?_ ?_
    · refine (c5 W hb).mono ?_
      rintro e w' ⟨v5, rfl, g5, b'⟩
      have hb' := hb.trans (b'.mono hb.size)
      refine ⟨_, rfl, hS _ hb', ?_⟩
      rw [put_comm (show 19 ≠ 92 by decide), put_comm (show 18 ≠ 92 by decide)]
      exact h101_ v5 B18 B19 w' hb' g5 (zr _ _ _ _ r18 b') (zr _ _ _ _ r19 b') l18 l19 n18_19
    refine AllReadyH.turn (d := 20) (OP := .alloc 38) (T := 0) (v := .pointer (some ⟨W.heap.size, 0, none⟩)) (w' := W.alloc (.cells #[.int .i64 0, .bool false] 38)) rfl rfl rfl rfl (by rfl) (by go_simp <;> rfl) (hS _ (hb.trans ((za W).mono hb.size))) ?_ ?_
    · exact h0012_ B18 B19 W.heap.size _ (hb.trans ((za W).mono hb.size)) (zr _ _ _ _ r18 (za W)) (zr _ _ _ _ r19 (za W)) (heap_alloc_new W _) l18 l19 hb.size n18_19 (fun e => by have := zl _ _ _ r18; omega) (fun e => by have := zl _ _ _ r19; omega)
    exact AllReadyH.nil
  have h002_ : ∀ (B18 : Nat) (B20 : Nat) (W : World), Below w0.heap.size w0 W → W.heap[B18]? = some (.cells #[.int .i64 0, .bool false] 38) → W.heap[B20]? = some (.cells #[.int .i64 0, .bool false] 38) → w0.heap.size ≤ B18 → w0.heap.size ≤ B20 → B18 ≠ B20 → wpAnyH Try.prog .any ops_regR Q S 7 #[true, true, true, true, true, false, true, true, true, true, true, false, true, true, true, true, true, false, true, false, true, false, false, false] ((a.put (some 18) (.pointer (some ⟨B18, 0, none⟩))).put (some 20) (.pointer (some ⟨B20, 0, none⟩))) W := fun B18 B20 W hb r18 r20 l18 l20 n18_20 => by
    refine wpAnyH_ready (rs := [5, 19]) (by kernel_rfl) (by simp) ?_
    refine AllReadyH.call (d := 92) (f := 12) (args := #[x5_0, x5_1]) (OP := .call { callee := .value (.func 12), args := #[.tmp 87, .tmp 91], argTypes := #[29, 9] }) (T := 38) rfl rfl rfl rfl (by rfl) (by have h0 := e5_0; have h1 := e5_1; simp [Act.eval, go_sem] at h0 h1; simp [execOp, resolve, invoke, go_sem, h0, h1]) ?_ ?_
    · refine (c5 W hb).mono ?_
      rintro e w' ⟨v5, rfl, g5, b'⟩
      have hb' := hb.trans (b'.mono hb.size)
      refine ⟨_, rfl, hS _ hb', ?_⟩
      rw [put_comm (show 20 ≠ 92 by decide), put_comm (show 18 ≠ 92 by decide)]
      exact h102_ v5 B18 B20 w' hb' g5 (zr _ _ _ _ r18 b') (zr _ _ _ _ r20 b') l18 l20 n18_20
    refine AllReadyH.turn (d := 19) (OP := .alloc 38) (T := 0) (v := .pointer (some ⟨W.heap.size, 0, none⟩)) (w' := W.alloc (.cells #[.int .i64 0, .bool false] 38)) rfl rfl rfl rfl (by rfl) (by go_simp <;> rfl) (hS _ (hb.trans ((za W).mono hb.size))) ?_ ?_
    · rw [put_comm (show 20 ≠ 19 by decide)]
      exact h0012_ B18 W.heap.size B20 _ (hb.trans ((za W).mono hb.size)) (zr _ _ _ _ r18 (za W)) (heap_alloc_new W _) (zr _ _ _ _ r20 (za W)) l18 hb.size l20 (fun e => by have := zl _ _ _ r18; omega) n18_20 (fun e => by have := zl _ _ _ r20; omega)
    exact AllReadyH.nil
  have h012_ : ∀ (B19 : Nat) (B20 : Nat) (W : World), Below w0.heap.size w0 W → W.heap[B19]? = some (.cells #[.int .i64 0, .bool false] 38) → W.heap[B20]? = some (.cells #[.int .i64 0, .bool false] 38) → w0.heap.size ≤ B19 → w0.heap.size ≤ B20 → B19 ≠ B20 → wpAnyH Try.prog .any ops_regR Q S 7 #[true, true, true, true, true, false, true, true, true, true, true, false, true, true, true, true, true, false, false, true, true, false, false, false] ((a.put (some 19) (.pointer (some ⟨B19, 0, none⟩))).put (some 20) (.pointer (some ⟨B20, 0, none⟩))) W := fun B19 B20 W hb r19 r20 l19 l20 n19_20 => by
    refine wpAnyH_ready (rs := [5, 18]) (by kernel_rfl) (by simp) ?_
    refine AllReadyH.call (d := 92) (f := 12) (args := #[x5_0, x5_1]) (OP := .call { callee := .value (.func 12), args := #[.tmp 87, .tmp 91], argTypes := #[29, 9] }) (T := 38) rfl rfl rfl rfl (by rfl) (by have h0 := e5_0; have h1 := e5_1; simp [Act.eval, go_sem] at h0 h1; simp [execOp, resolve, invoke, go_sem, h0, h1]) ?_ ?_
    · refine (c5 W hb).mono ?_
      rintro e w' ⟨v5, rfl, g5, b'⟩
      have hb' := hb.trans (b'.mono hb.size)
      refine ⟨_, rfl, hS _ hb', ?_⟩
      rw [put_comm (show 20 ≠ 92 by decide), put_comm (show 19 ≠ 92 by decide)]
      exact h112_ v5 B19 B20 w' hb' g5 (zr _ _ _ _ r19 b') (zr _ _ _ _ r20 b') l19 l20 n19_20
    refine AllReadyH.turn (d := 18) (OP := .alloc 38) (T := 0) (v := .pointer (some ⟨W.heap.size, 0, none⟩)) (w' := W.alloc (.cells #[.int .i64 0, .bool false] 38)) rfl rfl rfl rfl (by rfl) (by go_simp <;> rfl) (hS _ (hb.trans ((za W).mono hb.size))) ?_ ?_
    · rw [put_comm (show 20 ≠ 18 by decide), put_comm (show 19 ≠ 18 by decide)]
      exact h0012_ W.heap.size B19 B20 _ (hb.trans ((za W).mono hb.size)) (heap_alloc_new W _) (zr _ _ _ _ r19 (za W)) (zr _ _ _ _ r20 (za W)) hb.size l19 l20 (fun e => by have := zl _ _ _ r19; omega) (fun e => by have := zl _ _ _ r20; omega) n19_20
    exact AllReadyH.nil
  have h1_ : ∀ (v5 : Value) (W : World), Below w0.heap.size w0 W → C5 v5 W → wpAnyH Try.prog .any ops_regR Q S 8 #[true, true, true, true, true, true, true, true, true, true, true, false, true, true, true, true, true, false, false, false, false, false, false, false] (a.put (some 92) v5) W := fun v5 W hb g5 => by
    refine wpAnyH_ready (rs := [11, 18, 19, 20]) (by kernel_rfl) (by simp) ?_
    refine AllReadyH.call (d := 98) (f := 12) (args := #[x11_0, x11_1]) (OP := .call { callee := .value (.func 12), args := #[.tmp 93, .tmp 97], argTypes := #[29, 9] }) (T := 38) rfl rfl rfl rfl (by rfl) (by have h0 := e11_0; have h1 := e11_1; simp [Act.eval, go_sem] at h0 h1; simp [execOp, resolve, invoke, go_sem, h0, h1]) ?_ ?_
    · refine (c11 W hb).mono ?_
      rintro e w' ⟨v11, rfl, g11, b'⟩
      have hb' := hb.trans (b'.mono hb.size)
      refine ⟨_, rfl, hS _ hb', ?_⟩
      exact h2_ v5 v11 w' hb' (p5 _ _ _ g5 b') g11
    refine AllReadyH.turn (d := 18) (OP := .alloc 38) (T := 0) (v := .pointer (some ⟨W.heap.size, 0, none⟩)) (w' := W.alloc (.cells #[.int .i64 0, .bool false] 38)) rfl rfl rfl rfl (by rfl) (by go_simp <;> rfl) (hS _ (hb.trans ((za W).mono hb.size))) ?_ ?_
    · exact h10_ v5 W.heap.size _ (hb.trans ((za W).mono hb.size)) (p5 _ _ _ g5 (za W)) (heap_alloc_new W _) hb.size
    refine AllReadyH.turn (d := 19) (OP := .alloc 38) (T := 0) (v := .pointer (some ⟨W.heap.size, 0, none⟩)) (w' := W.alloc (.cells #[.int .i64 0, .bool false] 38)) rfl rfl rfl rfl (by rfl) (by go_simp <;> rfl) (hS _ (hb.trans ((za W).mono hb.size))) ?_ ?_
    · exact h11_ v5 W.heap.size _ (hb.trans ((za W).mono hb.size)) (p5 _ _ _ g5 (za W)) (heap_alloc_new W _) hb.size
    refine AllReadyH.turn (d := 20) (OP := .alloc 38) (T := 0) (v := .pointer (some ⟨W.heap.size, 0, none⟩)) (w' := W.alloc (.cells #[.int .i64 0, .bool false] 38)) rfl rfl rfl rfl (by rfl) (by go_simp <;> rfl) (hS _ (hb.trans ((za W).mono hb.size))) ?_ ?_
    · exact h12_ v5 W.heap.size _ (hb.trans ((za W).mono hb.size)) (p5 _ _ _ g5 (za W)) (heap_alloc_new W _) hb.size
    exact AllReadyH.nil
  have h00_ : ∀ (B18 : Nat) (W : World), Below w0.heap.size w0 W → W.heap[B18]? = some (.cells #[.int .i64 0, .bool false] 38) → w0.heap.size ≤ B18 → wpAnyH Try.prog .any ops_regR Q S 8 #[true, true, true, true, true, false, true, true, true, true, true, false, true, true, true, true, true, false, true, false, false, false, false, false] (a.put (some 18) (.pointer (some ⟨B18, 0, none⟩))) W := fun B18 W hb r18 l18 => by
    refine wpAnyH_ready (rs := [5, 19, 20]) (by kernel_rfl) (by simp) ?_
    refine AllReadyH.call (d := 92) (f := 12) (args := #[x5_0, x5_1]) (OP := .call { callee := .value (.func 12), args := #[.tmp 87, .tmp 91], argTypes := #[29, 9] }) (T := 38) rfl rfl rfl rfl (by rfl) (by have h0 := e5_0; have h1 := e5_1; simp [Act.eval, go_sem] at h0 h1; simp [execOp, resolve, invoke, go_sem, h0, h1]) ?_ ?_
    · refine (c5 W hb).mono ?_
      rintro e w' ⟨v5, rfl, g5, b'⟩
      have hb' := hb.trans (b'.mono hb.size)
      refine ⟨_, rfl, hS _ hb', ?_⟩
      rw [put_comm (show 18 ≠ 92 by decide)]
      exact h10_ v5 B18 w' hb' g5 (zr _ _ _ _ r18 b') l18
    refine AllReadyH.turn (d := 19) (OP := .alloc 38) (T := 0) (v := .pointer (some ⟨W.heap.size, 0, none⟩)) (w' := W.alloc (.cells #[.int .i64 0, .bool false] 38)) rfl rfl rfl rfl (by rfl) (by go_simp <;> rfl) (hS _ (hb.trans ((za W).mono hb.size))) ?_ ?_
    · exact h001_ B18 W.heap.size _ (hb.trans ((za W).mono hb.size)) (zr _ _ _ _ r18 (za W)) (heap_alloc_new W _) l18 hb.size (fun e => by have := zl _ _ _ r18; omega)
    refine AllReadyH.turn (d := 20) (OP := .alloc 38) (T := 0) (v := .pointer (some ⟨W.heap.size, 0, none⟩)) (w' := W.alloc (.cells #[.int .i64 0, .bool false] 38)) rfl rfl rfl rfl (by rfl) (by go_simp <;> rfl) (hS _ (hb.trans ((za W).mono hb.size))) ?_ ?_
    · exact h002_ B18 W.heap.size _ (hb.trans ((za W).mono hb.size)) (zr _ _ _ _ r18 (za W)) (heap_alloc_new W _) l18 hb.size (fun e => by have := zl _ _ _ r18; omega)
    exact AllReadyH.nil
  have h01_ : ∀ (B19 : Nat) (W : World), Below w0.heap.size w0 W → W.heap[B19]? = some (.cells #[.int .i64 0, .bool false] 38) → w0.heap.size ≤ B19 → wpAnyH Try.prog .any ops_regR Q S 8 #[true, true, true, true, true, false, true, true, true, true, true, false, true, true, true, true, true, false, false, true, false, false, false, false] (a.put (some 19) (.pointer (some ⟨B19, 0, none⟩))) W := fun B19 W hb r19 l19 => by
    refine wpAnyH_ready (rs := [5, 18, 20]) (by kernel_rfl) (by simp) ?_
    refine AllReadyH.call (d := 92) (f := 12) (args := #[x5_0, x5_1]) (OP := .call { callee := .value (.func 12), args := #[.tmp 87, .tmp 91], argTypes := #[29, 9] }) (T := 38) rfl rfl rfl rfl (by rfl) (by have h0 := e5_0; have h1 := e5_1; simp [Act.eval, go_sem] at h0 h1; simp [execOp, resolve, invoke, go_sem, h0, h1]) ?_ ?_
    · refine (c5 W hb).mono ?_
      rintro e w' ⟨v5, rfl, g5, b'⟩
      have hb' := hb.trans (b'.mono hb.size)
      refine ⟨_, rfl, hS _ hb', ?_⟩
      rw [put_comm (show 19 ≠ 92 by decide)]
      exact h11_ v5 B19 w' hb' g5 (zr _ _ _ _ r19 b') l19
    refine AllReadyH.turn (d := 18) (OP := .alloc 38) (T := 0) (v := .pointer (some ⟨W.heap.size, 0, none⟩)) (w' := W.alloc (.cells #[.int .i64 0, .bool false] 38)) rfl rfl rfl rfl (by rfl) (by go_simp <;> rfl) (hS _ (hb.trans ((za W).mono hb.size))) ?_ ?_
    · rw [put_comm (show 19 ≠ 18 by decide)]
      exact h001_ W.heap.size B19 _ (hb.trans ((za W).mono hb.size)) (heap_alloc_new W _) (zr _ _ _ _ r19 (za W)) hb.size l19 (fun e => by have := zl _ _ _ r19; omega)
    refine AllReadyH.turn (d := 20) (OP := .alloc 38) (T := 0) (v := .pointer (some ⟨W.heap.size, 0, none⟩)) (w' := W.alloc (.cells #[.int .i64 0, .bool false] 38)) rfl rfl rfl rfl (by rfl) (by go_simp <;> rfl) (hS _ (hb.trans ((za W).mono hb.size))) ?_ ?_
    · exact h012_ B19 W.heap.size _ (hb.trans ((za W).mono hb.size)) (zr _ _ _ _ r19 (za W)) (heap_alloc_new W _) l19 hb.size (fun e => by have := zl _ _ _ r19; omega)
    exact AllReadyH.nil
  have h02_ : ∀ (B20 : Nat) (W : World), Below w0.heap.size w0 W → W.heap[B20]? = some (.cells #[.int .i64 0, .bool false] 38) → w0.heap.size ≤ B20 → wpAnyH Try.prog .any ops_regR Q S 8 #[true, true, true, true, true, false, true, true, true, true, true, false, true, true, true, true, true, false, false, false, true, false, false, false] (a.put (some 20) (.pointer (some ⟨B20, 0, none⟩))) W := fun B20 W hb r20 l20 => by
    refine wpAnyH_ready (rs := [5, 18, 19]) (by kernel_rfl) (by simp) ?_
    refine AllReadyH.call (d := 92) (f := 12) (args := #[x5_0, x5_1]) (OP := .call { callee := .value (.func 12), args := #[.tmp 87, .tmp 91], argTypes := #[29, 9] }) (T := 38) rfl rfl rfl rfl (by rfl) (by have h0 := e5_0; have h1 := e5_1; simp [Act.eval, go_sem] at h0 h1; simp [execOp, resolve, invoke, go_sem, h0, h1]) ?_ ?_
    · refine (c5 W hb).mono ?_
      rintro e w' ⟨v5, rfl, g5, b'⟩
      have hb' := hb.trans (b'.mono hb.size)
      refine ⟨_, rfl, hS _ hb', ?_⟩
      rw [put_comm (show 20 ≠ 92 by decide)]
      exact h12_ v5 B20 w' hb' g5 (zr _ _ _ _ r20 b') l20
    refine AllReadyH.turn (d := 18) (OP := .alloc 38) (T := 0) (v := .pointer (some ⟨W.heap.size, 0, none⟩)) (w' := W.alloc (.cells #[.int .i64 0, .bool false] 38)) rfl rfl rfl rfl (by rfl) (by go_simp <;> rfl) (hS _ (hb.trans ((za W).mono hb.size))) ?_ ?_
    · rw [put_comm (show 20 ≠ 18 by decide)]
      exact h002_ W.heap.size B20 _ (hb.trans ((za W).mono hb.size)) (heap_alloc_new W _) (zr _ _ _ _ r20 (za W)) hb.size l20 (fun e => by have := zl _ _ _ r20; omega)
    refine AllReadyH.turn (d := 19) (OP := .alloc 38) (T := 0) (v := .pointer (some ⟨W.heap.size, 0, none⟩)) (w' := W.alloc (.cells #[.int .i64 0, .bool false] 38)) rfl rfl rfl rfl (by rfl) (by go_simp <;> rfl) (hS _ (hb.trans ((za W).mono hb.size))) ?_ ?_
    · rw [put_comm (show 20 ≠ 19 by decide)]
      exact h012_ W.heap.size B20 _ (hb.trans ((za W).mono hb.size)) (heap_alloc_new W _) (zr _ _ _ _ r20 (za W)) hb.size l20 (fun e => by have := zl _ _ _ r20; omega)
    exact AllReadyH.nil
  have h0_ : ∀ (W : World), Below w0.heap.size w0 W → wpAnyH Try.prog .any ops_regR Q S 9 #[true, true, true, true, true, false, true, true, true, true, true, false, true, true, true, true, true, false, false, false, false, false, false, false] a W := fun  W hb => by
    refine wpAnyH_ready (rs := [5, 18, 19, 20]) (by kernel_rfl) (by simp) ?_
    refine AllReadyH.call (d := 92) (f := 12) (args := #[x5_0, x5_1]) (OP := .call { callee := .value (.func 12), args := #[.tmp 87, .tmp 91], argTypes := #[29, 9] }) (T := 38) rfl rfl rfl rfl (by rfl) (by have h0 := e5_0; have h1 := e5_1; simp [Act.eval, go_sem] at h0 h1; simp [execOp, resolve, invoke, go_sem, h0, h1]) ?_ ?_
    · refine (c5 W hb).mono ?_
      rintro e w' ⟨v5, rfl, g5, b'⟩
      have hb' := hb.trans (b'.mono hb.size)
      refine ⟨_, rfl, hS _ hb', ?_⟩
      exact h1_ v5 w' hb' g5
    refine AllReadyH.turn (d := 18) (OP := .alloc 38) (T := 0) (v := .pointer (some ⟨W.heap.size, 0, none⟩)) (w' := W.alloc (.cells #[.int .i64 0, .bool false] 38)) rfl rfl rfl rfl (by rfl) (by go_simp <;> rfl) (hS _ (hb.trans ((za W).mono hb.size))) ?_ ?_
    · exact h00_ W.heap.size _ (hb.trans ((za W).mono hb.size)) (heap_alloc_new W _) hb.size
    refine AllReadyH.turn (d := 19) (OP := .alloc 38) (T := 0) (v := .pointer (some ⟨W.heap.size, 0, none⟩)) (w' := W.alloc (.cells #[.int .i64 0, .bool false] 38)) rfl rfl rfl rfl (by rfl) (by go_simp <;> rfl) (hS _ (hb.trans ((za W).mono hb.size))) ?_ ?_
    · exact h01_ W.heap.size _ (hb.trans ((za W).mono hb.size)) (heap_alloc_new W _) hb.size
    refine AllReadyH.turn (d := 20) (OP := .alloc 38) (T := 0) (v := .pointer (some ⟨W.heap.size, 0, none⟩)) (w' := W.alloc (.cells #[.int .i64 0, .bool false] 38)) rfl rfl rfl rfl (by rfl) (by go_simp <;> rfl) (hS _ (hb.trans ((za W).mono hb.size))) ?_ ?_
    · exact h02_ W.heap.size _ (hb.trans ((za W).mono hb.size)) (heap_alloc_new W _) hb.size
    exact AllReadyH.nil
  exact h0_ W hW
end Go.Proofs.Ytckkoigghkgfdaa
