/-
  done 36: the region that draws its order.
  The laws' done 36.
-/
import Derived.Test.YtkdgageljgfgoaaGreatDoorValT
namespace Go.Proofs.YtkdgageljgfgoaaGreatDoor
open Go.RowKit Go.Shelf
set_option linter.unusedSimpArgs false

theorem exec_l46 {ev : Operand → Value} {x : Operand} {T : TypeId} {w : World} {B : Nat} {a b c : Value} (hx : ev x = .pointer (some ⟨B, 0, none⟩)) (h0 : w.cell? ⟨B, 0, none⟩ = some a) (h1 : w.cell? ⟨B, 1, none⟩ = some b) (h2 : w.cell? ⟨B, 2, none⟩ = some c) : (execOp ev { dst := none, op := .load 46 x, type := T, pos := "", after := #[], guard := none }).run Tryz.prog w = .ok (.value (.agg #[a, b, c])) w := by
  unfold execOp
  simp only [hx]
  go_simp
theorem exec_l52 {ev : Operand → Value} {x : Operand} {T : TypeId} {w : World} {B : Nat} {v0 v1 v2 v3 v4 : Value} (hx : ev x = .pointer (some ⟨B, 0, none⟩)) (h0 : w.cell? ⟨B, 0, none⟩ = some v0) (h1 : w.cell? ⟨B, 1, none⟩ = some v1) (h2 : w.cell? ⟨B, 2, none⟩ = some v2) (h3 : w.cell? ⟨B, 3, none⟩ = some v3) (h4 : w.cell? ⟨B, 4, none⟩ = some v4) : (execOp ev { dst := none, op := .load 52 x, type := T, pos := "", after := #[], guard := none }).run Tryz.prog w = .ok (.value (.agg #[v0, v1, v2, v3, v4])) w := by
  unfold execOp
  simp only [hx]
  go_simp
theorem exec_l26 {ev : Operand → Value} {x : Operand} {T : TypeId} {w : World} {B o : Nat} {v0 v1 v2 v3 v4 v5 : Value} (hx : ev x = .pointer (some ⟨B, o, none⟩)) (h0 : w.cell? ⟨B, o, none⟩ = some v0) (h1 : w.cell? ⟨B, o + 1, none⟩ = some v1) (h2 : w.cell? ⟨B, o + 2, none⟩ = some v2) (h3 : w.cell? ⟨B, o + 3, none⟩ = some v3) (h4 : w.cell? ⟨B, o + 4, none⟩ = some v4) (h5 : w.cell? ⟨B, o + 5, none⟩ = some v5) : (execOp ev { dst := none, op := .load 26 x, type := T, pos := "", after := #[], guard := none }).run Tryz.prog w = .ok (.value (.agg #[v0, v1, v2, v3, v4, v5])) w := by
  unfold execOp
  simp only [hx]
  go_simp
theorem exec_ix70 {ev : Operand → Value} {x y : Operand} {T : TypeId} {w : World} {b o n c k : Nat} (hx : ev x = .slice (some ⟨b, o, none⟩) n c) (hy : ev y = .int .i64 k) (hk : (k : Int) < (n : Int)) :
    (execOp ev { dst := none, op := .indexAddr 70 x y, type := T, pos := "", after := #[], guard := none }).run Tryz.prog w = .ok (.value (.pointer (some ⟨b, o + k * 6, none⟩))) w := by
  unfold execOp
  simp only [hx, hy]
  go_simp
def ops_d5 : Array Oper := #[{ dst := some 32, op := Go.Op.load 46 (Go.Operand.tmp 4), type := 46, pos := "law.go:145", after := #[], guard := none }, { dst := some 33, op := Go.Op.load 52 (Go.Operand.tmp 11), type := 52, pos := "law.go:145", after := #[], guard := none }, { dst := some 34, op := Go.Op.move (Go.Operand.tmp 1), type := 70, pos := "law.go:145", after := #[], guard := none }, { dst := some 35, op := Go.Op.move (Go.Operand.tmp 10), type := 3, pos := "law.go:145", after := #[], guard := none }, { dst := some 36, op := Go.Op.indexAddr 70 (Go.Operand.tmp 34) (Go.Operand.tmp 35), type := 0, pos := "law.go:145", after := #[{ on := 2, ground := Go.Ground.data }, { on := 3, ground := Go.Ground.data }], guard := none }, { dst := some 37, op := Go.Op.load 26 (Go.Operand.tmp 36), type := 26, pos := "law.go:145", after := #[{ on := 4, ground := Go.Ground.data }], guard := none }, { dst := some 38, op := Go.Op.call { callee := Go.Callee.value (Go.Operand.func 23), args := #[Go.Operand.tmp 32, Go.Operand.tmp 33, Go.Operand.tmp 37], argTypes := #[46, 52, 26] }, type := 55, pos := "law.go:145", after := #[{ on := 0, ground := Go.Ground.data }, { on := 1, ground := Go.Ground.data }, { on := 5, ground := Go.Ground.data }], guard := none }, { dst := some 31, op := Go.Op.move (Go.Operand.tmp 38), type := 55, pos := "law.go:145", after := #[{ on := 6, ground := Go.Ground.data }], guard := none }, { dst := some 39, op := Go.Op.extract (Go.Operand.tmp 31) 0, type := 46, pos := "law.go:145", after := #[{ on := 7, ground := Go.Ground.data }], guard := none }, { dst := some 40, op := Go.Op.extract (Go.Operand.tmp 31) 1, type := 36, pos := "law.go:145", after := #[{ on := 7, ground := Go.Ground.data }, { on := 11, ground := Go.Ground.gcOnly Go.Departure.lateStores }], guard := none }, { dst := some 12, op := Go.Op.alloc 46, type := 0, pos := "law.go:145", after := #[], guard := none }, { dst := none, op := Go.Op.store 46 (Go.Operand.tmp 12) (Go.Operand.tmp 39), type := 0, pos := "law.go:145", after := #[{ on := 10, ground := Go.Ground.data }, { on := 8, ground := Go.Ground.data }, { on := 6, ground := Go.Ground.chain }, { on := 0, ground := Go.Ground.phase }, { on := 1, ground := Go.Ground.phase }, { on := 2, ground := Go.Ground.phase }, { on := 3, ground := Go.Ground.phase }, { on := 4, ground := Go.Ground.phase }, { on := 5, ground := Go.Ground.phase }, { on := 6, ground := Go.Ground.phase }, { on := 7, ground := Go.Ground.phase }, { on := 8, ground := Go.Ground.phase }, { on := 9, ground := Go.Ground.textOnly Go.Departure.lateStores }, { on := 10, ground := Go.Ground.phase }], guard := none }, { dst := some 13, op := Go.Op.assign (Go.Operand.tmp 40), type := 36, pos := "law.go:145", after := #[{ on := 9, ground := Go.Ground.data }, { on := 11, ground := Go.Ground.chain }, { on := 0, ground := Go.Ground.phase }, { on := 1, ground := Go.Ground.phase }, { on := 2, ground := Go.Ground.phase }, { on := 3, ground := Go.Ground.phase }, { on := 4, ground := Go.Ground.phase }, { on := 5, ground := Go.Ground.phase }, { on := 6, ground := Go.Ground.phase }, { on := 7, ground := Go.Ground.phase }, { on := 8, ground := Go.Ground.phase }, { on := 9, ground := Go.Ground.phase }, { on := 10, ground := Go.Ground.phase }, { on := 11, ground := Go.Ground.phase }], guard := none }]
theorem fin_d5 {Q : Exit → Act → World → Prop} {a : Act} {w : World} (hsz : a.tmps.size = 50) {k n : Int} {ao : Option Addr} {m c : Nat} {s : St} {ob oo no oc i : Nat} {pa : Option Addr} {pn pc : Nat} {ok : Int} {os : ByteArray} {d on : Int} {tx : ByteArray} {M : Nat} {K N Y : Int} {L : List El} (hq : ∀ c a i v w, Q (.panic c) (a.put (some i) v) w → Q (.panic c) a w)
    (h : ∀ a' c' B W, Hid (Below w.heap.size w W ∧ w.heap.size ≤ B ∧ Nv W w.heap.size a' c' L ∧ W.heap[B]? = some (.cells #[.int .i64 K, .int .i64 N, .slice a' M c'] 46 (0, 0))) → Q .normal ((((((((((((a.put (some 32) (vv k n ao m c)).put (some 33) (svT s)).put (some 34) (.slice (some ⟨ob, oo, none⟩) no oc)).put (some 35) (.int .i64 (i : Int))).put (some 36) (.pointer (some ⟨ob, oo + i * 6, none⟩))).put (some 37) (opv pa pn pc ok os d on tx)).put (some 38) (.tuple #[vv K N a' M c', .int .i64 Y])).put (some 31) (.tuple #[vv K N a' M c', .int .i64 Y])).put (some 39) (vv K N a' M c')).put (some 40) (.int .i64 Y)).put (some 12) (.pointer (some ⟨B, 0, none⟩))).put (some 13) (.int .i64 Y)) W)
    (a' : Option Addr) (c' B : Nat) (W : World) (hb : Below w.heap.size w W) (hB : w.heap.size ≤ B) (hn : Nv W w.heap.size a' c' L) (hne : L ≠ [] → ∀ a, a' = some a → a.block ≠ B) (hz : W.heap[B]? = some (.cells #[.int .i64 0, .int .i64 0, .slice none 0 0] 46)) :
    wpAnyH Tryz.prog .any ops_d5 Q (fun W => ∀ a v, w.cell? a = some v → W.cell? a = some v) 2 #[true, true, true, true, true, true, true, true, true, true, true, false, false] (((((((((((a.put (some 32) (vv k n ao m c)).put (some 33) (svT s)).put (some 34) (.slice (some ⟨ob, oo, none⟩) no oc)).put (some 35) (.int .i64 (i : Int))).put (some 36) (.pointer (some ⟨ob, oo + i * 6, none⟩))).put (some 37) (opv pa pn pc ok os d on tx)).put (some 38) (.tuple #[vv K N a' M c', .int .i64 Y])).put (some 31) (.tuple #[vv K N a' M c', .int .i64 Y])).put (some 39) (vv K N a' M c')).put (some 40) (.int .i64 Y)).put (some 12) (.pointer (some ⟨B, 0, none⟩))) W := by
  obtain ⟨s1, s2, s3⟩ := rowV hz (.int .i64 K) (.int .i64 N) (.slice a' M c')
  have hp1 : (((((((((((a.put (some 32) (vv k n ao m c)).put (some 33) (svT s)).put (some 34) (.slice (some ⟨ob, oo, none⟩) no oc)).put (some 35) (.int .i64 (i : Int))).put (some 36) (.pointer (some ⟨ob, oo + i * 6, none⟩))).put (some 37) (opv pa pn pc ok os d on tx)).put (some 38) (.tuple #[vv K N a' M c', .int .i64 Y])).put (some 31) (.tuple #[vv K N a' M c', .int .i64 Y])).put (some 39) (vv K N a' M c')).put (some 40) (.int .i64 Y)).put (some 12) (.pointer (some ⟨B, 0, none⟩))).eval (.tmp 12) = .pointer (some ⟨B, 0, none⟩) := eval_put_eq (by simp only [size_put]; omega)
  have hp2 : (((((((((((a.put (some 32) (vv k n ao m c)).put (some 33) (svT s)).put (some 34) (.slice (some ⟨ob, oo, none⟩) no oc)).put (some 35) (.int .i64 (i : Int))).put (some 36) (.pointer (some ⟨ob, oo + i * 6, none⟩))).put (some 37) (opv pa pn pc ok os d on tx)).put (some 38) (.tuple #[vv K N a' M c', .int .i64 Y])).put (some 31) (.tuple #[vv K N a' M c', .int .i64 Y])).put (some 39) (vv K N a' M c')).put (some 40) (.int .i64 Y)).put (some 12) (.pointer (some ⟨B, 0, none⟩))).eval (.tmp 39) = vv K N a' M c' := by rw [eval_put (by decide), eval_put (by decide)]; exact eval_put_eq (by simp only [size_put]; omega)
  have hp3 : (((((((((((a.put (some 32) (vv k n ao m c)).put (some 33) (svT s)).put (some 34) (.slice (some ⟨ob, oo, none⟩) no oc)).put (some 35) (.int .i64 (i : Int))).put (some 36) (.pointer (some ⟨ob, oo + i * 6, none⟩))).put (some 37) (opv pa pn pc ok os d on tx)).put (some 38) (.tuple #[vv K N a' M c', .int .i64 Y])).put (some 31) (.tuple #[vv K N a' M c', .int .i64 Y])).put (some 39) (vv K N a' M c')).put (some 40) (.int .i64 Y)).put (some 12) (.pointer (some ⟨B, 0, none⟩))).eval (.tmp 40) = .int .i64 Y := by rw [eval_put (by decide)]; exact eval_put_eq (by simp only [size_put]; omega)
  have hs' : ∀ a v, w.cell? a = some v → (W.setCells B 0 [.int .i64 K, .int .i64 N, .slice a' M c']).cell? a = some v := fun a v hv => s2.cell (cell_stays hv hb) (by have := World.block_lt_of_cell? _ _ hv; omega)
  refine skip_op (i := 11) (OP := Op.store 46 (Operand.tmp 12) (Operand.tmp 39)) (T := 0) rfl rfl rfl rfl (by kernel_rfl) (by rfl) (exec_storeV hp1 hp2 hz) ⟨hs', ?_⟩
  refine take_op (i := 12) (d := 13) (OP := Op.assign (Operand.tmp 40)) (T := 36) (v := .int .i64 Y) rfl rfl rfl rfl (by kernel_rfl) (by kernel_rfl) (by kernel_rfl) (fun c a w h => hq c a _ _ w h) (by rfl) (fun w' _ => exec_assign9 hp3) hs' ?_
  refine wpAnyH_done (by kernel_rfl) ?_ _
  exact h a' c' B _ (hide ⟨Below.only hb s2 hb.size (fun j e => by omega), hB, hn.only s2 hne, s1⟩)
set_option maxHeartbeats 2000000 in
theorem wp_d5 {Q : Exit → Act → World → Prop} {a : Act} {w : World} (hsz : a.tmps.size = 50) {k n : Int} {ao : Option Addr} {m c : Nat} {s : St} {ob oo no oc i : Nat} {pa : Option Addr} {pn pc : Nat} {ok : Int} {os : ByteArray} {d on : Int} {tx : ByteArray} {M : Nat} {K N Y : Int} {L : List El} (hM : M = L.length) {Bv Bs : Nat} (hp : a.eval (.tmp 4) = .pointer (some ⟨Bv, 0, none⟩)) (hc0 : w.cell? ⟨Bv, 0, none⟩ = some (.int .i64 k)) (hc1 : w.cell? ⟨Bv, 1, none⟩ = some (.int .i64 n)) (hc2 : w.cell? ⟨Bv, 2, none⟩ = some (.slice ao m c))
    (hps : a.eval (.tmp 11) = .pointer (some ⟨Bs, 0, none⟩)) (hs0 : w.cell? ⟨Bs, 0, none⟩ = some (.int .i64 s.1)) (hs1 : w.cell? ⟨Bs, 1, none⟩ = some (.int .i64 s.2.1)) (hs2 : w.cell? ⟨Bs, 2, none⟩ = some (.string s.2.2.1)) (hs3 : w.cell? ⟨Bs, 3, none⟩ = some (.int .i64 s.2.2.2.1)) (hs4 : w.cell? ⟨Bs, 4, none⟩ = some (.int .i64 s.2.2.2.2))
    (hpo : a.eval (.tmp 1) = .slice (some ⟨ob, oo, none⟩) no oc) (hpi : a.eval (.tmp 10) = .int .i64 (i : Int)) (hlt : (i : Int) < (no : Int))
    (ho0 : w.cell? ⟨ob, oo + i * 6, none⟩ = some (.slice pa pn pc)) (ho1 : w.cell? ⟨ob, oo + i * 6 + 1, none⟩ = some (.int .i64 ok)) (ho2 : w.cell? ⟨ob, oo + i * 6 + 2, none⟩ = some (.string os)) (ho3 : w.cell? ⟨ob, oo + i * 6 + 3, none⟩ = some (.int .i64 d)) (ho4 : w.cell? ⟨ob, oo + i * 6 + 4, none⟩ = some (.int .i64 on)) (ho5 : w.cell? ⟨ob, oo + i * 6 + 5, none⟩ = some (.string tx))
    (c2 : ∀ W, Below w.heap.size w W → Calls Tryz.prog 23 #[vv k n ao m c, svT s, opv pa pn pc ok os d on tx] W (ValE W (K, N, L, Y)))
    (hq : ∀ c a i v w, Q (.panic c) (a.put (some i) v) w → Q (.panic c) a w)
    (h : ∀ a' c' B W, Hid (Below w.heap.size w W ∧ w.heap.size ≤ B ∧ Nv W w.heap.size a' c' L ∧ W.heap[B]? = some (.cells #[.int .i64 K, .int .i64 N, .slice a' M c'] 46 (0, 0))) → Q .normal ((((((((((((a.put (some 32) (vv k n ao m c)).put (some 33) (svT s)).put (some 34) (.slice (some ⟨ob, oo, none⟩) no oc)).put (some 35) (.int .i64 (i : Int))).put (some 36) (.pointer (some ⟨ob, oo + i * 6, none⟩))).put (some 37) (opv pa pn pc ok os d on tx)).put (some 38) (.tuple #[vv K N a' M c', .int .i64 Y])).put (some 31) (.tuple #[vv K N a' M c', .int .i64 Y])).put (some 39) (vv K N a' M c')).put (some 40) (.int .i64 Y)).put (some 12) (.pointer (some ⟨B, 0, none⟩))).put (some 13) (.int .i64 Y)) W) :
    (Code.region 5 ops_d5 true).wp Tryz.prog Q a w := by
  replace c2 : ∀ W, Below w.heap.size w W → Calls Tryz.prog 23 #[vv k n ao m c, svT s, opv pa pn pc ok os d on tx] W (fun e w' => ∃ a' c', e = .returned (.tuple #[vv K N a' M c', .int .i64 Y]) ∧ Nv w' W.heap.size a' c' L ∧ Below W.heap.size W w') := by subst hM; exact c2
  have hSb : ∀ W, Below w.heap.size w W → ∀ a v, w.cell? a = some v → W.cell? a = some v := fun W hW a v hv => cell_stays hv hW
  have hd : Below w.heap.size w w.drew := drew_below w
  have za : ∀ W : World, Below W.heap.size W (W.alloc (.cells #[.int .i64 0, .int .i64 0, .slice none 0 0] 46)) := fun W => (Below.refl _ W).alloc (Nat.le_refl _) _
  refine wp_region_held_drew (S := (fun W => ∀ a v, w.cell? a = some v → W.cell? a = some v)) (by kernel_rfl) (hSb _ hd) (fun hHeld => ?_)
  refine take_op (i := 0) (d := 32) (OP := Op.load 46 (Operand.tmp 4)) (T := 46) (v := vv k n ao m c) rfl rfl rfl rfl (by kernel_rfl) (by kernel_rfl) (by kernel_rfl) (fun c a w h => hq c a _ _ w h) (by rfl) (fun w' hw' => exec_l46 hp (hw' _ _ hc0) (hw' _ _ hc1) (hw' _ _ hc2)) hHeld ?_
  refine take_op (i := 1) (d := 33) (OP := Op.load 52 (Operand.tmp 11)) (T := 52) (v := svT s) rfl rfl rfl rfl (by kernel_rfl) (by kernel_rfl) (by kernel_rfl) (fun c a w h => hq c a _ _ w h) (by rfl) (fun w' hw' => exec_l52 (by rw [eval_put (by decide)]; exact hps) (hw' _ _ hs0) (hw' _ _ hs1) (hw' _ _ hs2) (hw' _ _ hs3) (hw' _ _ hs4)) hHeld ?_
  refine take_op (i := 2) (d := 34) (OP := Op.move (Operand.tmp 1)) (T := 70) (v := .slice (some ⟨ob, oo, none⟩) no oc) rfl rfl rfl rfl (by kernel_rfl) (by kernel_rfl) (by kernel_rfl) (fun c a w h => hq c a _ _ w h) (by rfl) (fun w' hw' => exec_move9 (by rw [eval_put (by decide), eval_put (by decide)]; exact hpo)) hHeld ?_
  refine take_op (i := 3) (d := 35) (OP := Op.move (Operand.tmp 10)) (T := 3) (v := .int .i64 (i : Int)) rfl rfl rfl rfl (by kernel_rfl) (by kernel_rfl) (by kernel_rfl) (fun c a w h => hq c a _ _ w h) (by rfl) (fun w' hw' => exec_move9 (by rw [eval_put (by decide), eval_put (by decide), eval_put (by decide)]; exact hpi)) hHeld ?_
  refine take_op (i := 4) (d := 36) (OP := Op.indexAddr 70 (Operand.tmp 34) (Operand.tmp 35)) (T := 0) (v := .pointer (some ⟨ob, oo + i * 6, none⟩)) rfl rfl rfl rfl (by kernel_rfl) (by kernel_rfl) (by kernel_rfl) (fun c a w h => hq c a _ _ w h) (by rfl) (fun w' hw' => exec_ix70 (by rw [eval_put (by decide)]; exact eval_put_eq (by simp only [size_put]; omega)) (eval_put_eq (by simp only [size_put]; omega)) hlt) hHeld ?_
  refine take_op (i := 5) (d := 37) (OP := Op.load 26 (Operand.tmp 36)) (T := 26) (v := opv pa pn pc ok os d on tx) rfl rfl rfl rfl (by kernel_rfl) (by kernel_rfl) (by kernel_rfl) (fun c a w h => hq c a _ _ w h) (by rfl) (fun w' hw' => exec_l26 (eval_put_eq (by simp only [size_put]; omega)) (hw' _ _ ho0) (hw' _ _ ho1) (hw' _ _ ho2) (hw' _ _ ho3) (hw' _ _ ho4) (hw' _ _ ho5)) hHeld ?_
  have ev1 : ((((((a.put (some 32) (vv k n ao m c)).put (some 33) (svT s)).put (some 34) (.slice (some ⟨ob, oo, none⟩) no oc)).put (some 35) (.int .i64 (i : Int))).put (some 36) (.pointer (some ⟨ob, oo + i * 6, none⟩))).put (some 37) (opv pa pn pc ok os d on tx)).eval (.tmp 32) = vv k n ao m c := by rw [eval_put (by decide), eval_put (by decide), eval_put (by decide), eval_put (by decide), eval_put (by decide)]; exact eval_put_eq (by omega)
  have ev2 : ((((((a.put (some 32) (vv k n ao m c)).put (some 33) (svT s)).put (some 34) (.slice (some ⟨ob, oo, none⟩) no oc)).put (some 35) (.int .i64 (i : Int))).put (some 36) (.pointer (some ⟨ob, oo + i * 6, none⟩))).put (some 37) (opv pa pn pc ok os d on tx)).eval (.tmp 33) = svT s := by rw [eval_put (by decide), eval_put (by decide), eval_put (by decide), eval_put (by decide)]; exact eval_put_eq (by simp only [size_put]; omega)
  have ev3 : ((((((a.put (some 32) (vv k n ao m c)).put (some 33) (svT s)).put (some 34) (.slice (some ⟨ob, oo, none⟩) no oc)).put (some 35) (.int .i64 (i : Int))).put (some 36) (.pointer (some ⟨ob, oo + i * 6, none⟩))).put (some 37) (opv pa pn pc ok os d on tx)).eval (.tmp 37) = opv pa pn pc ok os d on tx := eval_put_eq (by simp only [size_put]; omega)
  have h2n : ∀ a' c' W, Below w.heap.size w W → Nv W w.heap.size a' c' L → wpAnyH Tryz.prog .any ops_d5 Q (fun W => ∀ a v, w.cell? a = some v → W.cell? a = some v) 6 #[true, true, true, true, true, true, true, false, false, false, false, false, false] (((((((a.put (some 32) (vv k n ao m c)).put (some 33) (svT s)).put (some 34) (.slice (some ⟨ob, oo, none⟩) no oc)).put (some 35) (.int .i64 (i : Int))).put (some 36) (.pointer (some ⟨ob, oo + i * 6, none⟩))).put (some 37) (opv pa pn pc ok os d on tx)).put (some 38) (.tuple #[vv K N a' M c', .int .i64 Y])) W := fun a' c' W hb hn => by
    refine take_op (i := 7) (d := 31) (OP := Op.move (Operand.tmp 38)) (T := 55) (v := (.tuple #[vv K N a' M c', .int .i64 Y])) rfl rfl rfl rfl (by kernel_rfl) (by kernel_rfl) (by kernel_rfl) (fun c a w h => hq c a _ _ w h) (by rfl) (fun w' hw' => exec_move9 (eval_put_eq (by simp only [size_put]; omega))) (hSb W hb) ?_
    refine take_op (i := 8) (d := 39) (OP := Op.extract (Operand.tmp 31) 0) (T := 46) (v := vv K N a' M c') rfl rfl rfl rfl (by kernel_rfl) (by kernel_rfl) (by kernel_rfl) (fun c a w h => hq c a _ _ w h) (by rfl) (fun w' hw' => (exec_ext9 (eval_put_eq (by simp only [size_put]; omega))).1) (hSb W hb) ?_
    refine take_op (i := 9) (d := 40) (OP := Op.extract (Operand.tmp 31) 1) (T := 36) (v := .int .i64 Y) rfl rfl rfl rfl (by kernel_rfl) (by kernel_rfl) (by kernel_rfl) (fun c a w h => hq c a _ _ w h) (by rfl) (fun w' hw' => (exec_ext9 (by rw [eval_put (by decide)]; exact eval_put_eq (by simp only [size_put]; omega))).2) (hSb W hb) ?_
    refine wpAnyH_ready (rs := [10]) (by kernel_rfl) (by simp) ?_
    refine AllReadyH.turn (d := 12) (OP := Op.alloc 46) (T := 0) (v := .pointer (some ⟨W.heap.size, 0, none⟩)) (w' := W.alloc (.cells #[.int .i64 0, .int .i64 0, .slice none 0 0] 46)) rfl rfl rfl rfl (by rfl) (exec_alloc9 W) (hSb _ (hb.trans ((za W).mono hb.size))) ?_ AllReadyH.nil
    exact fin_d5 hsz hq h a' c' W.heap.size _ (hb.trans ((za W).mono hb.size)) hb.size (hn.belowN (za W)) (fun hl a ha => by have := hn.lt hl a ha; omega) (heap_alloc_new W _)
  have h2y : ∀ a' c' B W, Below w.heap.size w W → Nv W w.heap.size a' c' L → w.heap.size ≤ B → W.heap[B]? = some (.cells #[.int .i64 0, .int .i64 0, .slice none 0 0] 46) → (L ≠ [] → ∀ a, a' = some a → a.block ≠ B) → wpAnyH Tryz.prog .any ops_d5 Q (fun W => ∀ a v, w.cell? a = some v → W.cell? a = some v) 5 #[true, true, true, true, true, true, true, false, false, false, true, false, false] ((((((((a.put (some 32) (vv k n ao m c)).put (some 33) (svT s)).put (some 34) (.slice (some ⟨ob, oo, none⟩) no oc)).put (some 35) (.int .i64 (i : Int))).put (some 36) (.pointer (some ⟨ob, oo + i * 6, none⟩))).put (some 37) (opv pa pn pc ok os d on tx)).put (some 38) (.tuple #[vv K N a' M c', .int .i64 Y])).put (some 12) (.pointer (some ⟨B, 0, none⟩))) W := fun a' c' B W hb hn hB hz hne => by
    refine take_op (i := 7) (d := 31) (OP := Op.move (Operand.tmp 38)) (T := 55) (v := (.tuple #[vv K N a' M c', .int .i64 Y])) rfl rfl rfl rfl (by kernel_rfl) (by kernel_rfl) (by kernel_rfl) (fun c a w h => hq c a _ _ w h) (by rfl) (fun w' hw' => exec_move9 (by rw [eval_put (by decide)]; exact eval_put_eq (by simp only [size_put]; omega))) (hSb W hb) ?_
    rw [put_comm (show 12 ≠ 31 by decide)]
    refine take_op (i := 8) (d := 39) (OP := Op.extract (Operand.tmp 31) 0) (T := 46) (v := vv K N a' M c') rfl rfl rfl rfl (by kernel_rfl) (by kernel_rfl) (by kernel_rfl) (fun c a w h => hq c a _ _ w h) (by rfl) (fun w' hw' => (exec_ext9 (by rw [eval_put (by decide)]; exact eval_put_eq (by simp only [size_put]; omega))).1) (hSb W hb) ?_
    rw [put_comm (show 12 ≠ 39 by decide)]
    refine take_op (i := 9) (d := 40) (OP := Op.extract (Operand.tmp 31) 1) (T := 36) (v := .int .i64 Y) rfl rfl rfl rfl (by kernel_rfl) (by kernel_rfl) (by kernel_rfl) (fun c a w h => hq c a _ _ w h) (by rfl) (fun w' hw' => (exec_ext9 (by rw [eval_put (by decide), eval_put (by decide)]; exact eval_put_eq (by simp only [size_put]; omega))).2) (hSb W hb) ?_
    rw [put_comm (show 12 ≠ 40 by decide)]
    exact fin_d5 hsz hq h a' c' B _ hb hB hn hne hz
  have h0y : ∀ B W, Below w.heap.size w W → w.heap.size ≤ B → W.heap[B]? = some (.cells #[.int .i64 0, .int .i64 0, .slice none 0 0] 46) → wpAnyH Tryz.prog .any ops_d5 Q (fun W => ∀ a v, w.cell? a = some v → W.cell? a = some v) 6 #[true, true, true, true, true, true, false, false, false, false, true, false, false] (((((((a.put (some 32) (vv k n ao m c)).put (some 33) (svT s)).put (some 34) (.slice (some ⟨ob, oo, none⟩) no oc)).put (some 35) (.int .i64 (i : Int))).put (some 36) (.pointer (some ⟨ob, oo + i * 6, none⟩))).put (some 37) (opv pa pn pc ok os d on tx)).put (some 12) (.pointer (some ⟨B, 0, none⟩))) W := fun B W hb hB hz => by
    refine wpAnyH_ready (rs := [6]) (by kernel_rfl) (by simp) ?_
    refine AllReadyH.call (d := 38) (f := 23) (args := #[vv k n ao m c, svT s, opv pa pn pc ok os d on tx]) (OP := Op.call { callee := Callee.value (Operand.func 23), args := #[Operand.tmp 32, Operand.tmp 33, Operand.tmp 37], argTypes := #[46, 52, 26] }) (T := 55) rfl rfl rfl rfl (by rfl) (exec_call3 rfl (by rw [eval_put (by decide)]; exact ev1) (by rw [eval_put (by decide)]; exact ev2) (by rw [eval_put (by decide)]; exact ev3)) ?_ AllReadyH.nil
    refine (c2 W hb).mono ?_
    rintro e w' ⟨a', c', rfl, hn, b'⟩
    have hb' := hb.trans (b'.mono hb.size)
    have hBW := (Array.getElem?_eq_some_iff.1 hz).1
    refine ⟨_, rfl, hSb _ hb', ?_⟩
    rw [put_comm (show 12 ≠ 38 by decide)]
    exact h2y a' c' B w' hb' (hn.weak hb.size) hB ((b'.block _ hBW).trans hz) (fun _ a ha => by have := hn.new a ha; omega)
  refine wpAnyH_ready (rs := [6, 10]) (by kernel_rfl) (by simp) ?_
  refine AllReadyH.call (d := 38) (f := 23) (args := #[vv k n ao m c, svT s, opv pa pn pc ok os d on tx]) (OP := Op.call { callee := Callee.value (Operand.func 23), args := #[Operand.tmp 32, Operand.tmp 33, Operand.tmp 37], argTypes := #[46, 52, 26] }) (T := 55) rfl rfl rfl rfl (by rfl) (exec_call3 rfl ev1 ev2 ev3) ?_ ?_
  · refine (c2 _ hd).mono ?_
    rintro e w' ⟨a', c', rfl, hn, b'⟩
    have hb' := hd.trans (b'.mono hd.size)
    exact ⟨_, rfl, hSb _ hb', h2n a' c' w' hb' (hn.weak hd.size)⟩
  · refine AllReadyH.turn (d := 12) (OP := Op.alloc 46) (T := 0) (v := .pointer (some ⟨w.drew.heap.size, 0, none⟩)) (w' := w.drew.alloc (.cells #[.int .i64 0, .int .i64 0, .slice none 0 0] 46)) rfl rfl rfl rfl (by rfl) (exec_alloc9 _) (hSb _ (hd.trans ((za _).mono hd.size))) ?_ AllReadyH.nil
    exact h0y w.drew.heap.size _ (hd.trans ((za _).mono hd.size)) hd.size (heap_alloc_new _ _)
end Go.Proofs.YtkdgageljgfgoaaGreatDoor
namespace Go.Proofs.YtkdgageljgfgoaaGreatDoor
open Go.RowKit Go.Shelf
set_option linter.unusedSimpArgs false
attribute [local go_sem] Oper.semAt_some

/-- An operation, and where its path lies. -/
structure OpM where
  pa : Option Addr
  pc : Nat
  p : List ByteArray
  ok : Int
  os : ByteArray
  d : Int
  on : Int
  tx : ByteArray
/-- Operations in a row. -/
def Ro (w : World) (ao : Option Addr) (l : List OpM) : Prop := ∀ (i : Nat) (o : OpM), l[i]? = some o → Rp w o.pa o.pc o.p ∧ ∃ b off, ao = some ⟨b, off, none⟩ ∧ w.cell? ⟨b, off + i * 6, none⟩ = some (.slice o.pa o.p.length o.pc) ∧ w.cell? ⟨b, off + i * 6 + 1, none⟩ = some (.int .i64 o.ok) ∧ w.cell? ⟨b, off + i * 6 + 2, none⟩ = some (.string o.os) ∧ w.cell? ⟨b, off + i * 6 + 3, none⟩ = some (.int .i64 o.d) ∧ w.cell? ⟨b, off + i * 6 + 4, none⟩ = some (.int .i64 o.on) ∧ w.cell? ⟨b, off + i * 6 + 5, none⟩ = some (.string o.tx)
theorem Ro.below {w w' : World} {ao : Option Addr} {l : List OpM} (h : Ro w ao l) (hb : Below w.heap.size w w') : Ro w' ao l := fun i o ho => by
  obtain ⟨h1, b, off, e, c0, c1, c2, c3, c4, c5⟩ := h i o ho
  exact ⟨h1.below hb, b, off, e, cell_stays c0 hb, cell_stays c1 hb, cell_stays c2 hb, cell_stays c3 hb, cell_stays c4 hb, cell_stays c5 hb⟩
def stampD (gen : Int) (label : ByteArray) (i : Nat) : St := (wrap64 (gen + (i : Int)), 0, label, 1, 0)
def appD (gen : Int) (label : ByteArray) (v : Int × Int × List El) (i : Nat) (o : OpM) : Int × Int × List El × Int := applyV v.1 v.2.1 v.2.2 (stampD gen label i) o.p o.ok o.os o.d o.on o.tx
def stepD (gen : Int) (label : ByteArray) (v : Int × Int × List El) (i : Nat) (o : OpM) : Int × Int × List El := if (appD gen label v i o).2.2.2 = 0 then ((appD gen label v i o).1, (appD gen label v i o).2.1, (appD gen label v i o).2.2.1) else v
/-- What the first k operations make of a value. -/
def doneF (gen : Int) (label : ByteArray) (v : Int × Int × List El) (ops : List OpM) : Nat → Int × Int × List El
  | 0 => v
  | k + 1 => match ops[k]? with
    | some o => stepD gen label (doneF gen label v ops k) k o
    | none => doneF gen label v ops k
theorem changeL_len (l : List El) (d : Int) (x : El) : (changeL l d x).length ≤ l.length + 1 := by
  unfold changeL
  split
  · simp
  split
  · simp
  split
  · unfold keepL; have := List.length_filter_le (fun y => !hasT x.2 y) l; omega
  split
  · simp; omega
  · omega
theorem stepD_ok {gen : Int} {label : ByteArray} {v : Int × Int × List El} {i : Nat} {o : OpM} (h : valB v.1 v.2.1 v.2.2 = true) : valB (stepD gen label v i o).1 (stepD gen label v i o).2.1 (stepD gen label v i o).2.2 = true ∧ (stepD gen label v i o).2.2.length ≤ v.2.2.length + 1 := by
  unfold stepD
  split
  · rename_i h0
    refine ⟨(apply_val rfl h0).2, ?_⟩
    dsimp only
    unfold appD applyV
    split
    · simp
    split
    · simp
    · exact changeL_len _ _ _
  · exact ⟨h, by omega⟩
theorem doneF_ok {gen : Int} {label : ByteArray} {v : Int × Int × List El} {ops : List OpM} (h : valB v.1 v.2.1 v.2.2 = true) : ∀ k, valB (doneF gen label v ops k).1 (doneF gen label v ops k).2.1 (doneF gen label v ops k).2.2 = true ∧ (doneF gen label v ops k).2.2.length ≤ v.2.2.length + k
  | 0 => ⟨h, by simp [doneF]⟩
  | k + 1 => by
    have ih := doneF_ok (gen := gen) (label := label) (ops := ops) h k
    rw [doneF]
    split
    · have := stepD_ok (gen := gen) (label := label) (i := k) (o := by assumption) ih.1
      exact ⟨this.1, by have := this.2; omega⟩
    · exact ⟨ih.1, by have := ih.2; omega⟩
end Go.Proofs.YtkdgageljgfgoaaGreatDoor
