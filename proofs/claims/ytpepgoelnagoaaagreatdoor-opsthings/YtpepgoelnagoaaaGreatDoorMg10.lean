/-
  OPS: text 48.
  LAID: the tables of unicode/utf8, internal/strconv and math/bits as the library lays them; the world of the witness.
-/
import Derived.Test.YtpepgoelnagoaaaGreatDoorMg9
import Derived.Lib.AppendIntMem
import Derived.Test.YtpepgoelnagoaaaGreatDoorCards
import Derived.Test.YtpepgoelnagoaaaGreatDoorTie
import Derived.Lib.LaidIn
import Derived.Lib.LaidU8T
import Derived.Lib.LaidTab
import Derived.Stop.LaidErr
import Derived.Shelf.Vars
import Derived.Deep.DeepHandedRow
import Derived.Deep.DeepWitnessRowRef
import Derived.ProofKit
import Derived.SizedLaws
namespace Go.Proofs.YtpepgoelnagoaaaGreatDoor
open Go.RowKit Go.Shelf Go.Sort
set_option linter.unusedSimpArgs false
set_option linter.unusedVariables false
attribute [local go_sem] Oper.semAt_some

/-- The table of powers of ten, as it is laid. -/
def Env (w : World) : Prop := Lib.TabIs Tryz.prog w "internal/strconv.uint64pow10" .u64 Lib.pow10Tab
theorem Env.below {w w' : World} (h : Env w) (hb : Below w.heap.size w w') : Env w' := Lib.tabBelow_of_tabIs h w' hb
theorem below_grow (w : World) (k : Nat) (os : Array Obj) : Below w.heap.size w (grow (w.drewN k) os) := by
  refine ⟨rfl, rfl, rfl, ?_, fun j hj => ?_⟩
  · show w.heap.size ≤ (w.heap ++ os).size
    rw [Array.size_append]; omega
  · show (w.heap ++ os)[j]? = w.heap[j]?
    rw [Array.getElem?_append_left hj]
/-- What the library's variables hold. -/
structure EnvO (w : World) : Prop where
  tabs : Tabs w
  env : Env w
  max : ∃ m, w.cell? ⟨5, 0, none⟩ = some (.int .i64 m)
theorem EnvO.below {w w' : World} (h : EnvO w) (hb : Below w.heap.size w w') : EnvO w' :=
  ⟨h.tabs.below hb, h.env.below hb, h.max.imp fun _ hc => Ki.cell_stays hc hb⟩
/-- The library's two errors of numbers are there. -/
structure EnvE (w : World) : Prop where
  syn : ∃ t p, w.cell? ⟨3, 0, none⟩ = some (.iface t p)
  ran : ∃ t p, w.cell? ⟨4, 0, none⟩ = some (.iface t p)
theorem EnvE.below {w w' : World} (h : EnvE w) (hb : Below w.heap.size w w') : EnvE w' :=
  ⟨h.syn.imp fun _ => .imp fun _ hc => Ki.cell_stays hc hb, h.ran.imp fun _ => .imp fun _ hc => Ki.cell_stays hc hb⟩
theorem format_any (n : Int) (w : World) (hn : I64 n) (hE : Env w) : Calls Tryz.prog 59 #[.int .i64 n, .int .i64 10] w fun e w' => e = .returned (.string ⟨(decL n).toArray⟩) ∧ Below w.heap.size w w' := by
  refine (Tryz.strconv_FormatInt_10 n hn.1 hn.2 w hE).mono ?_
  rintro e w' ⟨rfl, k, os, rfl⟩
  exact ⟨rfl, below_grow w k os⟩
theorem decL_len (n : Int) (hn : I64 n) : (decL n).length ≤ 21 := Lib.itoa_length_le n hn.1 hn.2
/-- The words of an operation's text, as strings. -/
def wdS (o : Od) : List ByteArray := [Ki.wordB Ki.doWs o.d, ⟨(wordB (joinB o.p)).toArray⟩, ⟨(wordB o.s.data.toList).toArray⟩] ++ (if o.d = 1 then [⟨(decL o.n).toArray⟩] else if o.d = 6 then [] else [⟨(wordB o.t.data.toList).toArray⟩])
theorem wdS_tx (o : Od) : (wdS o).map (·.data.toList) = txW o := by
  unfold wdS txW doW
  split
  · simp
  · split <;> simp
theorem wordB_len (l : List UInt8) : (wordB l).length ≤ 3 * l.length + 1 := by
  unfold wordB
  split
  · simp
  · have := flat_length l; omega
theorem doW_len (d : Int) : (Ki.wordB Ki.doWs d).size ≤ 6 := by
  unfold Ki.wordB
  cases h : (Ki.countL Ki.doWs).find? fun x => decide ((x.1 : Int) = d) with
  | none => exact (by decide : (⟨#[]⟩ : ByteArray).size ≤ 6)
  | some x =>
    have := List.mem_of_find?_eq_some h
    have h2 : ∀ y ∈ Ki.countL Ki.doWs, y.2.size ≤ 6 := by decide
    exact h2 x this
theorem arr_size (l : List UInt8) : (⟨l.toArray⟩ : ByteArray).size = l.length := by simp [ByteArray.size]
theorem joinB_len {p : List ByteArray} (h : pathB p = true) : (joinB p).length ≤ 391 := by
  obtain ⟨h1, h2⟩ := path_sizes h
  unfold joinB
  split
  · simp
  · have := flatJ_length p h2; omega
theorem wdS_len {o : Od} (h : OkO o) (hn : I64 o.n) : (wdS o).length ≤ 4 ∧ ∀ x ∈ wdS o, x.size ≤ 2000 := by
  have h1 := joinB_len h.path
  have h2 := wordB_len (joinB o.p)
  have h3 := wordB_len o.s.data.toList
  have h4 := h.ssz
  have h5 := wordB_len o.t.data.toList
  have h6 := h.text
  have h7 := doW_len o.d
  have h8 := decL_len o.n hn
  rw [← Lib.size_eq] at h3 h5
  unfold wdS
  split
  · refine ⟨by simp, fun x hx => ?_⟩
    simp only [List.cons_append, List.nil_append, List.mem_cons, List.not_mem_nil, or_false] at hx
    rcases hx with rfl | rfl | rfl | rfl <;> first | omega | (rw [arr_size]; omega)
  · split
    · refine ⟨by simp, fun x hx => ?_⟩
      simp only [List.cons_append, List.nil_append, List.append_nil, List.mem_cons, List.not_mem_nil, or_false] at hx
      rcases hx with rfl | rfl | rfl <;> first | omega | (rw [arr_size]; omega)
    · refine ⟨by simp, fun x hx => ?_⟩
      simp only [List.cons_append, List.nil_append, List.mem_cons, List.not_mem_nil, or_false] at hx
      rcases hx with rfl | rfl | rfl | rfl <;> first | omega | (rw [arr_size]; omega)
theorem lens_le {B : Nat} : ∀ {xs : List (List UInt8)}, (∀ x ∈ xs, x.length ≤ B) → Lib.lens xs ≤ B * xs.length
  | [], _ => by simp [Lib.lens]
  | x :: r, h => by
    have h1 := lens_le (xs := r) (fun y hy => h y (List.mem_cons_of_mem _ hy))
    have h2 := h x (by simp)
    simp only [Lib.lens, List.map_cons, List.sum_cons, List.length_cons, Nat.mul_succ] at h1 ⊢
    omega
theorem joinL_len {B : Nat} {xs : List (List UInt8)} {sep : List UInt8} (h : ∀ x ∈ xs, x.length ≤ B) : (Lib.join xs sep).length ≤ (B + sep.length) * xs.length := by
  cases xs with
  | nil => simp [Lib.join_nil]
  | cons x r =>
    have h1 := lens_le h
    rw [Lib.join_length]
    have : (B + sep.length) * (x :: r).length = B * (x :: r).length + sep.length * (x :: r).length := Nat.add_mul _ _ _
    have h3 : sep.length * r.length ≤ sep.length * (x :: r).length := Nat.mul_le_mul_left _ (by simp)
    omega
theorem txO_len {o : Od} (h : OkO o) (hn : I64 o.n) : (txO o).length ≤ 9000 := by
  obtain ⟨h1, h2⟩ := wdS_len h hn
  have h3 := joinL_len (B := 2000) (xs := txW o) (sep := [32]) (fun x hx => by
    rw [← wdS_tx] at hx
    obtain ⟨y, hy, rfl⟩ := List.mem_map.1 hx
    have := h2 y hy
    rw [← Lib.size_eq]
    exact this)
  have h4 : (txW o).length ≤ 4 := by rw [← wdS_tx, List.length_map]; exact h1
  unfold txO
  have : (2000 + [32].length) * (txW o).length ≤ 2001 * 4 := Nat.mul_le_mul (by simp) h4
  simp only [List.length_cons, List.length_nil] at h3 this
  omega
/-- A text is laid behind others. -/
theorem push_str {w : World} {B b : Nat} {v : Value} {L : List ByteArray} {s : ByteArray} (hown : Os w B v L) (hcell : w.heap[b]? = some (.cells #[.string s] 9 (0, 0))) (hp : L.length + 1 ≤ 1000000) (hB : B ≤ w.heap.size) :
    ∃ v' w', (Builtin.append_ #[30, 30] 30 #[v, .slice (some ⟨b, 0, none⟩) 1 1]).run Tryz.prog w = .ok v' w' ∧ Os w' B v' (L ++ [s]) ∧ w.grownBy w' v.ownBlock ∧ Below B w w' := by
  have h9 := Tryz.info9
  cases hi0 : Tryz.prog.info? 9 with
  | none => rw [hi0] at h9; cases h9
  | some i0 =>
    rw [hi0] at h9
    simp only [Option.map_some, Option.some.injEq, Prod.mk.injEq] at h9
    obtain ⟨v', w', hr, h2, h3, -⟩ := run_append_own (P := Tryz.prog) w B 30 30 9 i0 (.string ⟨#[]⟩) 1 16 Tryz.underlying30 hi0 h9.1 h9.2.1 h9.2.2 rfl (by decide) v L.length (L.map Value.string) hown ⟨b, 0, none⟩ 1 1 [.string s] (by simp) (fun j u hj => by rw [add_lit, cell_of_row _ _ (0 + j) #[.string s] 9 (0, 0) hcell, Nat.zero_add]; simpa using hj) (fun u hu => by simp at hu; subst hu; rfl) (by unfold maxLen; omega) (by omega) hB
    refine ⟨v', w', hr, ?_, h3, (Below.refl B w).grown h3 hB (fun k hk => (World.ownsRow.lt hown k hk).1)⟩
    unfold Os
    rw [List.map_append, List.length_append]
    exact h2
theorem joinW_any {w : World} {B : Nat} {v : Value} {L : List ByteArray} (sep : ByteArray) (h : Os w B v L) (h0 : L ≠ []) (hl : L.length ≤ 1000000) (hs : (Lib.join (L.map (·.data.toList)) sep.data.toList).length ≤ 140737488355328) :
    Calls Tryz.prog 104 #[v, .string sep] w fun e w' => e = .returned (.string ⟨(Lib.join (L.map (·.data.toList)) sep.data.toList).toArray⟩) ∧ Below w.heap.size w w' := by
  obtain ⟨ao, c, rfl, hr, hb, -, hc⟩ := h.shape
  cases L with
  | nil => exact absurd rfl h0
  | cons x r =>
    obtain ⟨ab, off, rfl, -⟩ := hr.at (k := 0) rfl
    refine Tryz.strings_Join ab off c (x :: r) sep w (fun j y hj => ?_) (hb _ rfl).2 (by omega) hc hs
    obtain ⟨ab', off', e, hcell⟩ := hr.at hj
    cases e
    exact hcell
theorem exec_words {ev : Operand → Value} {x y z : Operand} {T : TypeId} {a b c : ByteArray} {w : World} (hx : ev x = .string a) (hy : ev y = .string b) (hz : ev z = .string c) :
    (execOp ev { dst := none, op := .buildSlice 30 3 #[(0, x), (1, y), (2, z)], type := T, pos := "", after := #[], guard := none }).run Tryz.prog w = .ok (.value (.slice (some ⟨w.heap.size, 0, none⟩) 3 3)) (w.alloc (.cells #[.string a, .string b, .string c] 9)) := by
  unfold execOp
  simp [hx, hy, hz, go_sem]

set_option maxHeartbeats 8000000 in
set_option maxRecDepth 100000 in
theorem text48_any {w : World} {pa : Option Addr} {pc : Nat} (o : Od) (h : Ki.Rp w pa pc o.p) (ho : OkO o) (hn : I64 o.n) (hE : EnvO w) : Calls Tryz.prog 48 #[odv pa o.p.length pc o] w fun e w' => e = .returned (.string ⟨(txO o).toArray⟩) ∧ Below w.heap.size w w' := by
  have hwl := wdS_len ho hn
  have hT0 : ⟨(txO o).toArray⟩ = (⟨(Lib.join ((wdS o).map (·.data.toList)) (⟨#[32]⟩ : ByteArray).data.toList).toArray⟩ : ByteArray) := by rw [wdS_tx]; rfl
  have hTl : (Lib.join ((wdS o).map (·.data.toList)) (⟨#[32]⟩ : ByteArray).data.toList).length ≤ 140737488355328 := by
    have := txO_len ho hn
    rw [wdS_tx]
    exact Nat.le_trans this (by omega)
  obtain ⟨X, hX⟩ : ∃ q, q = (⟨(txO o).toArray⟩ : ByteArray) := ⟨_, rfl⟩
  rw [← hX] at hT0 ⊢
  clear hX
  obtain ⟨p, k, s, d, n, t⟩ := o
  have hss := ho.ssz
  have htt := ho.text
  have hjl := joinB_len ho.path
  have hpath := ho.path
  dsimp only at hss htt hjl hpath h hn
  obtain ⟨N, hN⟩ : ∃ N, N = p.length := ⟨_, rfl⟩
  obtain ⟨w0, hw0⟩ : ∃ q, q = w.alloc (.cells (odC pa N pc ⟨p, k, s, d, n, t⟩) 34) := ⟨_, rfl⟩
  have d0 : Below w.heap.size w w0 := by rw [hw0]; exact (Below.refl _ w).alloc (Nat.le_refl _) _
  obtain ⟨Sb, hSb⟩ : ∃ q, q = w.heap.size := ⟨_, rfl⟩
  have m0 := op6_new w pa N pc ⟨p, k, s, d, n, t⟩
  rw [← hw0, ← hSb] at m0
  have HS : Hid (∀ W, Below w0.heap.size w0 W → W.cell? ⟨Sb, 0, none⟩ = some (.slice pa N pc) ∧ W.cell? ⟨Sb, 1, none⟩ = some (.int .i64 k) ∧ W.cell? ⟨Sb, 2, none⟩ = some (.string s) ∧ W.cell? ⟨Sb, 3, none⟩ = some (.int .i64 d) ∧ W.cell? ⟨Sb, 4, none⟩ = some (.int .i64 n) ∧ W.cell? ⟨Sb, 5, none⟩ = some (.string t)) := hide (fun W hW => op6_of ((hW.block _ (Array.getElem?_eq_some_iff.1 m0).1).trans m0))
  have HW := hide (And.intro hw0 (And.intro hSb d0))
  have k101 : Calls Tryz.prog 101 #[.slice pa N pc] w0 fun e w' => e = .returned (.tuple #[.string ⟨(joinB p).toArray⟩, .int .i64 0]) ∧ Below w0.heap.size w0 w' := by
    have := joinK_any (h.below d0).rs h.cap h.nil (hE.tabs.below d0) h.len
    unfold joinE at this
    rw [if_pos hpath] at this
    rw [hN]
    exact this
  have k102 := fun W => Ki.WordD d W
  have kJP : ∀ W, Calls Tryz.prog 103 #[.string ⟨(joinB p).toArray⟩] W fun e w' => e = .returned (.string ⟨(wordB (joinB p)).toArray⟩) ∧ Below W.heap.size W w' := fun W => word_any ⟨(joinB p).toArray⟩ W (by rw [arr_size]; omega)
  have kS := fun W => word_any s W (by omega)
  have kT := fun W => word_any t W (by omega)
  have kF : ∀ W, Below w0.heap.size w0 W → Calls Tryz.prog 59 #[.int .i64 n, .int .i64 10] W fun e w' => e = .returned (.string ⟨(decL n).toArray⟩) ∧ Below W.heap.size W w' := fun W hW => format_any n W hn ((hE.below d0).below hW).env
  have hwd : wdS ⟨p, k, s, d, n, t⟩ = [Ki.wordB Ki.doWs d, ⟨(wordB (joinB p)).toArray⟩, ⟨(wordB s.data.toList).toArray⟩] ++ (if d = 1 then [⟨(decL n).toArray⟩] else if d = 6 then [] else [⟨(wordB t.data.toList).toArray⟩]) := rfl
  rw [hwd] at hT0 hTl hwl
  generalize Ki.wordB Ki.doWs d = DW at k102 hT0 hTl hwl
  obtain ⟨JP, hJP⟩ : ∃ q, q = (⟨(joinB p).toArray⟩ : ByteArray) := ⟨_, rfl⟩
  rw [← hJP] at k101 kJP
  generalize (⟨(wordB (joinB p)).toArray⟩ : ByteArray) = WJ at kJP hT0 hTl hwl
  generalize (⟨(wordB s.data.toList).toArray⟩ : ByteArray) = WS at kS hT0 hTl hwl
  generalize (⟨(wordB t.data.toList).toArray⟩ : ByteArray) = WT at kT hT0 hTl hwl
  generalize (⟨(decL n).toArray⟩ : ByteArray) = WN at kF hT0 hTl hwl
  clear h ho hE hn hss htt hjl hpath m0 hw0 hSb d0 hJP hwd
  rw [← hN]
  clear hN
  have HT := hide (And.intro hT0 (And.intro hTl hwl))
  clear hT0 hTl hwl
  by_cases h1 : d = 1
  · subst h1
    rw [if_pos rfl] at HT
    go_enter Tryz.func48, Tryz.ntmps48
    go_upto_region 1 with fail
    rw [← HW.out.1, ← HW.out.2.1]
    obtain ⟨x0, x1, x2, x3, x4, x5⟩ := HS.out w0 (Below.refl _ _)
    go_upto_region 2 with (go_at_call 101; refine k101.mono ?_; rintro e wr ⟨rfl, d1⟩; have D1 := hide d1; clear d1 k101 x0 x1 x2 x3 x4 x5)
    have hsd := HS.out wr D1.out
    refine wp_region_held_drew (S := fun w' => w'.cell? ⟨Sb, 0, none⟩ = some (.slice pa N pc) ∧ w'.cell? ⟨Sb, 1, none⟩ = some (.int .i64 k) ∧ w'.cell? ⟨Sb, 2, none⟩ = some (.string s) ∧ w'.cell? ⟨Sb, 3, none⟩ = some (.int .i64 1) ∧ w'.cell? ⟨Sb, 4, none⟩ = some (.int .i64 n) ∧ w'.cell? ⟨Sb, 5, none⟩ = some (.string t)) (by kernel_rfl) hsd (fun hHeld => ?_)
    clear hsd
    obtain ⟨Wd, hWd⟩ : ∃ q, q = wr.drew := ⟨_, rfl⟩
    have b0 : Below w0.heap.size w0 Wd := by rw [hWd]; exact D1.out.drew
    rw [← hWd] at hHeld ⊢
    clear hWd
    refine take_op (i := 0) (d := 12) (OP := Op.fieldAddr 34 (Operand.tmp 1) 3) (T := 0) (v := ?voga1) rfl rfl rfl rfl (by kernel_rfl) (by kernel_rfl) (by kernel_rfl) (fun _ _ _ h => h) (by rfl) ?hoga1 hHeld ?roga1
    case hoga1 => (intro w' hSw; (try dsimp only at hSw); go_simp <;> with_reducible rfl)
    try simp only [Act.put, List.setIfInBounds_toArray, List.set_cons_zero, List.set_cons_succ]
    refine take_op (i := 1) (d := 13) (OP := Op.load 32 (Operand.tmp 12)) (T := 32) (v := ?voga2) rfl rfl rfl rfl (by kernel_rfl) (by kernel_rfl) (by kernel_rfl) (fun _ _ _ h => h) (by rfl) ?hoga2 hHeld ?roga2
    case hoga2 => (intro w' hSw; (try dsimp only at hSw); go_simp <;> with_reducible rfl)
    try simp only [Act.put, List.setIfInBounds_toArray, List.set_cons_zero, List.set_cons_succ]
    refine take_op (i := 3) (d := 15) (OP := Op.move (Operand.tmp 3)) (T := 9) (v := ?voga3) rfl rfl rfl rfl (by kernel_rfl) (by kernel_rfl) (by kernel_rfl) (fun _ _ _ h => h) (by rfl) ?hoga3 hHeld ?roga3
    case hoga3 => (intro w' hSw; (try dsimp only at hSw); go_simp <;> with_reducible rfl)
    try simp only [Act.put, List.setIfInBounds_toArray, List.set_cons_zero, List.set_cons_succ]
    refine take_op (i := 5) (d := 17) (OP := Op.fieldAddr 34 (Operand.tmp 1) 2) (T := 0) (v := ?voga4) rfl rfl rfl rfl (by kernel_rfl) (by kernel_rfl) (by kernel_rfl) (fun _ _ _ h => h) (by rfl) ?hoga4 hHeld ?roga4
    case hoga4 => (intro w' hSw; (try dsimp only at hSw); go_simp <;> with_reducible rfl)
    try simp only [Act.put, List.setIfInBounds_toArray, List.set_cons_zero, List.set_cons_succ]
    refine take_op (i := 6) (d := 18) (OP := Op.load 9 (Operand.tmp 17)) (T := 9) (v := ?voga5) rfl rfl rfl rfl (by kernel_rfl) (by kernel_rfl) (by kernel_rfl) (fun _ _ _ h => h) (by rfl) ?hoga5 hHeld ?roga5
    case hoga5 => (intro w' hSw; (try dsimp only at hSw); go_simp <;> with_reducible rfl)
    try simp only [Act.put, List.setIfInBounds_toArray, List.set_cons_zero, List.set_cons_succ]
    refine call_op (i := 2) (d := 14) (OP := Op.call { callee := Callee.value (Operand.func 102), args := #[Operand.tmp 13], argTypes := #[32] }) (T := 9) (f := 102) (args := #[.int .i64 1]) rfl rfl rfl rfl (by kernel_rfl) (by rfl) (by go_simp) ?_
    refine (k102 _).mono ?_
    rintro e y1 ⟨rfl, dy1⟩
    have by1 := b0.trans (dy1.mono b0.size)
    have sy1 := HS.out y1 by1
    refine ⟨_, rfl, sy1, ?_⟩
    replace hHeld := sy1
    try simp only [Act.put, List.setIfInBounds_toArray, List.set_cons_zero, List.set_cons_succ]
    refine call_op (i := 4) (d := 16) (OP := Op.call { callee := Callee.value (Operand.func 103), args := #[Operand.tmp 15], argTypes := #[9] }) (T := 9) (f := 103) (args := #[.string JP]) rfl rfl rfl rfl (by kernel_rfl) (by rfl) (by go_simp) ?_
    refine (kJP _).mono ?_
    rintro e y2 ⟨rfl, dy2⟩
    have by2 := by1.trans (dy2.mono by1.size)
    have sy2 := HS.out y2 by2
    refine ⟨_, rfl, sy2, ?_⟩
    replace hHeld := sy2
    try simp only [Act.put, List.setIfInBounds_toArray, List.set_cons_zero, List.set_cons_succ]
    refine call_op (i := 7) (d := 19) (OP := Op.call { callee := Callee.value (Operand.func 103), args := #[Operand.tmp 18], argTypes := #[9] }) (T := 9) (f := 103) (args := #[.string s]) rfl rfl rfl rfl (by kernel_rfl) (by rfl) (by go_simp) ?_
    refine (kS _).mono ?_
    rintro e y3 ⟨rfl, dy3⟩
    have by3 := by2.trans (dy3.mono by2.size)
    have sy3 := HS.out y3 by3
    refine ⟨_, rfl, sy3, ?_⟩
    replace hHeld := sy3
    try simp only [Act.put, List.setIfInBounds_toArray, List.set_cons_zero, List.set_cons_succ]
    obtain ⟨z, hz⟩ : ∃ q, q = y3.alloc (.cells #[.string DW, .string WJ, .string WS] 9) := ⟨_, rfl⟩
    have dz : Below y3.heap.size y3 z := by rw [hz]; exact (Below.refl _ _).alloc (Nat.le_refl _) _
    have bz := by3.trans (dz.mono by3.size)
    have sz := HS.out z bz
    have hO : Os z w.heap.size (.slice (some ⟨y3.heap.size, 0, none⟩) 3 3) [DW, WJ, WS] := by rw [hz]; exact World.ownsRow_lit y3 #[.string DW, .string WJ, .string WS] 3 (Nat.le_trans HW.out.2.2.size by3.size) (by decide) rfl
    refine turn_op (i := 8) (d := 20) (OP := Op.buildSlice 30 3 #[(0, Operand.tmp 14), (1, Operand.tmp 16), (2, Operand.tmp 19)]) (T := 30) (v := .slice (some ⟨y3.heap.size, 0, none⟩) 3 3) (w' := z) rfl rfl rfl rfl (by kernel_rfl) (by rfl) (by rw [hz]; exact exec_words rfl rfl rfl) sz ?_
    try simp only [Act.put, List.setIfInBounds_toArray, List.set_cons_zero, List.set_cons_succ]
    refine take_op (i := 9) (d := 5) (OP := Op.assign (Operand.tmp 20)) (T := 30) (v := ?voga6) rfl rfl rfl rfl (by kernel_rfl) (by kernel_rfl) (by kernel_rfl) (fun _ _ _ h => h) (by rfl) ?hoga6 sz ?roga6
    case hoga6 => (intro w' hSw; (try dsimp only at hSw); go_simp <;> with_reducible rfl)
    try simp only [Act.put, List.setIfInBounds_toArray, List.set_cons_zero, List.set_cons_succ]
    refine wpAnyH_done (by kernel_rfl) ?_ _
    have BZ := hide bz
    have HO := hide hO
    clear hO bz b0 by1 by2 by3 dz hHeld hz dy1 dy2 dy3 sy1 sy2 sy3 k102 kJP kS
    obtain ⟨x0, x1, x2, x3, x4, x5⟩ := sz

    have hfin : ∀ W v, Os W w.heap.size v ([DW, WJ, WS] ++ [WN]) → Calls Tryz.prog 104 #[v, .string ⟨#[32]⟩] W fun e w' => e = .returned (.string X) ∧ Below W.heap.size W w' := fun W v hv => by
      rw [HT.out.1]; exact joinW_any ⟨#[32]⟩ hv (by simp) (by simp) HT.out.2.1
    go_wp2_with fail
    have hc := kF z BZ.out
    refine hc.mono ?_
    rintro e u1 ⟨rfl, du1⟩
    have BU := hide (BZ.out.trans (du1.mono BZ.out.size))
    have hO1 := (HO.out.below du1).below ((Below.refl _ u1).alloc (Nat.le_refl _) (.cells #[.string WN] 9))
    obtain ⟨v2, u2, hr2, hO2, -, hb2⟩ := push_str hO1 (heap_alloc_new u1 (.cells #[.string WN] 9)) (by simp) (by have := HW.out.2.2.size; have := BU.out.size; simp; omega)
    have BV := hide ((HW.out.2.2.trans (BU.out.mono HW.out.2.2.size)).alloc (Nat.le_trans HW.out.2.2.size BU.out.size) (.cells #[.string WN] 9) |>.trans hb2)
    have k104 := hfin u2 v2 hO2
    clear hc hO1 hb2 hO2 hfin du1
    go_wp2_with (first
      | (at_builtin; refine wpList_turn (OP := .call { callee := .builtin .append, args := #[.tmp 31, .tmp 35], argTypes := #[30, 30] }) (T := 30) rfl rfl rfl (exec_append rfl rfl hr2) ?_; clear hr2)
      | (go_at_call 104; refine k104.mono ?_; rintro e u3 ⟨rfl, du3⟩))
    go_ret
    exact ⟨rfl, BV.out.trans (du3.mono BV.out.size)⟩
  have e1 : (d == 1) = false := by simpa using h1
  rw [if_neg h1] at HT
  by_cases h6 : d = 6
  · subst h6
    rw [if_pos rfl] at HT
    go_enter Tryz.func48, Tryz.ntmps48
    go_upto_region 1 with fail
    rw [← HW.out.1, ← HW.out.2.1]
    obtain ⟨x0, x1, x2, x3, x4, x5⟩ := HS.out w0 (Below.refl _ _)
    go_upto_region 2 with (go_at_call 101; refine k101.mono ?_; rintro e wr ⟨rfl, d1⟩; have D1 := hide d1; clear d1 k101 x0 x1 x2 x3 x4 x5)
    have hsd := HS.out wr D1.out
    refine wp_region_held_drew (S := fun w' => w'.cell? ⟨Sb, 0, none⟩ = some (.slice pa N pc) ∧ w'.cell? ⟨Sb, 1, none⟩ = some (.int .i64 k) ∧ w'.cell? ⟨Sb, 2, none⟩ = some (.string s) ∧ w'.cell? ⟨Sb, 3, none⟩ = some (.int .i64 6) ∧ w'.cell? ⟨Sb, 4, none⟩ = some (.int .i64 n) ∧ w'.cell? ⟨Sb, 5, none⟩ = some (.string t)) (by kernel_rfl) hsd (fun hHeld => ?_)
    clear hsd
    obtain ⟨Wd, hWd⟩ : ∃ q, q = wr.drew := ⟨_, rfl⟩
    have b0 : Below w0.heap.size w0 Wd := by rw [hWd]; exact D1.out.drew
    rw [← hWd] at hHeld ⊢
    clear hWd
    refine take_op (i := 0) (d := 12) (OP := Op.fieldAddr 34 (Operand.tmp 1) 3) (T := 0) (v := ?vogb1) rfl rfl rfl rfl (by kernel_rfl) (by kernel_rfl) (by kernel_rfl) (fun _ _ _ h => h) (by rfl) ?hogb1 hHeld ?rogb1
    case hogb1 => (intro w' hSw; (try dsimp only at hSw); go_simp <;> with_reducible rfl)
    try simp only [Act.put, List.setIfInBounds_toArray, List.set_cons_zero, List.set_cons_succ]
    refine take_op (i := 1) (d := 13) (OP := Op.load 32 (Operand.tmp 12)) (T := 32) (v := ?vogb2) rfl rfl rfl rfl (by kernel_rfl) (by kernel_rfl) (by kernel_rfl) (fun _ _ _ h => h) (by rfl) ?hogb2 hHeld ?rogb2
    case hogb2 => (intro w' hSw; (try dsimp only at hSw); go_simp <;> with_reducible rfl)
    try simp only [Act.put, List.setIfInBounds_toArray, List.set_cons_zero, List.set_cons_succ]
    refine take_op (i := 3) (d := 15) (OP := Op.move (Operand.tmp 3)) (T := 9) (v := ?vogb3) rfl rfl rfl rfl (by kernel_rfl) (by kernel_rfl) (by kernel_rfl) (fun _ _ _ h => h) (by rfl) ?hogb3 hHeld ?rogb3
    case hogb3 => (intro w' hSw; (try dsimp only at hSw); go_simp <;> with_reducible rfl)
    try simp only [Act.put, List.setIfInBounds_toArray, List.set_cons_zero, List.set_cons_succ]
    refine take_op (i := 5) (d := 17) (OP := Op.fieldAddr 34 (Operand.tmp 1) 2) (T := 0) (v := ?vogb4) rfl rfl rfl rfl (by kernel_rfl) (by kernel_rfl) (by kernel_rfl) (fun _ _ _ h => h) (by rfl) ?hogb4 hHeld ?rogb4
    case hogb4 => (intro w' hSw; (try dsimp only at hSw); go_simp <;> with_reducible rfl)
    try simp only [Act.put, List.setIfInBounds_toArray, List.set_cons_zero, List.set_cons_succ]
    refine take_op (i := 6) (d := 18) (OP := Op.load 9 (Operand.tmp 17)) (T := 9) (v := ?vogb5) rfl rfl rfl rfl (by kernel_rfl) (by kernel_rfl) (by kernel_rfl) (fun _ _ _ h => h) (by rfl) ?hogb5 hHeld ?rogb5
    case hogb5 => (intro w' hSw; (try dsimp only at hSw); go_simp <;> with_reducible rfl)
    try simp only [Act.put, List.setIfInBounds_toArray, List.set_cons_zero, List.set_cons_succ]
    refine call_op (i := 2) (d := 14) (OP := Op.call { callee := Callee.value (Operand.func 102), args := #[Operand.tmp 13], argTypes := #[32] }) (T := 9) (f := 102) (args := #[.int .i64 6]) rfl rfl rfl rfl (by kernel_rfl) (by rfl) (by go_simp) ?_
    refine (k102 _).mono ?_
    rintro e y1 ⟨rfl, dy1⟩
    have by1 := b0.trans (dy1.mono b0.size)
    have sy1 := HS.out y1 by1
    refine ⟨_, rfl, sy1, ?_⟩
    replace hHeld := sy1
    try simp only [Act.put, List.setIfInBounds_toArray, List.set_cons_zero, List.set_cons_succ]
    refine call_op (i := 4) (d := 16) (OP := Op.call { callee := Callee.value (Operand.func 103), args := #[Operand.tmp 15], argTypes := #[9] }) (T := 9) (f := 103) (args := #[.string JP]) rfl rfl rfl rfl (by kernel_rfl) (by rfl) (by go_simp) ?_
    refine (kJP _).mono ?_
    rintro e y2 ⟨rfl, dy2⟩
    have by2 := by1.trans (dy2.mono by1.size)
    have sy2 := HS.out y2 by2
    refine ⟨_, rfl, sy2, ?_⟩
    replace hHeld := sy2
    try simp only [Act.put, List.setIfInBounds_toArray, List.set_cons_zero, List.set_cons_succ]
    refine call_op (i := 7) (d := 19) (OP := Op.call { callee := Callee.value (Operand.func 103), args := #[Operand.tmp 18], argTypes := #[9] }) (T := 9) (f := 103) (args := #[.string s]) rfl rfl rfl rfl (by kernel_rfl) (by rfl) (by go_simp) ?_
    refine (kS _).mono ?_
    rintro e y3 ⟨rfl, dy3⟩
    have by3 := by2.trans (dy3.mono by2.size)
    have sy3 := HS.out y3 by3
    refine ⟨_, rfl, sy3, ?_⟩
    replace hHeld := sy3
    try simp only [Act.put, List.setIfInBounds_toArray, List.set_cons_zero, List.set_cons_succ]
    obtain ⟨z, hz⟩ : ∃ q, q = y3.alloc (.cells #[.string DW, .string WJ, .string WS] 9) := ⟨_, rfl⟩
    have dz : Below y3.heap.size y3 z := by rw [hz]; exact (Below.refl _ _).alloc (Nat.le_refl _) _
    have bz := by3.trans (dz.mono by3.size)
    have sz := HS.out z bz
    have hO : Os z w.heap.size (.slice (some ⟨y3.heap.size, 0, none⟩) 3 3) [DW, WJ, WS] := by rw [hz]; exact World.ownsRow_lit y3 #[.string DW, .string WJ, .string WS] 3 (Nat.le_trans HW.out.2.2.size by3.size) (by decide) rfl
    refine turn_op (i := 8) (d := 20) (OP := Op.buildSlice 30 3 #[(0, Operand.tmp 14), (1, Operand.tmp 16), (2, Operand.tmp 19)]) (T := 30) (v := .slice (some ⟨y3.heap.size, 0, none⟩) 3 3) (w' := z) rfl rfl rfl rfl (by kernel_rfl) (by rfl) (by rw [hz]; exact exec_words rfl rfl rfl) sz ?_
    try simp only [Act.put, List.setIfInBounds_toArray, List.set_cons_zero, List.set_cons_succ]
    refine take_op (i := 9) (d := 5) (OP := Op.assign (Operand.tmp 20)) (T := 30) (v := ?vogb6) rfl rfl rfl rfl (by kernel_rfl) (by kernel_rfl) (by kernel_rfl) (fun _ _ _ h => h) (by rfl) ?hogb6 sz ?rogb6
    case hogb6 => (intro w' hSw; (try dsimp only at hSw); go_simp <;> with_reducible rfl)
    try simp only [Act.put, List.setIfInBounds_toArray, List.set_cons_zero, List.set_cons_succ]
    refine wpAnyH_done (by kernel_rfl) ?_ _
    have BZ := hide bz
    have HO := hide hO
    clear hO bz b0 by1 by2 by3 dz hHeld hz dy1 dy2 dy3 sy1 sy2 sy3 k102 kJP kS
    obtain ⟨x0, x1, x2, x3, x4, x5⟩ := sz

    have hfin : Calls Tryz.prog 104 #[.slice (some ⟨y3.heap.size, 0, none⟩) 3 3, .string ⟨#[32]⟩] z fun e w' => e = .returned (.string X) ∧ Below z.heap.size z w' := by
      rw [HT.out.1]; exact joinW_any ⟨#[32]⟩ (by simpa using HO.out) (by simp) (by simp) (by simpa using HT.out.2.1)
    go_wp2_with (go_at_call 104; refine hfin.mono ?_; rintro e u3 ⟨rfl, du3⟩)
    go_ret
    have BV := HW.out.2.2.trans (BZ.out.mono HW.out.2.2.size)
    exact ⟨rfl, BV.trans (du3.mono BV.size)⟩
  have e6 : (d == 6) = false := by simpa using h6
  rw [if_neg h6] at HT
  go_enter Tryz.func48, Tryz.ntmps48
  go_upto_region 1 with fail
  rw [← HW.out.1, ← HW.out.2.1]
  obtain ⟨x0, x1, x2, x3, x4, x5⟩ := HS.out w0 (Below.refl _ _)
  go_upto_region 2 with (go_at_call 101; refine k101.mono ?_; rintro e wr ⟨rfl, d1⟩; have D1 := hide d1; clear d1 k101 x0 x1 x2 x3 x4 x5)
  have hsd := HS.out wr D1.out
  refine wp_region_held_drew (S := fun w' => w'.cell? ⟨Sb, 0, none⟩ = some (.slice pa N pc) ∧ w'.cell? ⟨Sb, 1, none⟩ = some (.int .i64 k) ∧ w'.cell? ⟨Sb, 2, none⟩ = some (.string s) ∧ w'.cell? ⟨Sb, 3, none⟩ = some (.int .i64 d) ∧ w'.cell? ⟨Sb, 4, none⟩ = some (.int .i64 n) ∧ w'.cell? ⟨Sb, 5, none⟩ = some (.string t)) (by kernel_rfl) hsd (fun hHeld => ?_)
  clear hsd
  obtain ⟨Wd, hWd⟩ : ∃ q, q = wr.drew := ⟨_, rfl⟩
  have b0 : Below w0.heap.size w0 Wd := by rw [hWd]; exact D1.out.drew
  rw [← hWd] at hHeld ⊢
  clear hWd
  refine take_op (i := 0) (d := 12) (OP := Op.fieldAddr 34 (Operand.tmp 1) 3) (T := 0) (v := ?vogc1) rfl rfl rfl rfl (by kernel_rfl) (by kernel_rfl) (by kernel_rfl) (fun _ _ _ h => h) (by rfl) ?hogc1 hHeld ?rogc1
  case hogc1 => (intro w' hSw; (try dsimp only at hSw); go_simp <;> with_reducible rfl)
  try simp only [Act.put, List.setIfInBounds_toArray, List.set_cons_zero, List.set_cons_succ]
  refine take_op (i := 1) (d := 13) (OP := Op.load 32 (Operand.tmp 12)) (T := 32) (v := ?vogc2) rfl rfl rfl rfl (by kernel_rfl) (by kernel_rfl) (by kernel_rfl) (fun _ _ _ h => h) (by rfl) ?hogc2 hHeld ?rogc2
  case hogc2 => (intro w' hSw; (try dsimp only at hSw); go_simp <;> with_reducible rfl)
  try simp only [Act.put, List.setIfInBounds_toArray, List.set_cons_zero, List.set_cons_succ]
  refine take_op (i := 3) (d := 15) (OP := Op.move (Operand.tmp 3)) (T := 9) (v := ?vogc3) rfl rfl rfl rfl (by kernel_rfl) (by kernel_rfl) (by kernel_rfl) (fun _ _ _ h => h) (by rfl) ?hogc3 hHeld ?rogc3
  case hogc3 => (intro w' hSw; (try dsimp only at hSw); go_simp <;> with_reducible rfl)
  try simp only [Act.put, List.setIfInBounds_toArray, List.set_cons_zero, List.set_cons_succ]
  refine take_op (i := 5) (d := 17) (OP := Op.fieldAddr 34 (Operand.tmp 1) 2) (T := 0) (v := ?vogc4) rfl rfl rfl rfl (by kernel_rfl) (by kernel_rfl) (by kernel_rfl) (fun _ _ _ h => h) (by rfl) ?hogc4 hHeld ?rogc4
  case hogc4 => (intro w' hSw; (try dsimp only at hSw); go_simp <;> with_reducible rfl)
  try simp only [Act.put, List.setIfInBounds_toArray, List.set_cons_zero, List.set_cons_succ]
  refine take_op (i := 6) (d := 18) (OP := Op.load 9 (Operand.tmp 17)) (T := 9) (v := ?vogc5) rfl rfl rfl rfl (by kernel_rfl) (by kernel_rfl) (by kernel_rfl) (fun _ _ _ h => h) (by rfl) ?hogc5 hHeld ?rogc5
  case hogc5 => (intro w' hSw; (try dsimp only at hSw); go_simp <;> with_reducible rfl)
  try simp only [Act.put, List.setIfInBounds_toArray, List.set_cons_zero, List.set_cons_succ]
  refine call_op (i := 2) (d := 14) (OP := Op.call { callee := Callee.value (Operand.func 102), args := #[Operand.tmp 13], argTypes := #[32] }) (T := 9) (f := 102) (args := #[.int .i64 d]) rfl rfl rfl rfl (by kernel_rfl) (by rfl) (by go_simp) ?_
  refine (k102 _).mono ?_
  rintro e y1 ⟨rfl, dy1⟩
  have by1 := b0.trans (dy1.mono b0.size)
  have sy1 := HS.out y1 by1
  refine ⟨_, rfl, sy1, ?_⟩
  replace hHeld := sy1
  try simp only [Act.put, List.setIfInBounds_toArray, List.set_cons_zero, List.set_cons_succ]
  refine call_op (i := 4) (d := 16) (OP := Op.call { callee := Callee.value (Operand.func 103), args := #[Operand.tmp 15], argTypes := #[9] }) (T := 9) (f := 103) (args := #[.string JP]) rfl rfl rfl rfl (by kernel_rfl) (by rfl) (by go_simp) ?_
  refine (kJP _).mono ?_
  rintro e y2 ⟨rfl, dy2⟩
  have by2 := by1.trans (dy2.mono by1.size)
  have sy2 := HS.out y2 by2
  refine ⟨_, rfl, sy2, ?_⟩
  replace hHeld := sy2
  try simp only [Act.put, List.setIfInBounds_toArray, List.set_cons_zero, List.set_cons_succ]
  refine call_op (i := 7) (d := 19) (OP := Op.call { callee := Callee.value (Operand.func 103), args := #[Operand.tmp 18], argTypes := #[9] }) (T := 9) (f := 103) (args := #[.string s]) rfl rfl rfl rfl (by kernel_rfl) (by rfl) (by go_simp) ?_
  refine (kS _).mono ?_
  rintro e y3 ⟨rfl, dy3⟩
  have by3 := by2.trans (dy3.mono by2.size)
  have sy3 := HS.out y3 by3
  refine ⟨_, rfl, sy3, ?_⟩
  replace hHeld := sy3
  try simp only [Act.put, List.setIfInBounds_toArray, List.set_cons_zero, List.set_cons_succ]
  obtain ⟨z, hz⟩ : ∃ q, q = y3.alloc (.cells #[.string DW, .string WJ, .string WS] 9) := ⟨_, rfl⟩
  have dz : Below y3.heap.size y3 z := by rw [hz]; exact (Below.refl _ _).alloc (Nat.le_refl _) _
  have bz := by3.trans (dz.mono by3.size)
  have sz := HS.out z bz
  have hO : Os z w.heap.size (.slice (some ⟨y3.heap.size, 0, none⟩) 3 3) [DW, WJ, WS] := by rw [hz]; exact World.ownsRow_lit y3 #[.string DW, .string WJ, .string WS] 3 (Nat.le_trans HW.out.2.2.size by3.size) (by decide) rfl
  refine turn_op (i := 8) (d := 20) (OP := Op.buildSlice 30 3 #[(0, Operand.tmp 14), (1, Operand.tmp 16), (2, Operand.tmp 19)]) (T := 30) (v := .slice (some ⟨y3.heap.size, 0, none⟩) 3 3) (w' := z) rfl rfl rfl rfl (by kernel_rfl) (by rfl) (by rw [hz]; exact exec_words rfl rfl rfl) sz ?_
  try simp only [Act.put, List.setIfInBounds_toArray, List.set_cons_zero, List.set_cons_succ]
  refine take_op (i := 9) (d := 5) (OP := Op.assign (Operand.tmp 20)) (T := 30) (v := ?vogc6) rfl rfl rfl rfl (by kernel_rfl) (by kernel_rfl) (by kernel_rfl) (fun _ _ _ h => h) (by rfl) ?hogc6 sz ?rogc6
  case hogc6 => (intro w' hSw; (try dsimp only at hSw); go_simp <;> with_reducible rfl)
  try simp only [Act.put, List.setIfInBounds_toArray, List.set_cons_zero, List.set_cons_succ]
  refine wpAnyH_done (by kernel_rfl) ?_ _
  have BZ := hide bz
  have HO := hide hO
  clear hO bz b0 by1 by2 by3 dz hHeld hz dy1 dy2 dy3 sy1 sy2 sy3 k102 kJP kS
  obtain ⟨x0, x1, x2, x3, x4, x5⟩ := sz

  have hfin : ∀ W v, Os W w.heap.size v ([DW, WJ, WS] ++ [WT]) → Calls Tryz.prog 104 #[v, .string ⟨#[32]⟩] W fun e w' => e = .returned (.string X) ∧ Below W.heap.size W w' := fun W v hv => by
    rw [HT.out.1]; exact joinW_any ⟨#[32]⟩ hv (by simp) (by simp) HT.out.2.1
  go_wp2_with fail
  refine (kT z).mono ?_
  rintro e u1 ⟨rfl, du1⟩
  have BU := hide (BZ.out.trans (du1.mono BZ.out.size))
  have hO1 := (HO.out.below du1).below ((Below.refl _ u1).alloc (Nat.le_refl _) (.cells #[.string WT] 9))
  obtain ⟨v2, u2, hr2, hO2, -, hb2⟩ := push_str hO1 (heap_alloc_new u1 (.cells #[.string WT] 9)) (by simp) (by have := HW.out.2.2.size; have := BU.out.size; simp; omega)
  have BV := hide ((HW.out.2.2.trans (BU.out.mono HW.out.2.2.size)).alloc (Nat.le_trans HW.out.2.2.size BU.out.size) (.cells #[.string WT] 9) |>.trans hb2)
  have k104 := hfin u2 v2 hO2
  clear hO1 hb2 hO2 hfin du1
  go_wp2_with (first
    | (at_builtin; refine wpList_turn (OP := .call { callee := .builtin .append, args := #[.tmp 23, .tmp 27], argTypes := #[30, 30] }) (T := 30) rfl rfl rfl (exec_append rfl rfl hr2) ?_; clear hr2)
    | (go_at_call 104; refine k104.mono ?_; rintro e u3 ⟨rfl, du3⟩))
  go_ret
  exact ⟨rfl, BV.out.trans (du3.mono BV.out.size)⟩
end Go.Proofs.YtpepgoelnagoaaaGreatDoor
namespace Go.Proofs.YtpepgoelnagoaaaGreatDoor
open Go.ChangeShapes Go.WideShapes Go.ChangeAt Go.RowKit Go.Lib Go.Shelf

def dataInts : DataW Unit → List Int
  | .agg l => l.map fun | .lit (.int _ z) => z | _ => 0
  | _ => []
/-- THE WITNESS: the settled world, the five variables holding what their initialisers lay. -/
noncomputable def laidWorld (os : Go.Os) : World :=
  let w0 := World.holding Tryz.prog os ⟨#[], #[], []⟩
  let put (h : Array Obj) (g : Nat) (cs : Array Value) : Array Obj := h.modify g fun
    | .cells _ t frozen => .cells cs t frozen
    | o => o
  let h1 := put w0.heap 0 (Lib.firstTab.map fun z => Value.int .u8 z).toArray
  let h2 := put h1 1 ((List.range 16).flatMap fun i => [Value.int .u8 (Lib.accLo i), Value.int .u8 (Lib.accHi i)]).toArray
  let h3 := put h2 2 (Lib.pow10Tab.map fun z => Value.int .u64 z).toArray
  let h4 := put h3 6 ((dataInts Rows.laid_math_bits_deBruijn32tab).map fun z => Value.int .u8 z).toArray
  let h5 := put h4 7 ((dataInts Rows.laid_math_bits_deBruijn64tab).map fun z => Value.int .u8 z).toArray
  { w0 with heap := h5 }
abbrev laidL : List (String × DataW Unit) := [("math/bits.deBruijn32tab", Rows.laid_math_bits_deBruijn32tab), ("math/bits.deBruijn64tab", Rows.laid_math_bits_deBruijn64tab), ("internal/strconv.uint64pow10", Lib.tabData .u64 Lib.pow10Tab), ("unicode/utf8.acceptRanges", Lib.acceptData), ("unicode/utf8.first", Lib.firstData)]
theorem laid_met (os : Go.Os) (args : Array Value) : laidMet Tryz.prog laidL ((laidWorld os).forCall (fun _ _ => 0) ⟨#[], args, []⟩).memory :=
  (LaidIn.of_run (l := laidL) [6, 7, 2, 1, 0] 8 (by kernel_rfl) (by kernel_rfl) (by kernel_rfl) (by kernel_rfl)).met
theorem tabs_of {W : World} (hL : laidMet Tryz.prog laidL W) : Tabs W :=
  utf8Tabs_of_readsT (U8Types.of196 Tryz.laysValid) ⟨by kernel_rfl, by kernel_rfl, by kernel_rfl, by kernel_rfl, by kernel_rfl, by kernel_rfl, by kernel_rfl⟩ (Lib.laidMet.reads hL (.tail _ (.tail _ (.tail _ (.tail _ (.head _)))))) (Lib.laidMet.reads hL (.tail _ (.tail _ (.tail _ (.head _)))))
theorem envO_of {W : World} (hL : laidMet Tryz.prog laidL W) (hS : W.ShapedOpen Tryz.prog) : EnvO W :=
  ⟨tabs_of hL, Lib.tabIs_of_head (g := 2) (t := 231) (e := 86) (n := 20) (by kernel_rfl) (by kernel_rfl) (by kernel_rfl) (by kernel_rfl) (by kernel_rfl) (by kernel_rfl) hL.tail.tail, cell_of_shapedOpen_int (t := 3) (zero := #[.int .i64 0]) hS (of_decide_eq_true (by kernel_rfl)) (by kernel_rfl) rfl (by kernel_rfl) (by kernel_rfl) (by kernel_rfl)⟩
end Go.Proofs.YtpepgoelnagoaaaGreatDoor
