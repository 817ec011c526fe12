/-
  DISKS, PLAINLY: raw writes, what they do, and how a disk lies in memory: one block of eight cells, two areas and a log that it owns, bytes that it reads. It names no function of the program.
-/
import Derived.Test.YtfaceimamipbpaaFrames
import Derived.Test.YtfaceimamipbpaaBytes
import Derived.Test.YtfaceimamipbpaaDrawn
namespace Go.Proofs.Ytfaceimamipbpaa
open Go.RowKit

theorem _root_.Go.Proofs.Try.info5 : (Try.prog.info? 5).map (fun i => (i.zero, i.size, i.bytes)) = some (some (.int .u8 0), 1, 1) := by kernel_rfl
theorem _root_.Go.Proofs.Try.info50 : (Try.prog.info? 50).map (fun i => (i.zero, i.size, i.bytes)) = some (some (.agg #[.int .i64 0, .int .i64 0, .slice none 0 0]), 3, 40) := by kernel_rfl

theorem hide {p : Prop} (h : p) : Hid p := h

structure Wr where
  kind : Int
  area : Int
  data : List Int
/-- Both areas, and the one in use. -/
structure St where
  a0 : List Int
  a1 : List Int
  u : Int
def St.at (s : St) (i : Int) : List Int := if i = 0 then s.a0 else s.a1
def St.put (s : St) (i : Int) (l : List Int) : St := if i = 0 then { s with a0 := l } else { s with a1 := l }
def play (s : St) (x : Wr) : St := if x.kind = 1 then s.put x.area (s.at x.area ++ x.data) else if x.kind = 2 then s.put x.area [] else { s with u := 1 - s.u }
def plays (s : St) (l : List Wr) : St := l.foldl play s
theorem plays_snoc (s : St) (l : List Wr) (x : Wr) : plays s (l ++ [x]) = play (plays s l) x := by simp [plays]
theorem plays_nil (s : St) : plays s [] = s := rfl

/-- A state that a disk of this capacity may have. -/
structure Fit (cap : Int) (s : St) : Prop where
  l0 : (s.a0.length : Int) ≤ cap
  l1 : (s.a1.length : Int) ≤ cap
  b0 : U8 s.a0
  b1 : U8 s.a1
  u : s.u = 0 ∨ s.u = 1
/-- A raw write that may be done. -/
structure Ok (x : Wr) : Prop where
  kind : x.kind = 1 ∨ x.kind = 2 ∨ x.kind = 3
  area : x.area = 0 ∨ x.area = 1
  bytes : U8 x.data
  len : x.data.length ≤ 1048576
  clr : x.kind = 2 → x.data = []
  trn : x.kind = 3 → x.area = 0 ∧ x.data = []
/-- At every place of the log the state may be had. -/
def Fits (cap : Int) (beg : St) (log : List Wr) : Prop := (∀ k, k ≤ log.length → Fit cap (plays beg (log.take k))) ∧ ∀ x ∈ log, Ok x

theorem Fits.now {cap : Int} {beg : St} {log : List Wr} (h : Fits cap beg log) : Fit cap (plays beg log) := by
  have := h.1 log.length (Nat.le_refl _)
  rwa [List.take_length] at this
theorem Fits.begin {cap : Int} {beg : St} {log : List Wr} (h : Fits cap beg log) : Fit cap beg := by
  have := h.1 0 (Nat.zero_le _)
  simpa [plays] using this
theorem Fits.take {cap : Int} {beg : St} {log : List Wr} (h : Fits cap beg log) (k : Nat) : Fits cap beg (log.take k) := by
  refine ⟨fun j hj => ?_, fun x hx => h.2 x (List.mem_of_mem_take hx)⟩
  rw [List.take_take]
  exact h.1 _ (by have : min j k ≤ k := Nat.min_le_right _ _; simp at hj; omega)
theorem Fits.nil {cap : Int} {beg : St} (h : Fit cap beg) : Fits cap beg [] := ⟨fun k _ => by simpa [plays] using h, by simp⟩
theorem Fits.snoc {cap : Int} {beg : St} {log : List Wr} {x : Wr} (h : Fits cap beg log) (hx : Ok x) (hf : Fit cap (play (plays beg log) x)) : Fits cap beg (log ++ [x]) := by
  refine ⟨fun k hk => ?_, ?_⟩
  · by_cases hl : k ≤ log.length
    · rw [List.take_append_of_le_length hl]; exact h.1 k hl
    · have : k = (log ++ [x]).length := by simp at hk ⊢; omega
      rw [this, List.take_length, plays_snoc]; exact hf
  · intro y hy
    simp at hy
    rcases hy with hy | hy
    · exact h.2 y hy
    · subst hy; exact hx
theorem U8.append {a b : List Int} (ha : U8 a) (hb : U8 b) : U8 (a ++ b) := fun y hy => by
  simp at hy
  rcases hy with h | h
  · exact ha y h
  · exact hb y h
theorem U8.nil : U8 [] := fun _ h => by cases h

/-- Where an append lays what it answers: where the row lay, or in a new block. -/
def Where (w : World) (v v' : Value) : Prop := ∀ k, v'.ownBlock = some k → v.ownBlock = some k ∨ w.heap.size ≤ k
theorem append_where {P : Program} (w : World) (t ty e : TypeId) (i : TypeInfo) (z : Value) (size bytes : Nat) (ht : P.underlying t = some (.slice e)) (hi : P.info? e = some i) (hz : i.zero = some z)
    (hsize : i.size = size) (hby : i.bytes = bytes) (hzs : z.cells.size = size) (hsz : 0 < size)
    (v : Value) (n : Nat) (xs : List Value) (hown : w.ownsRow 0 e size v n xs)
    (a : Addr) (m c : Nat) (news : List Value) (hl : news.length = m * size) (hnews : ∀ j u, news[j]? = some u → w.cell? (a.add j) = some u) (h1 : ∀ u ∈ news, u.oneCell' = true)
    (h63 : n + m ≤ maxLen) (hbytes : (n + m) * bytes ≤ 140737488355328) :
    ∃ v' w', (Builtin.append_ #[t, t] ty #[v, .slice (some a) m c]).run P w = .ok v' w' ∧ w'.ownsRow 0 e size v' (n + m) (xs ++ news) ∧ w.grownBy w' v.ownBlock ∧ Where w v v' := by
  obtain ⟨v', w', hr, h2, h3, _⟩ := run_append_own (P := P) w 0 t ty e i z size bytes ht hi hz hsize hby hzs hsz v n xs hown a m c news hl hnews h1 h63 hbytes (Nat.zero_le _)
  refine ⟨v', w', hr, h2, h3, ?_⟩
  intro k hk
  rcases hown.2 with ⟨rfl, rfl⟩ | ⟨g, cap, cur, rfl, hbg, hg, hnc, hcm, hcs, htake⟩
  · have hx : xs = [] := List.eq_nil_of_length_eq_zero (by simpa using hown.1)
    subst hx
    obtain ⟨v2, w2, hr2, k2, _, _⟩ := run_append_own (P := P) w w.heap.size t ty e i z size bytes ht hi hz hsize hby hzs hsz (.slice none 0 0) 0 [] (World.ownsRow_nil _ _ _ _) a m c news hl hnews h1 h63 hbytes (Nat.le_refl _)
    rw [hr] at hr2
    cases hr2
    exact .inr (World.ownsRow.lt k2 k hk).1
  · subst hsize
    subst hby
    by_cases hroom : n + m ≤ cap
    · have hfit : n * i.size + news.length ≤ cur.size := by rw [hl, hcs, ← Nat.add_mul]; exact Nat.mul_le_mul_right _ hroom
      have hr2 := run_append_room (P := P) w t ty e i ht hi g n cap cur hg a m c news hl hnews h1 hroom hfit
      rw [hr] at hr2
      cases hr2
      exact .inl hk
    · have holds : ∀ j u, xs[j]? = some u → w.cell? ((⟨g, 0, none⟩ : Addr).add j) = some u := hown.cells (g := g) rfl
      have hr2 := run_append_grow (P := P) w t ty e i z ht hi hz ⟨g, 0, none⟩ n cap xs hown.1 holds a m c news hl hnews (by omega) (by simp only [maxLen] at h63; omega) (growslice_fits (by omega) hbytes)
      rw [hr] at hr2
      cases hr2
      simp [Value.ownBlock] at hk
      exact .inr (by omega)

/-- Bytes that are read, laid on bytes that are owned. -/
theorem app_bytes (ty : TypeId) (w : World) (v : Value) (p : List Int) (hown : Own 5 w 0 v p) (ao : Option Addr) (c : Nat) (l : List Int) (hc : ao = none → c = 0) (hrd : Rd w ao l) (hbytes : p.length + l.length ≤ 140737488355328) :
    ∃ v' w', (Builtin.append_ #[22, 22] ty #[v, .slice ao l.length c]).run Try.prog w = .ok v' w' ∧ Own 5 w' 0 v' (p ++ l) ∧ w.grownBy w' v.ownBlock ∧ Where w v v' := by
  obtain ⟨i0, hi, hz0, hz1, hz2⟩ := info_parts Try.info5
  cases ao with
  | none =>
    have hl := hrd.1 rfl
    subst hl
    have hc0 := hc rfl
    subst hc0
    exact ⟨v, w, run_append_owned_none (P := Try.prog) (w := w) 0 22 ty 5 i0 1 Try.underlying22 hi v _ _ hown, by simpa using hown, World.grownBy.refl _ _, fun k hk => .inl hk⟩
  | some ad =>
    obtain ⟨v', w', hr, h2, h3, h4⟩ := append_where (P := Try.prog) w 22 ty 5 i0 (.int .u8 0) 1 1 Try.underlying22 hi hz0 hz1 hz2 rfl (by decide) v _ _ hown ad l.length c (u8s l) (by simp [u8s]) (fun j u hj => hrd.2 ad rfl j u hj) u8s_one (by unfold maxLen; omega) (by omega)
    exact ⟨v', w', hr, by unfold Own; rw [u8s_append, List.length_append]; exact h2, h3, h4⟩

theorem Own.form {e : TypeId} {w : World} {B : Nat} {v : Value} {l : List Int} (h : Own e w B v l) : ∃ ao cap, v = .slice ao l.length cap ∧ (ao = none → cap = 0) := by
  obtain ⟨ao, cap, rfl, _, _⟩ := h.shape
  refine ⟨ao, cap, rfl, fun hn => ?_⟩
  subst hn
  rcases h.2 with ⟨h1, _⟩ | ⟨g, c, cur, h1, _⟩
  · simp at h1; exact h1.2
  · simp at h1

/-- An operation in a region that draws its order, that comes up alone and turns the world. -/
theorem turn_op {P : Program} {md : Region.Mode} {ops : Array Oper} {Q : Exit → Act → World → Prop} {S : World → Prop} {i : Nat} {oi : Oper} {d : Tmp} {OP : Op} {T : TypeId} {v : Value} {fuel : Nat} {listed : Array Bool} {a : Act} {w w' : World} (hi : ops[i]? = some oi) (hd : oi.dst = some d) (ho : oi.op = OP) (ht : oi.type = T)
    (hr : Region.ready md ops listed = [i]) (hw : Region.wanted oi (yielded ops a.tmps) = true)
    (hy : (execOp a.eval { dst := none, op := OP, type := T, pos := "", after := #[], guard := none }).run P w = .ok (.value v) w') (hS : S w')
    (h : wpAnyH P md ops Q S fuel (listed.setIfInBounds i true) (a.put (some d) v) w') : wpAnyH P md ops Q S (fuel + 1) listed a w := by
  refine wpAnyH_ready hr (by simp) (AllReadyH.cons hi (fun K hK => ?_) AllReadyH.nil)
  rw [if_pos hw]
  unfold Oper.wp
  rw [exec_same a.eval oi ho ht, hy]
  show K (a.put oi.dst v) w'
  rw [hd]
  exact hK.out _ _ hS (fun _ => h)

theorem exec_append {P : Program} {ev : Operand → Value} {s x : Operand} {t T : TypeId} {v u v' : Value} {w w' : World} (hs : ev s = v) (hx : ev x = u) (hr : (Builtin.append_ #[t, t] T #[v, u]).run P w = .ok v' w') :
    (execOp ev { dst := none, op := .call { callee := .builtin .append, args := #[s, x], argTypes := #[t, t] }, type := T, pos := "", after := #[], guard := none }).run P w = .ok (.value v') w' := by
  simp [execOp, resolve, invoke, builtin, hs, hx, hr, Result.andThen]

/-- A slice of bytes that can be read, in a block of G. -/
structure RdG (w : World) (G : Nat → Prop) (ao : Option Addr) (c : Nat) (l : List Int) : Prop where
  rd : Rd w ao l
  nil : ao = none → c = 0
  blk : ∀ a, ao = some a → G a.block
theorem RdG.mono {w : World} {G G' : Nat → Prop} {ao : Option Addr} {c : Nat} {l : List Int} (h : RdG w G ao c l) (hG : ∀ k, G k → G' k) : RdG w G' ao c l := ⟨h.rd, h.nil, fun a ha => hG _ (h.blk a ha)⟩
theorem RdG.only {w w' : World} {G D : Nat → Prop} {ao : Option Addr} {c : Nat} {l : List Int} (h : RdG w G ao c l) (k : Only D w w') (hD : Apart D G) : RdG w' G ao c l := ⟨k.rd h.rd (fun a ha hd => hD _ hd (h.blk a ha)), h.nil, h.blk⟩

/-- The log's raw writes, three cells each. -/
def Items (w : World) (G : Nat → Prop) : List Wr → List Value → Prop
  | [], xs => xs = []
  | x :: l, xs => ∃ ao c r, xs = .int .i64 x.kind :: .int .i64 x.area :: .slice ao x.data.length c :: r ∧ RdG w G ao c x.data ∧ Items w G l r
theorem Items.mono {w : World} {G G' : Nat → Prop} (hG : ∀ k, G k → G' k) : ∀ {l : List Wr} {xs : List Value}, Items w G l xs → Items w G' l xs
  | [], _, h => h
  | _ :: _, _, ⟨ao, c, r, h1, h2, h3⟩ => ⟨ao, c, r, h1, h2.mono hG, Items.mono hG h3⟩
theorem Items.only {w w' : World} {G D : Nat → Prop} (k : Only D w w') (hD : Apart D G) : ∀ {l : List Wr} {xs : List Value}, Items w G l xs → Items w' G l xs
  | [], _, h => h
  | _ :: _, _, ⟨ao, c, r, h1, h2, h3⟩ => ⟨ao, c, r, h1, h2.only k hD, Items.only k hD h3⟩
theorem Items.snoc {w : World} {G : Nat → Prop} {x : Wr} {ao : Option Addr} {c : Nat} (hx : RdG w G ao c x.data) : ∀ {l : List Wr} {xs : List Value}, Items w G l xs → Items w G (l ++ [x]) (xs ++ [.int .i64 x.kind, .int .i64 x.area, .slice ao x.data.length c])
  | [], _, h => by cases h; exact ⟨ao, c, [], rfl, hx, rfl⟩
  | _ :: _, _, ⟨ao', c', r, h1, h2, h3⟩ => by subst h1; exact ⟨ao', c', _, rfl, h2, Items.snoc hx h3⟩
theorem Items.at {w : World} {G : Nat → Prop} : ∀ {l : List Wr} {xs : List Value}, Items w G l xs → ∀ {k : Nat} {x : Wr}, l[k]? = some x → ∃ ao c, xs[3 * k]? = some (.int .i64 x.kind) ∧ xs[3 * k + 1]? = some (.int .i64 x.area) ∧ xs[3 * k + 2]? = some (.slice ao x.data.length c) ∧ RdG w G ao c x.data
  | [], _, _, k, x, hx => by simp at hx
  | y :: l, _, ⟨ao, c, r, h1, h2, h3⟩, k, x, hx => by
    subst h1
    cases k with
    | zero => simp at hx; subst hx; exact ⟨ao, c, rfl, rfl, rfl, h2⟩
    | succ k =>
      obtain ⟨ao', c', q1, q2, q3, q4⟩ := Items.at h3 (k := k) (x := x) (by simpa using hx)
      refine ⟨ao', c', ?_, ?_, ?_, q4⟩
      · rw [show 3 * (k + 1) = 3 * k + 1 + 1 + 1 by omega]; simpa using q1
      · rw [show 3 * (k + 1) + 1 = 3 * k + 1 + 1 + 1 + 1 by omega]; simpa using q2
      · rw [show 3 * (k + 1) + 2 = 3 * k + 2 + 1 + 1 + 1 by omega]; simpa using q3

abbrev Lay8 := Int → Value → Value → Int → Value → Value → Int → Value → Array Value
/-- How the program's disk lies, and the document's. -/
def progL : Lay8 := fun cap b0 b1 bu a0 a1 u lg => #[.int .i64 cap, b0, b1, .int .i64 bu, a0, a1, .int .i64 u, lg]
def refL : Lay8 := fun cap b0 b1 bu a0 a1 u lg => #[.int .i64 cap, .int .i64 u, .int .i64 bu, a0, a1, b0, b1, lg]

/-- A disk in memory: F holds the blocks that it writes, G those that it only reads. -/
structure Rep (C : Lay8) (T : TypeId) (F G : Nat → Prop) (w : World) (R : Nat) (cap : Int) (beg now : St) (log : List Wr) (x0 : Option Addr) (c0 : Nat) (x1 : Option Addr) (c1 : Nat) (va vb vl : Value) (xs : List Value) : Prop where
  cells : w.heap[R]? = some (.cells (C cap (.slice x0 beg.a0.length c0) (.slice x1 beg.a1.length c1) beg.u va vb now.u vl) T (0, 0))
  r0 : RdG w G x0 c0 beg.a0
  r1 : RdG w G x1 c1 beg.a1
  o0 : Own 5 w 0 va now.a0
  o1 : Own 5 w 0 vb now.a1
  ol : w.ownsRow 0 50 3 vl log.length xs
  it : Items w G log xs
  fR : F R
  f0 : ∀ k, va.ownBlock = some k → F k ∧ k ≠ R
  f1 : ∀ k, vb.ownBlock = some k → F k ∧ k ≠ R ∧ va.ownBlock ≠ some k
  fl : ∀ k, vl.ownBlock = some k → F k ∧ k ≠ R ∧ va.ownBlock ≠ some k ∧ vb.ownBlock ≠ some k
  apart : Apart F G
  uF : Under F w.heap.size
  uG : Under G w.heap.size

section
variable {C : Lay8} {T : TypeId} {F G : Nat → Prop} {w w' : World} {R : Nat} {cap : Int} {beg now : St} {log : List Wr} {x0 : Option Addr} {c0 : Nat} {x1 : Option Addr} {c1 : Nat} {va vb vl : Value} {xs : List Value}

theorem Rep.only (h : Rep C T F G w R cap beg now log x0 c0 x1 c1 va vb vl xs) {D : Nat → Prop} (k : Only D w w') (hF : Apart D F) (hG : Apart D G) : Rep C T F G w' R cap beg now log x0 c0 x1 c1 va vb vl xs where
  cells := by rw [k.block R (h.uF R h.fR) (fun d => hF R d h.fR)]; exact h.cells
  r0 := h.r0.only k hG
  r1 := h.r1.only k hG
  o0 := k.own h.o0 (fun j hj d => hF j d (h.f0 j hj).1)
  o1 := k.own h.o1 (fun j hj d => hF j d (h.f1 j hj).1)
  ol := k.row h.ol (fun j hj d => hF j d (h.fl j hj).1)
  it := h.it.only k hG
  fR := h.fR
  f0 := h.f0
  f1 := h.f1
  fl := h.fl
  apart := h.apart
  uF := fun j hj => Nat.lt_of_lt_of_le (h.uF j hj) k.size
  uG := fun j hj => Nat.lt_of_lt_of_le (h.uG j hj) k.size
theorem Rep.below (h : Rep C T F G w R cap beg now log x0 c0 x1 c1 va vb vl xs) (k : Below w.heap.size w w') : Rep C T F G w' R cap beg now log x0 c0 x1 c1 va vb vl xs :=
  h.only (Only.ofBelow k) (fun _ d => d.elim) (fun _ d => d.elim)
/-- More blocks that are only read. -/
theorem Rep.wider (h : Rep C T F G w R cap beg now log x0 c0 x1 c1 va vb vl xs) {G' : Nat → Prop} (hG : ∀ k, G k → G' k) (ha : Apart F G') (hu : Under G' w.heap.size) : Rep C T F G' w R cap beg now log x0 c0 x1 c1 va vb vl xs where
  cells := h.cells
  r0 := h.r0.mono hG
  r1 := h.r1.mono hG
  o0 := h.o0
  o1 := h.o1
  ol := h.ol
  it := h.it.mono hG
  fR := h.fR
  f0 := h.f0
  f1 := h.f1
  fl := h.fl
  apart := ha
  uF := h.uF
  uG := hu

/-- What a disk writes, just that. -/
def Mut (R : Nat) (va vb vl : Value) : Nat → Prop := fun k => k = R ∨ va.ownBlock = some k ∨ vb.ownBlock = some k ∨ vl.ownBlock = some k
/-- New blocks beside those of F. -/
def Grown (F F' : Nat → Prop) (w : World) : Prop := ∀ k, F' k → F k ∨ w.heap.size ≤ k
theorem Grown.refl (F : Nat → Prop) (w : World) : Grown F F w := fun _ h => .inl h
theorem Grown.trans {F F' F'' : Nat → Prop} (h : Grown F F' w) (k : Grown F' F'' w') (hs : w.heap.size ≤ w'.heap.size) : Grown F F'' w := fun j hj => by
  rcases k j hj with h1 | h1
  · exact h j h1
  · exact .inr (Nat.le_trans hs h1)

/-- The cells of a block turn: the disk's areas, the area in use or the log become others. -/
theorem Rep.turn (h : Rep C T F G w R cap beg now log x0 c0 x1 c1 va vb vl xs) {now' : St} {log' : List Wr} {va' vb' vl' : Value} {xs' : List Value} (k : Only F w w')
    (hc : w'.heap[R]? = some (.cells (C cap (.slice x0 beg.a0.length c0) (.slice x1 beg.a1.length c1) beg.u va' vb' now'.u vl') T (0, 0)))
    (h0 : Own 5 w' 0 va' now'.a0) (h1 : Own 5 w' 0 vb' now'.a1) (hl : w'.ownsRow 0 50 3 vl' log'.length xs') (hi : Items w' G log' xs')
    (d0 : Where w va va') (d1 : Where w vb vb') (dl : Where w vl vl')
    (e01 : ∀ j, w.heap.size ≤ j → va'.ownBlock = some j → vb'.ownBlock ≠ some j) (e0l : ∀ j, w.heap.size ≤ j → va'.ownBlock = some j → vl'.ownBlock ≠ some j) (e1l : ∀ j, w.heap.size ≤ j → vb'.ownBlock = some j → vl'.ownBlock ≠ some j) :
    Rep C T (Mut R va' vb' vl') G w' R cap beg now' log' x0 c0 x1 c1 va' vb' vl' xs' ∧ Grown F (Mut R va' vb' vl') w := by
  have hR := h.uF R h.fR
  have l0 : ∀ j, va.ownBlock = some j → j < w.heap.size := fun j hj => h.uF j (h.f0 j hj).1
  have l1 : ∀ j, vb.ownBlock = some j → j < w.heap.size := fun j hj => h.uF j (h.f1 j hj).1
  have ll : ∀ j, vl.ownBlock = some j → j < w.heap.size := fun j hj => h.uF j (h.fl j hj).1
  have n0 : ∀ j, va'.ownBlock = some j → j ≠ R := fun j hj => by
    rcases d0 j hj with q | q
    · exact (h.f0 j q).2
    · omega
  have n1 : ∀ j, vb'.ownBlock = some j → j ≠ R := fun j hj => by
    rcases d1 j hj with q | q
    · exact (h.f1 j q).2.1
    · omega
  have nl : ∀ j, vl'.ownBlock = some j → j ≠ R := fun j hj => by
    rcases dl j hj with q | q
    · exact (h.fl j q).2.1
    · omega
  have n01 : ∀ j, vb'.ownBlock = some j → va'.ownBlock ≠ some j := fun j hj hv => by
    rcases d1 j hj with q | q
    · rcases d0 j hv with p | p
      · exact (h.f1 j q).2.2 p
      · have := l1 j q; omega
    · exact e01 j q hv hj
  have n0l : ∀ j, vl'.ownBlock = some j → va'.ownBlock ≠ some j := fun j hj hv => by
    rcases dl j hj with q | q
    · rcases d0 j hv with p | p
      · exact (h.fl j q).2.2.1 p
      · have := ll j q; omega
    · exact e0l j q hv hj
  have n1l : ∀ j, vl'.ownBlock = some j → vb'.ownBlock ≠ some j := fun j hj hv => by
    rcases dl j hj with q | q
    · rcases d1 j hv with p | p
      · exact (h.fl j q).2.2.2 p
      · have := ll j q; omega
    · exact e1l j q hv hj
  have hg : Grown F (Mut R va' vb' vl') w := by
    rintro j (rfl | hj | hj | hj)
    · exact .inl h.fR
    · rcases d0 j hj with q | q
      · exact .inl (h.f0 j q).1
      · exact .inr q
    · rcases d1 j hj with q | q
      · exact .inl (h.f1 j q).1
      · exact .inr q
    · rcases dl j hj with q | q
      · exact .inl (h.fl j q).1
      · exact .inr q
  have hag : Apart F G := h.apart
  refine ⟨{ cells := hc, r0 := h.r0.only k hag, r1 := h.r1.only k hag, o0 := h0, o1 := h1, ol := hl, it := hi, fR := .inl rfl, f0 := fun j hj => ⟨.inr (.inl hj), n0 j hj⟩, f1 := fun j hj => ⟨.inr (.inr (.inl hj)), n1 j hj, n01 j hj⟩, fl := fun j hj => ⟨.inr (.inr (.inr hj)), nl j hj, n0l j hj, n1l j hj⟩, apart := ?_, uF := ?_, uG := fun j hj => Nat.lt_of_lt_of_le (h.uG j hj) k.size }, hg⟩
  · intro j hj hG
    rcases hg j hj with q | q
    · exact h.apart j q hG
    · have := h.uG j hG; omega
  · rintro j (rfl | hj | hj | hj)
    · exact Nat.lt_of_lt_of_le hR k.size
    · exact (World.ownsRow.lt h0 j hj).2
    · exact (World.ownsRow.lt h1 j hj).2
    · exact (World.ownsRow.lt hl j hj).2
end

/-- A disk in memory, its cells left unsaid. -/
def Disk (C : Lay8) (T : TypeId) (F G : Nat → Prop) (w : World) (R : Nat) (cap : Int) (beg now : St) (log : List Wr) : Prop :=
  ∃ x0 c0 x1 c1 va vb vl xs, Rep C T F G w R cap beg now log x0 c0 x1 c1 va vb vl xs
end Go.Proofs.Ytfaceimamipbpaa
