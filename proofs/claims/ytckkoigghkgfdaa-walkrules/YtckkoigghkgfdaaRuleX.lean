/-
  PARTS COMPARED (type 38).
  WalkRules' OWN RULE (closure 20) MAY BE ASKED.
  WalkRules' OWN RULE: THE WALK OF THE CLOSURE 20.
  WalkRules' OWN RULE MAY BE ASKED; Run BY IT.
-/
import Derived.Test.YtckkoigghkgfdaaKeep
import Derived.Laws.StructEq
import Derived.Test.YtckkoigghkgfdaaKeys8
import Derived.BigCall
import Derived.BigGuard
import Derived.BigGuardPart
import Derived.BigRegion
import Derived.Test.YtckkoigghkgfdaaUnW
namespace Go.Proofs.Ytckkoigghkgfdaa
open Go.RowKit Go.Shelf
set_option linter.unusedSimpArgs false

theorem equalIn38 (d : Nat) (p1 q1 : Int) (p2 q2 : Bool) (w : World) : (Op.equalIn (d + 2) 38 (.agg #[.int .i64 p1, .bool p2]) (.agg #[.int .i64 q1, .bool q2])).run Try.prog w = .ok (decide ((p1, p2) = (q1, q2))) w := by
  have hS : Try.prog.underlying 38 = some (.struct (Try.prog.fieldsOf 38)) := by kernel_rfl
  have hp : Try.prog.stoodInHeld 38 = false := by kernel_rfl
  rw [run_equalIn_agg w (d + 1) 38 _ _ hS hp]
  simp only [Program.fieldsOf, Try.underlying38]
  go_simp
  by_cases h1 : p1 = q1 <;> cases p2 <;> cases q2 <;> simp [h1]
theorem run_eq38 (p1 q1 : Int) (p2 q2 : Bool) (w : World) : (binOp .eql 38 (.agg #[.int .i64 p1, .bool p2]) (.agg #[.int .i64 q1, .bool q2])).run Try.prog w = .ok (.bool (decide ((p1, p2) = (q1, q2)))) w := by
  rw [run_eql_struct, show (10000 : Nat) = 9998 + 2 from rfl, equalIn38]
  rfl
theorem run_ne38 (p1 q1 : Int) (p2 q2 : Bool) (w : World) : (binOp .neq 38 (.agg #[.int .i64 p1, .bool p2]) (.agg #[.int .i64 q1, .bool q2])).run Try.prog w = .ok (.bool (!decide ((p1, p2) = (q1, q2)))) w := by
  rw [run_neq_struct, show (10000 : Nat) = 9998 + 2 from rfl, equalIn38]
  rfl
end Go.Proofs.Ytckkoigghkgfdaa
namespace Go.Proofs.Ytckkoigghkgfdaa
open Go.RowKit Go.Shelf
set_option linter.unusedSimpArgs false

/-- What the rule says where both sides have changed. -/
def pickB (bs : List Bool) (k : ByteArray) : Bool := (bs[k.size % max 1 bs.length]?).getD false
/-- What the rule answers. -/
def ruleX (bs : List Bool) (k : ByteArray) (p q r : Int × Bool) : Int × Bool := if q = r ∨ p = r then q else if p = q then r else (7, pickB bs k)
def ruleR (bs : List Bool) (k : ByteArray) (p q r : Int × Bool) : Int × Bool := if (ruleX bs k p q r).2 then ruleX bs k p q r else (0, false)
theorem ruleR_two (bs : List Bool) (k : ByteArray) (p q r : Int × Bool) : (ruleR bs k p q r).2 = (ruleX bs k p q r).2 := by
  unfold ruleR
  split
  · rfl
  · rename_i h; simp at h; rw [h]
theorem ruleR_one (bs : List Bool) (k : ByteArray) (p q r : Int × Bool) (h : (ruleR bs k p q r).2 = true) : (ruleX bs k p q r).1 = (ruleR bs k p q r).1 := by
  rw [ruleR_two] at h
  unfold ruleR
  rw [if_pos h]
/-- A part of a map: no value where there is none. -/
def Norm (_ : ByteArray) (p : Int × Bool) : Prop := p.2 = false → p.1 = 0
theorem norm_look (k : ByteArray) (l : List (ByteArray × Int)) : Norm k (look k l) := by
  induction l with
  | nil => exact fun _ => rfl
  | cons x l ih =>
    unfold Norm at *
    rw [look]
    split
    · intro h; cases h
    · exact ih
theorem norm_eq {k : ByteArray} {p : Int × Bool} (h : Norm k p) : (if p.2 then p else (0, false)) = p := by
  obtain ⟨v, b⟩ := p
  cases b
  · have := h rfl
    simp only at this
    subst this
    rfl
  · rfl
theorem ruleR_fair (bs : List Bool) : Fair Norm (ruleR bs) := by
  refine ⟨fun k _ => rfl, fun k p q hp hq => ?_, fun k p r hp hr => ?_, fun k p q hp hq => ?_, fun k p q r h => ?_⟩
  · have : ruleX bs k p q q = q := by unfold ruleX; rw [if_pos (.inl rfl)]
    unfold ruleR
    rw [this]
    exact norm_eq hq
  · have : ruleX bs k p p r = r := by
      unfold ruleX
      split
      · rename_i h; rcases h with h | h <;> exact h
      · rw [if_pos rfl]
    unfold ruleR
    rw [this]
    exact norm_eq hr
  · have : ruleX bs k p q p = q := by unfold ruleX; rw [if_pos (.inr rfl)]
    unfold ruleR
    rw [this]
    exact norm_eq hq
  · unfold ruleR at h ⊢
    split
    · rename_i h1; rw [if_pos h1, h1] at h; cases h
    · rfl
/-- Picks that lie low. -/
structure Low (B : Nat) (w : World) (v : Value) (l : List Value) : Prop where
  ex : ∃ ao cap, v = .slice ao l.length cap ∧ ∀ j u, l[j]? = some u → ∃ b off, ao = some ⟨b, off, none⟩ ∧ b < B ∧ w.cell? ⟨b, off + j, none⟩ = some u
/-- What the rule's own memory holds behind the keys asked. -/
structure RJ (B : Nat) (o a b : T) (po pa pb : Option Addr) (Ask Rt Xo Xa Xb Pk : Nat) (pkv : Value) (bs : List Bool) (ks : List ByteArray) (W : World) : Prop where
  ask : ∃ sv, W.heap[Ask]? = some (.cells #[sv] 22 (0, 0)) ∧ OnS W (Rt + 1) sv ks
  right : W.heap[Rt]? = some (.cells #[.bool true] 4 (0, 0))
  xo : W.heap[Xo]? = some (.cells #[.pointer po] 29 (0, 0))
  xa : W.heap[Xa]? = some (.cells #[.pointer pa] 29 (0, 0))
  xb : W.heap[Xb]? = some (.cells #[.pointer pb] 29 (0, 0))
  pk : W.heap[Pk]? = some (.cells #[pkv] 50 (0, 0))
  pick : Low B W pkv (bs.map .bool)
  io : In W o
  ia : In W a
  ib : In W b
theorem cell_block {W W' : World} {b i : Nat} {v : Value} (h : W.cell? ⟨b, i, none⟩ = some v) (hb : W'.heap[b]? = W.heap[b]?) : W'.cell? ⟨b, i, none⟩ = some v := by
  simp only [World.cell?, hb] at h ⊢
  exact h
/-- The blocks that a call of the rule may turn. -/
def RD (Ask Rt : Nat) (sv : Value) (j : Nat) : Prop := j = Ask ∨ j = Rt ∨ sv.ownBlock = some j
theorem RJ.types {B Ask Rt Xo Xa Xb Pk : Nat} {o a b : T} {po pa pb : Option Addr} {pkv sv : Value} {bs : List Bool} {ks : List ByteArray} {W : World} (h : RJ B o a b po pa pb Ask Rt Xo Xa Xb Pk pkv bs ks W) (h1 : W.heap[Ask]? = some (.cells #[sv] 22 (0, 0))) (h2 : OnS W (Rt + 1) sv ks) : ∀ j, RD Ask Rt sv j → ∀ ob, W.heap[j]? = some ob → ∃ cur e fr, ob = .cells cur e fr ∧ (e = 22 ∨ e = 4 ∨ e = 9) := by
  rintro j (rfl | rfl | hj) ob ho
  · rw [h1] at ho; cases ho; exact ⟨_, _, _, rfl, .inl rfl⟩
  · rw [h.right] at ho; cases ho; exact ⟨_, _, _, rfl, .inr (.inl rfl)⟩
  · rcases h2.2 with ⟨rfl, _⟩ | ⟨g, cap, cur, rfl, _, hg, _⟩
    · simp [Value.ownBlock] at hj
    · simp [Value.ownBlock] at hj
      subst hj
      rw [hg] at ho
      cases ho
      exact ⟨_, _, _, rfl, .inr (.inr rfl)⟩
theorem RJ.next {B Ask Rt Xo Xa Xb Pk : Nat} {o a b : T} {po pa pb : Option Addr} {pkv sv : Value} {bs : List Bool} {ks ks' : List ByteArray} {W W' : World} (h : RJ B o a b po pa pb Ask Rt Xo Xa Xb Pk pkv bs ks W) (h1 : W.heap[Ask]? = some (.cells #[sv] 22 (0, 0))) (h2 : OnS W (Rt + 1) sv ks) (hB : B ≤ Ask) (hAR : Ask < Rt)
    (hO : Only (RD Ask Rt sv) W W') (ha : ∃ sv', W'.heap[Ask]? = some (.cells #[sv'] 22 (0, 0)) ∧ OnS W' (Rt + 1) sv' ks') (hr : W'.heap[Rt]? = some (.cells #[.bool true] 4 (0, 0))) : RJ B o a b po pa pb Ask Rt Xo Xa Xb Pk pkv bs ks' W' := by
  have ht := h.types h1 h2
  have st : ∀ {j : Nat} {cur : Array Value} {e : TypeId} {fr : Nat × Nat}, W.heap[j]? = some (.cells cur e fr) → e ≠ 22 → e ≠ 4 → e ≠ 9 → W'.heap[j]? = some (.cells cur e fr) := fun {j cur e fr} hj n1 n2 n3 => (hO.block _ (Array.getElem?_eq_some_iff.1 hj).1 (fun d => by
    obtain ⟨cur', e', fr', he, hor⟩ := ht j d _ hj
    simp only [Obj.cells.injEq] at he
    obtain ⟨_, rfl, _⟩ := he
    rcases hor with rfl | rfl | rfl
    · exact n1 rfl
    · exact n2 rfl
    · exact n3 rfl)).trans hj
  have ti : ∀ {t : T}, In W t → In W' t := fun hi => In.typed hO (fun j d ob ho => by
    obtain ⟨cur, e, fr, he, hor⟩ := ht j d ob ho
    exact ⟨cur, e, fr, he, by rcases hor with rfl | rfl | rfl <;> decide⟩) hi
  refine ⟨ha, hr, st h.xo (by decide) (by decide) (by decide), st h.xa (by decide) (by decide) (by decide), st h.xb (by decide) (by decide) (by decide), st h.pk (by decide) (by decide) (by decide), ?_, ti h.io, ti h.ia, ti h.ib⟩
  obtain ⟨ao, cap, e, hc⟩ := h.pick.ex
  refine ⟨ao, cap, e, fun j u hj => ?_⟩
  obtain ⟨b', off, e2, hlt, c⟩ := hc j u hj
  refine ⟨b', off, e2, hlt, hO.cell c (fun d => ?_)⟩
  rcases d with d | d | d
  · simp only at d; omega
  · simp only at d; omega
  · have := (World.ownsRow.lt h2 _ d).1; simp only at this; omega
/-- What a call of the rule leaves alone. -/
theorem RJ.goes {B Tk Ask Rt Xo Xa Xb Pk : Nat} {o a b : T} {po pa pb : Option Addr} {pkv sv : Value} {bs : List Bool} {ks : List ByteArray} {W W' : World} (h : RJ B o a b po pa pb Ask Rt Xo Xa Xb Pk pkv bs ks W) (h1 : W.heap[Ask]? = some (.cells #[sv] 22 (0, 0))) (h2 : OnS W (Rt + 1) sv ks) (hB : B ≤ Ask) (hAR : Ask < Rt) (hBW : B ≤ W.heap.size)
    (hO : Only (RD Ask Rt sv) W W') : Goes B Tk W W' ∧ ∀ (cur : Array Value) (fr : Nat × Nat), W.heap[Tk]? = some (.cells cur 33 fr) → W'.heap[Tk]? = some (.cells cur 33 fr) := by
  have ht := h.types h1 h2
  have st : ∀ {j : Nat} {cur : Array Value} {e : TypeId} {fr : Nat × Nat}, W.heap[j]? = some (.cells cur e fr) → e ≠ 22 → e ≠ 4 → e ≠ 9 → W'.heap[j]? = some (.cells cur e fr) := fun {j cur e fr} hj n1 n2 n3 => (hO.block _ (Array.getElem?_eq_some_iff.1 hj).1 (fun d => by
    obtain ⟨cur', e', fr', he, hor⟩ := ht j d _ hj
    simp only [Obj.cells.injEq] at he
    obtain ⟨_, rfl, _⟩ := he
    rcases hor with rfl | rfl | rfl
    · exact n1 rfl
    · exact n2 rfl
    · exact n3 rfl)).trans hj
  refine ⟨⟨Below.only (Below.refl _ W) hO hBW (fun j d => ?_), fun j cur e fr hj he => ?_, fun j cur fr hj _ => st hj (by decide) (by decide) (by decide)⟩, fun cur fr hj => st hj (by decide) (by decide) (by decide)⟩
  · rcases d with rfl | rfl | d
    · exact hB
    · omega
    · have := (World.ownsRow.lt h2 _ d).1; omega
  · unfold keepTy at he
    refine st hj ?_ ?_ ?_ <;> (rintro rfl; revert he; decide)
end Go.Proofs.Ytckkoigghkgfdaa
namespace Go.Proofs.Ytckkoigghkgfdaa
open Go.RowKit Go.Shelf
set_option linter.unusedSimpArgs false

theorem ret_two {P : Program} {fn : Func} {p q : Tmp} {R : Ending → World → Prop} {a : Act} {w : World} {u v : Value} (h : fn.results = #[.tmp p, .tmp q]) (hp : a.tmps.getD p undef = u) (hq : a.tmps.getD q undef = v) (hdef : a.defers = []) (hR : R (.returned (.tuple #[u, v])) w) : bodyPost P fn R .ret a w := by
  refine bodyPost_ret (v := .tuple #[u, v]) ?_ hdef hR
  have hp' : a.tmps[p]?.getD undef = u := by simpa using hp
  have hq' : a.tmps[q]?.getD undef = v := by simpa using hq
  simp [results, h, hp', hq']
set_option maxHeartbeats 8000000 in
set_option maxRecDepth 100000 in
theorem rule_call {B Ask Rt Xo Xa Xb Pk : Nat} {o a b : T} {po pa pb : Option Addr} {ap : Option Addr} {np cp : Nat} {bs : List Bool} {ks : List ByteArray} (W : World) (k : ByteArray) (p1 q1 r1 : Int) (p2 q2 r2 : Bool)
    (hj : RJ B o a b po pa pb Ask Rt Xo Xa Xb Pk (.slice ap np cp) bs ks W) (hB : B ≤ Ask) (hAR : Ask < Rt) (lo : Xo < B) (la : Xa < B) (lb : Xb < B) (lp : Pk < B) (hlen : ks.length ≤ 100000) (ho : o.ptr = .pointer po) (ha : a.ptr = .pointer pa) (hb : b.ptr = .pointer pb) (so : Srt o.list) (sa : Srt a.list) (sb : Srt b.list)
    (hp : (p1, p2) = look k o.list) (hq : (q1, q2) = look k a.list) (hr : (r1, r2) = look k b.list) :
    Calls Try.prog 20 #[.string k, .agg #[.int .i64 p1, .bool p2], .agg #[.int .i64 q1, .bool q2], .agg #[.int .i64 r1, .bool r2], .pointer (some ⟨Ask, 0, none⟩), .pointer (some ⟨Rt, 0, none⟩), .pointer (some ⟨Xo, 0, none⟩), .pointer (some ⟨Xa, 0, none⟩), .pointer (some ⟨Xb, 0, none⟩), .pointer (some ⟨Pk, 0, none⟩)] W fun e W' => (∃ v, e = .returned (.tuple #[.int .i64 v, .bool (ruleX bs k (p1, p2) (q1, q2) (r1, r2)).2]) ∧ v = (ruleX bs k (p1, p2) (q1, q2) (r1, r2)).1) ∧ RJ B o a b po pa pb Ask Rt Xo Xa Xb Pk (.slice ap np cp) bs (ks ++ [k]) W' ∧ ∃ sv, W.heap[Ask]? = some (.cells #[sv] 22 (0, 0)) ∧ OnS W (Rt + 1) sv ks ∧ Only (RD Ask Rt sv) W W' := by
  obtain ⟨sv, hask, hon⟩ := hj.ask
  obtain ⟨z0, z1, z2, bz⟩ := new3 W (.cells #[.int .i64 p1, .bool p2] 38) (.cells #[.int .i64 q1, .bool q2] 38) (.cells #[.int .i64 r1, .bool r2] 38)
  obtain ⟨w1, hw1⟩ : ∃ w1, w1 = ((W.alloc (.cells #[.int .i64 p1, .bool p2] 38)).alloc (.cells #[.int .i64 q1, .bool q2] 38)).alloc (.cells #[.int .i64 r1, .bool r2] 38) := ⟨_, rfl⟩
  rw [← hw1] at z0 z1 z2 bz
  have hRtW : Rt < W.heap.size := (Array.getElem?_eq_some_iff.1 hj.right).1
  have up : ∀ {j : Nat} {x : Obj}, W.heap[j]? = some x → w1.heap[j]? = some x := fun {j x} h => (bz.block _ (Array.getElem?_eq_some_iff.1 h).1).trans h
  obtain ⟨v', w2, run2, O2, B2, g2⟩ := (hon.below bz).push k (Nat.le_trans hRtW bz.size) hlen
  have ask2 := (B2.block Ask (by omega)).trans (up hask)
  obtain ⟨s3, o3⟩ := set_one (i := 0) v' ask2
  replace s3 : (w2.setCell ⟨Ask, 0, none⟩ v').heap[Ask]? = some (.cells #[v'] 22 (0, 0)) := by simpa using s3
  have c22 : w2.cell? ⟨Ask, 0, none⟩ = some sv := (cell_of_row _ _ 0 _ 22 (0, 0) ask2).trans rfl
  have f22 : w2.frozen? ⟨Ask, 0, none⟩ = false := frozen_of_row _ _ 0 _ 22 ask2
  obtain ⟨w3, hw3⟩ : ∃ w3, w3 = w2.setCell ⟨Ask, 0, none⟩ v' := ⟨_, rfl⟩
  rw [← hw3] at s3 o3
  -- what stands in w3
  have oAll : Only (RD Ask Rt sv) W w2 := by
    have h1 : Only (RD Ask Rt sv) W w1 := (Only.ofBelow bz).mono (fun _ _ d => d.elim)
    have h2 : Only (RD Ask Rt sv) w1 (w1.alloc (.cells #[.string k] 9)) := (Only.refl _ w1).alloc _
    have h3 : Only (RD Ask Rt sv) (w1.alloc (.cells #[.string k] 9)) w2 := (Only.ofGrown g2).mono (fun j _ d => .inr (.inr d))
    exact (h1.trans h2 (fun _ _ d => d)).trans h3 (fun _ _ d => d)
  have o03 : Only (RD Ask Rt sv) W w3 := oAll.trans o3 (fun j _ d => .inl d)
  have O3 : OnS w3 (Rt + 1) v' (ks ++ [k]) := o3.row O2 (fun j hj d => by have := (World.ownsRow.lt O2 j hj).1; omega)
  have rt3 : w3.heap[Rt]? = some (.cells #[.bool true] 4 (0, 0)) := (o3.block Rt (Nat.lt_of_lt_of_le hRtW (Nat.le_trans bz.size (B2.size))) (by omega)).trans ((B2.block Rt (by omega)).trans (up hj.right))
  have J3 := hj.next hask hon hB hAR o03 ⟨v', s3, O3⟩ rt3
  have eo : ∀ {j : Nat} {x : Obj}, w1.heap[j]? = some x → W.heap.size ≤ j → ∀ cur fr, x = .cells cur 38 fr → w3.heap[j]? = some x := fun {j x} h hge cur fr he => by
    have hlt := (Array.getElem?_eq_some_iff.1 h).1
    have h4 : (w1.alloc (.cells #[.string k] 9)).heap[j]? = some x := (((Below.refl _ w1).alloc (Nat.le_refl _) _).block j hlt).trans h
    have h5 : w2.heap[j]? = some x := ((Only.ofGrown g2).block j (by simp; omega) (fun d => by
      rcases hon.2 with ⟨rfl, _⟩ | ⟨g, cap, cur', rfl, _, hg, _⟩
      · simp [Value.ownBlock] at d
      · simp [Value.ownBlock] at d
        have := (Array.getElem?_eq_some_iff.1 hg).1
        omega)).trans h4
    exact (o3.block j (Array.getElem?_eq_some_iff.1 h5).1 (fun d => by omega)).trans h5
  have x0 := eo z0 (Nat.le_refl _) _ _ rfl
  have x1 := eo z1 (by omega) _ _ rfl
  have x2 := eo z2 (by omega) _ _ rfl
  obtain ⟨PB, hPB⟩ : ∃ PB, PB = W.heap.size := ⟨_, rfl⟩
  rw [← hPB] at x0 x1 x2
  have hPR : Rt < PB := by omega
  have q0 : w3.cell? ⟨Rt, 0, none⟩ = some (.bool true) ∧ w3.cell? ⟨Xo, 0, none⟩ = some (.pointer po) ∧ w3.cell? ⟨Xa, 0, none⟩ = some (.pointer pa) ∧ w3.cell? ⟨Xb, 0, none⟩ = some (.pointer pb) ∧ w3.cell? ⟨PB, 0, none⟩ = some (.int .i64 p1) ∧ w3.cell? ⟨PB, 1, none⟩ = some (.bool p2) ∧ w3.cell? ⟨PB + 1, 0, none⟩ = some (.int .i64 q1) ∧ w3.cell? ⟨PB + 1, 1, none⟩ = some (.bool q2) ∧ w3.cell? ⟨PB + 1 + 1, 0, none⟩ = some (.int .i64 r1) ∧ w3.cell? ⟨PB + 1 + 1, 1, none⟩ = some (.bool r2) ∧ w3.cell? ⟨Pk, 0, none⟩ = some (.slice ap np cp) ∧ Hid (Only (fun j => j = Rt) w3 w3) := ⟨(cell_of_row _ _ 0 _ 4 (0, 0) rt3).trans rfl, (cell_of_row _ _ 0 _ 29 (0, 0) J3.xo).trans rfl, (cell_of_row _ _ 0 _ 29 (0, 0) J3.xa).trans rfl, (cell_of_row _ _ 0 _ 29 (0, 0) J3.xb).trans rfl, (cell_of_row _ _ 0 _ 38 (0, 0) x0).trans rfl, (cell_of_row _ _ 1 _ 38 (0, 0) x0).trans rfl, (cell_of_row _ _ 0 _ 38 (0, 0) x1).trans rfl, (cell_of_row _ _ 1 _ 38 (0, 0) x1).trans rfl, (cell_of_row _ _ 0 _ 38 (0, 0) x2).trans rfl, (cell_of_row _ _ 1 _ 38 (0, 0) x2).trans rfl, (cell_of_row _ _ 0 _ 50 (0, 0) J3.pk).trans rfl, hide (Only.refl _ _)⟩
  have tyR : ∀ j, j = Rt → ∀ ob, w3.heap[j]? = some ob → ∃ cur e fr, ob = .cells cur e fr ∧ e ≠ 83 := fun j e ob hob => by subst e; rw [rt3] at hob; cases hob; exact ⟨_, _, _, rfl, by decide⟩
  have hpartp : ∀ W', Only (fun j => j = Rt) w3 W' → Calls Try.prog 12 #[.agg #[.pointer po], .string k] W' fun e w' => e = .returned (.agg #[.int .i64 p1, .bool p2]) ∧ Below W'.heap.size W' w' := fun W' hW => by
    have := part_any o k W' (In.typed hW tyR J3.io) so
    rw [mv_ptr ho, ← hp] at this
    exact this
  have hpartq : ∀ W', Only (fun j => j = Rt) w3 W' → Calls Try.prog 12 #[.agg #[.pointer pa], .string k] W' fun e w' => e = .returned (.agg #[.int .i64 q1, .bool q2]) ∧ Below W'.heap.size W' w' := fun W' hW => by
    have := part_any a k W' (In.typed hW tyR J3.ia) sa
    rw [mv_ptr ha, ← hq] at this
    exact this
  have hpartr : ∀ W', Only (fun j => j = Rt) w3 W' → Calls Try.prog 12 #[.agg #[.pointer pb], .string k] W' fun e w' => e = .returned (.agg #[.int .i64 r1, .bool r2]) ∧ Below W'.heap.size W' w' := fun W' hW => by
    have := part_any b k W' (In.typed hW tyR J3.ib) sb
    rw [mv_ptr hb, ← hr] at this
    exact this
  have HJN : Hid (∀ W', Only (fun j => j = Rt) w3 W' → W'.heap[Rt]? = some (.cells #[.bool true] 4 (0, 0)) → RJ B o a b po pa pb Ask Rt Xo Xa Xb Pk (.slice ap np cp) bs (ks ++ [k]) W' ∧ ∃ sv, W.heap[Ask]? = some (.cells #[sv] 22 (0, 0)) ∧ OnS W (Rt + 1) sv ks ∧ Only (RD Ask Rt sv) W W') := hide (fun W' hW hR => by
    have o05 : Only (RD Ask Rt sv) W W' := o03.trans hW (fun j _ d => .inr (.inl d))
    refine ⟨hj.next hask hon hB hAR o05 ⟨v', ?_, ?_⟩ hR, sv, hask, hon, o05⟩
    · exact (hW.block Ask (Array.getElem?_eq_some_iff.1 s3).1 (by omega)).trans s3
    · exact hW.row O3 (fun j hj d => by have := (World.ownsRow.lt O3 j hj).1; omega))
  have HPK := hide J3.pick
  have HR3 := hide (And.intro trivial rt3)
  have ask1 := up hask
  have c1 : w1.cell? ⟨Ask, 0, none⟩ = some sv := (cell_of_row _ _ 0 _ 22 (0, 0) ask1).trans rfl
  obtain ⟨sa', sc', es⟩ := hon.shape
  obtain ⟨sn', hsn⟩ : ∃ n, n = ks.length := ⟨_, rfl⟩
  rw [← hsn] at es
  subst es
  obtain ⟨sa'', sc'', es⟩ := O2.shape
  obtain ⟨sn'', hsn'⟩ : ∃ n, n = (ks ++ [k]).length := ⟨_, rfl⟩
  rw [← hsn'] at es
  subst es
  have HQ := hide q0
  have hOx : Xo ≠ Rt ∧ Xa ≠ Rt ∧ Xb ≠ Rt ∧ Pk ≠ Rt := by omega
  have HLOW := hide (And.intro hB (And.intro hAR lp))
  obtain ⟨M1, hM1⟩ : ∃ M, M = w1.heap.size := ⟨_, rfl⟩
  clear hj hask hon z0 z1 z2 bz up O2 B2 g2 ask2 s3 o3 oAll o03 O3 J3 eo x0 x1 x2 tyR ask1 hp hq hr ho ha hb hRtW hsn hsn' hlen so sa sb rt3 q0 lp
  go_enter Try.func20, Try.ntmps20
  go_upto_region 1 with (fail)
  rw [← hw1]
  clear hw1
  go_upto_region 2 with (at_builtin; refine wpList_turn (OP := .call { callee := .builtin .append, args := #[.tmp 17, .tmp 19], argTypes := #[22, 22] }) (T := 22) rfl rfl rfl (exec_append rfl rfl run2) ?_)
  rw [← hw3]
  have q0 := HQ.out
  rw [← hPB]
  clear hw3 hPB run2 c22 f22 c1 HQ hM1
  have qd : w3.drew.cell? ⟨Rt, 0, none⟩ = some (.bool true) ∧ w3.drew.cell? ⟨Xo, 0, none⟩ = some (.pointer po) ∧ w3.drew.cell? ⟨Xa, 0, none⟩ = some (.pointer pa) ∧ w3.drew.cell? ⟨Xb, 0, none⟩ = some (.pointer pb) ∧ w3.drew.cell? ⟨PB, 0, none⟩ = some (.int .i64 p1) ∧ w3.drew.cell? ⟨PB, 1, none⟩ = some (.bool p2) ∧ w3.drew.cell? ⟨PB + 1, 0, none⟩ = some (.int .i64 q1) ∧ w3.drew.cell? ⟨PB + 1, 1, none⟩ = some (.bool q2) ∧ w3.drew.cell? ⟨PB + 1 + 1, 0, none⟩ = some (.int .i64 r1) ∧ w3.drew.cell? ⟨PB + 1 + 1, 1, none⟩ = some (.bool r2) ∧ w3.drew.cell? ⟨Pk, 0, none⟩ = some (.slice ap np cp) ∧ Hid (Only (fun j => j = Rt) w3 w3.drew) := ⟨q0.1, q0.2.1, q0.2.2.1, q0.2.2.2.1, q0.2.2.2.2.1, q0.2.2.2.2.2.1, q0.2.2.2.2.2.2.1, q0.2.2.2.2.2.2.2.1, q0.2.2.2.2.2.2.2.2.1, q0.2.2.2.2.2.2.2.2.2.1, q0.2.2.2.2.2.2.2.2.2.2.1, hide (q0.2.2.2.2.2.2.2.2.2.2.2.out.drew)⟩
  refine wp_region_held_drew (S := (fun w' => w'.cell? ⟨Rt, 0, none⟩ = some (.bool true) ∧ w'.cell? ⟨Xo, 0, none⟩ = some (.pointer po) ∧ w'.cell? ⟨Xa, 0, none⟩ = some (.pointer pa) ∧ w'.cell? ⟨Xb, 0, none⟩ = some (.pointer pb) ∧ w'.cell? ⟨PB, 0, none⟩ = some (.int .i64 p1) ∧ w'.cell? ⟨PB, 1, none⟩ = some (.bool p2) ∧ w'.cell? ⟨PB + 1, 0, none⟩ = some (.int .i64 q1) ∧ w'.cell? ⟨PB + 1, 1, none⟩ = some (.bool q2) ∧ w'.cell? ⟨PB + 1 + 1, 0, none⟩ = some (.int .i64 r1) ∧ w'.cell? ⟨PB + 1 + 1, 1, none⟩ = some (.bool r2) ∧ w'.cell? ⟨Pk, 0, none⟩ = some (.slice ap np cp) ∧ Hid (Only (fun j => j = Rt) w3 w'))) (by kernel_rfl) qd (fun hHeld => ?_)
  try dsimp only at hHeld
  refine take_op (i := 0) (d := 21) (OP := Op.load 4 (Operand.tmp 5)) (T := 4) (v := ?vzz1) rfl rfl rfl rfl (by kernel_rfl) (by kernel_rfl) (by kernel_rfl) (fun _ _ _ h => h) (by rfl) ?hzz1 hHeld ?rzz1
  case hzz1 => (intro w' hSw; (try dsimp only at hSw); go_simp <;> with_reducible rfl)
  try simp only [Act.put, List.setIfInBounds_toArray, List.set_cons_zero, List.set_cons_succ]
  refine take_op (i := 1) (d := 22) (OP := Op.move (Operand.tmp 21)) (T := 4) (v := ?vzz2) rfl rfl rfl rfl (by kernel_rfl) (by kernel_rfl) (by kernel_rfl) (fun _ _ _ h => h) (by rfl) ?hzz2 hHeld ?rzz2
  case hzz2 => (intro w' hSw; (try dsimp only at hSw); go_simp <;> with_reducible rfl)
  try simp only [Act.put, List.setIfInBounds_toArray, List.set_cons_zero, List.set_cons_succ]
  refine take_op (i := 2) (d := 23) (OP := Op.load 38 (Operand.tmp 11)) (T := 38) (v := ?vzz3) rfl rfl rfl rfl (by kernel_rfl) (by kernel_rfl) (by kernel_rfl) (fun _ _ _ h => h) (by rfl) ?hzz3 hHeld ?rzz3
  case hzz3 => (intro w' hSw; (try dsimp only at hSw); go_simp <;> with_reducible rfl)
  try simp only [Act.put, List.setIfInBounds_toArray, List.set_cons_zero, List.set_cons_succ]
  refine take_op (i := 3) (d := 24) (OP := Op.load 29 (Operand.tmp 6)) (T := 29) (v := ?vzz4) rfl rfl rfl rfl (by kernel_rfl) (by kernel_rfl) (by kernel_rfl) (fun _ _ _ h => h) (by rfl) ?hzz4 hHeld ?rzz4
  case hzz4 => (intro w' hSw; (try dsimp only at hSw); go_simp <;> with_reducible rfl)
  try simp only [Act.put, List.setIfInBounds_toArray, List.set_cons_zero, List.set_cons_succ]
  refine take_op (i := 4) (d := 25) (OP := Op.move (Operand.tmp 0)) (T := 9) (v := ?vzz5) rfl rfl rfl rfl (by kernel_rfl) (by kernel_rfl) (by kernel_rfl) (fun _ _ _ h => h) (by rfl) ?hzz5 hHeld ?rzz5
  case hzz5 => (intro w' hSw; (try dsimp only at hSw); go_simp <;> with_reducible rfl)
  try simp only [Act.put, List.setIfInBounds_toArray, List.set_cons_zero, List.set_cons_succ]
  refine call_op (i := 5) (d := 26) (OP := Op.call { callee := Callee.value (Operand.func 12), args := #[Operand.tmp 24, Operand.tmp 25], argTypes := #[29, 9] }) (T := 38) (f := 12) (args := #[.agg #[.pointer po], .string k]) rfl rfl rfl rfl (by kernel_rfl) (by rfl) (by go_simp) ?_
  refine (hpartp _ qd.2.2.2.2.2.2.2.2.2.2.2.out).mono ?_
  rintro e va ⟨rfl, bva⟩
  have qva : va.cell? ⟨Rt, 0, none⟩ = some (.bool true) ∧ va.cell? ⟨Xo, 0, none⟩ = some (.pointer po) ∧ va.cell? ⟨Xa, 0, none⟩ = some (.pointer pa) ∧ va.cell? ⟨Xb, 0, none⟩ = some (.pointer pb) ∧ va.cell? ⟨PB, 0, none⟩ = some (.int .i64 p1) ∧ va.cell? ⟨PB, 1, none⟩ = some (.bool p2) ∧ va.cell? ⟨PB + 1, 0, none⟩ = some (.int .i64 q1) ∧ va.cell? ⟨PB + 1, 1, none⟩ = some (.bool q2) ∧ va.cell? ⟨PB + 1 + 1, 0, none⟩ = some (.int .i64 r1) ∧ va.cell? ⟨PB + 1 + 1, 1, none⟩ = some (.bool r2) ∧ va.cell? ⟨Pk, 0, none⟩ = some (.slice ap np cp) ∧ Hid (Only (fun j => j = Rt) w3 va) := ⟨cell_stays qd.1 bva, cell_stays qd.2.1 bva, cell_stays qd.2.2.1 bva, cell_stays qd.2.2.2.1 bva, cell_stays qd.2.2.2.2.1 bva, cell_stays qd.2.2.2.2.2.1 bva, cell_stays qd.2.2.2.2.2.2.1 bva, cell_stays qd.2.2.2.2.2.2.2.1 bva, cell_stays qd.2.2.2.2.2.2.2.2.1 bva, cell_stays qd.2.2.2.2.2.2.2.2.2.1 bva, cell_stays qd.2.2.2.2.2.2.2.2.2.2.1 bva, hide (qd.2.2.2.2.2.2.2.2.2.2.2.out.trans (Only.ofBelow bva) (fun _ _ d => d.elim))⟩
  refine ⟨_, rfl, qva, ?_⟩
  replace hHeld := qva
  try simp only [Act.put, List.setIfInBounds_toArray, List.set_cons_zero, List.set_cons_succ]
  refine take_op (i := 6) (d := 27) (OP := Op.binOp BinOp.eql 38 (Operand.tmp 23) (Operand.tmp 26) 38) (T := 4) (v := ?vzz6) rfl rfl rfl rfl (by kernel_rfl) (by kernel_rfl) (by kernel_rfl) (fun _ _ _ h => h) (by rfl) ?hzz6 hHeld ?rzz6
  case hzz6 => (intro w' hSw; (try dsimp only at hSw); go_simp <;> with_reducible rfl)
  try simp only [Act.put, List.setIfInBounds_toArray, List.set_cons_zero, List.set_cons_succ]
  refine take_op (i := 7) (d := 28) (OP := Op.pick (Operand.tmp 22) (Operand.tmp 27) (Operand.const (Value.bool false))) (T := 4) (v := ?vzz7) rfl rfl rfl rfl (by kernel_rfl) (by kernel_rfl) (by kernel_rfl) (fun _ _ _ h => h) (by rfl) ?hzz7 hHeld ?rzz7
  case hzz7 => (intro w' hSw; (try dsimp only at hSw); go_simp <;> with_reducible rfl)
  try simp only [Act.put, List.setIfInBounds_toArray, List.set_cons_zero, List.set_cons_succ]
  refine take_op (i := 8) (d := 29) (OP := Op.move (Operand.tmp 28)) (T := 4) (v := ?vzz8) rfl rfl rfl rfl (by kernel_rfl) (by kernel_rfl) (by kernel_rfl) (fun _ _ _ h => h) (by rfl) ?hzz8 hHeld ?rzz8
  case hzz8 => (intro w' hSw; (try dsimp only at hSw); go_simp <;> with_reducible rfl)
  try simp only [Act.put, List.setIfInBounds_toArray, List.set_cons_zero, List.set_cons_succ]
  refine take_op (i := 9) (d := 30) (OP := Op.load 38 (Operand.tmp 12)) (T := 38) (v := ?vzz9) rfl rfl rfl rfl (by kernel_rfl) (by kernel_rfl) (by kernel_rfl) (fun _ _ _ h => h) (by rfl) ?hzz9 hHeld ?rzz9
  case hzz9 => (intro w' hSw; (try dsimp only at hSw); go_simp <;> with_reducible rfl)
  try simp only [Act.put, List.setIfInBounds_toArray, List.set_cons_zero, List.set_cons_succ]
  refine take_op (i := 10) (d := 31) (OP := Op.load 29 (Operand.tmp 7)) (T := 29) (v := ?vzz10) rfl rfl rfl rfl (by kernel_rfl) (by kernel_rfl) (by kernel_rfl) (fun _ _ _ h => h) (by rfl) ?hzz10 hHeld ?rzz10
  case hzz10 => (intro w' hSw; (try dsimp only at hSw); go_simp <;> with_reducible rfl)
  try simp only [Act.put, List.setIfInBounds_toArray, List.set_cons_zero, List.set_cons_succ]
  refine take_op (i := 11) (d := 32) (OP := Op.move (Operand.tmp 0)) (T := 9) (v := ?vzz11) rfl rfl rfl rfl (by kernel_rfl) (by kernel_rfl) (by kernel_rfl) (fun _ _ _ h => h) (by rfl) ?hzz11 hHeld ?rzz11
  case hzz11 => (intro w' hSw; (try dsimp only at hSw); go_simp <;> with_reducible rfl)
  try simp only [Act.put, List.setIfInBounds_toArray, List.set_cons_zero, List.set_cons_succ]
  refine call_op (i := 12) (d := 33) (OP := Op.call { callee := Callee.value (Operand.func 12), args := #[Operand.tmp 31, Operand.tmp 32], argTypes := #[29, 9] }) (T := 38) (f := 12) (args := #[.agg #[.pointer pa], .string k]) rfl rfl rfl rfl (by kernel_rfl) (by rfl) (by go_simp) ?_
  refine (hpartq _ qva.2.2.2.2.2.2.2.2.2.2.2.out).mono ?_
  rintro e vb ⟨rfl, bvb⟩
  have qvb : vb.cell? ⟨Rt, 0, none⟩ = some (.bool true) ∧ vb.cell? ⟨Xo, 0, none⟩ = some (.pointer po) ∧ vb.cell? ⟨Xa, 0, none⟩ = some (.pointer pa) ∧ vb.cell? ⟨Xb, 0, none⟩ = some (.pointer pb) ∧ vb.cell? ⟨PB, 0, none⟩ = some (.int .i64 p1) ∧ vb.cell? ⟨PB, 1, none⟩ = some (.bool p2) ∧ vb.cell? ⟨PB + 1, 0, none⟩ = some (.int .i64 q1) ∧ vb.cell? ⟨PB + 1, 1, none⟩ = some (.bool q2) ∧ vb.cell? ⟨PB + 1 + 1, 0, none⟩ = some (.int .i64 r1) ∧ vb.cell? ⟨PB + 1 + 1, 1, none⟩ = some (.bool r2) ∧ vb.cell? ⟨Pk, 0, none⟩ = some (.slice ap np cp) ∧ Hid (Only (fun j => j = Rt) w3 vb) := ⟨cell_stays qva.1 bvb, cell_stays qva.2.1 bvb, cell_stays qva.2.2.1 bvb, cell_stays qva.2.2.2.1 bvb, cell_stays qva.2.2.2.2.1 bvb, cell_stays qva.2.2.2.2.2.1 bvb, cell_stays qva.2.2.2.2.2.2.1 bvb, cell_stays qva.2.2.2.2.2.2.2.1 bvb, cell_stays qva.2.2.2.2.2.2.2.2.1 bvb, cell_stays qva.2.2.2.2.2.2.2.2.2.1 bvb, cell_stays qva.2.2.2.2.2.2.2.2.2.2.1 bvb, hide (qva.2.2.2.2.2.2.2.2.2.2.2.out.trans (Only.ofBelow bvb) (fun _ _ d => d.elim))⟩
  refine ⟨_, rfl, qvb, ?_⟩
  replace hHeld := qvb
  try simp only [Act.put, List.setIfInBounds_toArray, List.set_cons_zero, List.set_cons_succ]
  refine take_op (i := 13) (d := 34) (OP := Op.binOp BinOp.eql 38 (Operand.tmp 30) (Operand.tmp 33) 38) (T := 4) (v := ?vzz12) rfl rfl rfl rfl (by kernel_rfl) (by kernel_rfl) (by kernel_rfl) (fun _ _ _ h => h) (by rfl) ?hzz12 hHeld ?rzz12
  case hzz12 => (intro w' hSw; (try dsimp only at hSw); go_simp <;> with_reducible rfl)
  try simp only [Act.put, List.setIfInBounds_toArray, List.set_cons_zero, List.set_cons_succ]
  refine take_op (i := 14) (d := 35) (OP := Op.pick (Operand.tmp 29) (Operand.tmp 34) (Operand.const (Value.bool false))) (T := 4) (v := ?vzz13) rfl rfl rfl rfl (by kernel_rfl) (by kernel_rfl) (by kernel_rfl) (fun _ _ _ h => h) (by rfl) ?hzz13 hHeld ?rzz13
  case hzz13 => (intro w' hSw; (try dsimp only at hSw); go_simp <;> with_reducible rfl)
  try simp only [Act.put, List.setIfInBounds_toArray, List.set_cons_zero, List.set_cons_succ]
  refine take_op (i := 15) (d := 36) (OP := Op.move (Operand.tmp 35)) (T := 4) (v := ?vzz14) rfl rfl rfl rfl (by kernel_rfl) (by kernel_rfl) (by kernel_rfl) (fun _ _ _ h => h) (by rfl) ?hzz14 hHeld ?rzz14
  case hzz14 => (intro w' hSw; (try dsimp only at hSw); go_simp <;> with_reducible rfl)
  try simp only [Act.put, List.setIfInBounds_toArray, List.set_cons_zero, List.set_cons_succ]
  refine take_op (i := 16) (d := 37) (OP := Op.load 38 (Operand.tmp 13)) (T := 38) (v := ?vzz15) rfl rfl rfl rfl (by kernel_rfl) (by kernel_rfl) (by kernel_rfl) (fun _ _ _ h => h) (by rfl) ?hzz15 hHeld ?rzz15
  case hzz15 => (intro w' hSw; (try dsimp only at hSw); go_simp <;> with_reducible rfl)
  try simp only [Act.put, List.setIfInBounds_toArray, List.set_cons_zero, List.set_cons_succ]
  refine take_op (i := 17) (d := 38) (OP := Op.load 29 (Operand.tmp 8)) (T := 29) (v := ?vzz16) rfl rfl rfl rfl (by kernel_rfl) (by kernel_rfl) (by kernel_rfl) (fun _ _ _ h => h) (by rfl) ?hzz16 hHeld ?rzz16
  case hzz16 => (intro w' hSw; (try dsimp only at hSw); go_simp <;> with_reducible rfl)
  try simp only [Act.put, List.setIfInBounds_toArray, List.set_cons_zero, List.set_cons_succ]
  refine take_op (i := 18) (d := 39) (OP := Op.move (Operand.tmp 0)) (T := 9) (v := ?vzz17) rfl rfl rfl rfl (by kernel_rfl) (by kernel_rfl) (by kernel_rfl) (fun _ _ _ h => h) (by rfl) ?hzz17 hHeld ?rzz17
  case hzz17 => (intro w' hSw; (try dsimp only at hSw); go_simp <;> with_reducible rfl)
  try simp only [Act.put, List.setIfInBounds_toArray, List.set_cons_zero, List.set_cons_succ]
  refine call_op (i := 19) (d := 40) (OP := Op.call { callee := Callee.value (Operand.func 12), args := #[Operand.tmp 38, Operand.tmp 39], argTypes := #[29, 9] }) (T := 38) (f := 12) (args := #[.agg #[.pointer pb], .string k]) rfl rfl rfl rfl (by kernel_rfl) (by rfl) (by go_simp) ?_
  refine (hpartr _ qvb.2.2.2.2.2.2.2.2.2.2.2.out).mono ?_
  rintro e vc ⟨rfl, bvc⟩
  have qvc : vc.cell? ⟨Rt, 0, none⟩ = some (.bool true) ∧ vc.cell? ⟨Xo, 0, none⟩ = some (.pointer po) ∧ vc.cell? ⟨Xa, 0, none⟩ = some (.pointer pa) ∧ vc.cell? ⟨Xb, 0, none⟩ = some (.pointer pb) ∧ vc.cell? ⟨PB, 0, none⟩ = some (.int .i64 p1) ∧ vc.cell? ⟨PB, 1, none⟩ = some (.bool p2) ∧ vc.cell? ⟨PB + 1, 0, none⟩ = some (.int .i64 q1) ∧ vc.cell? ⟨PB + 1, 1, none⟩ = some (.bool q2) ∧ vc.cell? ⟨PB + 1 + 1, 0, none⟩ = some (.int .i64 r1) ∧ vc.cell? ⟨PB + 1 + 1, 1, none⟩ = some (.bool r2) ∧ vc.cell? ⟨Pk, 0, none⟩ = some (.slice ap np cp) ∧ Hid (Only (fun j => j = Rt) w3 vc) := ⟨cell_stays qvb.1 bvc, cell_stays qvb.2.1 bvc, cell_stays qvb.2.2.1 bvc, cell_stays qvb.2.2.2.1 bvc, cell_stays qvb.2.2.2.2.1 bvc, cell_stays qvb.2.2.2.2.2.1 bvc, cell_stays qvb.2.2.2.2.2.2.1 bvc, cell_stays qvb.2.2.2.2.2.2.2.1 bvc, cell_stays qvb.2.2.2.2.2.2.2.2.1 bvc, cell_stays qvb.2.2.2.2.2.2.2.2.2.1 bvc, cell_stays qvb.2.2.2.2.2.2.2.2.2.2.1 bvc, hide (qvb.2.2.2.2.2.2.2.2.2.2.2.out.trans (Only.ofBelow bvc) (fun _ _ d => d.elim))⟩
  refine ⟨_, rfl, qvc, ?_⟩
  replace hHeld := qvc
  try simp only [Act.put, List.setIfInBounds_toArray, List.set_cons_zero, List.set_cons_succ]
  refine take_op (i := 20) (d := 41) (OP := Op.binOp BinOp.eql 38 (Operand.tmp 37) (Operand.tmp 40) 38) (T := 4) (v := ?vzz18) rfl rfl rfl rfl (by kernel_rfl) (by kernel_rfl) (by kernel_rfl) (fun _ _ _ h => h) (by rfl) ?hzz18 hHeld ?rzz18
  case hzz18 => (intro w' hSw; (try dsimp only at hSw); go_simp <;> with_reducible rfl)
  try simp only [Act.put, List.setIfInBounds_toArray, List.set_cons_zero, List.set_cons_succ]
  refine take_op (i := 21) (d := 42) (OP := Op.pick (Operand.tmp 36) (Operand.tmp 41) (Operand.const (Value.bool false))) (T := 4) (v := ?vzz19) rfl rfl rfl rfl (by kernel_rfl) (by kernel_rfl) (by kernel_rfl) (fun _ _ _ h => h) (by rfl) ?hzz19 hHeld ?rzz19
  case hzz19 => (intro w' hSw; (try dsimp only at hSw); go_simp <;> with_reducible rfl)
  try simp only [Act.put, List.setIfInBounds_toArray, List.set_cons_zero, List.set_cons_succ]
  have rrt : vc.heap[Rt]? = some (.cells #[.bool true] 4 (0, 0)) := (bvc.block _ (Array.getElem?_eq_some_iff.1 ((bvb.block _ (Array.getElem?_eq_some_iff.1 ((bva.block _ (Array.getElem?_eq_some_iff.1 (show w3.drew.heap[Rt]? = _ from HR3.out.2)).1).trans (show w3.drew.heap[Rt]? = _ from HR3.out.2))).1).trans ((bva.block _ (Array.getElem?_eq_some_iff.1 (show w3.drew.heap[Rt]? = _ from HR3.out.2)).1).trans (show w3.drew.heap[Rt]? = _ from HR3.out.2)))).1).trans ((bvb.block _ (Array.getElem?_eq_some_iff.1 ((bva.block _ (Array.getElem?_eq_some_iff.1 (show w3.drew.heap[Rt]? = _ from HR3.out.2)).1).trans (show w3.drew.heap[Rt]? = _ from HR3.out.2))).1).trans ((bva.block _ (Array.getElem?_eq_some_iff.1 (show w3.drew.heap[Rt]? = _ from HR3.out.2)).1).trans (show w3.drew.heap[Rt]? = _ from HR3.out.2)))
  obtain ⟨s5, o5⟩ := set_one (i := 0) (.bool true) rrt
  obtain ⟨w5, hw5⟩ : ∃ w5, w5 = vc.setCell ⟨Rt, 0, none⟩ (.bool true) := ⟨_, rfl⟩
  rw [← hw5] at s5 o5
  have f5 : vc.frozen? ⟨Rt, 0, none⟩ = false := frozen_of_row _ _ 0 _ 4 rrt
  replace s5 : w5.heap[Rt]? = some (.cells #[.bool true] 4 (0, 0)) := by simpa using s5
  have hW5 : Only (fun j => j = Rt) w3 w5 := qvc.2.2.2.2.2.2.2.2.2.2.2.out.trans o5 (fun _ _ d => d)
  have q5 : w5.cell? ⟨Rt, 0, none⟩ = some (.bool true) ∧ w5.cell? ⟨Xo, 0, none⟩ = some (.pointer po) ∧ w5.cell? ⟨Xa, 0, none⟩ = some (.pointer pa) ∧ w5.cell? ⟨Xb, 0, none⟩ = some (.pointer pb) ∧ w5.cell? ⟨PB, 0, none⟩ = some (.int .i64 p1) ∧ w5.cell? ⟨PB, 1, none⟩ = some (.bool p2) ∧ w5.cell? ⟨PB + 1, 0, none⟩ = some (.int .i64 q1) ∧ w5.cell? ⟨PB + 1, 1, none⟩ = some (.bool q2) ∧ w5.cell? ⟨PB + 1 + 1, 0, none⟩ = some (.int .i64 r1) ∧ w5.cell? ⟨PB + 1 + 1, 1, none⟩ = some (.bool r2) ∧ w5.cell? ⟨Pk, 0, none⟩ = some (.slice ap np cp) ∧ Hid (Only (fun j => j = Rt) w3 w5) := ⟨(cell_of_row _ _ 0 _ 4 (0, 0) s5).trans rfl, o5.cell qvc.2.1 (fun e => by simp only at e; omega), o5.cell qvc.2.2.1 (fun e => by simp only at e; omega), o5.cell qvc.2.2.2.1 (fun e => by simp only at e; omega), o5.cell qvc.2.2.2.2.1 (fun e => by simp only at e; omega), o5.cell qvc.2.2.2.2.2.1 (fun e => by simp only at e; omega), o5.cell qvc.2.2.2.2.2.2.1 (fun e => by simp only at e; omega), o5.cell qvc.2.2.2.2.2.2.2.1 (fun e => by simp only at e; omega), o5.cell qvc.2.2.2.2.2.2.2.2.1 (fun e => by simp only at e; omega), o5.cell qvc.2.2.2.2.2.2.2.2.2.1 (fun e => by simp only at e; omega), o5.cell qvc.2.2.2.2.2.2.2.2.2.2.1 (fun e => by simp only at e; omega), hide hW5⟩
  have HS5 := hide s5
  clear s5 o5 hW5 rrt bva bvb bvc qva qvb
  refine skip_op (i := 22) (OP := Op.store 4 (Operand.tmp 5) (Operand.tmp 42)) (T := 0) (w' := w5) rfl rfl rfl rfl (by kernel_rfl) (by rfl) (by rw [hw5]; go_simp) ⟨q5, ?_⟩
  try simp only [Act.put, List.setIfInBounds_toArray, List.set_cons_zero, List.set_cons_succ]
  replace hHeld := q5
  clear hw5 f5
  refine wpAnyH_done (by kernel_rfl) ?_ _
  have HJ5 := hide (HJN.out w5 q5.2.2.2.2.2.2.2.2.2.2.2.out HS5.out)
  have hJ5d := HJN.out w5.drew q5.2.2.2.2.2.2.2.2.2.2.2.out.drew HS5.out
  clear HJN hHeld qd qvc hpartp hpartq hpartr HS5 HR3
  have k0 := q5.2.2.2.2.1
  have k1 := q5.2.2.2.2.2.1
  have k2 := q5.2.2.2.2.2.2.1
  have k3 := q5.2.2.2.2.2.2.2.1
  have k4 := q5.2.2.2.2.2.2.2.2.1
  have k5 := q5.2.2.2.2.2.2.2.2.2.1
  have k6 := q5.2.2.2.2.2.2.2.2.2.2.1
  have eqs := run_eq38 q1 r1 q2 r2
  have eqs2 := run_eq38 p1 r1 p2 r2
  have eqs3 := run_eq38 p1 q1 p2 q2
  by_cases e1 : (q1, q2) = (r1, r2) ∨ (p1, p2) = (r1, r2)
  · have hX : ruleX bs k (p1, p2) (q1, q2) (r1, r2) = (q1, q2) := by unfold ruleX; rw [if_pos e1]
    have HX := hide hX
    have q6 : w5.cell? ⟨PB + 1, 0, none⟩ = some (.int .i64 q1) ∧ w5.cell? ⟨PB + 1, 1, none⟩ = some (.bool q2) ∧ Hid (Only (fun j => j = Rt) w3 w5) := ⟨q5.2.2.2.2.2.2.1, q5.2.2.2.2.2.2.2.1, q5.2.2.2.2.2.2.2.2.2.2.2⟩
    by_cases e2 : (q1, q2) = (r1, r2)
    · rw [decide_eq_true e2] at eqs
      clear e1 e2 hX
      go_upto_region 4 with (fail)
      have qd : w5.drew.cell? ⟨PB + 1, 0, none⟩ = some (.int .i64 q1) ∧ w5.drew.cell? ⟨PB + 1, 1, none⟩ = some (.bool q2) ∧ Hid (Only (fun j => j = Rt) w3 w5.drew) := ⟨q6.1, q6.2.1, hide (q6.2.2.out.drew)⟩
      refine wp_region_held_drew (S := (fun w' => w'.cell? ⟨PB + 1, 0, none⟩ = some (.int .i64 q1) ∧ w'.cell? ⟨PB + 1, 1, none⟩ = some (.bool q2) ∧ Hid (Only (fun j => j = Rt) w3 w'))) (by kernel_rfl) qd (fun hHeld => ?_)
      try dsimp only at hHeld
      refine take_op (i := 0) (d := 51) (OP := Op.fieldAddr 38 (Operand.tmp 12) 0) (T := 0) (v := ?vzz20) rfl rfl rfl rfl (by kernel_rfl) (by kernel_rfl) (by kernel_rfl) (fun _ _ _ h => h) (by rfl) ?hzz20 hHeld ?rzz20
      case hzz20 => (intro w' hSw; (try dsimp only at hSw); go_simp <;> with_reducible rfl)
      try simp only [Act.put, List.setIfInBounds_toArray, List.set_cons_zero, List.set_cons_succ]
      refine take_op (i := 1) (d := 52) (OP := Op.load 3 (Operand.tmp 51)) (T := 3) (v := ?vzz21) rfl rfl rfl rfl (by kernel_rfl) (by kernel_rfl) (by kernel_rfl) (fun _ _ _ h => h) (by rfl) ?hzz21 hHeld ?rzz21
      case hzz21 => (intro w' hSw; (try dsimp only at hSw); go_simp <;> with_reducible rfl)
      try simp only [Act.put, List.setIfInBounds_toArray, List.set_cons_zero, List.set_cons_succ]
      refine take_op (i := 2) (d := 53) (OP := Op.fieldAddr 38 (Operand.tmp 12) 1) (T := 0) (v := ?vzz22) rfl rfl rfl rfl (by kernel_rfl) (by kernel_rfl) (by kernel_rfl) (fun _ _ _ h => h) (by rfl) ?hzz22 hHeld ?rzz22
      case hzz22 => (intro w' hSw; (try dsimp only at hSw); go_simp <;> with_reducible rfl)
      try simp only [Act.put, List.setIfInBounds_toArray, List.set_cons_zero, List.set_cons_succ]
      refine take_op (i := 3) (d := 54) (OP := Op.load 4 (Operand.tmp 53)) (T := 4) (v := ?vzz23) rfl rfl rfl rfl (by kernel_rfl) (by kernel_rfl) (by kernel_rfl) (fun _ _ _ h => h) (by rfl) ?hzz23 hHeld ?rzz23
      case hzz23 => (intro w' hSw; (try dsimp only at hSw); go_simp <;> with_reducible rfl)
      try simp only [Act.put, List.setIfInBounds_toArray, List.set_cons_zero, List.set_cons_succ]
      refine take_op (i := 4) (d := 14) (OP := Op.assign (Operand.tmp 52)) (T := 3) (v := ?vzz24) rfl rfl rfl rfl (by kernel_rfl) (by kernel_rfl) (by kernel_rfl) (fun _ _ _ h => h) (by rfl) ?hzz24 hHeld ?rzz24
      case hzz24 => (intro w' hSw; (try dsimp only at hSw); go_simp <;> with_reducible rfl)
      try simp only [Act.put, List.setIfInBounds_toArray, List.set_cons_zero, List.set_cons_succ]
      refine take_op (i := 5) (d := 15) (OP := Op.assign (Operand.tmp 54)) (T := 4) (v := ?vzz25) rfl rfl rfl rfl (by kernel_rfl) (by kernel_rfl) (by kernel_rfl) (fun _ _ _ h => h) (by rfl) ?hzz25 hHeld ?rzz25
      case hzz25 => (intro w' hSw; (try dsimp only at hSw); go_simp <;> with_reducible rfl)
      try simp only [Act.put, List.setIfInBounds_toArray, List.set_cons_zero, List.set_cons_succ]
      refine wpAnyH_done (by kernel_rfl) ?_ _
      have HJ6 := hJ5d
      clear hHeld q6 qd q5 HJ5
      go_wp2
      refine ret_two rfl rfl rfl rfl ?_
      rw [HX.out]
      exact ⟨⟨_, rfl, rfl⟩, HJ6⟩
    · have e3 : (p1, p2) = (r1, r2) := e1.resolve_left e2
      rw [decide_eq_false e2] at eqs
      rw [decide_eq_true e3] at eqs2
      clear e1 e2 e3 hX
      go_upto_region 4 with (fail)
      have qd : w5.drew.cell? ⟨PB + 1, 0, none⟩ = some (.int .i64 q1) ∧ w5.drew.cell? ⟨PB + 1, 1, none⟩ = some (.bool q2) ∧ Hid (Only (fun j => j = Rt) w3 w5.drew) := ⟨q6.1, q6.2.1, hide (q6.2.2.out.drew)⟩
      refine wp_region_held_drew (S := (fun w' => w'.cell? ⟨PB + 1, 0, none⟩ = some (.int .i64 q1) ∧ w'.cell? ⟨PB + 1, 1, none⟩ = some (.bool q2) ∧ Hid (Only (fun j => j = Rt) w3 w'))) (by kernel_rfl) qd (fun hHeld => ?_)
      try dsimp only at hHeld
      refine take_op (i := 0) (d := 51) (OP := Op.fieldAddr 38 (Operand.tmp 12) 0) (T := 0) (v := ?vzz52) rfl rfl rfl rfl (by kernel_rfl) (by kernel_rfl) (by kernel_rfl) (fun _ _ _ h => h) (by rfl) ?hzz52 hHeld ?rzz52
      case hzz52 => (intro w' hSw; (try dsimp only at hSw); go_simp <;> with_reducible rfl)
      try simp only [Act.put, List.setIfInBounds_toArray, List.set_cons_zero, List.set_cons_succ]
      refine take_op (i := 1) (d := 52) (OP := Op.load 3 (Operand.tmp 51)) (T := 3) (v := ?vzz53) rfl rfl rfl rfl (by kernel_rfl) (by kernel_rfl) (by kernel_rfl) (fun _ _ _ h => h) (by rfl) ?hzz53 hHeld ?rzz53
      case hzz53 => (intro w' hSw; (try dsimp only at hSw); go_simp <;> with_reducible rfl)
      try simp only [Act.put, List.setIfInBounds_toArray, List.set_cons_zero, List.set_cons_succ]
      refine take_op (i := 2) (d := 53) (OP := Op.fieldAddr 38 (Operand.tmp 12) 1) (T := 0) (v := ?vzz54) rfl rfl rfl rfl (by kernel_rfl) (by kernel_rfl) (by kernel_rfl) (fun _ _ _ h => h) (by rfl) ?hzz54 hHeld ?rzz54
      case hzz54 => (intro w' hSw; (try dsimp only at hSw); go_simp <;> with_reducible rfl)
      try simp only [Act.put, List.setIfInBounds_toArray, List.set_cons_zero, List.set_cons_succ]
      refine take_op (i := 3) (d := 54) (OP := Op.load 4 (Operand.tmp 53)) (T := 4) (v := ?vzz55) rfl rfl rfl rfl (by kernel_rfl) (by kernel_rfl) (by kernel_rfl) (fun _ _ _ h => h) (by rfl) ?hzz55 hHeld ?rzz55
      case hzz55 => (intro w' hSw; (try dsimp only at hSw); go_simp <;> with_reducible rfl)
      try simp only [Act.put, List.setIfInBounds_toArray, List.set_cons_zero, List.set_cons_succ]
      refine take_op (i := 4) (d := 14) (OP := Op.assign (Operand.tmp 52)) (T := 3) (v := ?vzz56) rfl rfl rfl rfl (by kernel_rfl) (by kernel_rfl) (by kernel_rfl) (fun _ _ _ h => h) (by rfl) ?hzz56 hHeld ?rzz56
      case hzz56 => (intro w' hSw; (try dsimp only at hSw); go_simp <;> with_reducible rfl)
      try simp only [Act.put, List.setIfInBounds_toArray, List.set_cons_zero, List.set_cons_succ]
      refine take_op (i := 5) (d := 15) (OP := Op.assign (Operand.tmp 54)) (T := 4) (v := ?vzz57) rfl rfl rfl rfl (by kernel_rfl) (by kernel_rfl) (by kernel_rfl) (fun _ _ _ h => h) (by rfl) ?hzz57 hHeld ?rzz57
      case hzz57 => (intro w' hSw; (try dsimp only at hSw); go_simp <;> with_reducible rfl)
      try simp only [Act.put, List.setIfInBounds_toArray, List.set_cons_zero, List.set_cons_succ]
      refine wpAnyH_done (by kernel_rfl) ?_ _
      have HJ6 := hJ5d
      clear hHeld q6 qd q5 HJ5
      go_wp2
      refine ret_two rfl rfl rfl rfl ?_
      rw [HX.out]
      exact ⟨⟨_, rfl, rfl⟩, HJ6⟩
  · have e2 : ¬ (q1, q2) = (r1, r2) := fun h => e1 (.inl h)
    have e3 : ¬ (p1, p2) = (r1, r2) := fun h => e1 (.inr h)
    rw [decide_eq_false e2] at eqs
    rw [decide_eq_false e3] at eqs2
    by_cases e4 : (p1, p2) = (q1, q2)
    · have hX : ruleX bs k (p1, p2) (q1, q2) (r1, r2) = (r1, r2) := by unfold ruleX; rw [if_neg e1, if_pos e4]
      have HX := hide hX
      rw [decide_eq_true e4] at eqs3
      clear e1 e2 e3 e4 hX
      have q6 : w5.cell? ⟨PB + 1 + 1, 0, none⟩ = some (.int .i64 r1) ∧ w5.cell? ⟨PB + 1 + 1, 1, none⟩ = some (.bool r2) ∧ Hid (Only (fun j => j = Rt) w3 w5) := ⟨q5.2.2.2.2.2.2.2.2.1, q5.2.2.2.2.2.2.2.2.2.1, q5.2.2.2.2.2.2.2.2.2.2.2⟩
      go_upto_region 6 with (fail)
      have qd : w5.drew.cell? ⟨PB + 1 + 1, 0, none⟩ = some (.int .i64 r1) ∧ w5.drew.cell? ⟨PB + 1 + 1, 1, none⟩ = some (.bool r2) ∧ Hid (Only (fun j => j = Rt) w3 w5.drew) := ⟨q6.1, q6.2.1, hide (q6.2.2.out.drew)⟩
      refine wp_region_held_drew (S := (fun w' => w'.cell? ⟨PB + 1 + 1, 0, none⟩ = some (.int .i64 r1) ∧ w'.cell? ⟨PB + 1 + 1, 1, none⟩ = some (.bool r2) ∧ Hid (Only (fun j => j = Rt) w3 w'))) (by kernel_rfl) qd (fun hHeld => ?_)
      try dsimp only at hHeld
      refine take_op (i := 0) (d := 58) (OP := Op.fieldAddr 38 (Operand.tmp 13) 0) (T := 0) (v := ?vzz26) rfl rfl rfl rfl (by kernel_rfl) (by kernel_rfl) (by kernel_rfl) (fun _ _ _ h => h) (by rfl) ?hzz26 hHeld ?rzz26
      case hzz26 => (intro w' hSw; (try dsimp only at hSw); go_simp <;> with_reducible rfl)
      try simp only [Act.put, List.setIfInBounds_toArray, List.set_cons_zero, List.set_cons_succ]
      refine take_op (i := 1) (d := 59) (OP := Op.load 3 (Operand.tmp 58)) (T := 3) (v := ?vzz27) rfl rfl rfl rfl (by kernel_rfl) (by kernel_rfl) (by kernel_rfl) (fun _ _ _ h => h) (by rfl) ?hzz27 hHeld ?rzz27
      case hzz27 => (intro w' hSw; (try dsimp only at hSw); go_simp <;> with_reducible rfl)
      try simp only [Act.put, List.setIfInBounds_toArray, List.set_cons_zero, List.set_cons_succ]
      refine take_op (i := 2) (d := 60) (OP := Op.fieldAddr 38 (Operand.tmp 13) 1) (T := 0) (v := ?vzz28) rfl rfl rfl rfl (by kernel_rfl) (by kernel_rfl) (by kernel_rfl) (fun _ _ _ h => h) (by rfl) ?hzz28 hHeld ?rzz28
      case hzz28 => (intro w' hSw; (try dsimp only at hSw); go_simp <;> with_reducible rfl)
      try simp only [Act.put, List.setIfInBounds_toArray, List.set_cons_zero, List.set_cons_succ]
      refine take_op (i := 3) (d := 61) (OP := Op.load 4 (Operand.tmp 60)) (T := 4) (v := ?vzz29) rfl rfl rfl rfl (by kernel_rfl) (by kernel_rfl) (by kernel_rfl) (fun _ _ _ h => h) (by rfl) ?hzz29 hHeld ?rzz29
      case hzz29 => (intro w' hSw; (try dsimp only at hSw); go_simp <;> with_reducible rfl)
      try simp only [Act.put, List.setIfInBounds_toArray, List.set_cons_zero, List.set_cons_succ]
      refine take_op (i := 4) (d := 14) (OP := Op.assign (Operand.tmp 59)) (T := 3) (v := ?vzz30) rfl rfl rfl rfl (by kernel_rfl) (by kernel_rfl) (by kernel_rfl) (fun _ _ _ h => h) (by rfl) ?hzz30 hHeld ?rzz30
      case hzz30 => (intro w' hSw; (try dsimp only at hSw); go_simp <;> with_reducible rfl)
      try simp only [Act.put, List.setIfInBounds_toArray, List.set_cons_zero, List.set_cons_succ]
      refine take_op (i := 5) (d := 15) (OP := Op.assign (Operand.tmp 61)) (T := 4) (v := ?vzz31) rfl rfl rfl rfl (by kernel_rfl) (by kernel_rfl) (by kernel_rfl) (fun _ _ _ h => h) (by rfl) ?hzz31 hHeld ?rzz31
      case hzz31 => (intro w' hSw; (try dsimp only at hSw); go_simp <;> with_reducible rfl)
      try simp only [Act.put, List.setIfInBounds_toArray, List.set_cons_zero, List.set_cons_succ]
      refine wpAnyH_done (by kernel_rfl) ?_ _
      have HJ6 := hJ5d
      clear hHeld q6 qd q5 HJ5
      go_wp2
      refine ret_two rfl rfl rfl rfl ?_
      rw [HX.out]
      exact ⟨⟨_, rfl, rfl⟩, HJ6⟩
    · have hX : ruleX bs k (p1, p2) (q1, q2) (r1, r2) = (7, pickB bs k) := by unfold ruleX; rw [if_neg e1, if_neg e4]
      have HX := hide hX
      rw [decide_eq_false e4] at eqs3
      clear e1 e2 e3 e4 hX
      obtain ⟨ao', cap', epk, hpick⟩ := HPK.out.ex
      rw [List.length_map] at epk
      simp only [Value.slice.injEq] at epk
      obtain ⟨rfl, hnp, rfl⟩ := epk
      obtain ⟨n, hn⟩ : ∃ n, n = k.size % max 1 np := ⟨_, rfl⟩
      have hmod : ((k.size : Int) % max (1 : Int) (np : Int)) = (n : Int) := by
        have hmx : max (1 : Int) (np : Int) = ((max 1 np : Nat) : Int) := by omega
        rw [hmx, hn]
        exact (Int.natCast_emod _ _).symm
      have hmx0 : ¬ max (1 : Int) (np : Int) = 0 := by omega
      have HNP := hide (And.intro hnp hn)
      have HMOD := hide hmod
      clear hnp hn hmod
      by_cases hin : n < np
      · obtain ⟨bv, hbv⟩ : ∃ bv, bs[n]? = some bv := ⟨bs[n]'(by rw [← HNP.out.1]; exact hin), List.getElem?_eq_getElem _⟩
        obtain ⟨kb, ko, rfl, hkl, hkc⟩ := hpick n (.bool bv) (by rw [List.getElem?_map, hbv]; rfl)
        have hpb : pickB bs k = bv := by unfold pickB; rw [← HNP.out.1, ← HNP.out.2, hbv]; rfl
        have HPB := hide hpb
        have hkc5 := q5.2.2.2.2.2.2.2.2.2.2.2.out.cell hkc (fun d => by simp only at d; have := HLOW.out; omega)
        have q6 : w5.cell? ⟨Pk, 0, none⟩ = some (.slice (some ⟨kb, ko, none⟩) np cp) ∧ w5.cell? ⟨kb, ko + n, none⟩ = some (.bool bv) ∧ Hid (Only (fun j => j = Rt) w3 w5) := ⟨q5.2.2.2.2.2.2.2.2.2.2.1, hkc5, q5.2.2.2.2.2.2.2.2.2.2.2⟩
        have y1 : (n : Int) < (np : Int) := by omega
        clear hbv hpb hkc hpick
        go_upto_region 8 with (fail)
        rw [HMOD.out]
        clear HMOD hmx0
        have qd : w5.drew.cell? ⟨Pk, 0, none⟩ = some (.slice (some ⟨kb, ko, none⟩) np cp) ∧ w5.drew.cell? ⟨kb, ko + n, none⟩ = some (.bool bv) ∧ Hid (Only (fun j => j = Rt) w3 w5.drew) := ⟨q6.1, q6.2.1, hide (q6.2.2.out.drew)⟩
        refine wp_region_held_drew (S := (fun w' => w'.cell? ⟨Pk, 0, none⟩ = some (.slice (some ⟨kb, ko, none⟩) np cp) ∧ w'.cell? ⟨kb, ko + n, none⟩ = some (.bool bv) ∧ Hid (Only (fun j => j = Rt) w3 w'))) (by kernel_rfl) qd (fun hHeld => ?_)
        try dsimp only at hHeld
        refine take_op (i := 0) (d := 68) (OP := Op.move (Operand.tmp 16)) (T := 3) (v := ?vzz32) rfl rfl rfl rfl (by kernel_rfl) (by kernel_rfl) (by kernel_rfl) (fun _ _ _ h => h) (by rfl) ?hzz32 hHeld ?rzz32
        case hzz32 => (intro w' hSw; (try dsimp only at hSw); go_simp <;> with_reducible rfl)
        try simp only [Act.put, List.setIfInBounds_toArray, List.set_cons_zero, List.set_cons_succ]
        refine take_op (i := 1) (d := 69) (OP := Op.load 50 (Operand.tmp 9)) (T := 50) (v := ?vzz33) rfl rfl rfl rfl (by kernel_rfl) (by kernel_rfl) (by kernel_rfl) (fun _ _ _ h => h) (by rfl) ?hzz33 hHeld ?rzz33
        case hzz33 => (intro w' hSw; (try dsimp only at hSw); go_simp <;> with_reducible rfl)
        try simp only [Act.put, List.setIfInBounds_toArray, List.set_cons_zero, List.set_cons_succ]
        refine take_op (i := 2) (d := 70) (OP := Op.call { callee := Callee.builtin Builtin.len, args := #[Operand.tmp 69], argTypes := #[50] }) (T := 3) (v := ?vzz34) rfl rfl rfl rfl (by kernel_rfl) (by kernel_rfl) (by kernel_rfl) (fun _ _ _ h => h) (by rfl) ?hzz34 hHeld ?rzz34
        case hzz34 => (intro w' hSw; (try dsimp only at hSw); go_simp <;> with_reducible rfl)
        try simp only [Act.put, List.setIfInBounds_toArray, List.set_cons_zero, List.set_cons_succ]
        refine take_op (i := 3) (d := 71) (OP := Op.binOp BinOp.lss 3 (Operand.tmp 68) (Operand.tmp 70) 3) (T := 4) (v := ?vzz35) rfl rfl rfl rfl (by kernel_rfl) (by kernel_rfl) (by kernel_rfl) (fun _ _ _ h => h) (by rfl) ?hzz35 hHeld ?rzz35
        case hzz35 => (intro w' hSw; (try dsimp only at hSw); go_simp <;> with_reducible rfl)
        try simp only [Act.put, List.setIfInBounds_toArray, List.set_cons_zero, List.set_cons_succ]
        refine take_op (i := 4) (d := 72) (OP := Op.move (Operand.tmp 71)) (T := 4) (v := ?vzz36) rfl rfl rfl rfl (by kernel_rfl) (by kernel_rfl) (by kernel_rfl) (fun _ _ _ h => h) (by rfl) ?hzz36 hHeld ?rzz36
        case hzz36 => (intro w' hSw; (try dsimp only at hSw); go_simp <;> with_reducible rfl)
        try simp only [Act.put, List.setIfInBounds_toArray, List.set_cons_zero, List.set_cons_succ]
        refine take_op (i := 5) (d := 73) (OP := Op.load 50 (Operand.tmp 9)) (T := 50) (v := ?vzz37) rfl rfl rfl rfl (by kernel_rfl) (by kernel_rfl) (by kernel_rfl) (fun _ _ _ h => h) (by rfl) ?hzz37 hHeld ?rzz37
        case hzz37 => (intro w' hSw; (try dsimp only at hSw); go_simp <;> with_reducible rfl)
        try simp only [Act.put, List.setIfInBounds_toArray, List.set_cons_zero, List.set_cons_succ]
        refine take_op (i := 6) (d := 74) (OP := Op.move (Operand.tmp 16)) (T := 3) (v := ?vzz38) rfl rfl rfl rfl (by kernel_rfl) (by kernel_rfl) (by kernel_rfl) (fun _ _ _ h => h) (by rfl) ?hzz38 hHeld ?rzz38
        case hzz38 => (intro w' hSw; (try dsimp only at hSw); go_simp <;> with_reducible rfl)
        try simp only [Act.put, List.setIfInBounds_toArray, List.set_cons_zero, List.set_cons_succ]
        refine take_op (i := 7) (d := 75) (OP := Op.indexAddr 50 (Operand.tmp 73) (Operand.tmp 74)) (T := 0) (v := ?vzz39) rfl rfl rfl rfl (by kernel_rfl) (by kernel_rfl) (by kernel_rfl) (fun _ _ _ h => h) (by rfl) ?hzz39 hHeld ?rzz39
        case hzz39 => (intro w' hSw; (try dsimp only at hSw); go_simp <;> with_reducible rfl)
        try simp only [Act.put, List.setIfInBounds_toArray, List.set_cons_zero, List.set_cons_succ]
        refine take_op (i := 8) (d := 76) (OP := Op.load 4 (Operand.tmp 75)) (T := 4) (v := ?vzz40) rfl rfl rfl rfl (by kernel_rfl) (by kernel_rfl) (by kernel_rfl) (fun _ _ _ h => h) (by rfl) ?hzz40 hHeld ?rzz40
        case hzz40 => (intro w' hSw; (try dsimp only at hSw); go_simp <;> with_reducible rfl)
        try simp only [Act.put, List.setIfInBounds_toArray, List.set_cons_zero, List.set_cons_succ]
        refine take_op (i := 9) (d := 77) (OP := Op.pick (Operand.tmp 72) (Operand.tmp 76) (Operand.const (Value.bool false))) (T := 4) (v := ?vzz41) rfl rfl rfl rfl (by kernel_rfl) (by kernel_rfl) (by kernel_rfl) (fun _ _ _ h => h) (by rfl) ?hzz41 hHeld ?rzz41
        case hzz41 => (intro w' hSw; (try dsimp only at hSw); go_simp <;> with_reducible rfl)
        try simp only [Act.put, List.setIfInBounds_toArray, List.set_cons_zero, List.set_cons_succ]
        refine take_op (i := 10) (d := 14) (OP := Op.assign (Operand.const (Value.int IntKind.i64 7))) (T := 3) (v := ?vzz42) rfl rfl rfl rfl (by kernel_rfl) (by kernel_rfl) (by kernel_rfl) (fun _ _ _ h => h) (by rfl) ?hzz42 hHeld ?rzz42
        case hzz42 => (intro w' hSw; (try dsimp only at hSw); go_simp <;> with_reducible rfl)
        try simp only [Act.put, List.setIfInBounds_toArray, List.set_cons_zero, List.set_cons_succ]
        refine take_op (i := 11) (d := 15) (OP := Op.assign (Operand.tmp 77)) (T := 4) (v := ?vzz43) rfl rfl rfl rfl (by kernel_rfl) (by kernel_rfl) (by kernel_rfl) (fun _ _ _ h => h) (by rfl) ?hzz43 hHeld ?rzz43
        case hzz43 => (intro w' hSw; (try dsimp only at hSw); go_simp <;> with_reducible rfl)
        try simp only [Act.put, List.setIfInBounds_toArray, List.set_cons_zero, List.set_cons_succ]
        refine wpAnyH_done (by kernel_rfl) ?_ _
        have HJ6 := hJ5d
        clear hHeld q6 qd q5 HJ5
        go_wp2
        refine ret_two rfl rfl rfl rfl ?_
        rw [HX.out, HPB.out]
        exact ⟨⟨_, rfl, rfl⟩, HJ6⟩
      · have hpb : pickB bs k = false := by unfold pickB; rw [← HNP.out.1, ← HNP.out.2, List.getElem?_eq_none (by rw [← HNP.out.1]; omega)]; rfl
        have HPB := hide hpb
        have q6 : w5.cell? ⟨Pk, 0, none⟩ = some (.slice ap np cp) ∧ Hid (Only (fun j => j = Rt) w3 w5) := ⟨q5.2.2.2.2.2.2.2.2.2.2.1, q5.2.2.2.2.2.2.2.2.2.2.2⟩
        have y1 : decide ((n : Int) < (np : Int)) = false := by simp; omega
        have y2 : decide (n < np) = false := by simp; omega
        clear hpb hpick
        go_upto_region 8 with (fail)
        rw [HMOD.out]
        clear HMOD hmx0
        have qd : w5.drew.cell? ⟨Pk, 0, none⟩ = some (.slice ap np cp) ∧ Hid (Only (fun j => j = Rt) w3 w5.drew) := ⟨q6.1, hide (q6.2.out.drew)⟩
        refine wp_region_held_drew (S := (fun w' => w'.cell? ⟨Pk, 0, none⟩ = some (.slice ap np cp) ∧ Hid (Only (fun j => j = Rt) w3 w'))) (by kernel_rfl) qd (fun hHeld => ?_)
        try dsimp only at hHeld
        refine take_op (i := 0) (d := 68) (OP := Op.move (Operand.tmp 16)) (T := 3) (v := ?vzz44) rfl rfl rfl rfl (by kernel_rfl) (by kernel_rfl) (by kernel_rfl) (fun _ _ _ h => h) (by rfl) ?hzz44 hHeld ?rzz44
        case hzz44 => (intro w' hSw; (try dsimp only at hSw); go_simp <;> with_reducible rfl)
        try simp only [Act.put, List.setIfInBounds_toArray, List.set_cons_zero, List.set_cons_succ]
        refine take_op (i := 1) (d := 69) (OP := Op.load 50 (Operand.tmp 9)) (T := 50) (v := ?vzz45) rfl rfl rfl rfl (by kernel_rfl) (by kernel_rfl) (by kernel_rfl) (fun _ _ _ h => h) (by rfl) ?hzz45 hHeld ?rzz45
        case hzz45 => (intro w' hSw; (try dsimp only at hSw); go_simp <;> with_reducible rfl)
        try simp only [Act.put, List.setIfInBounds_toArray, List.set_cons_zero, List.set_cons_succ]
        refine take_op (i := 2) (d := 70) (OP := Op.call { callee := Callee.builtin Builtin.len, args := #[Operand.tmp 69], argTypes := #[50] }) (T := 3) (v := ?vzz46) rfl rfl rfl rfl (by kernel_rfl) (by kernel_rfl) (by kernel_rfl) (fun _ _ _ h => h) (by rfl) ?hzz46 hHeld ?rzz46
        case hzz46 => (intro w' hSw; (try dsimp only at hSw); go_simp <;> with_reducible rfl)
        try simp only [Act.put, List.setIfInBounds_toArray, List.set_cons_zero, List.set_cons_succ]
        refine take_op (i := 3) (d := 71) (OP := Op.binOp BinOp.lss 3 (Operand.tmp 68) (Operand.tmp 70) 3) (T := 4) (v := ?vzz47) rfl rfl rfl rfl (by kernel_rfl) (by kernel_rfl) (by kernel_rfl) (fun _ _ _ h => h) (by rfl) ?hzz47 hHeld ?rzz47
        case hzz47 => (intro w' hSw; (try dsimp only at hSw); go_simp <;> with_reducible rfl)
        try simp only [Act.put, List.setIfInBounds_toArray, List.set_cons_zero, List.set_cons_succ]
        refine take_op (i := 4) (d := 72) (OP := Op.move (Operand.tmp 71)) (T := 4) (v := ?vzz48) rfl rfl rfl rfl (by kernel_rfl) (by kernel_rfl) (by kernel_rfl) (fun _ _ _ h => h) (by rfl) ?hzz48 hHeld ?rzz48
        case hzz48 => (intro w' hSw; (try dsimp only at hSw); go_simp <;> with_reducible rfl)
        try simp only [Act.put, List.setIfInBounds_toArray, List.set_cons_zero, List.set_cons_succ]
        refine pass_op (i := 5) (d := 73) rfl rfl (by kernel_rfl) (by kernel_rfl) (by kernel_rfl) (fun _ _ _ h => h) (by rfl) hHeld ?_
        try simp only [Act.put, List.setIfInBounds_toArray, List.set_cons_zero, List.set_cons_succ]
        refine pass_op (i := 6) (d := 74) rfl rfl (by kernel_rfl) (by kernel_rfl) (by kernel_rfl) (fun _ _ _ h => h) (by rfl) hHeld ?_
        try simp only [Act.put, List.setIfInBounds_toArray, List.set_cons_zero, List.set_cons_succ]
        refine pass_op (i := 7) (d := 75) rfl rfl (by kernel_rfl) (by kernel_rfl) (by kernel_rfl) (fun _ _ _ h => h) (by rfl) hHeld ?_
        try simp only [Act.put, List.setIfInBounds_toArray, List.set_cons_zero, List.set_cons_succ]
        refine pass_op (i := 8) (d := 76) rfl rfl (by kernel_rfl) (by kernel_rfl) (by kernel_rfl) (fun _ _ _ h => h) (by rfl) hHeld ?_
        try simp only [Act.put, List.setIfInBounds_toArray, List.set_cons_zero, List.set_cons_succ]
        refine take_op (i := 9) (d := 77) (OP := Op.pick (Operand.tmp 72) (Operand.tmp 76) (Operand.const (Value.bool false))) (T := 4) (v := ?vzz49) rfl rfl rfl rfl (by kernel_rfl) (by kernel_rfl) (by kernel_rfl) (fun _ _ _ h => h) (by rfl) ?hzz49 hHeld ?rzz49
        case hzz49 => (intro w' hSw; (try dsimp only at hSw); go_simp <;> with_reducible rfl)
        try simp only [Act.put, List.setIfInBounds_toArray, List.set_cons_zero, List.set_cons_succ]
        refine take_op (i := 10) (d := 14) (OP := Op.assign (Operand.const (Value.int IntKind.i64 7))) (T := 3) (v := ?vzz50) rfl rfl rfl rfl (by kernel_rfl) (by kernel_rfl) (by kernel_rfl) (fun _ _ _ h => h) (by rfl) ?hzz50 hHeld ?rzz50
        case hzz50 => (intro w' hSw; (try dsimp only at hSw); go_simp <;> with_reducible rfl)
        try simp only [Act.put, List.setIfInBounds_toArray, List.set_cons_zero, List.set_cons_succ]
        refine take_op (i := 11) (d := 15) (OP := Op.assign (Operand.tmp 77)) (T := 4) (v := ?vzz51) rfl rfl rfl rfl (by kernel_rfl) (by kernel_rfl) (by kernel_rfl) (fun _ _ _ h => h) (by rfl) ?hzz51 hHeld ?rzz51
        case hzz51 => (intro w' hSw; (try dsimp only at hSw); go_simp <;> with_reducible rfl)
        try simp only [Act.put, List.setIfInBounds_toArray, List.set_cons_zero, List.set_cons_succ]
        refine wpAnyH_done (by kernel_rfl) ?_ _
        have HJ6 := hJ5d
        clear hHeld q6 qd q5 HJ5
        go_wp2
        refine ret_two rfl rfl rfl rfl ?_
        rw [HX.out, HPB.out]
        exact ⟨⟨_, rfl, rfl⟩, HJ6⟩
end Go.Proofs.Ytckkoigghkgfdaa
namespace Go.Proofs.Ytckkoigghkgfdaa
open Go.RowKit Go.Shelf
set_option linter.unusedSimpArgs false

theorem In.stay {W W' : World} (h : ∀ (j : Nat) (cur : Array Value) (fr : Nat × Nat), W.heap[j]? = some (Obj.cells cur 83 fr) → W'.heap[j]? = some (Obj.cells cur 83 fr)) : ∀ {t : T}, In W t → In W' t
  | .nil, _ => trivial
  | .node _ _ _ _ _, ⟨h1, h2, h3⟩ => ⟨h _ _ _ h1, In.stay h h2, In.stay h h3⟩
theorem cell_obj {W : World} {b i : Nat} {v : Value} (h : W.cell? ⟨b, i, none⟩ = some v) : ∃ cur e fr, W.heap[b]? = some (.cells cur e fr) := by
  unfold World.cell? at h
  split at h
  · rename_i c e f he; exact ⟨c, e, f, he⟩
  · cases h
/-- The rule of WalkRules may be asked. -/
theorem rules_ok {B Tk Ask Rt Xo Xa Xb Pk : Nat} {o a b : T} {po pa pb : Option Addr} {ap : Option Addr} {np cp : Nat} {bs : List Bool} (hB : B ≤ Ask) (hAR : Ask < Rt) (lo : Xo < B) (la : Xa < B) (lb : Xb < B) (lp : Pk < B) (ho : o.ptr = .pointer po) (ha : a.ptr = .pointer pa) (hb : b.ptr = .pointer pb) (so : Srt o.list) (sa : Srt a.list) (sb : Srt b.list) :
    RuleOk (fun k p q r => p = look k o.list ∧ q = look k a.list ∧ r = look k b.list) B Tk 20 #[.pointer (some ⟨Ask, 0, none⟩), .pointer (some ⟨Rt, 0, none⟩), .pointer (some ⟨Xo, 0, none⟩), .pointer (some ⟨Xa, 0, none⟩), .pointer (some ⟨Xb, 0, none⟩), .pointer (some ⟨Pk, 0, none⟩)] (ruleR bs) (RJ B o a b po pa pb Ask Rt Xo Xa Xb Pk (.slice ap np cp) bs) := by
  refine ⟨fun args W => rfl, fun W ks k p q r hBW hA hlen hj => ?_, fun ks W W' hj hs => ?_⟩
  · obtain ⟨p1, p2⟩ := p
    obtain ⟨q1, q2⟩ := q
    obtain ⟨r1, r2⟩ := r
    refine Calls.mono (rule_call W k p1 q1 r1 p2 q2 r2 hj hB hAR lo la lb lp hlen ho ha hb so sa sb hA.1 hA.2.1 hA.2.2) ?_
    rintro e W' ⟨⟨v, he, hv⟩, hj', sv, h1, h2, hO⟩
    obtain ⟨g1, g2⟩ := hj.goes (Tk := Tk) h1 h2 hB hAR hBW hO
    refine ⟨⟨v, by rw [ruleR_two]; exact he, fun h => by rw [hv]; exact ruleR_one _ _ _ _ _ h⟩, hj', g1, g2⟩
  · have h83 : ∀ {t : T}, In W t → In W' t := fun hi => In.stay (fun j cur fr hj => hs j cur 83 fr hj (.inr ⟨by decide, by decide, .inr (by decide)⟩)) hi
    obtain ⟨sv, h1, h2⟩ := hj.ask
    refine ⟨⟨sv, hs _ _ _ _ h1 (.inr ⟨by decide, by decide, .inr (by decide)⟩), ?_⟩, hs _ _ _ _ hj.right (.inr ⟨by decide, by decide, .inr (by decide)⟩), hs _ _ _ _ hj.xo (.inl lo), hs _ _ _ _ hj.xa (.inl la), hs _ _ _ _ hj.xb (.inl lb), hs _ _ _ _ hj.pk (.inl lp), ?_, h83 hj.io, h83 hj.ia, h83 hj.ib⟩
    · refine ⟨h2.1, ?_⟩
      rcases h2.2 with h | ⟨g, cap, cur, e1, e2, e3, e4⟩
      · exact .inl h
      · exact .inr ⟨g, cap, cur, e1, e2, hs _ _ _ _ e3 (.inr ⟨by decide, by decide, .inr (by decide)⟩), e4⟩
    · obtain ⟨ao, cap, e, hc⟩ := hj.pick.ex
      refine ⟨ao, cap, e, fun j u hju => ?_⟩
      obtain ⟨b', off, e2, hlt, c⟩ := hc j u hju
      obtain ⟨cur, ty, fr, hob⟩ := cell_obj c
      exact ⟨b', off, e2, hlt, cell_block c ((hs _ _ _ _ hob (.inl hlt)).trans hob.symm)⟩
/-- Run by it. -/
theorem rules_run {B Ask Rt Xo Xa Xb Pk : Nat} {o a b : T} {po pa pb : Option Addr} {ap : Option Addr} {np cp : Nat} {bs : List Bool} {fv : ByteArray → Int} (w : World) (hB : B ≤ Ask) (hAR : Ask < Rt) (lo : Xo < B) (la : Xa < B) (lb : Xb < B) (lp : Pk < B) (ho : o.ptr = .pointer po) (ha : a.ptr = .pointer pa) (hb : b.ptr = .pointer pb) (ht : Trio (Told fv) w o a b)
    (hBw : B ≤ w.heap.size) (hj : RJ B o a b po pa pb Ask Rt Xo Xa Xb Pk (.slice ap np cp) bs [] w) :
    Calls Try.prog 18 #[.agg #[.pointer po], .agg #[.pointer pa], .agg #[.pointer pb], .func (.func 20) #[] #[.pointer (some ⟨Ask, 0, none⟩), .pointer (some ⟨Rt, 0, none⟩), .pointer (some ⟨Xo, 0, none⟩), .pointer (some ⟨Xa, 0, none⟩), .pointer (some ⟨Xb, 0, none⟩), .pointer (some ⟨Pk, 0, none⟩)]] w fun e w' => ∃ (t : T) (pt : Option Addr) (L MM : Nat) (ks : List ByteArray), e = .returned (.tuple #[.agg #[.pointer pt], .agg #[.int .i64 (L : Nat), .int .i64 (L : Nat), .int .i64 (MM : Nat)], .int .i64 0]) ∧ t.ptr = .pointer pt ∧ L = ks.length ∧ In w' t ∧ RunSays (ruleR bs) o a b t ks ∧ RJ B o a b po pa pb Ask Rt Xo Xa Xb Pk (.slice ap np cp) bs ks w' ∧ Below B w w' := by
  have ht' : Trio Norm w o a b := ⟨ht.io, ht.ia, ht.ib, ht.so, ht.sa, ht.sb, ht.bo, ht.ba, ht.bb, fun k => norm_look k _, fun k => norm_look k _, fun k => norm_look k _, ht.no, ht.nab⟩
  have := walkRun_any (ruleR_fair bs) o a b w [] (fun Tk _ => rules_ok (B := B) (Tk := Tk) (bs := bs) (ap := ap) (np := np) (cp := cp) hB hAR lo la lb lp ho ha hb ht.so ht.sa ht.sb) hBw ht' (fun k _ => ⟨rfl, rfl, rfl⟩) (by simp) hj
  rw [mv_ptr ho, mv_ptr ha, mv_ptr hb] at this
  refine Calls.mono this ?_
  rintro e w' ⟨t, ks, he, hr, it, hj', hbw⟩
  obtain ⟨pt, hpt⟩ := t.ptr_shape
  exact ⟨t, pt, _, _, ks, by rw [he, mv_ptr hpt], hpt, rfl, it, hr.says (ruleR_fair bs) ht'.so ht'.sa ht'.sb ht'.bo ht'.ba ht'.bb ht'.vo ht'.va ht'.vb, hj', hbw⟩
end Go.Proofs.Ytckkoigghkgfdaa
