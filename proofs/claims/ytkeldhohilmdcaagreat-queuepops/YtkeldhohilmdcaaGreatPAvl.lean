/-
  TREES, PLAINLY: search trees that share nodes (a node is told by its block), balanced; what is put together out of them, how high it is, and how many of its nodes are new. It names no function of the program.
-/
import Derived.Lib.Bytealg
namespace Go.Proofs.YtkeldhohilmdcaaGreat.Pm

/-- A tree: each node with its block. -/
inductive T where
  | nil : T
  | node (p : Nat) (k : ByteArray) (v : ByteArray) (l r : T) : T
deriving Inhabited, DecidableEq

def T.h : T → Nat
  | .nil => 0
  | .node _ _ _ l r => max l.h r.h + 1
def T.n : T → Nat
  | .nil => 0
  | .node _ _ _ l r => l.n + r.n + 1
def T.list : T → List (ByteArray × ByteArray)
  | .nil => []
  | .node _ k v l r => l.list ++ (k, v) :: r.list
def T.bal : T → Prop
  | .nil => True
  | .node _ _ _ l r => l.h ≤ r.h + 1 ∧ r.h ≤ l.h + 1 ∧ l.bal ∧ r.bal
/-- How many nodes lie from block B on. -/
def T.fresh (B : Nat) : T → Nat
  | .nil => 0
  | .node p _ _ l r => (if B ≤ p then 1 else 0) + l.fresh B + r.fresh B
/-- The key, value, sides of a node, or of none. -/
def T.key : T → ByteArray
  | .nil => ⟨#[]⟩
  | .node _ k _ _ _ => k
def T.val : T → ByteArray
  | .nil => ⟨#[]⟩
  | .node _ _ v _ _ => v
def T.left : T → T
  | .nil => .nil
  | .node _ _ _ l _ => l
def T.right : T → T
  | .nil => .nil
  | .node _ _ _ _ r => r
theorem T.n_eq (t : T) : t.list.length = t.n := by
  induction t with
  | nil => rfl
  | node p k v l r ihl ihr => simp [T.list, T.n, ihl, ihr]; omega
theorem T.h_node (p k v l r) : (T.node p k v l r).h = max l.h r.h + 1 := rfl
theorem T.fresh_new {B p k v l r} (h : B ≤ p) : (T.node p k v l r).fresh B = l.fresh B + r.fresh B + 1 := by simp [T.fresh, h]; omega
theorem T.fresh_le {B p k v l r} : l.fresh B + r.fresh B ≤ (T.node p k v l r).fresh B := by simp only [T.fresh]; omega
theorem T.h_zero {t : T} (h : t.h = 0) : t = .nil := by cases t with | nil => rfl | node => simp [T.h] at h
theorem T.h_pos {t : T} (h : 0 < t.h) : ∃ p k v l r, t = .node p k v l r := by cases t with | nil => simp [T.h] at h | node p k v l r => exact ⟨_, _, _, _, _, rfl⟩

/-- settled: a balanced node of a key and a value and two sides whose heights differ by two at most. -/
inductive Settled (B : Nat) (k : ByteArray) (v : ByteArray) : T → T → T → Prop where
  | plain {l r : T} {p : Nat} (h1 : l.h ≤ r.h + 1) (h2 : r.h ≤ l.h + 1) (hp : B ≤ p) : Settled B k v l r (.node p k v l r)
  | rightIn {r : T} {lp : Nat} {lk : ByteArray} {lv : ByteArray} {ll : T} {ip : Nat} {ik : ByteArray} {iv : ByteArray} {il ir : T} {p q s : Nat} (h1 : r.h + 1 < (T.node lp lk lv ll (.node ip ik iv il ir)).h) (h2 : ll.h < (T.node ip ik iv il ir).h) (hp : B ≤ p) (hq : B ≤ q) (hs : B ≤ s) :
      Settled B k v (.node lp lk lv ll (.node ip ik iv il ir)) r (.node p ik iv (.node q lk lv ll il) (.node s k v ir r))
  | rightOut {r : T} {lp : Nat} {lk : ByteArray} {lv : ByteArray} {ll i : T} {p q : Nat} (h1 : r.h + 1 < (T.node lp lk lv ll i).h) (h2 : i.h ≤ ll.h) (hp : B ≤ p) (hq : B ≤ q) :
      Settled B k v (.node lp lk lv ll i) r (.node p lk lv ll (.node q k v i r))
  | leftIn {l : T} {rp : Nat} {rk : ByteArray} {rv : ByteArray} {rr : T} {ip : Nat} {ik : ByteArray} {iv : ByteArray} {il ir : T} {p q s : Nat} (h1 : l.h + 1 < (T.node rp rk rv (.node ip ik iv il ir) rr).h) (h2 : rr.h < (T.node ip ik iv il ir).h) (hp : B ≤ p) (hq : B ≤ q) (hs : B ≤ s) :
      Settled B k v l (.node rp rk rv (.node ip ik iv il ir) rr) (.node p ik iv (.node q k v l il) (.node s rk rv ir rr))
  | leftOut {l : T} {rp : Nat} {rk : ByteArray} {rv : ByteArray} {rr i : T} {p q : Nat} (h1 : l.h + 1 < (T.node rp rk rv i rr).h) (h2 : i.h ≤ rr.h) (hp : B ≤ p) (hq : B ≤ q) :
      Settled B k v l (.node rp rk rv i rr) (.node p rk rv (.node q k v l i) rr)

/-- join. -/
inductive Joined (B : Nat) (k : ByteArray) (v : ByteArray) : T → T → T → Prop where
  | mid {l r : T} {p : Nat} (h1 : l.h ≤ r.h + 1) (h2 : r.h ≤ l.h + 1) (hp : B ≤ p) : Joined B k v l r (.node p k v l r)
  | left {lp : Nat} {lk : ByteArray} {lv : ByteArray} {ll lr r m t : T} (h1 : r.h + 1 < (T.node lp lk lv ll lr).h) (hm : Joined B k v lr r m) (hs : Settled B lk lv ll m t) : Joined B k v (.node lp lk lv ll lr) r t
  | right {rp : Nat} {rk : ByteArray} {rv : ByteArray} {rl rr l m t : T} (h1 : l.h + 1 < (T.node rp rk rv rl rr).h) (hm : Joined B k v l rl m) (hs : Settled B rk rv m rr t) : Joined B k v l (.node rp rk rv rl rr) t

theorem Settled.mono {B B' : Nat} {k v l r t} (h : Settled B' k v l r t) (hB : B ≤ B') : Settled B k v l r t := by
  cases h with
  | plain h1 h2 hp => exact .plain h1 h2 (by omega)
  | rightIn h1 h2 hp hq hs => exact .rightIn h1 h2 (by omega) (by omega) (by omega)
  | rightOut h1 h2 hp hq => exact .rightOut h1 h2 (by omega) (by omega)
  | leftIn h1 h2 hp hq hs => exact .leftIn h1 h2 (by omega) (by omega) (by omega)
  | leftOut h1 h2 hp hq => exact .leftOut h1 h2 (by omega) (by omega)
theorem Joined.mono {B B' : Nat} {k v l r t} (h : Joined B' k v l r t) (hB : B ≤ B') : Joined B k v l r t := by
  induction h with
  | mid h1 h2 hp => exact .mid h1 h2 (by omega)
  | left h1 hm hs ih => exact .left h1 ih (hs.mono hB)
  | right h1 hm hs ih => exact .right h1 ih (hs.mono hB)

theorem Settled.list {B k v l r t} (h : Settled B k v l r t) : t.list = l.list ++ (k, v) :: r.list := by
  cases h <;> simp [T.list]
theorem Joined.list {B k v l r t} (h : Joined B k v l r t) : t.list = l.list ++ (k, v) :: r.list := by
  induction h with
  | mid => rfl
  | left h1 hm hs ih => rw [hs.list, ih]; simp [T.list]
  | right h1 hm hs ih => rw [hs.list, ih]; simp [T.list]

/-- Heights, balance, new nodes of what was joined. -/
structure JoinedSays (B : Nat) (l r t : T) : Prop where
  bal : t.bal
  lo : l.h ≤ t.h ∧ r.h ≤ t.h
  hi : t.h ≤ max l.h r.h + 1
  near : l.h ≤ r.h + 1 → r.h ≤ l.h + 1 → t.h = max l.h r.h + 1
  fr : t.fresh B ≤ l.fresh B + r.fresh B + (l.h - r.h) + (r.h - l.h) + 1
  grewL : r.h ≤ l.h → t.h = l.h + 1 → ∃ p k v tl tr, t = .node p k v tl tr ∧ B ≤ p ∧ (tr.h = tl.h + 1 ∨ (tl = l ∧ tr = r))
  grewR : l.h ≤ r.h → t.h = r.h + 1 → ∃ p k v tl tr, t = .node p k v tl tr ∧ B ≤ p ∧ (tl.h = tr.h + 1 ∨ (tl = l ∧ tr = r))

theorem Joined.says {B k v l r t} (h : Joined B k v l r t) : l.bal → r.bal → JoinedSays B l r t := by
  induction h with
  | @mid l r p h1 h2 hp =>
    intro bl br
    refine ⟨⟨h1, h2, bl, br⟩, ⟨?_, ?_⟩, ?_, fun _ _ => rfl, ?_, fun _ _ => ⟨_, _, _, _, _, rfl, hp, .inr ⟨rfl, rfl⟩⟩, fun _ _ => ⟨_, _, _, _, _, rfl, hp, .inr ⟨rfl, rfl⟩⟩⟩
    · simp [T.h]; omega
    · simp [T.h]; omega
    · simp [T.h]
    · rw [T.fresh_new hp]; omega
  | @left lp lk lv ll lr r m t h1 hm hs ih =>
    intro bl br
    obtain ⟨b1, b2, b3, b4⟩ := bl
    have J := ih b4 br
    have hP : (T.node lp lk lv ll lr).h = max ll.h lr.h + 1 := rfl
    have hF := T.fresh_le (B := B) (p := lp) (k := lk) (v := lv) (l := ll) (r := lr)
    have Jf := J.fr
    have Jl := J.lo
    have Jh := J.hi
    rw [hP] at h1
    cases hs with
    | plain e1 e2 hp =>
      refine ⟨⟨e1, e2, b3, J.bal⟩, ?_, ?_, fun g1 g2 => by rw [hP] at g1; omega, ?_, ?_, ?_⟩
      · rw [hP]; simp only [T.h]; omega
      · rw [hP]; simp only [T.h]; omega
      · rw [T.fresh_new hp, hP]; omega
      · rw [hP]; simp only [T.h]
        intro g1 g2
        refine ⟨_, _, _, _, _, rfl, hp, .inl ?_⟩
        omega
      · rw [hP]; intro g1; omega
    | rightIn e1 e2 => clear J ih; simp only [T.h] at *; omega
    | rightOut e1 e2 => clear J ih; simp only [T.h] at *; omega
    | @leftIn l' rp rk rv rr ip ik iv il ir p q s e1 e2 hp hq hs =>
      have Jb := J.bal
      have Jg := J.grewL
      simp only [T.bal] at Jb
      obtain ⟨c1, c2, ⟨c3, c4, c5, c6⟩, c7⟩ := Jb
      have hM : (T.node rp rk rv (.node ip ik iv il ir) rr).h = max (max il.h ir.h + 1) rr.h + 1 := rfl
      have hI : (T.node ip ik iv il ir).h = max il.h ir.h + 1 := rfl
      rw [hM] at e1 Jl Jh Jg
      rw [hI] at e2 c1 c2
      obtain ⟨pm, km, vm, tl, tr, hmm, hpm, hc⟩ := Jg (by omega) (by omega)
      simp only [T.node.injEq] at hmm
      obtain ⟨rfl, rfl, rfl, rfl, rfl⟩ := hmm
      rw [hI] at hc
      have hx : (T.node ip ik iv il ir) = lr ∧ rr = r := by
        rcases hc with hc | hc
        · omega
        · exact hc
      obtain ⟨rfl, rfl⟩ := hx
      have hF2 := T.fresh_le (B := B) (p := ip) (k := ik) (v := iv) (l := il) (r := ir)
      rw [T.fresh_new hpm] at Jf
      simp only [hI] at *
      refine ⟨⟨?_, ?_, ⟨?_, ?_, b3, c5⟩, ⟨?_, ?_, c6, br⟩⟩, ?_, ?_, ?_, ?_, ?_, ?_⟩
      all_goals clear Jg hc J
      all_goals try simp only [T.h_node, T.fresh_new hp, T.fresh_new hq, T.fresh_new hs]
      all_goals first | omega | (intro g1 g2; exfalso; omega)
    | @leftOut l' rp rk rv rr i p q e1 e2 hp hq =>
      have Jb := J.bal
      have Jg := J.grewL
      simp only [T.bal] at Jb
      obtain ⟨c1, c2, c3, c4⟩ := Jb
      have hM : (T.node rp rk rv i rr).h = max i.h rr.h + 1 := rfl
      rw [hM] at e1 Jl Jh Jg
      obtain ⟨pm, km, vm, tl, tr, hmm, hpm, hc⟩ := Jg (by omega) (by omega)
      simp only [T.node.injEq] at hmm
      obtain ⟨rfl, rfl, rfl, rfl, rfl⟩ := hmm
      have hc2 : rr.h = i.h + 1 := by
        rcases hc with hc | ⟨rfl, rfl⟩
        · exact hc
        · omega
      rw [T.fresh_new hpm] at Jf
      refine ⟨⟨?_, ?_, ⟨?_, ?_, b3, c3⟩, c4⟩, ?_, ?_, ?_, ?_, ?_, ?_⟩
      all_goals clear Jg hc J
      all_goals try simp only [T.h_node, T.fresh_new hp, T.fresh_new hq]
      all_goals first | omega | (intro g1 g2; exfalso; omega)
  | @right rp rk rv rl rr l m t h1 hm hs ih =>
    intro bl br
    obtain ⟨b1, b2, b3, b4⟩ := br
    have J := ih bl b3
    have hP : (T.node rp rk rv rl rr).h = max rl.h rr.h + 1 := rfl
    have hF := T.fresh_le (B := B) (p := rp) (k := rk) (v := rv) (l := rl) (r := rr)
    have Jf := J.fr
    have Jl := J.lo
    have Jh := J.hi
    rw [hP] at h1
    cases hs with
    | plain e1 e2 hp =>
      refine ⟨⟨e1, e2, J.bal, b4⟩, ?_, ?_, fun g1 g2 => by rw [hP] at g2; omega, ?_, ?_, ?_⟩
      · rw [hP]; simp only [T.h]; omega
      · rw [hP]; simp only [T.h]; omega
      · rw [T.fresh_new hp, hP]; omega
      · rw [hP]; intro g1; omega
      · rw [hP]; simp only [T.h]
        intro g1 g2
        refine ⟨_, _, _, _, _, rfl, hp, .inl ?_⟩
        omega
    | leftIn e1 e2 => clear J ih; simp only [T.h] at *; omega
    | leftOut e1 e2 => clear J ih; simp only [T.h] at *; omega
    | @rightIn r' lp lk lv ll ip ik iv il ir p q s e1 e2 hp hq hs =>
      have Jb := J.bal
      have Jg := J.grewR
      simp only [T.bal] at Jb
      obtain ⟨c1, c2, c7, ⟨c3, c4, c5, c6⟩⟩ := Jb
      have hM : (T.node lp lk lv ll (.node ip ik iv il ir)).h = max ll.h (max il.h ir.h + 1) + 1 := rfl
      have hI : (T.node ip ik iv il ir).h = max il.h ir.h + 1 := rfl
      rw [hM] at e1 Jl Jh Jg
      rw [hI] at e2 c1 c2
      obtain ⟨pm, km, vm, tl, tr, hmm, hpm, hc⟩ := Jg (by omega) (by omega)
      simp only [T.node.injEq] at hmm
      obtain ⟨rfl, rfl, rfl, rfl, rfl⟩ := hmm
      rw [hI] at hc
      have hx : ll = l ∧ (T.node ip ik iv il ir) = rl := by
        rcases hc with hc | hc
        · omega
        · exact hc
      obtain ⟨rfl, rfl⟩ := hx
      have hF2 := T.fresh_le (B := B) (p := ip) (k := ik) (v := iv) (l := il) (r := ir)
      rw [T.fresh_new hpm] at Jf
      simp only [hI] at *
      refine ⟨⟨?_, ?_, ⟨?_, ?_, bl, c5⟩, ⟨?_, ?_, c6, b4⟩⟩, ?_, ?_, ?_, ?_, ?_, ?_⟩
      all_goals clear Jg hc J
      all_goals try simp only [T.h_node, T.fresh_new hp, T.fresh_new hq, T.fresh_new hs]
      all_goals first | omega | (intro g1 g2; exfalso; omega)
    | @rightOut r' lp lk lv ll i p q e1 e2 hp hq =>
      have Jb := J.bal
      have Jg := J.grewR
      simp only [T.bal] at Jb
      obtain ⟨c1, c2, c3, c4⟩ := Jb
      have hM : (T.node lp lk lv ll i).h = max ll.h i.h + 1 := rfl
      rw [hM] at e1 Jl Jh Jg
      obtain ⟨pm, km, vm, tl, tr, hmm, hpm, hc⟩ := Jg (by omega) (by omega)
      simp only [T.node.injEq] at hmm
      obtain ⟨rfl, rfl, rfl, rfl, rfl⟩ := hmm
      have hc2 : ll.h = i.h + 1 := by
        rcases hc with hc | ⟨rfl, rfl⟩
        · exact hc
        · omega
      rw [T.fresh_new hpm] at Jf
      refine ⟨⟨?_, ?_, c3, ⟨?_, ?_, c4, b4⟩⟩, ?_, ?_, ?_, ?_, ?_, ?_⟩
      all_goals clear Jg hc J
      all_goals try simp only [T.h_node, T.fresh_new hp, T.fresh_new hq]
      all_goals first | omega | (intro g1 g2; exfalso; omega)
end Go.Proofs.YtkeldhohilmdcaaGreat.Pm
