/-
  TREES, PLAINLY: search trees that share nodes (a node is told by its block), balanced; what is put together out of them, how high it is, and how many of its nodes are new. It names no function of the program.
  DERIVED: THE SHELF's CONTRACTS AT THIS DUMP, IN PLAIN WORDS (tools/lay-plain.mjs out of 'TryShelf.lean', which tools/lay-shelf.mjs wrote): THE SAME DECLARATIONS UNDER THE SAME NAMES: 'import', 'namespace', 'open', 'def', 'theorem' AND NOTHING ELSE: no command of the shelf's: FOR A HAND-IN. Each laying: the table of numbers ('.._ren') and one theorem, a field a fact of the dump's own or the kernel's comparison; each contract: ONE APPLICATION.
  SMALL LAWS for walks over slices of bytes: a slice that the call owns ('Own'), one that can be read ('Rd'), what a law on append leaves, strings of bytes. It names no function of the program.
  FRAMES BY SETS OF BLOCKS: what a call leaves that turns several blocks at once ('Only C': of the old blocks none has turned but those in C), and what that leaves of bytes that can be read, of rows that are owned, of whole blocks. It names no function of the program.
  ARRAYS BY VALUE AND BLOCKS OF CELLS: a whole array out of a block, into a block, handed back; cells that lie in a block under stores and under calls. It names no function and no type of the program.
  BYTES: bytes that can be read, one by one, in part, as strings; slices of slices; a byte of what is owned is written; literals. 48 stands for the type of slices of bytes; 5 and 9 are those of bytes and of strings.
  MOVES IN A REGION THAT DRAWS ITS ORDER: an operation that yields its value is taken first; one that comes up alone; a call that comes up alone; the condition made stronger on the way.
-/
import Derived.Lib.Bytealg
import Derived.Shelf.Small.Strs
import Derived.Test.YtkkpdgfllnbigaaGreatDoorProg
import Derived.WalkKit
import Derived.WalkSpells
import Derived.WalkLawsBesides
import Derived.Laws.AppendOwnNone
import Derived.Laws.BytesArg
import Derived.Deep.WholeRow
import Derived.Deep.MidRow
import Derived.Laws.ResultCell
import Derived.Test.YtkkpdgfllnbigaaGreatDoorRows
import Derived.Lib.SlBytesConst
import Derived.Laws.BitsAllLaws
import Derived.Deep.RegionHeld3
namespace Go.Proofs.YtkkpdgfllnbigaaGreatDoor.Pm

/-- A tree: each node with its block. -/
inductive T where
  | nil : T
  | node (p : Nat) (k : ByteArray) (v : ByteArray) (l r : T) : T
deriving Inhabited, DecidableEq

def T.h : T → Nat
  | .nil => 0
  | .node _ _ _ l r => max l.h r.h + 1
def T.n : T → Nat
  | .nil => 0
  | .node _ _ _ l r => l.n + r.n + 1
def T.list : T → List (ByteArray × ByteArray)
  | .nil => []
  | .node _ k v l r => l.list ++ (k, v) :: r.list
def T.bal : T → Prop
  | .nil => True
  | .node _ _ _ l r => l.h ≤ r.h + 1 ∧ r.h ≤ l.h + 1 ∧ l.bal ∧ r.bal
/-- How many nodes lie from block B on. -/
def T.fresh (B : Nat) : T → Nat
  | .nil => 0
  | .node p _ _ l r => (if B ≤ p then 1 else 0) + l.fresh B + r.fresh B
/-- The key, value, sides of a node, or of none. -/
def T.key : T → ByteArray
  | .nil => ⟨#[]⟩
  | .node _ k _ _ _ => k
def T.val : T → ByteArray
  | .nil => ⟨#[]⟩
  | .node _ _ v _ _ => v
def T.left : T → T
  | .nil => .nil
  | .node _ _ _ l _ => l
def T.right : T → T
  | .nil => .nil
  | .node _ _ _ _ r => r
theorem T.n_eq (t : T) : t.list.length = t.n := by
  induction t with
  | nil => rfl
  | node p k v l r ihl ihr => simp [T.list, T.n, ihl, ihr]; omega
theorem T.h_node (p k v l r) : (T.node p k v l r).h = max l.h r.h + 1 := rfl
theorem T.fresh_new {B p k v l r} (h : B ≤ p) : (T.node p k v l r).fresh B = l.fresh B + r.fresh B + 1 := by simp [T.fresh, h]; omega
theorem T.fresh_le {B p k v l r} : l.fresh B + r.fresh B ≤ (T.node p k v l r).fresh B := by simp only [T.fresh]; omega
theorem T.h_zero {t : T} (h : t.h = 0) : t = .nil := by cases t with | nil => rfl | node => simp [T.h] at h
theorem T.h_pos {t : T} (h : 0 < t.h) : ∃ p k v l r, t = .node p k v l r := by cases t with | nil => simp [T.h] at h | node p k v l r => exact ⟨_, _, _, _, _, rfl⟩

/-- settled: a balanced node of a key and a value and two sides whose heights differ by two at most. -/
inductive Settled (B : Nat) (k : ByteArray) (v : ByteArray) : T → T → T → Prop where
  | plain {l r : T} {p : Nat} (h1 : l.h ≤ r.h + 1) (h2 : r.h ≤ l.h + 1) (hp : B ≤ p) : Settled B k v l r (.node p k v l r)
  | rightIn {r : T} {lp : Nat} {lk : ByteArray} {lv : ByteArray} {ll : T} {ip : Nat} {ik : ByteArray} {iv : ByteArray} {il ir : T} {p q s : Nat} (h1 : r.h + 1 < (T.node lp lk lv ll (.node ip ik iv il ir)).h) (h2 : ll.h < (T.node ip ik iv il ir).h) (hp : B ≤ p) (hq : B ≤ q) (hs : B ≤ s) :
      Settled B k v (.node lp lk lv ll (.node ip ik iv il ir)) r (.node p ik iv (.node q lk lv ll il) (.node s k v ir r))
  | rightOut {r : T} {lp : Nat} {lk : ByteArray} {lv : ByteArray} {ll i : T} {p q : Nat} (h1 : r.h + 1 < (T.node lp lk lv ll i).h) (h2 : i.h ≤ ll.h) (hp : B ≤ p) (hq : B ≤ q) :
      Settled B k v (.node lp lk lv ll i) r (.node p lk lv ll (.node q k v i r))
  | leftIn {l : T} {rp : Nat} {rk : ByteArray} {rv : ByteArray} {rr : T} {ip : Nat} {ik : ByteArray} {iv : ByteArray} {il ir : T} {p q s : Nat} (h1 : l.h + 1 < (T.node rp rk rv (.node ip ik iv il ir) rr).h) (h2 : rr.h < (T.node ip ik iv il ir).h) (hp : B ≤ p) (hq : B ≤ q) (hs : B ≤ s) :
      Settled B k v l (.node rp rk rv (.node ip ik iv il ir) rr) (.node p ik iv (.node q k v l il) (.node s rk rv ir rr))
  | leftOut {l : T} {rp : Nat} {rk : ByteArray} {rv : ByteArray} {rr i : T} {p q : Nat} (h1 : l.h + 1 < (T.node rp rk rv i rr).h) (h2 : i.h ≤ rr.h) (hp : B ≤ p) (hq : B ≤ q) :
      Settled B k v l (.node rp rk rv i rr) (.node p rk rv (.node q k v l i) rr)

/-- join. -/
inductive Joined (B : Nat) (k : ByteArray) (v : ByteArray) : T → T → T → Prop where
  | mid {l r : T} {p : Nat} (h1 : l.h ≤ r.h + 1) (h2 : r.h ≤ l.h + 1) (hp : B ≤ p) : Joined B k v l r (.node p k v l r)
  | left {lp : Nat} {lk : ByteArray} {lv : ByteArray} {ll lr r m t : T} (h1 : r.h + 1 < (T.node lp lk lv ll lr).h) (hm : Joined B k v lr r m) (hs : Settled B lk lv ll m t) : Joined B k v (.node lp lk lv ll lr) r t
  | right {rp : Nat} {rk : ByteArray} {rv : ByteArray} {rl rr l m t : T} (h1 : l.h + 1 < (T.node rp rk rv rl rr).h) (hm : Joined B k v l rl m) (hs : Settled B rk rv m rr t) : Joined B k v l (.node rp rk rv rl rr) t

theorem Settled.mono {B B' : Nat} {k v l r t} (h : Settled B' k v l r t) (hB : B ≤ B') : Settled B k v l r t := by
  cases h with
  | plain h1 h2 hp => exact .plain h1 h2 (by omega)
  | rightIn h1 h2 hp hq hs => exact .rightIn h1 h2 (by omega) (by omega) (by omega)
  | rightOut h1 h2 hp hq => exact .rightOut h1 h2 (by omega) (by omega)
  | leftIn h1 h2 hp hq hs => exact .leftIn h1 h2 (by omega) (by omega) (by omega)
  | leftOut h1 h2 hp hq => exact .leftOut h1 h2 (by omega) (by omega)
theorem Joined.mono {B B' : Nat} {k v l r t} (h : Joined B' k v l r t) (hB : B ≤ B') : Joined B k v l r t := by
  induction h with
  | mid h1 h2 hp => exact .mid h1 h2 (by omega)
  | left h1 hm hs ih => exact .left h1 ih (hs.mono hB)
  | right h1 hm hs ih => exact .right h1 ih (hs.mono hB)

theorem Settled.list {B k v l r t} (h : Settled B k v l r t) : t.list = l.list ++ (k, v) :: r.list := by
  cases h <;> simp [T.list]
theorem Joined.list {B k v l r t} (h : Joined B k v l r t) : t.list = l.list ++ (k, v) :: r.list := by
  induction h with
  | mid => rfl
  | left h1 hm hs ih => rw [hs.list, ih]; simp [T.list]
  | right h1 hm hs ih => rw [hs.list, ih]; simp [T.list]

/-- Heights, balance, new nodes of what was joined. -/
structure JoinedSays (B : Nat) (l r t : T) : Prop where
  bal : t.bal
  lo : l.h ≤ t.h ∧ r.h ≤ t.h
  hi : t.h ≤ max l.h r.h + 1
  near : l.h ≤ r.h + 1 → r.h ≤ l.h + 1 → t.h = max l.h r.h + 1
  fr : t.fresh B ≤ l.fresh B + r.fresh B + (l.h - r.h) + (r.h - l.h) + 1
  grewL : r.h ≤ l.h → t.h = l.h + 1 → ∃ p k v tl tr, t = .node p k v tl tr ∧ B ≤ p ∧ (tr.h = tl.h + 1 ∨ (tl = l ∧ tr = r))
  grewR : l.h ≤ r.h → t.h = r.h + 1 → ∃ p k v tl tr, t = .node p k v tl tr ∧ B ≤ p ∧ (tl.h = tr.h + 1 ∨ (tl = l ∧ tr = r))

theorem Joined.says {B k v l r t} (h : Joined B k v l r t) : l.bal → r.bal → JoinedSays B l r t := by
  induction h with
  | @mid l r p h1 h2 hp =>
    intro bl br
    refine ⟨⟨h1, h2, bl, br⟩, ⟨?_, ?_⟩, ?_, fun _ _ => rfl, ?_, fun _ _ => ⟨_, _, _, _, _, rfl, hp, .inr ⟨rfl, rfl⟩⟩, fun _ _ => ⟨_, _, _, _, _, rfl, hp, .inr ⟨rfl, rfl⟩⟩⟩
    · simp [T.h]; omega
    · simp [T.h]; omega
    · simp [T.h]
    · rw [T.fresh_new hp]; omega
  | @left lp lk lv ll lr r m t h1 hm hs ih =>
    intro bl br
    obtain ⟨b1, b2, b3, b4⟩ := bl
    have J := ih b4 br
    have hP : (T.node lp lk lv ll lr).h = max ll.h lr.h + 1 := rfl
    have hF := T.fresh_le (B := B) (p := lp) (k := lk) (v := lv) (l := ll) (r := lr)
    have Jf := J.fr
    have Jl := J.lo
    have Jh := J.hi
    rw [hP] at h1
    cases hs with
    | plain e1 e2 hp =>
      refine ⟨⟨e1, e2, b3, J.bal⟩, ?_, ?_, fun g1 g2 => by rw [hP] at g1; omega, ?_, ?_, ?_⟩
      · rw [hP]; simp only [T.h]; omega
      · rw [hP]; simp only [T.h]; omega
      · rw [T.fresh_new hp, hP]; omega
      · rw [hP]; simp only [T.h]
        intro g1 g2
        refine ⟨_, _, _, _, _, rfl, hp, .inl ?_⟩
        omega
      · rw [hP]; intro g1; omega
    | rightIn e1 e2 => clear J ih; simp only [T.h] at *; omega
    | rightOut e1 e2 => clear J ih; simp only [T.h] at *; omega
    | @leftIn l' rp rk rv rr ip ik iv il ir p q s e1 e2 hp hq hs =>
      have Jb := J.bal
      have Jg := J.grewL
      simp only [T.bal] at Jb
      obtain ⟨c1, c2, ⟨c3, c4, c5, c6⟩, c7⟩ := Jb
      have hM : (T.node rp rk rv (.node ip ik iv il ir) rr).h = max (max il.h ir.h + 1) rr.h + 1 := rfl
      have hI : (T.node ip ik iv il ir).h = max il.h ir.h + 1 := rfl
      rw [hM] at e1 Jl Jh Jg
      rw [hI] at e2 c1 c2
      obtain ⟨pm, km, vm, tl, tr, hmm, hpm, hc⟩ := Jg (by omega) (by omega)
      simp only [T.node.injEq] at hmm
      obtain ⟨rfl, rfl, rfl, rfl, rfl⟩ := hmm
      rw [hI] at hc
      have hx : (T.node ip ik iv il ir) = lr ∧ rr = r := by
        rcases hc with hc | hc
        · omega
        · exact hc
      obtain ⟨rfl, rfl⟩ := hx
      have hF2 := T.fresh_le (B := B) (p := ip) (k := ik) (v := iv) (l := il) (r := ir)
      rw [T.fresh_new hpm] at Jf
      simp only [hI] at *
      refine ⟨⟨?_, ?_, ⟨?_, ?_, b3, c5⟩, ⟨?_, ?_, c6, br⟩⟩, ?_, ?_, ?_, ?_, ?_, ?_⟩
      all_goals clear Jg hc J
      all_goals try simp only [T.h_node, T.fresh_new hp, T.fresh_new hq, T.fresh_new hs]
      all_goals first | omega | (intro g1 g2; exfalso; omega)
    | @leftOut l' rp rk rv rr i p q e1 e2 hp hq =>
      have Jb := J.bal
      have Jg := J.grewL
      simp only [T.bal] at Jb
      obtain ⟨c1, c2, c3, c4⟩ := Jb
      have hM : (T.node rp rk rv i rr).h = max i.h rr.h + 1 := rfl
      rw [hM] at e1 Jl Jh Jg
      obtain ⟨pm, km, vm, tl, tr, hmm, hpm, hc⟩ := Jg (by omega) (by omega)
      simp only [T.node.injEq] at hmm
      obtain ⟨rfl, rfl, rfl, rfl, rfl⟩ := hmm
      have hc2 : rr.h = i.h + 1 := by
        rcases hc with hc | ⟨rfl, rfl⟩
        · exact hc
        · omega
      rw [T.fresh_new hpm] at Jf
      refine ⟨⟨?_, ?_, ⟨?_, ?_, b3, c3⟩, c4⟩, ?_, ?_, ?_, ?_, ?_, ?_⟩
      all_goals clear Jg hc J
      all_goals try simp only [T.h_node, T.fresh_new hp, T.fresh_new hq]
      all_goals first | omega | (intro g1 g2; exfalso; omega)
  | @right rp rk rv rl rr l m t h1 hm hs ih =>
    intro bl br
    obtain ⟨b1, b2, b3, b4⟩ := br
    have J := ih bl b3
    have hP : (T.node rp rk rv rl rr).h = max rl.h rr.h + 1 := rfl
    have hF := T.fresh_le (B := B) (p := rp) (k := rk) (v := rv) (l := rl) (r := rr)
    have Jf := J.fr
    have Jl := J.lo
    have Jh := J.hi
    rw [hP] at h1
    cases hs with
    | plain e1 e2 hp =>
      refine ⟨⟨e1, e2, J.bal, b4⟩, ?_, ?_, fun g1 g2 => by rw [hP] at g2; omega, ?_, ?_, ?_⟩
      · rw [hP]; simp only [T.h]; omega
      · rw [hP]; simp only [T.h]; omega
      · rw [T.fresh_new hp, hP]; omega
      · rw [hP]; intro g1; omega
      · rw [hP]; simp only [T.h]
        intro g1 g2
        refine ⟨_, _, _, _, _, rfl, hp, .inl ?_⟩
        omega
    | leftIn e1 e2 => clear J ih; simp only [T.h] at *; omega
    | leftOut e1 e2 => clear J ih; simp only [T.h] at *; omega
    | @rightIn r' lp lk lv ll ip ik iv il ir p q s e1 e2 hp hq hs =>
      have Jb := J.bal
      have Jg := J.grewR
      simp only [T.bal] at Jb
      obtain ⟨c1, c2, c7, ⟨c3, c4, c5, c6⟩⟩ := Jb
      have hM : (T.node lp lk lv ll (.node ip ik iv il ir)).h = max ll.h (max il.h ir.h + 1) + 1 := rfl
      have hI : (T.node ip ik iv il ir).h = max il.h ir.h + 1 := rfl
      rw [hM] at e1 Jl Jh Jg
      rw [hI] at e2 c1 c2
      obtain ⟨pm, km, vm, tl, tr, hmm, hpm, hc⟩ := Jg (by omega) (by omega)
      simp only [T.node.injEq] at hmm
      obtain ⟨rfl, rfl, rfl, rfl, rfl⟩ := hmm
      rw [hI] at hc
      have hx : ll = l ∧ (T.node ip ik iv il ir) = rl := by
        rcases hc with hc | hc
        · omega
        · exact hc
      obtain ⟨rfl, rfl⟩ := hx
      have hF2 := T.fresh_le (B := B) (p := ip) (k := ik) (v := iv) (l := il) (r := ir)
      rw [T.fresh_new hpm] at Jf
      simp only [hI] at *
      refine ⟨⟨?_, ?_, ⟨?_, ?_, bl, c5⟩, ⟨?_, ?_, c6, b4⟩⟩, ?_, ?_, ?_, ?_, ?_, ?_⟩
      all_goals clear Jg hc J
      all_goals try simp only [T.h_node, T.fresh_new hp, T.fresh_new hq, T.fresh_new hs]
      all_goals first | omega | (intro g1 g2; exfalso; omega)
    | @rightOut r' lp lk lv ll i p q e1 e2 hp hq =>
      have Jb := J.bal
      have Jg := J.grewR
      simp only [T.bal] at Jb
      obtain ⟨c1, c2, c3, c4⟩ := Jb
      have hM : (T.node lp lk lv ll i).h = max ll.h i.h + 1 := rfl
      rw [hM] at e1 Jl Jh Jg
      obtain ⟨pm, km, vm, tl, tr, hmm, hpm, hc⟩ := Jg (by omega) (by omega)
      simp only [T.node.injEq] at hmm
      obtain ⟨rfl, rfl, rfl, rfl, rfl⟩ := hmm
      have hc2 : ll.h = i.h + 1 := by
        rcases hc with hc | ⟨rfl, rfl⟩
        · exact hc
        · omega
      rw [T.fresh_new hpm] at Jf
      refine ⟨⟨?_, ?_, c3, ⟨?_, ?_, c4, b4⟩⟩, ?_, ?_, ?_, ?_, ?_, ?_⟩
      all_goals clear Jg hc J
      all_goals try simp only [T.h_node, T.fresh_new hp, T.fresh_new hq]
      all_goals first | omega | (intro g1 g2; exfalso; omega)
end Go.Proofs.YtkkpdgfllnbigaaGreatDoor.Pm
namespace Go.Proofs
open Go.Shelf
def Tryz.lays106_ren : Go.Shelf.Ren := ⟨fun | 106 => 74 | 213 => 99 | 265 => 116 | n => n, fun | 9 => 9 | 3 => 3 | n => n, fun | n => n⟩
theorem Tryz.lays106 : Go.Proofs.Lays.n106 Tryz.prog Tryz.lays106_ren := {
  mixed := by kernel_rfl
  f106 := Tryz.func74.trans (congrArg some (by kernel_rfl))
  f213 := Tryz.func99.trans (congrArg some (by kernel_rfl))
  f265 := Tryz.func116.trans (congrArg some (by kernel_rfl))
  t3 := Tryz.underlying3
  a3 := Tryz.isAgg3
  z3 := Tryz.sizeOf3
  v3 := Tryz.zeroValue3
  t9 := Tryz.underlying9
  a9 := Tryz.isAgg9
  z9 := Tryz.sizeOf9
  v9 := Tryz.zeroValue9 }
open Go.RowKit in
/-- strings.Compare: "Compare returns an integer comparing two strings lexicographically. The result will be 0 if a == b, -1 if a < b, and +1 if a > b.": IT RETURNS 'Lib.compareBytes a b'; the world is as it was. (LAID: no walk: one application.) -/
theorem Tryz.strings_Compare (a b : ByteArray) (w : World) :
    Calls Tryz.prog 74 #[.string a, .string b] w fun e w' => e = .returned (.int .i64 (Lib.compareBytes a.data.toList b.data.toList)) ∧ w' = w := Any.strings_Compare Tryz.lays106 a b w
end Go.Proofs
namespace Go.Proofs.YtkkpdgfllnbigaaGreatDoor
open Go.RowKit

theorem sI {α : Type} (l : List α) (i : Nat) (a : α) : l.toArray.setIfInBounds i a = (l.set i a).toArray := List.setIfInBounds_toArray l i a
theorem sZ {α : Type} (x : α) (l : List α) (a : α) : (x :: l).set 0 a = a :: l := List.set_cons_zero
theorem sS {α : Type} (x : α) (l : List α) (i : Nat) (a : α) : (x :: l).set (i + 1) a = x :: l.set i a := List.set_cons_succ
theorem gI {α : Type} {xs : Array α} {i : Nat} {b : α} (h : xs[i]? = some b) : ∃ h : i < xs.size, xs[i] = b := Array.getElem?_eq_some_iff.1 h
/-- Bytes as cells. -/
def u8s (l : List Int) : List Value := l.map (Value.int .u8)
theorem u8s_length (l : List Int) : (u8s l).length = l.length := by simp [u8s]
theorem u8s_append (a b : List Int) : u8s (a ++ b) = u8s a ++ u8s b := by simp [u8s]
theorem u8s_get (l : List Int) (j : Nat) : (u8s l)[j]? = l[j]?.map (Value.int .u8) := by simp [u8s]
theorem u8s_one {l : List Int} : ∀ u ∈ u8s l, u.oneCell' = true := by
  intro u hu; simp [u8s] at hu; obtain ⟨x, _, rfl⟩ := hu; rfl

/-- The slice value v owns the bytes l, in a block from B on. -/
def Own (e : TypeId) (w : World) (B : Nat) (v : Value) (l : List Int) : Prop := w.ownsRow B e 1 v l.length (u8s l)

/-- Behind this address lie the bytes l. -/
def Rd (w : World) (ao : Option Addr) (l : List Int) : Prop :=
  (ao = none → l = []) ∧ ∀ a, ao = some a → ∀ j u, (u8s l)[j]? = some u → w.cell? (a.add j) = some u

theorem add_lit (g off j : Nat) : (⟨g, off, none⟩ : Addr).add j = ⟨g, off + j, none⟩ := by
  unfold Addr.add; split <;> simp_all

theorem Own.shape {e : TypeId} {w : World} {B : Nat} {v : Value} {l : List Int} (h : Own e w B v l) : ∃ ao cap, v = .slice ao l.length cap ∧ Rd w ao l ∧ (∀ a, ao = some a → B ≤ a.block ∧ a.block < w.heap.size) := by
  have hlt := World.ownsRow.lt h
  have hcells := fun g => World.ownsRow.cells h (g := g)
  rcases h.2 with ⟨rfl, hn⟩ | ⟨g, cap, cur, rfl, hb, hg, rest⟩
  · refine ⟨none, 0, by rw [hn], ⟨fun _ => List.eq_nil_of_length_eq_zero hn, by simp⟩, by simp⟩
  · refine ⟨some ⟨g, 0, none⟩, cap, rfl, ⟨by simp, ?_⟩, ?_⟩
    · intro a ha j u hj
      cases ha
      exact hcells g rfl j u hj
    · intro a ha
      cases ha
      exact hlt g rfl

theorem Own.rd {e : TypeId} {w : World} {B n cap : Nat} {ao : Option Addr} {l : List Int} (h : Own e w B (.slice ao n cap) l) : Rd w ao l := by
  obtain ⟨ao', cap', hv, hr, _⟩ := h.shape
  simp only [Value.slice.injEq] at hv
  rw [hv.1]; exact hr
theorem Own.blk {e : TypeId} {w : World} {B n cap : Nat} {ao : Option Addr} {l : List Int} (h : Own e w B (.slice ao n cap) l) : ∀ a, ao = some a → B ≤ a.block ∧ a.block < w.heap.size := by
  obtain ⟨ao', cap', hv, _, hr⟩ := h.shape
  simp only [Value.slice.injEq] at hv
  rw [hv.1]; exact hr

theorem Rd.below {w w' : World} {ao : Option Addr} {l : List Int} (h : Rd w ao l) (hb : Below w.heap.size w w') : Rd w' ao l :=
  ⟨h.1, fun a ha j u hj => by
    have hc := h.2 a ha j u hj
    rw [hb.cell (World.block_lt_of_cell? w _ hc)]
    exact hc⟩

/-- Bytes stay where a block is written that is not theirs. -/
theorem Rd.grown {w w' : World} {ao : Option Addr} {l : List Int} {row : Option Nat} (h : Rd w ao l) (hg : w.grownBy w' row) (hne : ∀ a, ao = some a → some a.block ≠ row) : Rd w' ao l :=
  ⟨h.1, fun a ha j u hj => by
    refine hg.cell (h.2 a ha j u hj) ?_
    have : (a.add j).block = a.block := by unfold Addr.add; split <;> rfl
    rw [this]
    exact hne a ha⟩

theorem Rd.nil (w : World) (ao : Option Addr) : Rd w ao [] := ⟨fun _ => rfl, by simp [u8s]⟩

theorem Rd.take {w : World} {ao : Option Addr} {l : List Int} (h : Rd w ao l) (k : Nat) : Rd w ao (l.take k) :=
  ⟨fun ha => by rw [h.1 ha]; simp, fun a ha j u hj => h.2 a ha j u (by
    rw [u8s_get] at hj ⊢
    rw [List.getElem?_take] at hj
    split at hj
    · exact hj
    · cases hj)⟩

/-- Bytes that are read, laid on what is owned, at a call of append. -/
theorem wpList_append_rd {P : Program} {w : World} {ops : Array Oper} {rest : List Oper} {o : Oper} {a : Act} {Q : Exit → Act → World → Prop} (hgd : o.guard = none) (s x : Operand) (t : TypeId)
    (ho : o.op = .call { callee := .builtin .append, args := #[s, x], argTypes := #[t, t] })
    (B : Nat) (e : TypeId) (i : TypeInfo) (ht : P.underlying t = some (.slice e)) (hi : P.info? e = some i) (hz : i.zero = some (.int .u8 0))
    (hsize : i.size = 1) (hby : i.bytes = 1)
    (v : Value) (p : List Int) (hs : a.eval s = v) (hown : Own e w B v p)
    (ao : Option Addr) (c : Nat) (l : List Int) (hx : a.eval x = .slice ao l.length c) (hc : ao = none → c = 0) (hrd : Rd w ao l)
    (hbytes : p.length + l.length ≤ 140737488355328) (hbase : B ≤ w.heap.size)
    (h : ∀ ao' cap' w', Own e w' B (.slice ao' (p.length + l.length) cap') (p ++ l) → w.grownBy w' v.ownBlock → (ao' = none → cap' = 0) →
      wpList P ops Q rest (a.put o.dst (.slice ao' (p.length + l.length) cap')) w') : wpList P ops Q (o :: rest) a w := by
  cases ao with
  | none =>
    have hl := hrd.1 rfl
    subst hl
    have hc0 := hc rfl
    subst hc0
    obtain ⟨ao', cap', rfl, _, _⟩ := hown.shape
    refine wpList_append_own_none hgd s x t ho B e i 1 ht hi _ _ _ hs hown hx ?_
    have := h ao' cap' w (by simpa [Own] using hown) (World.grownBy.refl _ _) (by
      intro hn; subst hn
      rcases hown.2 with ⟨h1, _⟩ | ⟨g, cap, cur, h1, _⟩
      · simp at h1; exact h1.2
      · simp at h1)
    simpa using this
  | some ad =>
    refine wpList_append_own w hgd s x t ho B e i (.int .u8 0) 1 1 ht hi hz hsize hby rfl (by decide) v _ _ hs hown ad l.length c (u8s l) hx (by simp [u8s]) (fun j u hj => hrd.2 ad rfl j u hj) u8s_one
      (by unfold maxLen; omega) (by omega) hbase ?_
    intro v' w' hown' hg _
    have hown2 : Own e w' B v' (p ++ l) := by
      unfold Own; rw [u8s_append, List.length_append]; exact hown'
    obtain ⟨ao', cap', rfl, _, _⟩ := hown2.shape
    have hown3 := hown2
    have := h ao' cap' w' (by simpa using hown3) hg (by
      intro hn; subst hn
      rcases hown2.2 with ⟨h1, _⟩ | ⟨g, cap, cur, h1, _⟩
      · simp at h1; exact h1.2
      · simp at h1)
    simpa using this

/-- One byte more on what is owned: 'append(out, x)', where x has been laid at ad. -/
theorem wpList_push {P : Program} {w : World} {ops : Array Oper} {rest : List Oper} {o : Oper} {a : Act} {Q : Exit → Act → World → Prop} (hgd : o.guard = none) (s x : Operand) (t : TypeId)
    (ho : o.op = .call { callee := .builtin .append, args := #[s, x], argTypes := #[t, t] })
    (B : Nat) (e : TypeId) (i : TypeInfo) (ht : P.underlying t = some (.slice e)) (hi : P.info? e = some i) (hz : i.zero = some (.int .u8 0))
    (hsize : i.size = 1) (hby : i.bytes = 1)
    (v : Value) (p : List Int) (hs : a.eval s = v) (hown : Own e w B v p)
    (ad : Addr) (c : Nat) (b : Int) (hx : a.eval x = .slice (some ad) 1 c) (hcell : w.cell? ad = some (.int .u8 b))
    (hbytes : p.length + 1 ≤ 140737488355328) (hbase : B ≤ w.heap.size)
    (h : ∀ ao' cap' w', Own e w' B (.slice ao' (p.length + 1) cap') (p ++ [b]) → w.grownBy w' v.ownBlock → (ao' = none → cap' = 0) →
      wpList P ops Q rest (a.put o.dst (.slice ao' (p.length + 1) cap')) w') : wpList P ops Q (o :: rest) a w := by
  refine wpList_append_rd hgd s x t ho B e i ht hi hz hsize hby v p hs hown (some ad) c [b] hx (by simp) ⟨by simp, ?_⟩ (by simpa using hbytes) hbase ?_
  · intro a' ha' j u hj
    cases ha'
    match j, hj with
    | 0, hj => simp [u8s] at hj; subst hj; simpa [Addr.add] using hcell
  · intro ao' cap' w' h1 h2 h3
    exact h ao' cap' w' h1 h2 h3

theorem Own.alloc {e : TypeId} {w : World} {B : Nat} {v : Value} {l : List Int} (h : Own e w B v l) (o : Obj) : Own e (w.alloc o) B v l := World.ownsRow.alloc h o
theorem Own.drew {e : TypeId} {w : World} {B : Nat} {v : Value} {l : List Int} (h : Own e w B v l) : Own e w.drew B v l := h
theorem Own.nil (e : TypeId) (w : World) (B : Nat) : Own e w B (.slice none 0 0) [] := World.ownsRow_nil _ _ _ _

/-- What is owned stays so while another block is written. -/
theorem Own.kept {e : TypeId} {w w' : World} {B : Nat} {v : Value} {l : List Int} {row : Option Nat} (h : Own e w B v l) (hg : w.grownBy w' row) (hne : v.ownBlock = none ∨ v.ownBlock ≠ row) : Own e w' B v l := World.ownsRow.kept h hg hne
theorem Own.below {e : TypeId} {w w' : World} {B : Nat} {v : Value} {l : List Int} (h : Own e w B v l) (hb : Below w.heap.size w w') : Own e w' B v l :=
  h.kept (row := none) ⟨hb.os, hb.tape, hb.output, hb.size, fun k hk _ => hb.block k hk⟩ (by cases v.ownBlock <;> simp)
theorem Own.lift {e : TypeId} {w : World} {B B' : Nat} {v : Value} {l : List Int} (h : Own e w B v l) (hB : B' ≤ B) : Own e w B' v l := by
  refine ⟨h.1, ?_⟩
  rcases h.2 with h2 | ⟨g, cap, cur, h1, h2, h3⟩
  · exact .inl h2
  · exact .inr ⟨g, cap, cur, h1, by omega, h3⟩

/-- What a law that ends in 'grownBy' leaves of 'Below'. -/
theorem below_own {B : Nat} {w wr w1 : World} {e : TypeId} {v : Value} {l : List Int} (hb : Below B w wr) (hBw : B ≤ wr.heap.size)
    (hown : Own e wr B v l) (hg : wr.grownBy w1 v.ownBlock) : Below B w w1 :=
  hb.grown hg hBw (fun k hk => by have := (World.ownsRow.lt hown k hk).1; omega)

/-- What a call that answers new bytes leaves. -/
def Made (e : TypeId) (w w' : World) (x : Ending) (l : List Int) : Prop :=
  ∃ ao cap, x = .returned (.slice ao l.length cap) ∧ Own e w' w.heap.size (.slice ao l.length cap) l ∧ (ao = none → cap = 0) ∧ Below w.heap.size w w'

end Go.Proofs.YtkkpdgfllnbigaaGreatDoor
namespace Go.Proofs.YtkkpdgfllnbigaaGreatDoor
open Go.RowKit

/-- Of the old blocks none has turned but those in C. -/
structure Only (C : Nat → Prop) (w w' : World) : Prop where
  os : w'.os = w.os
  tape : w'.tape = w.tape
  output : w'.output = w.output
  size : w.heap.size ≤ w'.heap.size
  block : ∀ k, k < w.heap.size → ¬ C k → w'.heap[k]? = w.heap[k]?

def None : Nat → Prop := fun _ => False
/-- No block in both. -/
def Apart (C D : Nat → Prop) : Prop := ∀ k, C k → D k → False
theorem Only.refl (C : Nat → Prop) (w : World) : Only C w w := ⟨rfl, rfl, rfl, Nat.le_refl _, fun _ _ _ => rfl⟩
theorem Only.mono {C D : Nat → Prop} {w w' : World} (h : Only C w w') (hCD : ∀ k, k < w.heap.size → C k → D k) : Only D w w' :=
  ⟨h.os, h.tape, h.output, h.size, fun k hk hD => h.block k hk (fun hC => hD (hCD k hk hC))⟩
/-- One behind the other: what the second turns is new, or in the set. -/
theorem Only.trans {C D : Nat → Prop} {w w1 w2 : World} (h : Only C w w1) (k : Only D w1 w2) (hD : ∀ j, j < w.heap.size → D j → C j) : Only C w w2 :=
  ⟨k.os.trans h.os, k.tape.trans h.tape, k.output.trans h.output, Nat.le_trans h.size k.size, fun j hj hC => (k.block j (Nat.lt_of_lt_of_le hj h.size) (fun hd => hC (hD j hj hd))).trans (h.block j hj hC)⟩
theorem Only.ofBelow {w w' : World} (h : Below w.heap.size w w') : Only None w w' := ⟨h.os, h.tape, h.output, h.size, fun k hk _ => h.block k hk⟩
theorem Only.ofGrown {w w' : World} {row : Option Nat} (h : w.grownBy w' row) : Only (fun k => row = some k) w w' := ⟨h.os, h.tape, h.output, h.size, fun k hk hr => h.block k hk (fun e => hr e.symm)⟩
theorem Only.below {C : Nat → Prop} {w w' : World} {B : Nat} (h : Only C w w') (hB : B ≤ w.heap.size) (hC : ∀ k, C k → B ≤ k) : Below B w w' :=
  ⟨h.os, h.tape, h.output, h.size, fun k hk => h.block k (Nat.lt_of_lt_of_le hk hB) (fun c => absurd (hC k c) (Nat.not_le.2 hk))⟩
/-- A call that turns old blocks, seen from an elder world to which they are new. -/
theorem Below.only {C : Nat → Prop} {B : Nat} {w w1 w2 : World} (h : Below B w w1) (k : Only C w1 w2) (hB : B ≤ w1.heap.size) (hC : ∀ j, C j → B ≤ j) : Below B w w2 := h.trans (k.below hB hC)
theorem Only.alloc {C : Nat → Prop} {w w' : World} (h : Only C w w') (o : Obj) : Only C w (w'.alloc o) :=
  ⟨h.os, h.tape, h.output, Nat.le_trans h.size (by simp), fun k hk hC => (Below.heap_alloc w' o k (Nat.lt_of_lt_of_le hk h.size)).trans (h.block k hk hC)⟩
theorem Only.drew {C : Nat → Prop} {w w' : World} (h : Only C w w') : Only C w w'.drew := ⟨h.os, h.tape, h.output, h.size, h.block⟩
theorem Only.drewN {C : Nat → Prop} {w w' : World} (h : Only C w w') (n : Nat) : Only C w (w'.drewN n) := ⟨h.os, h.tape, h.output, h.size, h.block⟩
theorem Only.setCell {C : Nat → Prop} {w w' : World} (h : Only C w w') (a : Addr) (v : Value) (ha : a.block < w.heap.size → C a.block) : Only C w (w'.setCell a v) :=
  ⟨h.os, h.tape, h.output, by simpa using h.size, fun k hk hC => (Below.heap_setCell w' a v k (fun e => hC (by rw [e]; exact ha (by rw [← e]; exact hk)))).trans (h.block k hk hC)⟩

theorem Only.cell {C : Nat → Prop} {w w' : World} (h : Only C w w') {a : Addr} {v : Value} (hc : w.cell? a = some v) (hC : ¬ C a.block) : w'.cell? a = some v := by
  rw [World.cell?_of_block (h.block a.block (World.block_lt_of_cell? w a hc) hC)]; exact hc
theorem Only.rd {C : Nat → Prop} {w w' : World} {ao : Option Addr} {l : List Int} (h : Only C w w') (hr : Rd w ao l) (hC : ∀ a, ao = some a → ¬ C a.block) : Rd w' ao l :=
  ⟨hr.1, fun a ha j u hj => h.cell (hr.2 a ha j u hj) (by
    have : (a.add j).block = a.block := by unfold Addr.add; split <;> rfl
    rw [this]; exact hC a ha)⟩
theorem Only.row {C : Nat → Prop} {w w' : World} {B : Nat} {e : TypeId} {size n : Nat} {v : Value} {xs : List Value} (h : Only C w w') (ho : w.ownsRow B e size v n xs) (hC : ∀ k, v.ownBlock = some k → ¬ C k) : w'.ownsRow B e size v n xs := by
  have hlt := World.ownsRow.lt ho
  refine ⟨ho.1, ?_⟩
  rcases ho.2 with hn | ⟨g, cap, cur, rfl, hb, hg, rest⟩
  · exact .inl hn
  · exact .inr ⟨g, cap, cur, rfl, hb, by rw [h.block g (hlt g rfl).2 (hC g rfl)]; exact hg, rest⟩
theorem Only.own {C : Nat → Prop} {w w' : World} {B : Nat} {e : TypeId} {v : Value} {l : List Int} (h : Only C w w') (ho : Own e w B v l) (hC : ∀ k, v.ownBlock = some k → ¬ C k) : Own e w' B v l := h.row ho hC
end Go.Proofs.YtkkpdgfllnbigaaGreatDoor
namespace Go.Proofs.YtkkpdgfllnbigaaGreatDoor
open Go.RowKit

theorem results_cell {fn : Func} {p : Tmp} {ty : TypeId} (h : fn.results = #[.cell p ty]) (tmps : Array Value) (P : Program) (w : World) :
    (results fn tmps).run P w = ((asAddr (tmps.getD p undef)).run P w).andThen fun a w₁ => (loadVar ty a).run P w₁ := by
  simp only [results, h]
  simp [Sem.run_bind, Result.andThen]

section
variable {P : Program}
end

theorem grown_setCell (w : World) (a : Addr) (v : Value) : w.grownBy (w.setCell a v) (some a.block) :=
  ⟨rfl, rfl, rfl, by simp, fun k _ hk => Below.heap_setCell w a v k (by intro e; subst e; exact hk rfl)⟩
end Go.Proofs.YtkkpdgfllnbigaaGreatDoor
namespace Go.Proofs.YtkkpdgfllnbigaaGreatDoor
open Go.RowKit

def U8 (l : List Int) : Prop := ∀ y ∈ l, 0 ≤ y ∧ y ≤ 255
theorem U8.take {l : List Int} (h : U8 l) (k : Nat) : U8 (l.take k) := fun y hy => h y (List.mem_of_mem_take hy)
/-- A byte of what can be read. -/
theorem Rd.at {w : World} {ao : Option Addr} {l : List Int} (h : Rd w ao l) {k : Nat} {b : Int} (hb : l[k]? = some b) : ∃ ab off, ao = some ⟨ab, off, none⟩ ∧ w.cell? ⟨ab, off + k, none⟩ = some (.int .u8 b) := by
  cases ao with
  | none => have := h.1 rfl; subst this; simp at hb
  | some a =>
    obtain ⟨ab, off, sp⟩ := a
    have hl : 0 < l.length := by have := (List.getElem?_eq_some_iff.1 hb).1; omega
    have h0 := h.2 _ rfl 0 (.int .u8 l[0]) (by rw [u8s_get, List.getElem?_eq_getElem hl]; rfl)
    simp only [Addr.add, if_true] at h0
    have hs : sp = none := World.cell?_spot h0
    subst hs
    have hk := h.2 _ rfl k (.int .u8 b) (by rw [u8s_get, hb]; rfl)
    rw [add_lit] at hk
    exact ⟨ab, off, rfl, hk⟩
/-- Behind this address lie slices of bytes, each of which can be read. -/
def Pieces (w : World) (ao : Option Addr) (L : List (List Int)) : Prop :=
  (ao = none → L = []) ∧ ∀ a, ao = some a → ∀ j l, L[j]? = some l → ∃ aj cj, w.cell? (a.add j) = some (.slice aj l.length cj) ∧ Rd w aj l ∧ (aj = none → cj = 0)
theorem Pieces.below {w w' : World} {ao : Option Addr} {L : List (List Int)} (h : Pieces w ao L) (hb : Below w.heap.size w w') : Pieces w' ao L :=
  ⟨h.1, fun a ha j l hj => by
    obtain ⟨aj, cj, hc, hr, hn⟩ := h.2 a ha j l hj
    exact ⟨aj, cj, by rw [hb.cell (World.block_lt_of_cell? w _ hc)]; exact hc, hr.below hb, hn⟩⟩
theorem Pieces.at {w : World} {ao : Option Addr} {L : List (List Int)} (h : Pieces w ao L) {k : Nat} {l : List Int} (hl : L[k]? = some l) :
    ∃ ab off aj cj, ao = some ⟨ab, off, none⟩ ∧ w.cell? ⟨ab, off + k, none⟩ = some (.slice aj l.length cj) ∧ Rd w aj l ∧ (aj = none → cj = 0) := by
  cases ao with
  | none => have := h.1 rfl; subst this; simp at hl
  | some a =>
    obtain ⟨ab, off, sp⟩ := a
    have hL : 0 < L.length := by have := (List.getElem?_eq_some_iff.1 hl).1; omega
    obtain ⟨_, _, h0, _⟩ := h.2 _ rfl 0 L[0] (List.getElem?_eq_getElem hL)
    simp only [Addr.add, if_true] at h0
    have hs : sp = none := World.cell?_spot h0
    subst hs
    obtain ⟨aj, cj, hk, hr, hn⟩ := h.2 _ rfl k l hl
    rw [add_lit] at hk
    exact ⟨ab, off, aj, cj, rfl, hk, hr, hn⟩
theorem Pieces.one {w : World} (a1 : Option Addr) (c1 : Nat) (l1 : List Int) (t : TypeId) (h1 : Rd w a1 l1) (n1 : a1 = none → c1 = 0) :
    Pieces (w.alloc (.cells #[.slice a1 l1.length c1] t)) (some ⟨w.heap.size, 0, none⟩) [l1] := by
  have hb : Below w.heap.size w (w.alloc (.cells #[.slice a1 l1.length c1] t)) := (Below.refl _ _).alloc (Nat.le_refl _) _
  refine ⟨by simp, ?_⟩
  intro a ha j l hj
  cases ha
  match j, hj with
  | 0, hj => simp at hj; subst hj; exact ⟨a1, c1, by rw [add_lit]; simp [go_sem], h1.below hb, n1⟩
theorem Rd.drewN {w : World} {ao : Option Addr} {l : List Int} (h : Rd w ao l) (n : Nat) : Rd (w.drewN n) ao l := h.below ⟨rfl, rfl, rfl, Nat.le_refl _, fun _ _ => rfl⟩
theorem Pieces.drewN {w : World} {ao : Option Addr} {L : List (List Int)} (h : Pieces w ao L) (n : Nat) : Pieces (w.drewN n) ao L := h.below ⟨rfl, rfl, rfl, Nat.le_refl _, fun _ _ => rfl⟩
theorem Own.cap {e : TypeId} {w : World} {B n cap : Nat} {ao : Option Addr} {l : List Int} (h : Own e w B (.slice ao n cap) l) : l.length ≤ cap ∧ cap ≤ 9223372036854775807 := by
  rcases h.2 with ⟨h1, h2⟩ | ⟨g, c, cur, h1, _, _, h4, h5, _⟩
  · simp only [Value.slice.injEq] at h1; omega
  · simp only [Value.slice.injEq] at h1
    unfold maxLen at h5
    omega
theorem rd_lit (w : World) (l : List Int) (t : TypeId) (fr : Nat × Nat) : Rd (w.alloc (.cells (u8s l).toArray t fr)) (some ⟨w.heap.size, 0, none⟩) l :=
  ⟨by simp, fun a ha j u hj => by
    cases ha
    rw [add_lit, cell_of_row _ _ (0 + j) (u8s l).toArray t fr (heap_alloc_last w _), Nat.zero_add]
    simpa using hj⟩
theorem Rd.alloc {w : World} {ao : Option Addr} {l : List Int} (h : Rd w ao l) (o : Obj) : Rd (w.alloc o) ao l := h.below ((Below.refl _ _).alloc (Nat.le_refl _) _)
/-- A byte of what is owned is written. -/
theorem Own.store {e : TypeId} {w : World} {B n cap k : Nat} {ao : Option Addr} {l : List Int} (h : Own e w B (.slice ao n cap) l) (hk : k < l.length) :
    ∃ g, ao = some ⟨g, 0, none⟩ ∧ w.cell? ⟨g, k, none⟩ = some (.int .u8 (l.getD k 0)) ∧ w.frozen? ⟨g, k, none⟩ = false ∧ B ≤ g ∧ g < w.heap.size ∧
      ∀ x, Own e (w.setCell ⟨g, k, none⟩ (.int .u8 x)) B (.slice ao n cap) (l.set k x) ∧ w.grownBy (w.setCell ⟨g, k, none⟩ (.int .u8 x)) (some g) := by
  have h2 := h.2
  have hb := h.blk
  rcases h2 with ⟨h1, h3⟩ | ⟨g, c, cur, h1, _⟩
  · omega
  · simp only [Value.slice.injEq] at h1
    obtain ⟨rfl, rfl, rfl⟩ := h1
    refine ⟨g, rfl, ?_, World.ownsRow.frozenAt h k, (hb _ rfl).1, (hb _ rfl).2, fun x => ?_⟩
    · rw [World.ownsRow.cellAt h k (by omega), u8s_get, List.getElem?_eq_getElem hk, List.getD_eq_getElem?_getD, List.getElem?_eq_getElem hk]; rfl
    · obtain ⟨r1, r2⟩ := World.ownsRow.stored h k (.int .u8 x)
      refine ⟨?_, r2⟩
      unfold Own
      rw [List.length_set]
      have : u8s (l.set k x) = (u8s l).set k (.int .u8 x) := by simp [u8s, List.map_set]
      rw [this]
      exact r1
theorem U8.getD {l : List Int} (h : U8 l) (q : Nat) : 0 ≤ l.getD q 0 ∧ l.getD q 0 ≤ 255 := by
  rw [List.getD_eq_getElem?_getD]
  cases hq : l[q]? with
  | none => simp
  | some b => exact h b (List.mem_of_getElem? hq)
theorem U8.set {l : List Int} (h : U8 l) (q v : Nat) (hv : v < 256) : U8 (l.set q (v : Int)) := by
  intro y hy
  rcases List.mem_or_eq_of_mem_set hy with h1 | h1
  · exact h y h1
  · rw [h1]; omega
theorem str_back {l : List Int} (h : U8 l) : (strOfNums l).data.toList.map (fun c => (c.toNat : Int)) = l := by
  rw [strOfNums_data, List.map_map]
  have : ∀ n ∈ l, ((fun c : UInt8 => (c.toNat : Int)) ∘ fun n : Int => UInt8.ofNat n.toNat) n = n := fun n hn => by
    have := h n hn
    simp only [Function.comp, UInt8.toNat_ofNat']
    omega
  rw [List.map_congr_left this, List.map_id']
end Go.Proofs.YtkkpdgfllnbigaaGreatDoor
namespace Go.Proofs.YtkkpdgfllnbigaaGreatDoor
open Go.RowKit

theorem exec_same (ev : Operand → Value) (o : Oper) {OP : Op} {T : TypeId} (ho : o.op = OP) (ht : o.type = T) : execOp ev o = execOp ev { dst := none, op := OP, type := T, pos := "", after := #[], guard := none } := by
  unfold execOp
  rw [ho, ht]

section
variable {P : Program} {md : Region.Mode} {ops : Array Oper} {Q : Exit → Act → World → Prop} {S S' : World → Prop}

theorem take_op {i : Nat} {oi : Oper} {d : Tmp} {OP : Op} {T : TypeId} {v : Value} {fuel : Nat} {listed : Array Bool} {a : Act} {w : World} (hi : ops[i]? = some oi) (hd : oi.dst = some d) (ho : oi.op = OP) (ht : oi.type = T)
    (hs : Region.noSelect ops = true) (hf : Region.free md ops listed i = true) (hr : (Region.ready md ops listed).contains i = true)
    (hQ : ∀ c a w, Q (.panic c) (a.put (some d) v) w → Q (.panic c) a w) (hw : Region.wanted oi (yielded ops a.tmps) = true)
    (hy : ∀ w, S w → (execOp a.eval { dst := none, op := OP, type := T, pos := "", after := #[], guard := none }).run P w = .ok (.value v) w) (hS : S w)
    (h : wpAnyH P md ops Q S fuel (listed.setIfInBounds i true) (a.put (some d) v) w) : wpAnyH P md ops Q S (fuel + 1) listed a w := by
  refine wpAnyH_take (v := v) hi hs hf hr (by rw [hd]; exact hQ) (.inl ⟨hw, fun w hSw => ?_⟩) hS (by rw [hd]; exact h)
  rw [exec_same a.eval oi ho ht]
  exact hy w hSw

theorem call_op {i : Nat} {oi : Oper} {d : Tmp} {OP : Op} {T : TypeId} {f : FuncId} {args : Array Value} {fuel : Nat} {listed : Array Bool} {a : Act} {w : World} (hi : ops[i]? = some oi) (hd : oi.dst = some d) (ho : oi.op = OP) (ht : oi.type = T)
    (hr : Region.ready md ops listed = [i]) (hw : Region.wanted oi (yielded ops a.tmps) = true)
    (hy : (execOp a.eval { dst := none, op := OP, type := T, pos := "", after := #[], guard := none }).run P w = .ok (.enter f args) w)
    (h : Calls P f args w fun e w' => ∃ v, e = .returned v ∧ S w' ∧ wpAnyH P md ops Q S fuel (listed.setIfInBounds i true) (a.put (some d) v) w') : wpAnyH P md ops Q S (fuel + 1) listed a w := by
  refine wpAnyH_ready hr (by simp) (AllReadyH.cons hi (fun K hK => ?_) AllReadyH.nil)
  rw [if_pos hw]
  unfold Oper.wp
  rw [exec_same a.eval oi ho ht, hy]
  refine Calls.mono h ?_
  rintro e w' ⟨v, rfl, hS, hx⟩
  show K (a.put oi.dst v) w'
  rw [hd]
  exact hK.out _ _ hS (fun _ => hx)

/-- An operation that yields nothing and turns the world (a store), and comes up alone. -/
theorem skip_op {i : Nat} {oi : Oper} {OP : Op} {T : TypeId} {fuel : Nat} {listed : Array Bool} {a : Act} {w w' : World} (hi : ops[i]? = some oi) (hd : oi.dst = none) (ho : oi.op = OP) (ht : oi.type = T)
    (hr : Region.ready md ops listed = [i]) (hw : Region.wanted oi (yielded ops a.tmps) = true)
    (hy : (execOp a.eval { dst := none, op := OP, type := T, pos := "", after := #[], guard := none }).run P w = .ok .skip w')
    (h : S w' ∧ wpAnyH P md ops Q S fuel (listed.setIfInBounds i true) a w') : wpAnyH P md ops Q S (fuel + 1) listed a w := by
  refine wpAnyH_ready hr (by simp) (AllReadyH.cons hi (fun K hK => ?_) AllReadyH.nil)
  rw [if_pos hw]
  unfold Oper.wp
  rw [exec_same a.eval oi ho ht, hy]
  show K (a.put oi.dst undef) w'
  rw [hd]
  exact hK.out _ _ h.1 (fun _ => h.2)
end
end Go.Proofs.YtkkpdgfllnbigaaGreatDoor
