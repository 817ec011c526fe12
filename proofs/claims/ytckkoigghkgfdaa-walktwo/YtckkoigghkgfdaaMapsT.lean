/-
  WHAT PUT AND TAKE DO TO WHAT A LIST HAS; VALUES THAT ARE TOLD BY THEIR KEYS STAY SO (the plain part of maps 9).
  few 7: ARE THERE FEW ENOUGH?
  A MAP HAS NO NEW NODE OF ITS OWN.
  HOW MANY KEYS A MAP HAS, BY WHICH KEYS IT HAS (plain).
  known 8: WHAT IT CALLS.
-/
import Derived.Test.YtckkoigghkgfdaaChange
namespace Go.Proofs.Ytckkoigghkgfdaa
open Go.RowKit Go.Shelf
set_option linter.unusedSimpArgs false

/-- A list in order, at a key. -/
theorem list_at {l : List (ByteArray × Int)} (hs : Srt l) (k : ByteArray) : ∃ A D, (∀ y ∈ A, cmpB y.1 k = -1) ∧ (∀ y ∈ D, cmpB k y.1 = -1) ∧ (∀ v, ins k v l = A ++ (k, v) :: D) ∧ ((has k l = true ∧ del k l = A ++ D ∧ ∃ v, l = A ++ (k, v) :: D) ∨ (has k l = false ∧ del k l = l ∧ l = A ++ D)) := by
  have hsi := srt_ins hs k 0
  have hi : ∀ v, ins k v l = l.take (pos k l) ++ (k, v) :: l.drop (if has k l then pos k l + 1 else pos k l) := fun v => rfl
  rw [hi] at hsi
  obtain ⟨_, _, s3, s4⟩ := Srt.app.1 hsi
  refine ⟨_, _, s3, s4, hi, ?_⟩
  cases hG : has k l with
  | true =>
    left
    obtain ⟨v, hv⟩ := has_mem hG
    have hlt := (List.getElem?_eq_some_iff.1 hv).1
    refine ⟨rfl, by unfold del; rw [hG]; rfl, v, ?_⟩
    rw [List.getElem?_eq_getElem hlt] at hv
    simp only [if_true]
    rw [← Option.some.inj hv, List.getElem_cons_drop, List.take_append_drop]
  | false =>
    right
    refine ⟨rfl, by unfold del; rw [hG]; rfl, ?_⟩
    simp only [if_neg Bool.false_ne_true, List.take_append_drop]
theorem look_ins {l : List (ByteArray × Int)} (hs : Srt l) (k : ByteArray) (v : Int) (j : ByteArray) : look j (ins k v l) = if j = k then (v, true) else look j l := by
  obtain ⟨A, D, h1, h2, h3, h4⟩ := list_at hs k
  obtain ⟨q1, q2, q3⟩ := look_mid (v := v) h1 h2
  rw [h3 v]
  rcases cmp_three j k with e | e | e
  · rw [q2 j e, if_neg (cmp_ne e)]
    rcases h4 with ⟨_, _, v', hl⟩ | ⟨_, _, hl⟩
    · rw [hl, (look_mid (v := v') h1 h2).2.1 j e]
    · conv => rhs; rw [hl]
      rw [(look_two h1 h2).2.1 j e]
  · rw [if_pos e, e, q1]
  · rw [q3 j e, if_neg (cmp_ne e).symm]
    rcases h4 with ⟨_, _, v', hl⟩ | ⟨_, _, hl⟩
    · rw [hl, (look_mid (v := v') h1 h2).2.2 j e]
    · conv => rhs; rw [hl]
      rw [(look_two h1 h2).2.2 j e]
theorem look_del {l : List (ByteArray × Int)} (hs : Srt l) (k j : ByteArray) : look j (del k l) = if j = k then (0, false) else look j l := by
  obtain ⟨A, D, h1, h2, _, h4⟩ := list_at hs k
  obtain ⟨r1, r2, r3⟩ := look_two h1 h2
  rcases h4 with ⟨_, hd, v', hl⟩ | ⟨_, hd, hl⟩
  · obtain ⟨q1, q2, q3⟩ := look_mid (v := v') h1 h2
    rw [hd]
    rcases cmp_three j k with e | e | e
    · rw [r2 j e, if_neg (cmp_ne e), hl, q2 j e]
    · rw [if_pos e, e, r1]
    · rw [r3 j e, if_neg (cmp_ne e).symm, hl, q3 j e]
  · rw [hd]
    by_cases e : j = k
    · rw [if_pos e, e]
      conv => lhs; rw [hl]
      exact r1
    · rw [if_neg e]
/-- A list in order whose values are told by their keys. -/
structure ToldL (fv : ByteArray → Int) (l : List (ByteArray × Int)) : Prop where
  srt : Srt l
  told : ∀ k, Told fv k (look k l)
theorem ToldL.none (fv : ByteArray → Int) : ToldL fv [] := ⟨List.Pairwise.nil, fun _ => .inl rfl⟩
theorem ToldL.put {l : List (ByteArray × Int)} (h : ToldL (fun k => (k.size : Nat)) l) (k : ByteArray) : ToldL (fun k => (k.size : Nat)) (putOne l k) := by
  refine ⟨srt_ins h.srt k _, fun j => ?_⟩
  unfold putOne
  rw [look_ins h.srt]
  split
  · rename_i e; subst e; exact .inr rfl
  · exact h.told j
theorem ToldL.take {fv : ByteArray → Int} {l : List (ByteArray × Int)} (h : ToldL fv l) (ks : List ByteArray) (m : Int) : ToldL fv (takeOne ks l m) := by
  unfold takeOne
  split
  · refine ⟨srt_del h.srt _, fun j => ?_⟩
    rw [look_del h.srt]
    split
    · exact .inl rfl
    · exact h.told j
  · exact h
theorem ToldL.puts {l : List (ByteArray × Int)} (h : ToldL (fun k => (k.size : Nat)) l) : ∀ ps : List ByteArray, ToldL (fun k => (k.size : Nat)) (ps.foldl putOne l) := fun ps => by
  induction ps generalizing l with
  | nil => exact h
  | cons k ps ih => exact ih (h.put k)
theorem ToldL.takes {fv : ByteArray → Int} {l : List (ByteArray × Int)} (h : ToldL fv l) (ks : List ByteArray) : ∀ ts : List Int, ToldL fv (ts.foldl (takeOne ks) l) := fun ts => by
  induction ts generalizing l with
  | nil => exact h
  | cons m ts ih => exact ih (h.take ks m)
end Go.Proofs.Ytckkoigghkgfdaa
namespace Go.Proofs.Ytckkoigghkgfdaa
open Go.RowKit Go.Shelf
set_option linter.unusedSimpArgs false

set_option maxHeartbeats 4000000 in
set_option maxRecDepth 100000 in
theorem few_any (a0 a1 a2 a3 a4 : Option Addr) (n0 n1 n2 n3 n4 c0 c1 c2 c3 c4 : Nat) (x y z : Bool) (w : World) :
    Calls Try.prog 7 #[.agg #[.slice a0 n0 c0, .slice a1 n1 c1, .slice a2 n2 c2, .slice a3 n3 c3, .slice a4 n4 c4, .bool x, .bool y, .bool z]] w fun e w' => e = .returned (.bool (decide (n0 ≤ 40 ∧ n1 ≤ 40 ∧ n2 ≤ 40 ∧ n3 ≤ 40 ∧ n4 ≤ 40))) ∧ Below w.heap.size w w' := by
  have HB := hide (show Below w.heap.size w (w.alloc (.cells #[.slice a0 n0 c0, .slice a1 n1 c1, .slice a2 n2 c2, .slice a3 n3 c3, .slice a4 n4 c4, .bool x, .bool y, .bool z] 25)) from (Below.refl _ w).alloc (Nat.le_refl _) _)
  by_cases h0 : n0 ≤ 40
  · by_cases h1 : n1 ≤ 40
    · by_cases h2 : n2 ≤ 40
      · by_cases h3 : n3 ≤ 40
        · by_cases h4 : n4 ≤ 40
          · rw [decide_eq_true ⟨h0, h1, h2, h3, h4⟩]
            have z0 : (n0 : Int) ≤ 40 := by omega
            have z1 : (n1 : Int) ≤ 40 := by omega
            have z2 : (n2 : Int) ≤ 40 := by omega
            have z3 : (n3 : Int) ≤ 40 := by omega
            have z4 : (n4 : Int) ≤ 40 := by omega
            clear h0 h1 h2 h3 h4
            go_enter Try.func7, Try.ntmps7
            go_wp2
            go_ret
            exact ⟨by simp, HB.out⟩
          · rw [decide_eq_false (fun h => h4 (by omega))]
            have z0 : (n0 : Int) ≤ 40 := by omega
            have z1 : (n1 : Int) ≤ 40 := by omega
            have z2 : (n2 : Int) ≤ 40 := by omega
            have z3 : (n3 : Int) ≤ 40 := by omega
            have z4 : ¬ ((n4 : Int) ≤ 40) := by omega
            have y4 : decide ((n4 : Int) ≤ 40) = false := by simpa using z4
            clear h0 h1 h2 h3 h4
            go_enter Try.func7, Try.ntmps7
            go_wp2
            go_ret
            exact ⟨by simp, HB.out⟩
        · rw [decide_eq_false (fun h => h3 (by omega))]
          have z0 : (n0 : Int) ≤ 40 := by omega
          have z1 : (n1 : Int) ≤ 40 := by omega
          have z2 : (n2 : Int) ≤ 40 := by omega
          have z3 : ¬ ((n3 : Int) ≤ 40) := by omega
          have y3 : decide ((n3 : Int) ≤ 40) = false := by simpa using z3
          clear h0 h1 h2 h3
          go_enter Try.func7, Try.ntmps7
          go_wp2
          go_ret
          exact ⟨by simp, HB.out⟩
      · rw [decide_eq_false (fun h => h2 (by omega))]
        have z0 : (n0 : Int) ≤ 40 := by omega
        have z1 : (n1 : Int) ≤ 40 := by omega
        have z2 : ¬ ((n2 : Int) ≤ 40) := by omega
        have y2 : decide ((n2 : Int) ≤ 40) = false := by simpa using z2
        clear h0 h1 h2
        go_enter Try.func7, Try.ntmps7
        go_wp2
        go_ret
        exact ⟨by simp, HB.out⟩
    · rw [decide_eq_false (fun h => h1 (by omega))]
      have z0 : (n0 : Int) ≤ 40 := by omega
      have z1 : ¬ ((n1 : Int) ≤ 40) := by omega
      have y1 : decide ((n1 : Int) ≤ 40) = false := by simpa using z1
      clear h0 h1
      go_enter Try.func7, Try.ntmps7
      go_wp2
      go_ret
      exact ⟨by simp, HB.out⟩
  · rw [decide_eq_false (fun h => h0 (by omega))]
    have z0 : ¬ ((n0 : Int) ≤ 40) := by omega
    have y0 : decide ((n0 : Int) ≤ 40) = false := by simpa using z0
    clear h0
    go_enter Try.func7, Try.ntmps7
    go_wp2
    go_ret
    exact ⟨by simp, HB.out⟩
end Go.Proofs.Ytckkoigghkgfdaa
namespace Go.Proofs.Ytckkoigghkgfdaa
open Go.RowKit Go.Shelf

theorem madeIn_self {os : List T} {t : T} (ht : t ∈ os) (hs : Srt t.list) : madeIn os t = 0 := by
  cases t with
  | nil => rfl
  | node p k v l r =>
    have : os.any (fun o => decide (o.find k = .node p k v l r)) = true := List.any_eq_true.2 ⟨_, ht, decide_eq_true (T.find_sub .here hs)⟩
    rw [madeIn, this]
    rfl
theorem unread_mem (o a b : T) : unread o a b ∈ [o, a, b] := by
  unfold unread
  split
  · simp
  · split <;> simp
end Go.Proofs.Ytckkoigghkgfdaa
namespace Go.Proofs.Ytckkoigghkgfdaa
open Go.RowKit Go.Shelf
set_option linter.unusedSimpArgs false

theorem look_true {k : ByteArray} : ∀ {l : List (ByteArray × Int)}, (look k l).2 = true ↔ k ∈ l.map (·.1)
  | [] => by simp [look]
  | x :: l => by
    by_cases e : x.1 = k
    · simp [look, e]
    · rw [look, if_neg e, look_true]
      simp only [List.map_cons, List.mem_cons]
      exact ⟨fun h => .inr h, fun h => h.elim (fun h => (e h.symm).elim) id⟩
theorem keys_nodup {l : List (ByteArray × Int)} (h : Srt l) : (l.map (·.1)).Nodup := by
  refine List.pairwise_map.2 (List.Pairwise.imp ?_ h)
  intro a b hab
  exact cmp_ne hab
/-- A map whose keys are those of a list that has each once. -/
theorem n_of {t : T} (hs : Srt t.list) {D : List ByteArray} (hd : D.Nodup) (hm : ∀ k, k ∈ D ↔ (look k t.list).2 = true) : t.n = D.length := by
  have hp : (t.list.map (·.1)).Perm D := (List.perm_ext_iff_of_nodup (keys_nodup hs) hd).2 (fun k => by rw [hm k, look_true])
  have := hp.length_eq
  rw [List.length_map, T.n_eq] at this
  exact this
/-- Keys counted, each where it stands first. -/
structure Counted (P : ByteArray → Bool) (l : List ByteArray) (n : Nat) : Prop where
  ex : ∃ D : List ByteArray, D.Nodup ∧ (∀ k, k ∈ D ↔ k ∈ l ∧ P k = true) ∧ n = D.length
theorem Counted.none (P : ByteArray → Bool) : Counted P [] 0 := ⟨[], List.nodup_nil, by simp, rfl⟩
theorem Counted.more {P : ByteArray → Bool} {l : List ByteArray} {n : Nat} (h : Counted P l n) {k : ByteArray} (hk : P k = true ∧ k ∉ l) : Counted P (l ++ [k]) (n + 1) := by
  obtain ⟨D, h1, h2, h3⟩ := h.ex
  refine ⟨k :: D, List.nodup_cons.2 ⟨fun hm => hk.2 ((h2 k).1 hm).1, h1⟩, fun j => ?_, by rw [h3]; rfl⟩
  simp only [List.mem_cons, List.mem_append, List.not_mem_nil, or_false, h2]
  constructor
  · rintro (rfl | ⟨a, b⟩)
    · exact ⟨.inr rfl, hk.1⟩
    · exact ⟨.inl a, b⟩
  · rintro ⟨a | rfl, b⟩
    · exact .inr ⟨a, b⟩
    · exact .inl rfl
theorem Counted.same {P : ByteArray → Bool} {l : List ByteArray} {n : Nat} (h : Counted P l n) {k : ByteArray} (hk : ¬ (P k = true ∧ k ∉ l)) : Counted P (l ++ [k]) n := by
  obtain ⟨D, h1, h2, h3⟩ := h.ex
  refine ⟨D, h1, fun j => ?_, h3⟩
  simp only [List.mem_cons, List.mem_append, List.not_mem_nil, or_false, h2]
  constructor
  · rintro ⟨a, b⟩
    exact ⟨.inl a, b⟩
  · rintro ⟨a | rfl, b⟩
    · exact ⟨a, b⟩
    · refine ⟨Classical.byContradiction fun hj => hk ⟨b, hj⟩, b⟩
/-- As many as a map has keys. -/
theorem Counted.n {P : ByteArray → Bool} {l : List ByteArray} {n : Nat} (h : Counted P l n) {t : T} (hs : Srt t.list) (hm : ∀ k, (look k t.list).2 = true ↔ k ∈ l ∧ P k = true) : t.n = n := by
  obtain ⟨D, h1, h2, h3⟩ := h.ex
  rw [h3]
  exact n_of hs h1 (fun k => (h2 k).trans (hm k).symm)
end Go.Proofs.Ytckkoigghkgfdaa
namespace Go.Proofs.Ytckkoigghkgfdaa
open Go.RowKit Go.Shelf
set_option linter.unusedSimpArgs false

def kA : ByteArray := ⟨#[97]⟩
def kB : ByteArray := ⟨#[98]⟩
def kC : ByteArray := ⟨#[99]⟩
def l2 : List (ByteArray × Int) := [(kA, 1), (kB, 1)]
def l3 : List (ByteArray × Int) := [(kA, 1), (kB, 1), (kC, 1)]
theorem srt2 : Srt l2 := by unfold Srt; decide
theorem srt3 : Srt l3 := by unfold Srt; decide
theorem srt1 : Srt [(kA, 1)] := by unfold Srt; decide
theorem srt_same {l m : List (ByteArray × Int)} (h1 : Srt l) (h2 : Srt m) (hp : l.Perm m) : l = m :=
  List.Perm.eq_of_pairwise (fun a b _ _ hab hba => by have := ord_B.anti a.1 b.1; omega) h1 h2 hp
/-- A map of known keys. -/
structure KM (W : World) (t : T) (x : Option Addr) (l : List (ByteArray × Int)) : Prop where
  ptr : t.ptr = .pointer x
  tree : In W t
  list : t.list = l
  bal : t.bal
theorem KM.below {W W' : World} {t : T} {x : Option Addr} {l : List (ByteArray × Int)} (h : KM W t x l) (hb : Below W.heap.size W W') : KM W' t x l := ⟨h.ptr, In.below hb h.tree, h.list, h.bal⟩
theorem KM.n {W : World} {t : T} {x : Option Addr} {l : List (ByteArray × Int)} (h : KM W t x l) : t.n = l.length := by rw [← h.list, T.n_eq]
theorem k_take {t : T} {x : Option Addr} {W : World} (h : KM W t x l2) : Calls Try.prog 24 #[.agg #[.pointer x], .string ⟨#[98]⟩] W fun e w' => ∃ x' t', e = .returned (.agg #[.pointer x']) ∧ KM w' t' x' [(kA, 1)] ∧ Below W.heap.size W w' := by
  have := mTake_any t kB W h.tree (by rw [h.n]; decide)
  rw [mv_ptr h.ptr] at this
  refine Calls.mono this ?_
  rintro e w' ⟨t', rfl, hi, ht, hb⟩
  obtain ⟨x', hx⟩ := t'.ptr_shape
  have hs : Srt t.list := by rw [h.list]; exact srt2
  refine ⟨x', t', by rw [mv_ptr hx], ⟨hx, hi, ?_, (ht.says hs h.bal (In.underP h.tree)).bal⟩, hb⟩
  rw [ht.list hs, h.list]
  decide
theorem k_put {t : T} {x : Option Addr} {W : World} (h : KM W t x l2) : Calls Try.prog 25 #[.agg #[.pointer x], .string ⟨#[99]⟩, .int .i64 1] W fun e w' => ∃ x' t', e = .returned (.agg #[.pointer x']) ∧ KM w' t' x' l3 ∧ Below W.heap.size W w' := by
  have := mPut_any t kC 1 W h.tree (by rw [h.n]; decide)
  rw [mv_ptr h.ptr] at this
  refine Calls.mono this ?_
  rintro e w' ⟨t', rfl, hi, ht, hb⟩
  obtain ⟨x', hx⟩ := t'.ptr_shape
  have hs : Srt t.list := by rw [h.list]; exact srt2
  refine ⟨x', t', by rw [mv_ptr hx], ⟨hx, hi, ?_, (ht.says hs h.bal (In.underP h.tree)).bal⟩, hb⟩
  rw [ht.list hs, h.list]
  decide
theorem told_of {l : List (ByteArray × Int)} (h : ∀ y ∈ l, y.2 = 1) (k : ByteArray) : Told (fun _ => 1) k (look k l) := by
  induction l with
  | nil => exact .inl rfl
  | cons y l ih =>
    rw [look]
    split
    · right; rw [h y (by simp)]
    · exact ih (fun z hz => h z (by simp [hz]))
theorem k_trio {W : World} {o a b : T} {x y z : Option Addr} {l m n : List (ByteArray × Int)} (h1 : KM W o x l) (h2 : KM W a y m) (h3 : KM W b z n) (s1 : Srt l) (s2 : Srt m) (s3 : Srt n) (c1 : ∀ y ∈ l, y.2 = 1) (c2 : ∀ y ∈ m, y.2 = 1) (c3 : ∀ y ∈ n, y.2 = 1) (hl : l.length ≤ 3) (hm : m.length ≤ 3) (hn : n.length ≤ 3) : Trio (Told fun _ => 1) W o a b :=
  ⟨h1.tree, h2.tree, h3.tree, by rw [h1.list]; exact s1, by rw [h2.list]; exact s2, by rw [h3.list]; exact s3, h1.bal, h2.bal, h3.bal, by rw [h1.list]; exact told_of c1, by rw [h2.list]; exact told_of c2, by rw [h3.list]; exact told_of c3, by rw [h1.n]; omega, by rw [h2.n, h3.n]; omega⟩
theorem one2 : ∀ y ∈ l2, y.2 = 1 := by decide
theorem one3 : ∀ y ∈ l3, y.2 = 1 := by decide
theorem one1 : ∀ y ∈ ([(kA, 1)] : List (ByteArray × Int)), y.2 = 1 := by decide
theorem runs_left {B : Nat} {R : ByteArray → Int × Bool → Int × Bool → Int × Bool → Int × Bool} {o a b t : T} {ks : List ByteArray} (h : Runs B R o a b t ks) (e : o = a) : t = b ∧ ks = [] := by
  cases h with
  | same => exact ⟨rfl, rfl⟩
  | left h => exact ⟨rfl, rfl⟩
  | right h => exact ⟨e.symm, rfl⟩
  | joins n1 n2 n3 => exact (n2 e).elim
  | closes n1 n2 n3 => exact (n2 e).elim
theorem k_el1 {o a b : T} {x y z : Option Addr} {W : World} (h1 : KM W o x l2) (h2 : KM W a y [(kA, 1)]) (h3 : KM W b z l3) : Calls Try.prog 10 #[.agg #[.pointer x], .agg #[.pointer y], .agg #[.pointer z]] W fun e w' => ∃ (xm : Option Addr) (m : T) (L MM : Int), e = .returned (.tuple #[.agg #[.pointer xm], .agg #[.int .i64 L, .int .i64 L, .int .i64 MM]]) ∧ (m.ptr = .pointer xm ∧ In w' m ∧ m.n = 2 ∧ (m.find kA).isSome = true ∧ (m.find kB).isSome = false ∧ (m.find kC).isSome = true) ∧ Below W.heap.size W w' := by
  have := elements_any (fun _ => 1) o a b W (k_trio h1 h2 h3 srt2 srt1 srt3 one2 one1 one3 (by decide) (by decide) (by decide))
  rw [mv_ptr h1.ptr, mv_ptr h2.ptr, mv_ptr h3.ptr] at this
  refine Calls.mono this ?_
  rintro e w' ⟨m, ks, he, _, im, sy, hb⟩
  obtain ⟨xm, hx⟩ := m.ptr_shape
  have hl : ∀ k, look k m.list = keeps (look k l2) (look k [(kA, 1)]) (look k l3) := fun k => by rw [sy.look k, h1.list, h2.list, h3.list]
  have lf : ∀ k, (m.find k).isSome = (look k m.list).2 := fun k => by rw [← find_look m k sy.srt]
  refine ⟨xm, m, _, _, by rw [he, mv_ptr hx], ⟨hx, im, ?_, by rw [lf, hl]; decide, by rw [lf, hl]; decide, by rw [lf, hl]; decide⟩, hb⟩
  have hD : ([kA, kC] : List ByteArray).Nodup := by decide
  have := n_of sy.srt hD (fun k => ?_)
  · exact this
  · rw [hl]
    by_cases ea : k = kA
    · subst ea; exact ⟨fun _ => by decide, fun _ => by simp⟩
    · by_cases eb : k = kB
      · subst eb; exact ⟨fun h => by simp only [List.mem_cons, List.not_mem_nil, or_false] at h; rcases h with h | h <;> exact absurd h (by decide), fun h => absurd h (by decide)⟩
      · by_cases ec : k = kC
        · subst ec; exact ⟨fun _ => by decide, fun _ => by simp⟩
        · have q2 : look k l2 = (0, false) := by simp [look, l2, Ne.symm ea, Ne.symm eb]
          have q1 : look k [(kA, 1)] = (0, false) := by simp [look, Ne.symm ea]
          have q3 : look k l3 = (0, false) := by simp [look, l3, Ne.symm ea, Ne.symm eb, Ne.symm ec]
          rw [q2, q1, q3]
          simp [keeps, ea, ec]
theorem k_el2 {o b : T} {x z : Option Addr} {W : World} (h1 : KM W o x l2) (h3 : KM W b z l3) : Calls Try.prog 10 #[.agg #[.pointer x], .agg #[.pointer x], .agg #[.pointer z]] W fun e w' => e = .returned (.tuple #[.agg #[.pointer z], .agg #[.int .i64 0, .int .i64 0, .int .i64 0]]) ∧ Below W.heap.size W w' := by
  have := elements_any (fun _ => 1) o o b W (k_trio h1 h1 h3 srt2 srt2 srt3 one2 one2 one3 (by decide) (by decide) (by decide))
  rw [mv_ptr h1.ptr, mv_ptr h3.ptr] at this
  refine Calls.mono this ?_
  rintro e w' ⟨m, ks, he, hr, im, sy, hb⟩
  obtain ⟨rfl, rfl⟩ := runs_left hr rfl
  refine ⟨?_, hb⟩
  rw [he, mv_ptr h3.ptr, madeIn_self (by simp) (by rw [h3.list]; exact srt3)]
  rfl
theorem k_nil {o a b : T} {x y z : Option Addr} {W : World} {l m n : List (ByteArray × Int)} (h1 : KM W o x l) (h2 : KM W a y m) (h3 : KM W b z n) : Calls Try.prog 18 #[.agg #[.pointer x], .agg #[.pointer y], .agg #[.pointer z], .nilFunc] W fun e w' => e = .returned (.tuple #[.agg #[.pointer none], .agg #[.int .i64 0, .int .i64 0, .int .i64 0], .int .i64 1]) ∧ Below W.heap.size W w' := by
  have := run_nil o a b W
  rw [mv_ptr h1.ptr, mv_ptr h2.ptr, mv_ptr h3.ptr] at this
  exact this
theorem k_get {m : T} {x : Option Addr} {W : World} {k : ByteArray} {b : Bool} (hx : m.ptr = .pointer x) (h : In W m) (hf : (m.find k).isSome = b) : Calls Try.prog 13 #[.agg #[.pointer x], .string k] W fun e w' => (∃ v, e = .returned (.tuple #[.int .i64 v, .bool b])) ∧ Below W.heap.size W w' := by
  have := get_any m k W h
  rw [hf, mv_ptr hx] at this
  refine Calls.mono this ?_
  rintro e w' ⟨rfl, hb⟩
  exact ⟨⟨_, rfl⟩, hb⟩
theorem k_len {m : T} {x : Option Addr} {W : World} (hx : m.ptr = .pointer x) (h : In W m) (hn : m.n = 2) : Calls Try.prog 16 #[.agg #[.pointer x]] W fun e w' => e = .returned (.int .i64 2) ∧ Below W.heap.size W w' := by
  have := mLen_any m W h
  rw [hn, mv_ptr hx] at this
  exact this
theorem k_same {m : T} {x : Option Addr} {W : World} (hx : m.ptr = .pointer x) (h : In W m) : Calls Try.prog 19 #[.agg #[.pointer x], .agg #[.pointer x]] W fun e w' => e = .returned (.bool true) ∧ Below W.heap.size W w' := by
  have := mSame_any m m W h h
  rw [decide_eq_true rfl, mv_ptr hx] at this
  exact this
end Go.Proofs.Ytckkoigghkgfdaa
