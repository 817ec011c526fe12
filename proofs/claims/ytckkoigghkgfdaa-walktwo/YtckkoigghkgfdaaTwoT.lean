/-
  keys 11: ALL KEYS OF SOME MAPS.
  ALL KEYS OF THREE MAPS; WHAT ELEMENTS SAY AND COUNT.
  PARTS COMPARED (type 38).
  WHAT WalkTwo COUNTS (plain); ALL KEYS OF TWO MAPS.
-/
import Derived.Test.YtckkoigghkgfdaaMapsT
import Derived.Test.YtckkoigghkgfdaaAt
import Derived.OwnWalk
import Derived.Test.YtckkoigghkgfdaaUnW
import Derived.Test.YtckkoigghkgfdaaKeep
import Derived.Laws.StructEq
import Derived.Test.YtckkoigghkgfdaaUnionW
import Derived.Test.YtckkoigghkgfdaaOrdC
namespace Go.Proofs.Ytckkoigghkgfdaa
open Go.RowKit Go.Shelf
set_option linter.unusedSimpArgs false

theorem _root_.Go.Proofs.Try.info9z : (Try.prog.info? 9).map (fun i => (i.zero, i.size, i.bytes)) = some (some (.string ⟨#[]⟩), 1, 16) := by kernel_rfl
theorem wpList_turn {P : Program} {ops : Array Oper} {rest : List Oper} {o : Oper} {a : Act} {w w' : World} {Q : Exit → Act → World → Prop} {OP : Op} {T : TypeId} {v : Value} (hgd : o.guard = none) (ho : o.op = OP) (ht : o.type = T)
    (hy : (execOp a.eval { dst := none, op := OP, type := T, pos := "", after := #[], guard := none }).run P w = .ok (.value v) w') (h : wpList P ops Q rest (a.put o.dst v) w') : wpList P ops Q (o :: rest) a w :=
  wpList_plain hgd fun K hK => by
    unfold Oper.wp
    rw [exec_same a.eval o ho ht, hy]
    exact hK _ _ h
/-- A row of strings of our own. -/
def OnS (w : World) (B : Nat) (v : Value) (l : List ByteArray) : Prop := w.ownsRow B 9 1 v l.length (l.map .string)
theorem OnS.start (w : World) (B : Nat) : OnS w B (.slice none 0 0) [] := World.ownsRow_nil _ _ _ _
theorem OnS.below {w w' : World} {B : Nat} {v : Value} {l : List ByteArray} (h : OnS w B v l) (hb : Below w.heap.size w w') : OnS w' B v l := (Only.ofBelow hb).row h (fun _ _ d => d.elim)
theorem OnS.shape {w : World} {B : Nat} {v : Value} {l : List ByteArray} (h : OnS w B v l) : ∃ a c, v = .slice a l.length c := by
  rcases h.2 with ⟨rfl, hn⟩ | ⟨g, cap, cur, rfl, _⟩
  · exact ⟨_, _, by rw [hn]⟩
  · exact ⟨_, _, rfl⟩
theorem OnS.cs {w : World} {B : Nat} {v : Value} {l : List ByteArray} (h : OnS w B v l) : Cs w v (l.map .string) := by
  have hc := fun g => World.ownsRow.cells h (g := g)
  rcases h.2 with ⟨rfl, hn⟩ | ⟨g, cap, cur, rfl, _, _, hcap, _⟩
  · have hl : l = [] := List.eq_nil_of_length_eq_zero hn
    subst hl
    exact ⟨_, _, rfl, by simp, by simp⟩
  · refine ⟨_, cap, by rw [List.length_map], by rw [List.length_map]; exact hcap, fun j u hj => ⟨g, 0, rfl, ?_⟩⟩
    have := hc g rfl j u hj
    rw [add_lit] at this
    exact this
theorem cell_one (w : World) (x : Value) (ty : TypeId) : ∀ j u, [x][j]? = some u → (w.alloc (.cells #[x] ty)).cell? ((⟨w.heap.size, 0, none⟩ : Addr).add j) = some u := fun j u hj => by
  rw [add_lit, Nat.zero_add]
  refine (cell_of_row (w.alloc (.cells #[x] ty)) w.heap.size j _ ty (0, 0) (heap_alloc_new w _)).trans ?_
  simpa using hj
/-- One more. -/
theorem OnS.push {W : World} {B : Nat} {v : Value} {l : List ByteArray} (h : OnS W B v l) (k : ByteArray) (hB : B ≤ W.heap.size) (hn : l.length ≤ 100000) :
    ∃ v' w2, (Builtin.append_ #[22, 22] 22 #[v, .slice (some ⟨W.heap.size, 0, none⟩) 1 1]).run Try.prog (W.alloc (.cells #[.string k] 9)) = .ok v' w2 ∧ OnS w2 B v' (l ++ [k]) ∧ Below B W w2 ∧ (W.alloc (.cells #[.string k] 9)).grownBy w2 v.ownBlock := by
  obtain ⟨i0, hi, hz0, hz1, hz2⟩ := info_parts Try.info9z
  have b1 : Below W.heap.size W (W.alloc (.cells #[.string k] 9)) := (Below.refl _ W).alloc (Nat.le_refl _) _
  have k1 := h.below b1
  have hsz1 : B ≤ (W.alloc (.cells #[.string k] 9)).heap.size := Nat.le_trans hB b1.size
  obtain ⟨v', w2, r1, o1, g1, _⟩ := run_append_own (P := Try.prog) (W.alloc (.cells #[.string k] 9)) B 22 22 9 i0 (.string ⟨#[]⟩) 1 16 Try.underlying22 hi hz0 hz1 hz2 rfl (by decide) v l.length (l.map .string) k1 ⟨W.heap.size, 0, none⟩ 1 1 [.string k] rfl (cell_one W _ 9) (fun u hu => by simp only [List.mem_singleton] at hu; subst hu; rfl) (by unfold maxLen; omega) (by omega) hsz1
  exact ⟨v', w2, r1, by unfold OnS; rw [List.length_append, List.map_append]; exact o1, (b1.mono hB).grown g1 hsz1 (fun j hj => (World.ownsRow.lt k1 j hj).1), g1⟩
def T.keys (t : T) : List ByteArray := t.list.map (·.1)
theorem T.keys_len (t : T) : t.keys.length = t.n := by unfold T.keys; rw [List.length_map, T.n_eq]
set_option maxHeartbeats 4000000 in
set_option maxRecDepth 100000 in
theorem keys_any (ts : List T) (B0 off cap : Nat) (w : World) (hc : ∀ j t, ts[j]? = some t → w.cell? ⟨B0, off + j, none⟩ = some t.ptr) (hin : ∀ t ∈ ts, In w t ∧ t.n ≤ 1000) (hlen : ts.length ≤ 3) :
    Calls Try.prog 11 #[.slice (some ⟨B0, off, none⟩) ts.length cap] w fun e w' => ∃ sv, e = .returned sv ∧ Cs w' sv ((ts.flatMap T.keys).map .string) ∧ Below w.heap.size w w' := by
  obtain ⟨N, hN⟩ : ∃ N, N = ts.length := ⟨_, rfl⟩
  rw [← hN] at hlen ⊢
  have HC := hide (And.intro hc (And.intro hin hN))
  have hcount : ∀ i, i ≤ N → ((ts.take i).flatMap T.keys).length ≤ 1000 * i := by
    intro i hi
    induction i with
    | zero => simp
    | succ i ih =>
      have h1 := ih (by omega)
      rw [List.take_add_one, List.flatMap_append, List.length_append]
      cases hg : ts[i]? with
      | none =>
        have e : (none : Option T).toList.flatMap T.keys = [] := rfl
        rw [e, List.length_nil]
        omega
      | some t =>
        have := (hin t (List.mem_of_getElem? hg)).2
        have e : (some t).toList.flatMap T.keys = t.keys := by simp
        rw [e, T.keys_len]
        omega
  have HCN := hide hcount
  clear hc hin hN hcount
  have HI : Hid (OnS w w.heap.size (.slice none 0 0) []) := hide (OnS.start _ _)
  go_enter Try.func11, Try.ntmps11
  go_wp2
  go_loopw [3, 4] (fun v3 v4 wr => ∃ (i : Nat), i ≤ N ∧ v4 = .int .i64 i ∧ Hid (OnS wr w.heap.size v3 ((ts.take i).flatMap T.keys)) ∧ Hid (Below w.heap.size w wr)) (fun _ v4 _ => N - (intOf v4).toNat)
  case atStart => exact ⟨0, by omega, rfl, hide (by simpa using HI.out), hide (Below.refl _ _)⟩
  case round =>
    obtain ⟨i, hi, rfl, HO, HB⟩ := hrel
    obtain ⟨a3, c3, e3⟩ := HO.out.shape
    obtain ⟨n3, hn3⟩ : ∃ n3, n3 = ((ts.take i).flatMap T.keys).length := ⟨_, rfl⟩
    rw [← hn3] at e3
    subst e3
    clear hn3
    by_cases hiN : i < N
    · have y1 : (i : Int) < (N : Int) := by omega
      obtain ⟨t, ht⟩ : ∃ t, ts[i]? = some t := ⟨ts[i]'(by rw [← HC.out.2.2]; exact hiN), List.getElem?_eq_getElem _⟩
      obtain ⟨pt, hpt⟩ := t.ptr_shape
      have hcell := HC.out.1 i t ht
      rw [hpt] at hcell
      have hti := HC.out.2.1 t (List.mem_of_getElem? ht)
      obtain ⟨M, hM⟩ : ∃ M, M = t.n := ⟨_, rfl⟩
      have hlenT : ∀ W, Below w.heap.size w W → Calls Try.prog 16 #[.agg #[.pointer pt]] W fun e w' => e = .returned (.int .i64 (M : Nat)) ∧ Below W.heap.size W w' := fun W hW => by
        have := mLen_any t W (In.below hW hti.1)
        rw [mv_ptr hpt, ← hM] at this
        exact this
      have hat : ∀ (k : Nat) W, k < M → Below w.heap.size w W → Calls Try.prog 27 #[.agg #[.pointer pt], .int .i64 (k : Nat)] W fun e w' => ∃ (key : ByteArray) (v : Int) (b : Bool), e = .returned (.tuple #[.string key, .int .i64 v, .bool b]) ∧ t.keys[k]? = some key ∧ Below W.heap.size W w' := fun k W hk hW => by
        have := mAt_any t (k : Nat) W (In.below hW hti.1) (by have := hti.2; omega) (by omega) (by have := hti.2; omega)
        rw [mv_ptr hpt] at this
        refine this.mono ?_
        rintro e w' ⟨rfl, hb⟩
        obtain ⟨p, key, v, l, r, e1, e2⟩ := nth_is t k (by omega)
        rw [e1]
        exact ⟨key, v, true, rfl, by unfold T.keys; rw [List.getElem?_map, e2]; rfl, hb⟩
      have HT := hide (And.intro ht (And.intro hM hti.2))
      have hM1 : M ≤ 1000 := by rw [hM]; exact hti.2
      clear hM hti ht hpt HI
      go_wp2
      go_loopw [3, 5] (fun v3 v5 wr => ∃ (k : Nat), k ≤ M ∧ v5 = .int .i64 k ∧ Hid (OnS wr w.heap.size v3 ((ts.take i).flatMap T.keys ++ t.keys.take k)) ∧ Hid (Below w.heap.size w wr)) (fun _ v5 _ => M - (intOf v5).toNat)
      case atStart => exact ⟨0, by omega, rfl, hide (by simpa using HO.out), HB⟩
      case round =>
        clear HO HB
        obtain ⟨k, hk, rfl, HO, HB⟩ := hrel
        obtain ⟨a4, c4, e4⟩ := HO.out.shape
        obtain ⟨n4, hn4⟩ : ∃ n4, n4 = ((ts.take i).flatMap T.keys ++ t.keys.take k).length := ⟨_, rfl⟩
        have hn4' : n4 ≤ 10000 := by
          rw [hn4, List.length_append, List.length_take, T.keys_len]
          have := HCN.out i hi
          have := HT.out.2
          omega
        rw [← hn4] at e4
        subst e4
        have HN4 := hide (And.intro hn4 hn4')
        clear hn4 hn4'
        rename World => wr
        have hcw := cell_stays hcell HB.out
        by_cases hkM : k < M
        · have y2 : (k : Int) < (M : Int) := by omega
          go_upto_region 9 with (first
            | (go_at_call 16; refine (hlenT wr HB.out).mono ?_; rintro e w1 ⟨rfl, b1⟩; have B1 := hide (HB.out.trans (b1.mono HB.out.size)); have O1 := hide (HO.out.below b1); have hc1 := cell_stays hcw b1; clear b1; dsimp only)
            | (go_at_call 27; refine (hat k w1 hkM B1.out).mono ?_; rintro e w2 ⟨key, v, b, rfl, hkey, b2⟩; have B2 := hide (B1.out.trans (b2.mono B1.out.size)); have O2 := hide (O1.out.below b2); have HK := hide hkey; clear b2 hkey; dsimp only))
          obtain ⟨v', w3, r1, O3, B3, _⟩ := O2.out.push key B2.out.size (by rw [← HN4.out.1]; have := HN4.out.2; omega)
          obtain ⟨a5, c5, e5⟩ := O3.shape
          rw [List.length_append, ← HN4.out.1] at e5
          subst e5
          have HR := hide (And.intro O3 (B2.out.trans B3))
          clear O3 B3
          go_wp2_with (at_builtin; refine wpList_turn (OP := .call { callee := .builtin .append, args := #[.tmp 34, .tmp 36], argTypes := #[22, 22] }) (T := 22) rfl rfl rfl (exec_append rfl rfl r1) ?_)
          go_roundw
          case rel => exact ⟨k + 1, by omega, by go_num, hide (by rw [List.take_add_one, HK.out]; simpa [List.append_assoc] using HR.out.1), hide HR.out.2⟩
          case measure => simp [intOf]; omega
        · have ek : k = M := by omega
          subst ek
          have y2 : decide ((k : Int) < (k : Int)) = false := by simp
          go_wp2_with (go_at_call 16; refine (hlenT wr HB.out).mono ?_; rintro e w1 ⟨rfl, b1⟩; have B1 := hide (HB.out.trans (b1.mono HB.out.size)); have O1 := hide (HO.out.below b1); clear b1; dsimp only)
          go_roundw
          case rel => exact ⟨i + 1, by omega, by go_num, hide (by rw [List.take_add_one, HT.out.1, List.flatMap_append]; have := O1.out; rw [HT.out.2.1, ← T.keys_len, List.take_length] at this; simpa using this), B1⟩
          case measure => simp [intOf]; omega
    · have ei : i = N := by omega
      subst ei
      have y1 : decide ((i : Int) < (i : Int)) = false := by simp
      go_wp2
      go_ret
      exact ⟨_, rfl, by have := HO.out.cs; rw [HC.out.2.2, List.take_length] at this; exact this, HB.out⟩
end Go.Proofs.Ytckkoigghkgfdaa
namespace Go.Proofs.Ytckkoigghkgfdaa
open Go.RowKit Go.Shelf
set_option linter.unusedSimpArgs false

theorem Trio.swap {V : ByteArray → Int × Bool → Prop} {W : World} {o a b : T} (h : Trio V W o a b) : Trio V W o b a := ⟨h.io, h.ib, h.ia, h.so, h.sb, h.sa, h.bo, h.bb, h.ba, h.vo, h.vb, h.va, h.no, by have := h.nab; omega⟩
theorem bytes_ext {a b : ByteArray} (h : a.toList = b.toList) : a = b := by
  rw [ByteArray.toList_eq, ByteArray.toList_eq] at h
  obtain ⟨⟨a⟩⟩ := a
  obtain ⟨⟨b⟩⟩ := b
  simpa using h
theorem keys_three {o a b : T} {po pa pb : Option Addr} {W : World} (ho : o.ptr = .pointer po) (ha : a.ptr = .pointer pa) (hb : b.ptr = .pointer pb) (io : In W o) (ia : In W a) (ib : In W b) (no : o.n ≤ 1000) (na : a.n ≤ 1000) (nb : b.n ≤ 1000) :
    Calls Try.prog 11 #[.slice (some ⟨W.heap.size, 0, none⟩) 3 3] (W.alloc (.cells #[.pointer po, .pointer pa, .pointer pb] 29)) fun e w' => ∃ sv, e = .returned sv ∧ Cs w' sv ((o.keys ++ a.keys ++ b.keys).map .string) ∧ Below W.heap.size W w' := by
  have bw : Below W.heap.size W (W.alloc (.cells #[.pointer po, .pointer pa, .pointer pb] 29)) := (Below.refl _ W).alloc (Nat.le_refl _) _
  have hr := heap_alloc_new W (.cells #[.pointer po, .pointer pa, .pointer pb] 29)
  refine (keys_any [o, a, b] W.heap.size 0 3 (W.alloc (.cells #[.pointer po, .pointer pa, .pointer pb] 29)) (fun j t hj => ?_) (fun t ht => ?_) (by simp)).mono ?_
  · rw [cell_of_row _ _ _ _ 29 (0, 0) hr]
    match j, hj with
    | 0, hj => simp at hj; subst hj; simp [ho]
    | 1, hj => simp at hj; subst hj; simp [ha]
    | 2, hj => simp at hj; subst hj; simp [hb]
  · simp only [List.mem_cons, List.not_mem_nil, or_false] at ht
    rcases ht with rfl | rfl | rfl
    · exact ⟨In.below bw io, no⟩
    · exact ⟨In.below bw ia, na⟩
    · exact ⟨In.below bw ib, nb⟩
  · rintro e w' ⟨sv, he, hc, hb'⟩
    exact ⟨sv, he, by simpa [List.append_assoc] using hc, bw.trans (hb'.mono bw.size)⟩
theorem keeps_swap {fv : ByteArray → Int} {k : ByteArray} {p q r : Int × Bool} (hp : Told fv k p) (hq : Told fv k q) (hr : Told fv k r) : keeps p r q = keeps p q r ∧ Told fv k (keeps p q r) := by
  rcases hp with rfl | rfl <;> rcases hq with rfl | rfl <;> rcases hr with rfl | rfl <;> simp [keeps, Told]
theorem element_says {W : World} {o a b m n : T} {k : ByteArray} {ks1 ks2 : List ByteArray} (h : Trio (Told fvL) W o a b) (hm : RunSays (fun _ p q r => keeps p q r) o a b m ks1) (hn : RunSays (fun _ p q r => keeps p q r) o b a n ks2) : look k m.list = keeps (look k o.list) (look k a.list) (look k b.list) ∧ look k n.list = keeps (look k o.list) (look k a.list) (look k b.list) ∧ Told fvL k (keeps (look k o.list) (look k a.list) (look k b.list)) := by
  obtain ⟨h1, h2⟩ := keeps_swap (h.vo k) (h.va k) (h.vb k)
  exact ⟨hm.look k, by rw [hn.look k, h1], h2⟩
theorem element_counts {W : World} {o a b m n : T} {L : List ByteArray} {c : Nat} {ks1 ks2 : List ByteArray} (h : Trio (Told fvL) W o a b) (hm : RunSays (fun _ p q r => keeps p q r) o a b m ks1) (hn : RunSays (fun _ p q r => keeps p q r) o b a n ks2) (hL : L = o.keys ++ a.keys ++ b.keys) (hc : Counted (fun k => (keeps (look k o.list) (look k a.list) (look k b.list)).2) L c) : m.n = c ∧ n.n = c := by
  have hin : ∀ k, (keeps (look k o.list) (look k a.list) (look k b.list)).2 = true → k ∈ L := fun k hk => by
    have : (look k a.list).2 = true ∨ (look k b.list).2 = true := by
      unfold keeps at hk
      split at hk
      · rename_i h1; simp at h1; exact .inl h1.1
      · split at hk
        · rename_i h1; simp at h1; exact .inr h1.1
        · cases hk
    rw [hL]
    rcases this with h1 | h1
    · have := look_true.1 h1; simp only [List.mem_append]; exact .inl (.inr this)
    · have := look_true.1 h1; simp only [List.mem_append]; exact .inr this
  refine ⟨hc.n hm.srt (fun k => ?_), hc.n hn.srt (fun k => ?_)⟩
  · rw [(element_says (k := k) h hm hn).1]
    exact ⟨fun hk => ⟨hin k hk, hk⟩, fun hk => hk.2⟩
  · rw [(element_says (k := k) h hm hn).2.1]
    exact ⟨fun hk => ⟨hin k hk, hk⟩, fun hk => hk.2⟩
end Go.Proofs.Ytckkoigghkgfdaa
namespace Go.Proofs.Ytckkoigghkgfdaa
open Go.RowKit Go.Shelf
set_option linter.unusedSimpArgs false

theorem equalIn38 (d : Nat) (p1 q1 : Int) (p2 q2 : Bool) (w : World) : (Op.equalIn (d + 2) 38 (.agg #[.int .i64 p1, .bool p2]) (.agg #[.int .i64 q1, .bool q2])).run Try.prog w = .ok (decide ((p1, p2) = (q1, q2))) w := by
  have hS : Try.prog.underlying 38 = some (.struct (Try.prog.fieldsOf 38)) := by kernel_rfl
  have hp : Try.prog.stoodInHeld 38 = false := by kernel_rfl
  rw [run_equalIn_agg w (d + 1) 38 _ _ hS hp]
  simp only [Program.fieldsOf, Try.underlying38]
  go_simp
  by_cases h1 : p1 = q1 <;> cases p2 <;> cases q2 <;> simp [h1]
theorem run_eq38 (p1 q1 : Int) (p2 q2 : Bool) (w : World) : (binOp .eql 38 (.agg #[.int .i64 p1, .bool p2]) (.agg #[.int .i64 q1, .bool q2])).run Try.prog w = .ok (.bool (decide ((p1, p2) = (q1, q2)))) w := by
  rw [run_eql_struct, show (10000 : Nat) = 9998 + 2 from rfl, equalIn38]
  rfl
theorem run_ne38 (p1 q1 : Int) (p2 q2 : Bool) (w : World) : (binOp .neq 38 (.agg #[.int .i64 p1, .bool p2]) (.agg #[.int .i64 q1, .bool q2])).run Try.prog w = .ok (.bool (!decide ((p1, p2) = (q1, q2)))) w := by
  rw [run_neq_struct, show (10000 : Nat) = 9998 + 2 from rfl, equalIn38]
  rfl
end Go.Proofs.Ytckkoigghkgfdaa
namespace Go.Proofs.Ytckkoigghkgfdaa
open Go.RowKit Go.Shelf
set_option linter.unusedSimpArgs false

theorem ins_len (k : ByteArray) (v : Int) (l : List (ByteArray × Int)) : (ins k v l).length ≤ l.length + 1 := by
  have := pos_le k l
  unfold ins
  split <;> simp <;> omega
theorem puts_len {la : List (ByteArray × Int)} : ∀ (lb : List (ByteArray × Int)), (lb.foldl (fun l y => ins y.1 y.2 l) la).length ≤ la.length + lb.length := fun lb => by
  induction lb generalizing la with
  | nil => simp
  | cons y lb ih =>
    have h1 := ih (la := ins y.1 y.2 la)
    have h2 := ins_len y.1 y.2 la
    simp only [List.foldl_cons, List.length_cons]
    omega
theorem IsChg.len {la lb : List (ByteArray × Int)} {xs : List Ch} (hs : Srt la) (hx : IsChg la lb xs) : xs.length ≤ la.length + lb.length := by
  obtain ⟨h1, h2⟩ := look_puts (lb := lb) hs
  have hp := puts_len (la := la) lb
  obtain ⟨U, hU⟩ : ∃ U, U = lb.foldl (fun l y => ins y.1 y.2 l) la := ⟨_, rfl⟩
  rw [← hU] at h1 h2 hp
  have he : xs = ((U.map (·.1)).filter (fun k => (look k la).2 != (look k lb).2)).map (fun k => (k, look k la, look k lb)) := by
    refine hx.same ⟨List.pairwise_map.2 (List.Pairwise.filter _ (List.pairwise_map.2 h1)), fun x => ?_⟩
    simp only [List.mem_map, List.mem_filter, bne_iff_ne, ne_eq]
    constructor
    · rintro ⟨k, ⟨_, hk⟩, rfl⟩
      exact ⟨rfl, rfl, hk⟩
    · rintro ⟨e1, e2, e3⟩
      refine ⟨x.1, ⟨?_, ?_⟩, ?_⟩
      · have : (look x.1 U).2 = true := by
          rw [h2, ← e1, ← e2]
          cases h : x.2.1.2 <;> cases h' : x.2.2.2 <;> simp [h, h'] at e3 ⊢
        have := look_true.1 this
        simpa using this
      · rw [← e1, ← e2]; exact e3
      · rw [← e1, ← e2]
  rw [he, List.length_map]
  have := List.length_filter_le (fun k => (look k la).2 != (look k lb).2) (U.map (·.1))
  rw [List.length_map] at this
  omega
/-- Just one of two has a key. -/
def oneB (a b : T) (k : ByteArray) : Bool := (look k a.list).2 != (look k b.list).2
theorem two_count {a b : T} {xs : List Ch} {c : Nat} (hx : IsChg a.list b.list xs) (hc : Counted (oneB a b) (a.keys ++ b.keys) c) : c = xs.length := by
  obtain ⟨D, h1, h2, h3⟩ := hc.ex
  have hn : (xs.map (·.1)).Nodup := List.pairwise_map.2 (List.Pairwise.imp (R := fun (x y : Ch) => cmpB x.1 y.1 = -1) (S := fun (x y : Ch) => x.1 ≠ y.1) (fun {a b} h => cmp_ne h) hx.srt)
  have hp : D.Perm (xs.map (·.1)) := (List.perm_ext_iff_of_nodup h1 hn).2 (fun k => by
    rw [h2]
    simp only [List.mem_map]
    constructor
    · rintro ⟨_, hk⟩
      exact ⟨(k, look k a.list, look k b.list), (hx.mem _).2 ⟨rfl, rfl, by simpa [oneB] using hk⟩, rfl⟩
    · rintro ⟨x, hm, rfl⟩
      obtain ⟨e1, e2, e3⟩ := (hx.mem x).1 hm
      have ho : oneB a b x.1 = true := by unfold oneB; rw [← e1, ← e2]; simpa using e3
      refine ⟨?_, ho⟩
      have : (look x.1 a.list).2 = true ∨ (look x.1 b.list).2 = true := by
        rw [← e1, ← e2]
        cases h : x.2.1.2 <;> cases h' : x.2.2.2 <;> simp [h, h'] at e3 ⊢
      rcases this with h | h
      · exact List.mem_append_left _ (look_true.1 h)
      · exact List.mem_append_right _ (look_true.1 h))
  rw [h3, hp.length_eq, List.length_map]
/-- Such a key stands once among the keys of both. -/
theorem two_once {a b : T} (sa : Srt a.list) (sb : Srt b.list) {i : Nat} {k : ByteArray} (hk : (a.keys ++ b.keys)[i]? = some k) (ho : oneB a b k = true) : k ∉ (a.keys ++ b.keys).take i := by
  intro hm
  have na : a.keys.Nodup := keys_nodup sa
  have nb : b.keys.Nodup := keys_nodup sb
  obtain ⟨j, hj, hjk⟩ := List.getElem_of_mem hm
  rw [List.length_take] at hj
  rw [List.getElem_take] at hjk
  have hdis : ¬ (k ∈ a.keys ∧ k ∈ b.keys) := fun ⟨h1, h2⟩ => by
    have e1 : (look k a.list).2 = true := look_true.2 h1
    have e2 : (look k b.list).2 = true := look_true.2 h2
    unfold oneB at ho
    rw [e1, e2] at ho
    cases ho
  have hnd : (a.keys ++ b.keys).Nodup ∨ True := .inr trivial
  obtain ⟨hi, hik⟩ := List.getElem?_eq_some_iff.1 hk
  have hj1 : j < (a.keys ++ b.keys).length := by omega
  by_cases c1 : i < a.keys.length
  · rw [List.getElem_append_left c1] at hik
    rw [List.getElem_append_left (by omega)] at hjk
    exact List.pairwise_iff_getElem.1 na j i (by omega) c1 (by omega) (hjk.trans hik.symm)
  · rw [List.getElem_append_right (by omega)] at hik
    by_cases c2 : j < a.keys.length
    · rw [List.getElem_append_left c2] at hjk
      exact hdis ⟨by rw [← hjk]; exact List.getElem_mem _, by rw [← hik]; exact List.getElem_mem _⟩
    · rw [List.getElem_append_right (by omega)] at hjk
      exact List.pairwise_iff_getElem.1 nb (j - a.keys.length) (i - a.keys.length) (by rw [List.length_append] at hj1; omega) (by rw [List.length_append] at hi; omega) (by omega) (hjk.trans hik.symm)
theorem keys_two {a b : T} {pa pb : Option Addr} {W : World} (ha : a.ptr = .pointer pa) (hb : b.ptr = .pointer pb) (ia : In W a) (ib : In W b) (na : a.n ≤ 1000) (nb : b.n ≤ 1000) :
    Calls Try.prog 11 #[.slice (some ⟨W.heap.size, 0, none⟩) 2 2] (W.alloc (.cells #[.pointer pa, .pointer pb] 29)) fun e w' => ∃ sv, e = .returned sv ∧ Cs w' sv ((a.keys ++ b.keys).map .string) ∧ Below W.heap.size W w' := by
  have bw : Below W.heap.size W (W.alloc (.cells #[.pointer pa, .pointer pb] 29)) := (Below.refl _ W).alloc (Nat.le_refl _) _
  have hr := heap_alloc_new W (.cells #[.pointer pa, .pointer pb] 29)
  refine (keys_any [a, b] W.heap.size 0 2 (W.alloc (.cells #[.pointer pa, .pointer pb] 29)) (fun j t hj => ?_) (fun t ht => ?_) (by simp)).mono ?_
  · rw [cell_of_row _ _ _ _ 29 (0, 0) hr]
    match j, hj with
    | 0, hj => simp at hj; subst hj; simp [ha]
    | 1, hj => simp at hj; subst hj; simp [hb]
  · simp only [List.mem_cons, List.not_mem_nil, or_false] at ht
    rcases ht with rfl | rfl
    · exact ⟨In.below bw ia, na⟩
    · exact ⟨In.below bw ib, nb⟩
  · rintro e w' ⟨sv, he, hc, hb'⟩
    exact ⟨sv, he, by simpa [List.append_assoc] using hc, bw.trans (hb'.mono bw.size)⟩
end Go.Proofs.Ytckkoigghkgfdaa
