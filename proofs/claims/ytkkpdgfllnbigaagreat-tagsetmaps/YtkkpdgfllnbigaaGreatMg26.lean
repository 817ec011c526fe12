/-
  tagset: what the law TagsetMaps asks: may the map be a set; what a map that is none answers.
  register: going over a map that may not be tells nothing (goes 48).
  The law RegisterMaps (7), walked: its maps are built by Put, asked by Get, and what may not be is refused by every call.
-/
import Derived.Test.YtkkpdgfllnbigaaGreatTgOk
import Derived.Test.YtkkpdgfllnbigaaGreatTgK
import Derived.Test.YtkkpdgfllnbigaaGreatMg20
import Derived.Test.YtkkpdgfllnbigaaGreatMg14
import Derived.Test.YtkkpdgfllnbigaaGreatMg25
import Derived.Test.YtkkpdgfllnbigaaGreatMg16
namespace Go.Proofs.YtkkpdgfllnbigaaGreat.Tg
open Go.RowKit Go.Shelf
set_option linter.unusedSimpArgs false
set_option linter.unusedVariables false

/-- What the law's loop comes to, key by key. -/
def mayK (t : Pm.T) (x : Kv) : Bool := (ofK x.1).2 && decide ((ofK x.1).1.2 = (t.find x.1).val)
theorem mayK_tg (t : Pm.T) (x : Kv) : mayK t x = tgV x.1 (t.find x.1).val := by
  rw [Bool.eq_iff_iff, ← ofK_iff]
  simp [mayK]
theorem keys_may {t : Pm.T} {l : List Kv} (h : KeysOf t l) (hs : Pm.Srt t.list) : l.all (mayK t) = mayT t.list := by
  rw [Bool.eq_iff_iff, List.all_eq_true, mayT, List.all_eq_true]
  constructor
  · intro ha y hy
    obtain ⟨k, v⟩ := y
    have hk := (h k).1 ⟨v, hy⟩
    obtain ⟨x, hx, hxk⟩ := List.mem_map.1 hk
    have h1 := ha x hx
    rw [mayK_tg, hxk] at h1
    have h2 := Pm.find_look t k hs
    rw [(look_at hs).1 hy] at h2
    rw [show (t.find k).val = v from congrArg Prod.fst h2] at h1
    exact h1
  · intro ha x hx
    obtain ⟨v, hv⟩ := (h x.1).2 (List.mem_map.2 ⟨x, hx, rfl⟩)
    have h1 := ha _ hv
    have h2 := Pm.find_look t x.1 hs
    rw [(look_at hs).1 hv] at h2
    rw [mayK_tg, show (t.find x.1).val = v from congrArg Prod.fst h2]
    exact h1
section
variable {w : World} {t : Pm.T} {pm : Option Addr}
theorem elNo (h : Mg w t) (hp : t.ptr = .pointer pm) (hb : mayT t.list = false) : Calls Tryz.prog 29 #[.agg #[.pointer pm]] w fun e w' => ∃ ao n c, e = .returned (.tuple #[.slice ao n c, .int .i64 2]) ∧ Below w.heap.size w w' := (elements29 h hp).mono fun e w' hh => by
  obtain ⟨ao, c, he, -, hbl⟩ := hh
  rw [hb, if_neg (by decide)] at he
  exact ⟨_, _, _, he, hbl⟩
theorem insNo (s : St) (X : ByteArray) (h : Mg w t) (hp : t.ptr = .pointer pm) (hn : t.n < 400) (hb : mayT t.list = false) : Calls Tryz.prog 30 #[.agg #[.pointer pm], svT s, .string X] w fun e w' => ∃ t' pt, t'.ptr = .pointer pt ∧ e = .returned (.tuple #[.agg #[.pointer pt], .int .i64 2]) ∧ Mg w' t' ∧ t'.list = [] ∧ Below w.heap.size w w' := (insert30 s X h hp hn).mono fun e w' hh => by
  obtain ⟨t', pt, hpt, he, hm, hl, hbl⟩ := hh
  have : okI t.list (s, X) = false := by rw [okI, hb, Bool.and_false]
  rw [insI, this, if_neg (by decide)] at hl
  rw [this, if_neg (by decide)] at he
  exact ⟨t', pt, hpt, he, hm, hl, hbl⟩
theorem remNo (X : ByteArray) (h : Mg w t) (hp : t.ptr = .pointer pm) (hb : mayT t.list = false) : Calls Tryz.prog 32 #[.agg #[.pointer pm], .string X] w fun e w' => ∃ pt, e = .returned (.tuple #[.agg #[.pointer pt], .int .i64 0, .int .i64 2]) ∧ Below w.heap.size w w' := (remove32 X h hp).mono fun e w' hh => by
  obtain ⟨t', pt, hpt, he, hm, hl, -, hbl⟩ := hh
  have : tokR t.list X = false := by rw [tokR, hb, Bool.and_false]
  rw [remN, this, if_neg (by decide), if_neg (by decide)] at he
  exact ⟨pt, he, hbl⟩
theorem txNo (h : Mg w t) (hp : t.ptr = .pointer pm) (hb : mayT t.list = false) : Calls Tryz.prog 33 #[.agg #[.pointer pm]] w fun e w' => ∃ ao n c, e = .returned (.tuple #[.slice ao n c, .int .i64 2]) ∧ Below w.heap.size w w' := (texts33 h hp).mono fun e w' hh => by
  obtain ⟨ao, c, he, -, hbl⟩ := hh
  rw [hb, if_neg (by decide)] at he
  exact ⟨_, _, _, he, hbl⟩
theorem hasNo (X : ByteArray) (h : Mg w t) (hp : t.ptr = .pointer pm) (hb : mayT t.list = false) : Calls Tryz.prog 36 #[.agg #[.pointer pm], .string X] w fun e w' => e = .returned (.bool false) ∧ Below w.heap.size w w' := (has36 X h hp).mono fun e w' hh => by
  have : tokR t.list X = false := by rw [tokR, hb, Bool.and_false]
  rw [stgL, this, if_neg (by decide)] at hh
  exact hh
theorem tgNo (X : ByteArray) (h : Mg w t) (hp : t.ptr = .pointer pm) (hb : mayT t.list = false) : Calls Tryz.prog 37 #[.agg #[.pointer pm], .string X] w fun e w' => ∃ ao c, e = .returned (.slice ao 0 c) ∧ Below w.heap.size w w' := (tags37 X h hp).mono fun e w' hh => by
  obtain ⟨ao, c, he, -, hbl⟩ := hh
  have : tokR t.list X = false := by rw [tokR, hb, Bool.and_false]
  rw [stgL, this, if_neg (by decide)] at he
  exact ⟨ao, c, he, hbl⟩
theorem allNo (h : Mg w t) (hp : t.ptr = .pointer pm) (hb : mayT t.list = false) : Calls Tryz.prog 35 #[.agg #[.pointer pm]] w (AllE w []) := by
  have := all35 h hp
  have e : tagsL t.list = [] := by rw [tagsL, hb, if_neg (by decide)]
  rw [e] at this
  exact this
end
end Go.Proofs.YtkkpdgfllnbigaaGreat.Tg
namespace Go.Proofs.YtkkpdgfllnbigaaGreat
open Go.RowKit Go.Shelf
set_option linter.unusedSimpArgs false
attribute [local go_sem] Oper.semAt_some

end Go.Proofs.YtkkpdgfllnbigaaGreat
namespace Go.Proofs.YtkkpdgfllnbigaaGreat
open Go.RowKit Go.Shelf
set_option linter.unusedSimpArgs false
attribute [local go_sem] Oper.semAt_some

/-- A slice of pairs of strings. -/
def Rp (w : World) (ao : Option Addr) (l : List Kv) : Prop := ∀ k x, l[k]? = some x → ∃ b off, ao = some ⟨b, off, none⟩ ∧ w.cell? ⟨b, off + k * 2, none⟩ = some (.string x.1) ∧ w.cell? ⟨b, off + k * 2 + 1, none⟩ = some (.string x.2)
theorem Rp.below {w w' : World} {ao : Option Addr} {l : List Kv} (h : Rp w ao l) (hb : Below w.heap.size w w') : Rp w' ao l := fun k x hx => by
  obtain ⟨b, off, e, h1, h2⟩ := h k x hx
  exact ⟨b, off, e, cell_stays h1 hb, cell_stays h2 hb⟩
theorem Ot.form {w : World} {B : Nat} {v : Value} {L : List ByteArray} (h : Ot w B v L) : ∃ ao c, v = .slice ao L.length c := by
  rcases h with ⟨h1, h2⟩
  rcases h2 with ⟨e, e2⟩ | ⟨g, cap, cur, e, -⟩
  · exact ⟨none, 0, by rw [e, e2]⟩
  · exact ⟨_, _, e⟩
end Go.Proofs.YtkkpdgfllnbigaaGreat
