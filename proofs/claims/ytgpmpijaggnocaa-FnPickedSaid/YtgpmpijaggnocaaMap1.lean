/-
  A map from places to lines that a call makes: what it holds, as a function; stored into, looked up, deleted from.
-/
import Derived.Test.YtgpmpijaggnocaaMark2
import Derived.Maps.OwnSet
import Derived.Maps.OwnOps
import Derived.Maps.Views
namespace Go.Proofs.Ytgpmpijaggnocaa.dev
open Go.RowKit Go.Maps

def zeroLn : Ln := ⟨0, ⟨#[]⟩, ⟨#[]⟩⟩
def lnVal (l : Ln) : Value := .agg #[.int .i64 l.place, .string l.data, .string l.sent]
def lnOf : List Value → Option Ln
  | [.int .i64 p, .string d, .string s] => some ⟨p, d, s⟩
  | _ => none
theorem lnOf_inv {cs : List Value} {l : Ln} (h : lnOf cs = some l) : cs = [.int .i64 l.place, .string l.data, .string l.sent] := by
  unfold lnOf at h
  split at h
  · cases h; rfl
  · cases h
def lnElem : Value → Option (DataW Ln × List MemPlace)
  | .agg cs => (lnOf cs.toList).map fun l => (.held l, [])
  | _ => none
theorem lnElem_mk (l : Ln) : lnElem (lnVal l) = some (.held l, []) := rfl
theorem lnElem_inv {v : Value} {l : Ln} {ps : List MemPlace} (h : lnElem v = some (.held l, ps)) : v = lnVal l := by
  unfold lnElem at h
  split at h
  · obtain ⟨l', hl, he⟩ := Option.map_eq_some_iff.1 h
    simp at he
    obtain ⟨rfl, _⟩ := he
    have := lnOf_inv hl
    unfold lnVal
    rw [← this]
  · cases h
theorem law : Keyed Try.prog 2 := int_keyed Try.underlying2
theorem zeroE (w : World) : (zeroValue 46).run Try.prog w = .ok (lnVal zeroLn) w := by kernel_rfl

/-- What the map in a block holds. -/
def MapIs (w : World) (b n : Nat) (f : Int → Option Ln) : Prop :=
  ∃ D : DataW Ln, w.ownsMap Try.prog 2 lnElem b n D ∧ ∀ p, (Lit.int .i64 p).wf = true → Maps.has D (.int .i64 p) = (f p).isSome ∧ D.atKey (.int .i64 p) (.held zeroLn) = .held ((f p).getD zeroLn)
theorem MapIs.kept {w w' : World} {b n : Nat} {f : Int → Option Ln} {row : Option Nat} (h : MapIs w b n f) (hg : w.grownBy w' row) (hne : some b ≠ row) : MapIs w' b n f := by
  obtain ⟨D, ho, hf⟩ := h
  exact ⟨D, ho.kept hg hne, hf⟩
theorem MapIs.below {w w' : World} {b n : Nat} {f : Int → Option Ln} (h : MapIs w b n f) (hb : Below w.heap.size w w') : MapIs w' b n f := h.kept (grown_below none hb) (by simp)
theorem mapIs_made (w : World) : MapIs (w.alloc (.map #[] 0)) w.heap.size 0 (fun _ => none) :=
  ⟨_, World.ownsMap_made w _ _ _, fun _ _ => ⟨rfl, rfl⟩⟩
theorem isKey (p : Int) : WideAt.IsKeyLit (.int .i64 p) := by trivial
def upd (f : Int → Option Ln) (p : Int) (x : Option Ln) : Int → Option Ln := fun q => if q = p then x else f q
theorem mapIs_put {w' : World} {b n : Nat} {f : Int → Option Ln} {D : DataW Ln} {p : Int} {l : Ln} (hD : IsMap D) (hf : ∀ p, (Lit.int .i64 p).wf = true → Maps.has D (.int .i64 p) = (f p).isSome ∧ D.atKey (.int .i64 p) (.held zeroLn) = .held ((f p).getD zeroLn))
    (h : w'.ownsMap Try.prog 2 lnElem b n (D.put (.int .i64 p) (.held l))) : MapIs w' b n (upd f p (some l)) := by
  refine ⟨_, h, fun q hq => ?_⟩
  unfold upd
  by_cases e : q = p
  · subst e
    rw [if_pos rfl]
    exact ⟨has_put_same hD (isKey q) _, by rw [atKey_put_same hD (isKey q)]; rfl⟩
  · rw [if_neg e]
    have ne : (Lit.int .i64 q) ≠ .int .i64 p := fun x => e (by injection x)
    exact ⟨by rw [has_put_other ne]; exact (hf q hq).1, by rw [atKey_put_other ne]; exact (hf q hq).2⟩
theorem mapIs_del {w' : World} {b n : Nat} {f : Int → Option Ln} {D : DataW Ln} {p : Int} (hf : ∀ p, (Lit.int .i64 p).wf = true → Maps.has D (.int .i64 p) = (f p).isSome ∧ D.atKey (.int .i64 p) (.held zeroLn) = .held ((f p).getD zeroLn))
    (h : w'.ownsMap Try.prog 2 lnElem b n (D.del (.int .i64 p))) : MapIs w' b n (upd f p none) := by
  refine ⟨_, h, fun q hq => ?_⟩
  unfold upd
  by_cases e : q = p
  · subst e
    rw [if_pos rfl]
    exact ⟨has_del_same, by rw [atKey_del_same]; rfl⟩
  · rw [if_neg e]
    have ne : (Lit.int .i64 q) ≠ .int .i64 p := fun x => e (by injection x)
    exact ⟨by rw [has_del_other ne]; exact (hf q hq).1, by rw [atKey_del_other ne]; exact (hf q hq).2⟩

section
variable (w : World) {ops : Array Oper} {rest : List Oper} {o : Oper} {a : Act} {Q : Exit → Act → World → Prop}
theorem at_put (hg : o.guard = none) (m x v : Operand) (hop : o.op = Op.mapUpdate 57 m x v) (b n : Nat) (f : Int → Option Ln) (hm : a.eval m = .map (some b)) (hown : MapIs w b n f) (hn : n < maxLen) (p : Int) (l : Ln)
    (hx : a.eval x = .int .i64 p) (hv : a.eval v = .agg #[.int .i64 l.place, .string l.data, .string l.sent]) (hw : (Lit.int .i64 p).wf = true)
    (hK : ∀ w', MapIs w' b (n + 1) (upd f p (some l)) → w.grownBy w' (some b) → wpList Try.prog ops Q rest (a.put o.dst undef) w') : wpList Try.prog ops Q (o :: rest) a w := by
  obtain ⟨D, ho, hf⟩ := hown
  exact wpList_mapUpdate_own w hg m x v _ hop 2 46 law Try.underlying57 lnElem b n D hm ho hn _ _ _ hx hv (keyOf_int_mk Try.underlying2 hw) _ _ (lnElem_mk l) fun w' h1 h2 => hK w' (mapIs_put ho.isMap hf h1) h2
theorem at_get (hg : o.guard = none) (m x : Operand) (hop : o.op = Op.lookup 57 m x true) (b n : Nat) (f : Int → Option Ln) (hm : a.eval m = .map (some b)) (hown : MapIs w b n f) (p : Int)
    (hx : a.eval x = .int .i64 p) (hw : (Lit.int .i64 p).wf = true)
    (hK : wpList Try.prog ops Q rest (a.put o.dst (.tuple #[lnVal ((f p).getD zeroLn), .bool (f p).isSome])) w) : wpList Try.prog ops Q (o :: rest) a w := by
  obtain ⟨D, ho, hf⟩ := hown
  refine wpList_lookup_own_ok w hg m x _ hop 2 46 law Try.underlying57 lnElem (zeroE w) (.held zeroLn) [] rfl b n D hm ho _ _ hx (keyOf_int_mk Try.underlying2 hw) fun v ps hv => ?_
  rw [(hf p hw).2] at hv
  rw [lnElem_inv hv, (hf p hw).1]
  exact hK
theorem at_get_some (hg : o.guard = none) (m x : Operand) (hop : o.op = Op.lookup 57 m x true) (b n : Nat) (f : Int → Option Ln) (hm : a.eval m = .map (some b)) (hown : MapIs w b n f) (p : Int) (l : Ln) (hf : f p = some l)
    (hx : a.eval x = .int .i64 p) (hw : (Lit.int .i64 p).wf = true)
    (hK : wpList Try.prog ops Q rest (a.put o.dst (.tuple #[.agg #[.int .i64 l.place, .string l.data, .string l.sent], .bool true])) w) : wpList Try.prog ops Q (o :: rest) a w :=
  at_get w hg m x hop b n f hm hown p hx hw (by rw [hf]; exact hK)
theorem at_get_none (hg : o.guard = none) (m x : Operand) (hop : o.op = Op.lookup 57 m x true) (b n : Nat) (f : Int → Option Ln) (hm : a.eval m = .map (some b)) (hown : MapIs w b n f) (p : Int) (hf : f p = none)
    (hx : a.eval x = .int .i64 p) (hw : (Lit.int .i64 p).wf = true)
    (hK : wpList Try.prog ops Q rest (a.put o.dst (.tuple #[.agg #[.int .i64 0, .string ⟨#[]⟩, .string ⟨#[]⟩], .bool false])) w) : wpList Try.prog ops Q (o :: rest) a w :=
  at_get w hg m x hop b n f hm hown p hx hw (by rw [hf]; exact hK)
theorem at_del (hg : o.guard = none) (m x : Operand) (hop : o.op = Op.call { callee := Callee.builtin Builtin.delete, args := #[m, x], argTypes := #[57, 2] }) (b n : Nat) (f : Int → Option Ln) (hm : a.eval m = .map (some b)) (hown : MapIs w b n f) (p : Int)
    (hx : a.eval x = .int .i64 p) (hw : (Lit.int .i64 p).wf = true)
    (hK : ∀ w', MapIs w' b n (upd f p none) → w.grownBy w' (some b) → wpList Try.prog ops Q rest (a.put o.dst (.tuple #[])) w') : wpList Try.prog ops Q (o :: rest) a w := by
  obtain ⟨D, ho, hf⟩ := hown
  exact wpList_delete_own w hg m x _ _ hop 46 law Try.underlying57 lnElem b n D hm ho _ _ hx (keyOf_int_mk Try.underlying2 hw) fun w' h1 h2 => hK w' (mapIs_del hf h1) h2.grown
end
end Go.Proofs.Ytgpmpijaggnocaa.dev
